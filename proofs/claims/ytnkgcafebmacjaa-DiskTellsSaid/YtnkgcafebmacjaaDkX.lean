/-
  A new disk; Arm at a disk; the law's own word on a file. No statement of the seat is proved here.
-/
import Derived.Test.YtnkgcafebmacjaaDkW
namespace Go.Proofs.Ytnkgcafebmacjaa
open Go.RowKit Go.Maps Go.Sort

set_option maxRecDepth 100000 in
theorem new_dsk (n : Nat) (w : World) (h : n ≤ 16777216) :
    Calls Try.prog 4 #[.int .i64 (n : Int)] w fun e w' => e = .returned (.tuple #[.pointer (some ⟨w.heap.size + 1, 0, none⟩), .int .i64 0]) ∧
      Dsk w' (w.heap.size + 1) w.heap.size ⟨false, false, 0, n, []⟩ ∧ Below w.heap.size w w' := by
  refine (new_any (n : Int) w (by omega) (by omega)).mono ?_
  rintro e w' ⟨rfl, rfl⟩
  refine ⟨rfl, ⟨?_, ?_, ?_, ?_, ?_, ?_, ?_, h, by simp, by simp⟩, ((Below.refl _ w).alloc (Nat.le_refl _) _).alloc (by simp) _⟩
  · exact heap2 w _ _
  · exact (World.ownsMap_made w Try.prog 9 flR).alloc _
  all_goals first
    | (intro f hf; cases hf)
    | exact Nat.zero_le _
set_option maxRecDepth 100000 in
theorem arm_dsk {w : World} {D M : Nat} {s : St} (h : Dsk w D M s) (hfl : s.fl = false) (n : Int) (hn : n ≤ 9223372036854775807) :
    Calls Try.prog 18 #[.pointer (some ⟨D, 0, none⟩), .int .i64 n] w fun e w' => e = .returned (.tuple #[]) ∧ Nx D M w s w' { s with bd := true, lf := (max n 0).toNat } := by
  refine (arm_up D n _ _ w h.c3 (by rw [h.c0, hfl]) h.c1 h.c2 (h.unfrozen 0) (h.unfrozen 1) (h.unfrozen 2)).mono ?_
  rintro e w' ⟨rfl, hw⟩
  have hfr : Fr (fun k => k = D) w w' := by
    rw [hw]
    exact ((Fr.setAt _ D 0 _).trans (Fr.setAt _ D 1 _) (fun _ _ e => e)).trans (Fr.setAt _ D 2 _) (fun _ _ e => e)
  have hD := h.power hfr s.fl true (max n 0).toNat (by omega) (by
    rw [hw, hfl]
    have e : (((max n 0).toNat : Nat) : Int) = max n 0 := by omega
    have := heap_cells_set _ D 2 _ _ (.int .i64 (max n 0)) (heap_cells_set _ D 1 _ _ (.bool true) (heap_cells_set _ D 0 _ _ (.bool false) h.blk))
    rw [← e] at this ⊢
    exact this)
  exact ⟨rfl, hD, hfr.mono (fun _ _ e => .inl e), fun k hk => .inl hk⟩
set_option maxRecDepth 100000 in
theorem arm_dead {w : World} {D M : Nat} {s : St} (h : Dsk w D M s) (hfl : s.fl = true) (n : Int) :
    Calls Try.prog 18 #[.pointer (some ⟨D, 0, none⟩), .int .i64 n] w fun e w' => e = .returned (.tuple #[]) ∧ w = w' :=
  arm_down D n w h.c3 (by rw [h.c0, hfl])
set_option maxRecDepth 100000 in
theorem down_dsk {w : World} {D M : Nat} {s : St} (h : Dsk w D M s) : Calls Try.prog 32 #[.pointer (some ⟨D, 0, none⟩)] w fun e w' => e = .returned (.bool s.fl) ∧ w = w' :=
  down_any D s.fl w h.c3 h.c0
set_option maxRecDepth 100000 in
theorem file_yes {w : World} {D M : Nat} {s : St} (h : Dsk w D M s) (nm : ByteArray) (hs : nm.size ≤ maxLen) (hfl : s.fl = false) (f : Fl) (hf : fnd nm.data.toList s.fs = some f) (bs : List UInt8) (fm : Nat) (hb : f.bs = bs) (hm : f.fm = fm) :
    Calls Try.prog 28 #[.pointer (some ⟨D, 0, none⟩), .string nm, .string ⟨bs.toArray⟩, .int .i64 (fm : Int)] w fun e w' => e = .returned (.bool true) ∧ Fr No w w' := by
  subst hb hm
  have HR := Lib.hid (fun W (hw : Fr No w W) => read_ok (h.no hw) nm hs hfl f hf)
  have HZ := Lib.hid (fun W (hw : Fr No w W) => size_any (h.no hw) nm hs)
  have HY := Lib.hid (fun W (hw : Fr No w W) => synced_any (h.no hw) nm hs)
  have HLZ : Hid (s.len nm.data.toList = f.bs.length) := by show _ = _; unfold St.len; rw [hf]
  have HLY : Hid (s.frm nm.data.toList = f.fm) := by show _ = _; unfold St.frm; rw [hf]
  have hsz : (⟨f.bs.toArray⟩ : ByteArray).size = f.bs.length := by show f.bs.toArray.size = _; simp
  clear h hf hfl hs
  go_enter Try.func28, Try.ntmps28
  go_wp2_with fail
  refine (HR.out _ (Fr.refl _ _)).mono ?_
  rintro e w1 ⟨v, rfl, hv, hf1⟩
  obtain ⟨A, c, rfl⟩ : ∃ A c, v = .slice A f.bs.length c := by
    rcases hv.2 with ⟨rfl, e⟩ | ⟨g, cap, cur, rfl, _⟩
    · exact ⟨none, 0, by rw [e]⟩
    · exact ⟨_, _, rfl⟩
  have hst := str_rule c (Rd.own hv)
  have HF1 := Lib.hid hf1
  clear hv hf1
  go_wp2_with fail
  refine (HZ.out _ HF1.out).mono ?_
  rintro e w2 ⟨rfl, hf2⟩
  have HF2 := Lib.hid (HF1.out.no_trans hf2)
  clear hf2
  rw [HLZ.out]
  go_wp2_with fail
  refine (HY.out _ HF2.out).mono ?_
  rintro e w3 ⟨rfl, hf3⟩
  have HF3 := Lib.hid (HF2.out.no_trans hf3)
  clear hf3
  rw [HLY.out]
  go_wp2_with fail
  go_ret
  exact ⟨rfl, HF3.out⟩
end Go.Proofs.Ytnkgcafebmacjaa

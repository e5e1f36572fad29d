/-
  What a disk tells that turns nothing: Read, Size, Synced. No statement of the seat is proved here.
-/
import Derived.Test.YtggejecmhfafoaaGreatDoorDkK
namespace Go.Proofs.YtggejecmhfafoaaGreatDoor
open Go.RowKit Go.Maps

set_option maxRecDepth 100000 in
theorem own_base {w : World} {base base' n : Nat} {e : TypeId} {size : Nat} {v : Value} {xs : List Value} (h : w.ownsRow base e size v n xs) (hb : base' ≤ base) : w.ownsRow base' e size v n xs := by
  refine ⟨h.1, ?_⟩
  rcases h.2 with hn | ⟨g, cap, cur, hv, hbg, rest⟩
  · exact .inl hn
  · exact .inr ⟨g, cap, cur, hv, Nat.le_trans hb hbg, rest⟩
set_option maxRecDepth 100000 in
theorem Dsk.rd {w : World} {D M : Nat} {s : St} (h : Dsk w D M s) {f : Fl} (hf : f ∈ s.fs) : Rd w w.heap.size f.A f.bs.length f.bs := Rd.own (h.rows f hf)
set_option maxRecDepth 100000 in
theorem used_mem {f : Fl} : ∀ {fs : List Fl}, f ∈ fs → f.bs.length ≤ used fs
  | g :: r, hf => by
    simp only [used, List.map_cons, List.sum_cons]
    rcases List.mem_cons.1 hf with rfl | hf
    · omega
    · have := used_mem hf
      simp only [used] at this
      omega
set_option maxRecDepth 100000 in
theorem read_ok {w : World} {D M : Nat} {s : St} (h : Dsk w D M s) (nm : ByteArray) (hs : nm.size ≤ maxLen) (hfl : s.fl = false) (f : Fl) (hf : fnd nm.data.toList s.fs = some f) :
    Calls Tryz.prog 50 #[.pointer (some ⟨D, 0, none⟩), .string nm] w fun e w' =>
      ∃ v, e = .returned (.tuple #[v, .int .i64 0]) ∧ w'.ownsRow w.heap.size 5 1 v f.bs.length (bvs f.bs) ∧ Fr No w w' := by
  have HC := Lib.hid (find_ok h nm hs hfl f hf)
  have hl : f.bs.length ≤ 16777216 := by
    have := used_mem (fnd_mem hf).1
    have := h.room
    have := h.most
    omega
  have HR := Lib.hid (fun w2 (hw : Fr No w w2) => dfresh_any f.A f.bs.length f.c f.bs w2 ((h.no hw).rd (fnd_mem hf).1) hl)
  clear h hf
  go_enter Tryz.func50, Tryz.ntmps50
  go_wp2_with fail
  refine HC.out.mono ?_
  rintro e w1 ⟨rfl, hf⟩
  have HF := Lib.hid hf
  clear hf
  go_wp2_with fail
  refine (HR.out _ (HF.out.no_trans (Fr.alloc _ _ _))).mono ?_
  rintro e w3 ⟨v, rfl, hv, hb⟩
  have HV := Lib.hid hv
  have HB := Lib.hid hb
  clear hv hb
  go_wp2_with fail
  go_ret2
  refine ⟨v, rfl, own_base HV.out ?_, (HF.out.no_trans (Fr.alloc _ _ _)).no_trans (Fr.of_below HB.out)⟩
  rw [World.size_alloc]
  have := HF.out.size
  omega
set_option maxRecDepth 100000 in
theorem fld0 (x y : Value) (W : World) : (Instr.field 60 (.agg #[x, y]) 0).run Tryz.prog W = .ok x W := by kernel_rfl
set_option maxRecDepth 100000 in
theorem fld1 (x y : Value) (W : World) : (Instr.field 60 (.agg #[x, y]) 1).run Tryz.prog W = .ok y W := by kernel_rfl
/-- How many bytes, how many firm ones, a file has; 0 of none. -/
def St.len (s : St) (nm : List UInt8) : Nat := match fnd nm s.fs with
  | none => 0
  | some f => f.bs.length
def St.frm (s : St) (nm : List UInt8) : Nat := match fnd nm s.fs with
  | none => 0
  | some f => f.fm
set_option maxRecDepth 100000 in
theorem size_any {w : World} {D M : Nat} {s : St} (h : Dsk w D M s) (nm : ByteArray) (hs : nm.size ≤ maxLen) :
    Calls Tryz.prog 16 #[.pointer (some ⟨D, 0, none⟩), .string nm] w fun e w' =>
      e = .returned (.int .i64 (s.len nm.data.toList : Int)) ∧ Fr No w w' := by
  have HM := Lib.hid (made_any D w h.c3)
  have g0 := fld0
  have g1 := fld1
  have c5 := h.c5
  have H := Lib.hid h
  clear h
  cases hf : fnd nm.data.toList s.fs with
  | none =>
    have HL : Hid (s.len nm.data.toList = 0) := by show _ = _; unfold St.len; rw [hf]
    have HF := Lib.hid hf
    rw [HL.out]
    clear hf
    go_enter Tryz.func16, Tryz.ntmps16
    go_wp2_with fail
    refine HM.out.mono ?_
    rintro e w' ⟨rfl, rfl⟩
    go_wp2_with (at_lookup; refine wpList_look rfl _ _ rfl H.out.map nm hs rfl rfl ?_; rw [HF.out])
    go_ret
    exact ⟨rfl, by first | exact Fr.refl _ _ | exact Fr.alloc _ _ _⟩
  | some f =>
    have HL : Hid (s.len nm.data.toList = f.bs.length) := by show _ = _; unfold St.len; rw [hf]
    have HF := Lib.hid hf
    rw [HL.out]
    clear hf
    go_enter Tryz.func16, Tryz.ntmps16
    go_wp2_with fail
    refine HM.out.mono ?_
    rintro e w' ⟨rfl, rfl⟩
    go_wp2_with (at_lookup; refine wpList_look rfl _ _ rfl H.out.map nm hs rfl rfl ?_; rw [HF.out]; unfold Fl.val)
    go_ret
    exact ⟨rfl, by first | exact Fr.refl _ _ | exact Fr.alloc _ _ _⟩
end Go.Proofs.YtggejecmhfafoaaGreatDoor

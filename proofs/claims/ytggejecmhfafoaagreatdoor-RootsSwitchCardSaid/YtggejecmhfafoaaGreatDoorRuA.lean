/-
  Several texts in one: DkZ, DxA, Txs, RtH, RtI, RtJ, RtK, RtL, RtP, Row, RtQ, RtS, RtT, RtU, RtV. No statement of the seat is proved here.
-/
import Derived.Test.YtggejecmhfafoaaGreatDoorDkG
import Derived.Test.YtggejecmhfafoaaGreatDoorDmA
import Derived.Test.YtggejecmhfafoaaGreatDoorDkU
import Derived.Deep.RegionHeld3
import Derived.BigQuiet
import Derived.Test.YtggejecmhfafoaaGreatDoorRtY
import Derived.Test.YtggejecmhfafoaaGreatDoorSl
namespace Go.Proofs.YtggejecmhfafoaaGreatDoor
open Go.RowKit

set_option maxRecDepth 100000 in
theorem eql_nil (a : Addr) (W : World) : (binOp .eql 24 (.pointer none) (.pointer (some a))).run Tryz.prog W = .ok (.bool false) W := by
  have h : ∀ d : Nat, (Op.equalIn (d + 1) 24 (.pointer none) (.pointer (some a))).run Tryz.prog W = .ok false W := fun d => by
    simp [Op.equalIn, run_underlying Tryz.underlying24]
  simp only [binOp]
  simp [Op.equal, Op.maxDepth, h 9999]

set_option maxRecDepth 100000 in
theorem made_zero (D : Nat) (w : World) (h0 : w.cell? ⟨D, 3, none⟩ = some (.pointer none)) :
    Calls Tryz.prog 17 #[.pointer (some ⟨D, 0, none⟩)] w fun e w' => e = .returned (.bool false) ∧ w = w' := by
  have he := fun W => eql_nil ⟨D, 0, none⟩ W
  go_enter Tryz.func17, Tryz.ntmps17
  go_wp2
  go_ret
  exact ⟨rfl, rfl⟩

set_option maxRecDepth 100000 in
theorem ready_zero (D : Nat) (w : World) (h0 : w.cell? ⟨D, 3, none⟩ = some (.pointer none)) :
    Calls Tryz.prog 52 #[.pointer (some ⟨D, 0, none⟩)] w fun e w' => e = .returned (.int .i64 1) ∧ w = w' := by
  go_enter Tryz.func52, Tryz.ntmps52
  go_wp2_with fail
  refine (made_zero D _ (by first | exact h0 | (rw [World.cell?_alloc_lt _ _ _ (World.block_lt_of_cell? w _ h0)]; exact h0))).mono ?_
  rintro e w' ⟨rfl, rfl⟩
  go_wp2_with fail
  go_ret
  exact ⟨rfl, rfl⟩

set_option maxRecDepth 100000 in
theorem dappend_zero (D : Nat) (s : ByteArray) (b : Value) (w : World) (h0 : w.cell? ⟨D, 3, none⟩ = some (.pointer none)) :
    Calls Tryz.prog 31 #[.pointer (some ⟨D, 0, none⟩), .string s, b] w fun e w' => e = .returned (.int .i64 1) ∧ w = w' := by
  go_enter Tryz.func31, Tryz.ntmps31
  go_wp2_with fail
  refine (ready_zero D _ (by first | exact h0 | (rw [World.cell?_alloc_lt _ _ _ (World.block_lt_of_cell? w _ h0)]; exact h0))).mono ?_
  rintro e w' ⟨rfl, rfl⟩
  go_wp2_with fail
  go_ret
  exact ⟨rfl, rfl⟩

set_option maxRecDepth 100000 in
theorem size_zero (D : Nat) (s : ByteArray) (w : World) (h0 : w.cell? ⟨D, 3, none⟩ = some (.pointer none)) :
    Calls Tryz.prog 16 #[.pointer (some ⟨D, 0, none⟩), .string s] w fun e w' => e = .returned (.int .i64 0) ∧ w = w' := by
  go_enter Tryz.func16, Tryz.ntmps16
  go_wp2_with fail
  refine (made_zero D _ (by first | exact h0 | (rw [World.cell?_alloc_lt _ _ _ (World.block_lt_of_cell? w _ h0)]; exact h0))).mono ?_
  rintro e w' ⟨rfl, rfl⟩
  go_wp2_with fail
  go_ret
  exact ⟨rfl, rfl⟩

set_option maxRecDepth 100000 in
theorem used_zero (D : Nat) (w : World) (h0 : w.cell? ⟨D, 3, none⟩ = some (.pointer none)) :
    Calls Tryz.prog 67 #[.pointer (some ⟨D, 0, none⟩)] w fun e w' => e = .returned (.int .i64 0) ∧ w = w' := by
  go_enter Tryz.func67, Tryz.ntmps67
  go_wp2_with fail
  refine (made_zero D _ (by first | exact h0 | (rw [World.cell?_alloc_lt _ _ _ (World.block_lt_of_cell? w _ h0)]; exact h0))).mono ?_
  rintro e w' ⟨rfl, rfl⟩
  go_wp2_with fail
  go_ret
  exact ⟨rfl, rfl⟩

set_option maxRecDepth 100000 in
theorem list_zero (D : Nat) (w : World) (h0 : w.cell? ⟨D, 3, none⟩ = some (.pointer none)) :
    Calls Tryz.prog 23 #[.pointer (some ⟨D, 0, none⟩)] w fun e w' => e = .returned (.slice none 0 0) ∧ w = w' := by
  go_enter Tryz.func23, Tryz.ntmps23
  go_wp2_with fail
  refine (made_zero D _ (by first | exact h0 | (rw [World.cell?_alloc_lt _ _ _ (World.block_lt_of_cell? w _ h0)]; exact h0))).mono ?_
  rintro e w' ⟨rfl, rfl⟩
  go_wp2_with fail
  go_ret
  exact ⟨rfl, rfl⟩

set_option maxRecDepth 100000 in
theorem arm_zero (D : Nat) (n : Int) (w : World) (h0 : w.cell? ⟨D, 3, none⟩ = some (.pointer none)) :
    Calls Tryz.prog 7 #[.pointer (some ⟨D, 0, none⟩), .int .i64 n] w fun e w' => e = .returned (.tuple #[]) ∧ w = w' := by
  go_enter Tryz.func7, Tryz.ntmps7
  go_wp2_with fail
  refine (made_zero D _ (by first | exact h0 | (rw [World.cell?_alloc_lt _ _ _ (World.block_lt_of_cell? w _ h0)]; exact h0))).mono ?_
  rintro e w' ⟨rfl, rfl⟩
  go_wp2_with fail
  go_end0
  exact ⟨rfl, rfl⟩

set_option maxRecDepth 100000 in
theorem crash_zero (D : Nat) (b : Value) (w : World) (h0 : w.cell? ⟨D, 3, none⟩ = some (.pointer none)) :
    Calls Tryz.prog 10 #[.pointer (some ⟨D, 0, none⟩), b] w fun e w' => e = .returned (.tuple #[]) ∧ w = w' := by
  go_enter Tryz.func10, Tryz.ntmps10
  go_wp2_with fail
  refine (made_zero D _ (by first | exact h0 | (rw [World.cell?_alloc_lt _ _ _ (World.block_lt_of_cell? w _ h0)]; exact h0))).mono ?_
  rintro e w' ⟨rfl, rfl⟩
  go_wp2_with fail
  refine bodyPost_ret (results_none rfl _ _ _) rfl ?_
  exact ⟨rfl, rfl⟩
set_option maxRecDepth 100000 in
theorem find_zero (D : Nat) (s : ByteArray) (w : World) (h0 : w.cell? ⟨D, 3, none⟩ = some (.pointer none)) :
    Calls Tryz.prog 32 #[.pointer (some ⟨D, 0, none⟩), .string s] w fun e w' =>
      e = .returned (.tuple #[.agg #[.slice none 0 0, .int .i64 0], .int .i64 1]) ∧
      w' = w.alloc (.cells #[.slice none 0 0, .int .i64 0] 60) := by
  go_enter Tryz.func32, Tryz.ntmps32
  go_wp2_with fail
  refine (ready_zero D _ (by first | exact h0 | (rw [World.cell?_alloc_lt _ _ _ (World.block_lt_of_cell? w _ h0)]; exact h0))).mono ?_
  rintro e w' ⟨rfl, rfl⟩
  go_wp2_with fail
  refine bodyPost_ret (results_cell_tmp_row (p := 4) rfl _ _ w.heap.size 60 #[.slice none 0 0, .int .i64 0] (0, 0) _ rfl (heap_alloc_new w _) Tryz.underlying60 rfl (by kernel_rfl)) rfl ?_
  exact ⟨rfl, rfl⟩
set_option maxRecDepth 100000 in
theorem sync_zero (D : Nat) (s : ByteArray) (w : World) (h0 : w.cell? ⟨D, 3, none⟩ = some (.pointer none)) :
    Calls Tryz.prog 43 #[.pointer (some ⟨D, 0, none⟩), .string s] w fun e w' =>
      e = .returned (.int .i64 1) ∧ w' = (w.alloc (.cells #[.slice none 0 0, .int .i64 0] 60)).alloc (.cells #[.slice none 0 0, .int .i64 0] 60) := by
  go_enter Tryz.func43, Tryz.ntmps43
  go_wp2_with fail
  refine (find_zero D s _ (by first | exact h0 | (rw [World.cell?_alloc_lt _ _ _ (World.block_lt_of_cell? w _ h0)]; exact h0))).mono ?_
  rintro e w' ⟨rfl, rfl⟩
  go_wp2_with fail
  go_ret
  exact ⟨rfl, rfl⟩
set_option maxRecDepth 100000 in
theorem rename_zero (D : Nat) (s : ByteArray) (t : ByteArray) (w : World) (h0 : w.cell? ⟨D, 3, none⟩ = some (.pointer none)) :
    Calls Tryz.prog 45 #[.pointer (some ⟨D, 0, none⟩), .string s, .string t] w fun e w' =>
      e = .returned (.int .i64 1) ∧ w' = (w.alloc (.cells #[.slice none 0 0, .int .i64 0] 60)).alloc (.cells #[.slice none 0 0, .int .i64 0] 60) := by
  go_enter Tryz.func45, Tryz.ntmps45
  go_wp2_with fail
  refine (find_zero D s _ (by first | exact h0 | (rw [World.cell?_alloc_lt _ _ _ (World.block_lt_of_cell? w _ h0)]; exact h0))).mono ?_
  rintro e w' ⟨rfl, rfl⟩
  go_wp2_with fail
  go_ret
  exact ⟨rfl, rfl⟩
set_option maxRecDepth 100000 in
theorem remove_zero (D : Nat) (s : ByteArray) (w : World) (h0 : w.cell? ⟨D, 3, none⟩ = some (.pointer none)) :
    Calls Tryz.prog 14 #[.pointer (some ⟨D, 0, none⟩), .string s] w fun e w' =>
      e = .returned (.int .i64 1) ∧ w' = (w.alloc (.cells #[.slice none 0 0, .int .i64 0] 60)).alloc (.cells #[.slice none 0 0, .int .i64 0] 60) := by
  go_enter Tryz.func14, Tryz.ntmps14
  go_wp2_with fail
  refine (find_zero D s _ (by first | exact h0 | (rw [World.cell?_alloc_lt _ _ _ (World.block_lt_of_cell? w _ h0)]; exact h0))).mono ?_
  rintro e w' ⟨rfl, rfl⟩
  go_wp2_with fail
  go_ret
  exact ⟨rfl, rfl⟩
set_option maxRecDepth 100000 in
theorem cut_zero (D : Nat) (s : ByteArray) (n : Int) (w : World) (h0 : w.cell? ⟨D, 3, none⟩ = some (.pointer none)) :
    Calls Tryz.prog 15 #[.pointer (some ⟨D, 0, none⟩), .string s, .int .i64 n] w fun e w' =>
      e = .returned (.int .i64 1) ∧ w' = (w.alloc (.cells #[.slice none 0 0, .int .i64 0] 60)).alloc (.cells #[.slice none 0 0, .int .i64 0] 60) := by
  go_enter Tryz.func15, Tryz.ntmps15
  go_wp2_with fail
  refine (find_zero D s _ (by first | exact h0 | (rw [World.cell?_alloc_lt _ _ _ (World.block_lt_of_cell? w _ h0)]; exact h0))).mono ?_
  rintro e w' ⟨rfl, rfl⟩
  go_wp2_with fail
  go_ret
  exact ⟨rfl, rfl⟩
set_option maxRecDepth 100000 in
theorem read_zero (D : Nat) (s : ByteArray) (w : World) (h0 : w.cell? ⟨D, 3, none⟩ = some (.pointer none)) :
    Calls Tryz.prog 50 #[.pointer (some ⟨D, 0, none⟩), .string s] w fun e w' =>
      e = .returned (.tuple #[.slice none 0 0, .int .i64 1]) ∧ w' = (w.alloc (.cells #[.slice none 0 0, .int .i64 0] 60)).alloc (.cells #[.slice none 0 0, .int .i64 0] 60) := by
  go_enter Tryz.func50, Tryz.ntmps50
  go_wp2_with fail
  refine (find_zero D s _ (by first | exact h0 | (rw [World.cell?_alloc_lt _ _ _ (World.block_lt_of_cell? w _ h0)]; exact h0))).mono ?_
  rintro e w' ⟨rfl, rfl⟩
  go_wp2_with fail
  go_ret2
  exact ⟨rfl, rfl⟩
end Go.Proofs.YtggejecmhfafoaaGreatDoor
namespace Go.Proofs.YtggejecmhfafoaaGreatDoor
open Go.RowKit Go.Maps Go.Sort

/-- In this world a disk stands so, made since w0. -/
def Lon (w0 : World) (D M : Nat) (S : Ab) (w : World) : Prop := ∃ s, Dsk w D M s ∧ s.ab = S ∧ (∀ k, foot D M s.fs k → w0.heap.size ≤ k) ∧ Below w0.heap.size w0 w
section
variable {w0 w w' : World} {D M : Nat} {S S' : Ab}
set_option maxRecDepth 100000 in
theorem Lon.no (h : Lon w0 D M S w) (hf : Fr No w w') : Lon w0 D M S w' := by
  obtain ⟨s, hd, ha, hF, hb⟩ := h
  exact ⟨s, hd.no hf, ha, hF, hb.trans (hf.noBelow.mono hb.size)⟩
set_option maxRecDepth 100000 in
theorem Lon.call {s s' : St} (hF : ∀ k, foot D M s.fs k → w0.heap.size ≤ k) (hb : Below w0.heap.size w0 w) (hN : Nx D M w s w' s') (ha : s'.ab = S') : Lon w0 D M S' w' := by
  refine ⟨s', hN.1, ha, fun k hk => ?_, hb.trans (hN.2.1.below hb.size hF)⟩
  rcases hN.2.2 k hk with e | e
  · exact hF k e
  · have := hb.size
    omega
set_option maxRecDepth 100000 in
theorem Lon.bel (h : Lon w0 D M S w) : Below w0.heap.size w0 w := by
  obtain ⟨_, _, _, _, hb⟩ := h
  exact hb
set_option maxRecDepth 100000 in
theorem lon_new (n : Nat) (w : World) (h : n ≤ 16777216) :
    Calls Tryz.prog 5 #[.int .i64 (n : Int)] w fun e w' => e = .returned (.tuple #[.pointer (some ⟨w.heap.size + 1, 0, none⟩), .int .i64 0]) ∧ Lon w (w.heap.size + 1) w.heap.size ⟨false, false, 0, n, []⟩ w' := by
  refine (new_dsk n w h).mono ?_
  rintro e w' ⟨rfl, hd, hb⟩
  refine ⟨rfl, _, hd, rfl, fun k hk => ?_, hb⟩
  rcases hk with e | e | ⟨f, hf, _⟩
  · omega
  · omega
  · cases hf
section
variable {x : Int}
set_option maxRecDepth 100000 in
theorem lon_append (h : Lon w0 D M S w) (nm : ByteArray) (hs : nm.size ≤ maxLen) (A : Option Addr) (n c : Nat) (l : List UInt8) (hr : Rd w w.heap.size A n l) (he : S.append nm.data.toList l = (x, S')) :
    Calls Tryz.prog 31 #[.pointer (some ⟨D, 0, none⟩), .string nm, .slice A n c] w fun e w' => e = .returned (.int .i64 x) ∧ Lon w0 D M S' w' := by
  obtain ⟨s, hd, ha, hF, hb⟩ := h
  have h := append_ab hd nm hs A n c l hr
  rw [ha, he] at h
  refine h.mono ?_
  rintro e w1 ⟨s1, rfl, hN, hab⟩
  exact ⟨rfl, Lon.call hF hb hN hab⟩
set_option maxRecDepth 100000 in
theorem lon_sync (h : Lon w0 D M S w) (nm : ByteArray) (hs : nm.size ≤ maxLen) (he : S.sync nm.data.toList = (x, S')) :
    Calls Tryz.prog 43 #[.pointer (some ⟨D, 0, none⟩), .string nm] w fun e w' => e = .returned (.int .i64 x) ∧ Lon w0 D M S' w' := by
  obtain ⟨s, hd, ha, hF, hb⟩ := h
  have h := sync_ab hd nm hs
  rw [ha, he] at h
  refine h.mono ?_
  rintro e w1 ⟨s1, rfl, hN, hab⟩
  exact ⟨rfl, Lon.call hF hb hN hab⟩
set_option maxRecDepth 100000 in
theorem lon_cut (h : Lon w0 D M S w) (nm : ByteArray) (hs : nm.size ≤ maxLen) (n : Int) (he : S.cut nm.data.toList n = (x, S')) :
    Calls Tryz.prog 15 #[.pointer (some ⟨D, 0, none⟩), .string nm, .int .i64 n] w fun e w' => e = .returned (.int .i64 x) ∧ Lon w0 D M S' w' := by
  obtain ⟨s, hd, ha, hF, hb⟩ := h
  have h := cut_ab hd nm hs n
  rw [ha, he] at h
  refine h.mono ?_
  rintro e w1 ⟨s1, rfl, hN, hab⟩
  exact ⟨rfl, Lon.call hF hb hN hab⟩
set_option maxRecDepth 100000 in
theorem lon_rename (h : Lon w0 D M S w) (nm nt : ByteArray) (hs : nm.size ≤ maxLen) (ht : nt.size ≤ maxLen) (he : S.rename nm.data.toList nt.data.toList = (x, S')) :
    Calls Tryz.prog 45 #[.pointer (some ⟨D, 0, none⟩), .string nm, .string nt] w fun e w' => e = .returned (.int .i64 x) ∧ Lon w0 D M S' w' := by
  obtain ⟨s, hd, ha, hF, hb⟩ := h
  have h := rename_ab hd nm nt hs ht
  rw [ha, he] at h
  refine h.mono ?_
  rintro e w1 ⟨s1, rfl, hN, hab⟩
  exact ⟨rfl, Lon.call hF hb hN hab⟩
set_option maxRecDepth 100000 in
theorem lon_remove (h : Lon w0 D M S w) (nm : ByteArray) (hs : nm.size ≤ maxLen) (he : S.remove nm.data.toList = (x, S')) :
    Calls Tryz.prog 14 #[.pointer (some ⟨D, 0, none⟩), .string nm] w fun e w' => e = .returned (.int .i64 x) ∧ Lon w0 D M S' w' := by
  obtain ⟨s, hd, ha, hF, hb⟩ := h
  have h := remove_ab hd nm hs
  rw [ha, he] at h
  refine h.mono ?_
  rintro e w1 ⟨s1, rfl, hN, hab⟩
  exact ⟨rfl, Lon.call hF hb hN hab⟩
end
set_option maxRecDepth 100000 in
theorem lon_arm (h : Lon w0 D M S w) (hfl : S.fl = false) (n : Int) (hn : n ≤ 9223372036854775807) :
    Calls Tryz.prog 7 #[.pointer (some ⟨D, 0, none⟩), .int .i64 n] w fun e w' => e = .returned (.tuple #[]) ∧ Lon w0 D M { S with bd := true, lf := (max n 0).toNat } w' := by
  obtain ⟨s, hd, ha, hF, hb⟩ := h
  have h0 : s.fl = false := by have e : s.ab.fl = false := by rw [ha]; exact hfl
                               exact e
  refine (arm_dsk hd h0 n hn).mono ?_
  rintro e w1 ⟨rfl, hN⟩
  refine ⟨rfl, Lon.call hF hb hN ?_⟩
  rw [← ha]
  rfl
set_option maxRecDepth 100000 in
theorem lon_arm_dead (h : Lon w0 D M S w) (hfl : S.fl = true) (n : Int) :
    Calls Tryz.prog 7 #[.pointer (some ⟨D, 0, none⟩), .int .i64 n] w fun e w' => e = .returned (.tuple #[]) ∧ Lon w0 D M S w' := by
  obtain ⟨s, hd, ha, hF, hb⟩ := h
  have h0 : s.fl = true := by have e : s.ab.fl = true := by rw [ha]; exact hfl
                              exact e
  refine (arm_dead hd h0 n).mono ?_
  rintro e w1 ⟨rfl, rfl⟩
  exact ⟨rfl, s, hd, ha, hF, hb⟩
set_option maxRecDepth 100000 in
theorem lon_used (h : Lon w0 D M S w) {n : Nat} (hu : aused S.fs = n) :
    Calls Tryz.prog 67 #[.pointer (some ⟨D, 0, none⟩)] w fun e w' => e = .returned (.int .i64 (n : Int)) ∧ Lon w0 D M S w' := by
  have hk := fun w' (hf : Fr No w w') => h.no hf
  obtain ⟨s, hd, ha, hF, hb⟩ := h
  refine (used_any hd).mono ?_
  rintro e w1 ⟨rfl, hf⟩
  have e : used s.fs = n := by rw [← hu, ← ha]; exact (used_ab s.fs).symm
  exact ⟨by rw [e], hk w1 hf⟩
set_option maxRecDepth 100000 in
theorem lon_list (h : Lon w0 D M S w) {n : Nat} (hn : S.fs.length = n) :
    Calls Tryz.prog 23 #[.pointer (some ⟨D, 0, none⟩)] w fun e w' => ∃ A c, e = .returned (.slice A n c) ∧ w'.ownsRow w.heap.size 9 1 (.slice A n c) n ((S.fs.map (·.nm)).map Proofs.encStr) ∧ Lon w0 D M S w' := by
  have hk := fun w' (hf : Fr No w w') => h.no hf
  obtain ⟨s, hd, ha, hF, hb⟩ := h
  have e : s.fs.map Fl.ab = S.fs := by
    have e : s.ab.fs = S.fs := by rw [ha]
    exact e
  have e1 : s.fs.length = n := by rw [← hn, ← e]; simp
  have e2 : s.fs.map (·.nm) = S.fs.map (·.nm) := by rw [← e, List.map_map]; rfl
  refine (list_any hd).mono ?_
  rintro e w1 ⟨v, rfl, hv, hf⟩
  rw [e1, e2] at hv
  rcases hv.2 with ⟨rfl, e0⟩ | ⟨g, cap, cur, rfl, _⟩
  · subst e0
    exact ⟨none, 0, rfl, hv, hk w1 hf⟩
  · exact ⟨_, _, rfl, hv, hk w1 hf⟩
/-- What a crash leaves. -/
def crA (ks : List Int) : Nat → List Af → List Af
  | _, [] => []
  | i, f :: r => ⟨f.nm, f.bs.take (f.fm + min (kAt ks i).toNat (f.bs.length - f.fm)), f.fm + min (kAt ks i).toNat (f.bs.length - f.fm)⟩ :: crA ks (i + 1) r
set_option maxRecDepth 100000 in
theorem crA_at (ks : List Int) : ∀ (fs : List Af) (i j : Nat), (crA ks i fs)[j]? = fs[j]?.map fun f => (⟨f.nm, f.bs.take (f.fm + min (kAt ks (i + j)).toNat (f.bs.length - f.fm)), f.fm + min (kAt ks (i + j)).toNat (f.bs.length - f.fm)⟩ : Af)
  | [], i, j => by simp [crA]
  | f :: r, i, 0 => by simp [crA]
  | f :: r, i, j + 1 => by
    have ih := crA_at ks r (i + 1) j
    rw [show i + 1 + j = i + (j + 1) by omega] at ih
    simpa [crA] using ih
set_option maxRecDepth 100000 in
theorem lon_crash (h : Lon w0 D M S w) (ks : List Int) (cs : Array Value) (hcs : cs.toList = ks.map fun k => Value.int .i64 k) (t : TypeId) (n c : Nat) (hn : ks.length = n) :
    Calls Tryz.prog 10 #[.pointer (some ⟨D, 0, none⟩), .slice (some ⟨w.heap.size, 0, none⟩) n c] (w.alloc (.cells cs t)) fun e w' => e = .returned (.tuple #[]) ∧ Lon w0 D M ⟨false, false, 0, S.mo, crA ks 0 S.fs⟩ w' := by
  subst hn
  have h2 := h.no (Fr.alloc No w (.cells cs t))
  obtain ⟨s, hd0, ha, hF, hb0⟩ := h
  have hd := hd0.no (Fr.alloc No w (.cells cs t))
  have hb := h2.bel
  refine (crash_any hd (some ⟨w.heap.size, 0, none⟩) ks.length c ks ⟨rfl, fun _ => ⟨w.heap.size, 0, rfl, by simp, fun hf => by have := hd0.foot_lt hf; omega, fun j hj => ?_⟩⟩).mono ?_
  · rw [World.cell?_alloc_mark, ← Array.getElem?_toList, hcs, List.getElem?_map, Nat.zero_add, List.getElem?_eq_getElem hj]
    rfl
  rintro e w1 ⟨rfl, fs, hC, hN⟩
  refine ⟨rfl, Lon.call hF hb hN ?_⟩
  have e : s.fs.map Fl.ab = S.fs := by
    have e : s.ab.fs = S.fs := by rw [ha]
    exact e
  have em : s.mo = S.mo := by
    have e : s.ab.mo = S.mo := by rw [ha]
    exact e
  show (⟨false, false, 0, s.mo, fs.map Fl.ab⟩ : Ab) = _
  rw [em]
  congr 1
  apply List.ext_getElem?
  intro j
  rw [crA_at, ← e, List.getElem?_map, List.getElem?_map]
  cases hf : s.fs[j]? with
  | none => rw [List.getElem?_eq_none (by rw [hC.1]; exact List.getElem?_eq_none_iff.1 hf)]; rfl
  | some f =>
    obtain ⟨g, hg, hn, hq, _⟩ := hC.2 j f hf
    have hj := (List.getElem?_eq_some_iff.1 hf).1
    rw [hg, Nat.zero_add]
    show some g.ab = some (⟨f.nm, f.bs.take (kp f (kAt ks j)), kp f (kAt ks j)⟩ : Af)
    unfold Fl.ab
    rw [hn, (hq hj).1, (hq hj).2]
set_option maxRecDepth 100000 in
/-- Append, and the bytes that were handed in may be written behind it. -/
theorem lon_append_in {x : Int} (h : Lon w0 D M S w) (nm : ByteArray) (hs : nm.size ≤ maxLen) (l : List UInt8) (cs : Array Value) (hcs : cs.toList = bvs l) (fr : Nat × Nat) (n c : Nat) (hn : l.length = n) (he : S.append nm.data.toList l = (x, S')) :
    Calls Tryz.prog 31 #[.pointer (some ⟨D, 0, none⟩), .string nm, .slice (some ⟨w.heap.size, 0, none⟩) n c] (w.alloc (.cells cs 5 fr)) fun e w' =>
      e = .returned (.int .i64 x) ∧ w'.heap[w.heap.size]? = some (.cells cs 5 fr) ∧ ∀ w'', Fr (fun k => k = w.heap.size) w' w'' → Lon w0 D M S' w'' := by
  subst hn
  have h2 := h.no (Fr.alloc No w (.cells cs 5 fr))
  obtain ⟨s, hd0, ha, hF, hb0⟩ := h
  have hd := hd0.no (Fr.alloc No w (.cells cs 5 fr))
  have hoff : ¬ foot D M s.fs w.heap.size := fun hf => by have := hd0.foot_lt hf; omega
  have h := append_ab hd nm hs (some ⟨w.heap.size, 0, none⟩) l.length c l ((Rd.new w l cs hcs fr).more (by simp))
  rw [ha, he] at h
  refine h.mono ?_
  rintro e w1 ⟨s1, rfl, hN, hab⟩
  have hL := Lon.call hF h2.bel hN hab
  have ho1 : ¬ foot D M s1.fs w.heap.size := fun hf => by
    rcases hN.2.2 _ hf with e | e
    · exact hoff e
    · rw [World.size_alloc] at e; omega
  have hF1 : ∀ k, foot D M s1.fs k → w0.heap.size ≤ k := fun k hk => by
    rcases hN.2.2 k hk with e | e
    · exact hF k e
    · have := h2.bel.size
      omega
  refine ⟨rfl, (hN.2.1.block _ (by simp) hoff).trans (heap_alloc_new w _), fun w2 hf => ⟨s1, hN.1.keep hf (fun k hk e => ho1 (by rw [← show k = w.heap.size from e]; exact hk)), hab, hF1, hL.bel.trans (hf.below hL.bel.size (fun k e => by have := hb0.size; have : k = w.heap.size := e; omega))⟩⟩
set_option maxRecDepth 100000 in
/-- Read, and what it answers may be written. -/
theorem lon_read (h : Lon w0 D M S w) (hfl : S.fl = false) (nm : ByteArray) (hs : nm.size ≤ maxLen) {f : Af} (hf : afnd nm.data.toList S.fs = some f) (l : List UInt8) (hl : f.bs = l) (n : Nat) (hn : l.length = n) (h0 : 0 < n) :
    Calls Tryz.prog 50 #[.pointer (some ⟨D, 0, none⟩), .string nm] w fun e w' => ∃ G c cur, e = .returned (.tuple #[.slice (some ⟨G, 0, none⟩) n c, .int .i64 0]) ∧ w'.heap[G]? = some (.cells cur 5 (0, 0)) ∧
      Rd w' w'.heap.size (some ⟨G, 0, none⟩) n l ∧ ∀ w'', Fr (fun k => k = G) w' w'' → Lon w0 D M S w'' := by
  subst hl hn
  have hk := fun w' (hf : Fr No w w') => h.no hf
  obtain ⟨s, hd, ha, hF, hb⟩ := h
  have h0' : s.fl = false := by have e : s.ab.fl = false := by rw [ha]; exact hfl
                                exact e
  have e : s.fs.map Fl.ab = S.fs := by
    have e : s.ab.fs = S.fs := by rw [ha]
    exact e
  rw [← e, fnd_ab] at hf
  cases hg : fnd nm.data.toList s.fs with
  | none => rw [hg] at hf; cases hf
  | some g =>
    rw [hg] at hf
    injection hf with hf
    have hbs : g.bs = f.bs := by rw [← hf]; rfl
    refine (read_ok hd nm hs h0' g hg).mono ?_
    rintro e w1 ⟨v, rfl, hv, hf1⟩
    rw [hbs] at hv
    rcases hv.2 with ⟨rfl, e0⟩ | ⟨G, cap, cur, rfl, hG, hGc, _⟩
    · omega
    · refine ⟨G, cap, cur, rfl, hGc, Rd.own hv, fun w2 hf2 => ⟨s, (hd.no hf1).keep hf2 (fun k hk e => by have := hd.foot_lt hk; have : k = G := e; omega), ha, hF, ?_⟩⟩
      have hb1 := (hk w1 hf1).bel
      exact hb1.trans (hf2.below hb1.size (fun k e => by have := hb.size; have : k = G := e; omega))
set_option maxRecDepth 100000 in
/-- Append of more than there is room for, whatever the bytes. -/
theorem lon_full (h : Lon w0 D M S w) (nm : ByteArray) (hs : nm.size ≤ maxLen) (A : Option Addr) (n c : Nat) (hfl : S.fl = false) (hn : isNm nm.data.toList = true) (hr : S.fits nm.data.toList n = false) :
    Calls Tryz.prog 31 #[.pointer (some ⟨D, 0, none⟩), .string nm, .slice A n c] w fun e w' => e = .returned (.int .i64 5) ∧ Lon w0 D M S w' := by
  have hk := fun w' (hf : Fr No w w') => h.no hf
  obtain ⟨s, hd, ha, hF, hb⟩ := h
  have h0 : s.fl = false := by have e : s.ab.fl = false := by rw [ha]; exact hfl
                               exact e
  have h1 : s.fits nm.data.toList n = false := by rw [← fits_ab, ha]; exact hr
  refine (append_full hd nm hs A n c h0 hn h1).mono ?_
  rintro e w1 ⟨rfl, hf⟩
  exact ⟨rfl, hk w1 hf⟩
set_option maxRecDepth 100000 in
/-- Append to what is no name. -/
theorem lon_name (h : Lon w0 D M S w) (hfl : S.fl = false) (nm : ByteArray) (hs : nm.size ≤ maxLen) (A : Option Addr) (n c : Nat) (hn : isNm nm.data.toList = false) :
    Calls Tryz.prog 31 #[.pointer (some ⟨D, 0, none⟩), .string nm, .slice A n c] w fun e w' => e = .returned (.int .i64 13) ∧ w = w' := by
  obtain ⟨s, hd, ha, _, _⟩ := h
  have h0 : s.fl = false := by have e : s.ab.fl = false := by rw [ha]; exact hfl
                               exact e
  exact append_name hd nm hs A n c h0 hn
set_option maxRecDepth 100000 in
theorem lon_apart (h : Lon w0 D M S w) : S.fs.Pairwise (fun f g => f.nm ≠ g.nm) := by
  obtain ⟨s, hd, ha, _, _⟩ := h
  have e : s.fs.map Fl.ab = S.fs := by
    have e : s.ab.fs = S.fs := by rw [ha]
    exact e
  rw [← e, List.pairwise_map]
  exact hd.apart
end
end Go.Proofs.YtggejecmhfafoaaGreatDoor
namespace Go.Proofs.YtggejecmhfafoaaGreatDoor
open Go.RowKit Go.Maps

def svs (l : List (List UInt8)) : List Value := l.map Proofs.encStr
theorem svs_length (l : List (List UInt8)) : (svs l).length = l.length := by simp [svs]
set_option maxRecDepth 100000 in
theorem svs_at {l : List (List UInt8)} {j : Nat} {x : List UInt8} (h : l[j]? = some x) : (svs l)[j]? = some (.string ⟨x.toArray⟩) := by
  unfold svs
  rw [List.getElem?_map, h]
  rfl
theorem Fr.drewN (F : Nat → Prop) (w : World) (n : Nat) : Fr F w (w.drewN n) := ⟨rfl, rfl, rfl, Nat.le_refl _, fun _ _ _ => rfl⟩
set_option maxHeartbeats 4000000 in
set_option maxRecDepth 100000 in
theorem texts_any {w : World} {B1 B2 n m : Nat} {v1 v2 : Value} {xs ys : List (List UInt8)} (h1 : w.ownsRow B1 9 1 v1 n (svs xs)) (h2 : w.ownsRow B2 9 1 v2 m (svs ys)) (hn : n ≤ 1000) (hm : m ≤ 1000) :
    Calls Tryz.prog 30 #[v1, v2] w fun e w' => e = .returned (.bool (decide (xs = ys))) ∧ Fr No w w' := by
  have hx : xs.length = n := by have := h1.1; rw [svs_length] at this; omega
  have hy : ys.length = m := by have := h2.1; rw [svs_length] at this; omega
  obtain ⟨A1, c1, rfl⟩ : ∃ A c, v1 = .slice A n c := by
    rcases h1.2 with ⟨rfl, e⟩ | ⟨g, cap, cur, rfl, _⟩
    · exact ⟨none, 0, by rw [e]⟩
    · exact ⟨_, _, rfl⟩
  obtain ⟨A2, c2, rfl⟩ : ∃ A c, v2 = .slice A m c := by
    rcases h2.2 with ⟨rfl, e⟩ | ⟨g, cap, cur, rfl, _⟩
    · exact ⟨none, 0, by rw [e]⟩
    · exact ⟨_, _, rfl⟩
  have H1 := Lib.hid h1
  have H2 := Lib.hid h2
  have HX := Lib.hid (And.intro hx hy)
  clear h1 h2 hx hy
  by_cases hnm : n = m
  · subst hnm
    go_enter Tryz.func30, Tryz.ntmps30
    go_wp2_with fail
    go_loopw [5, 6] (fun vs vi wr => ∃ (i : Nat) (b : Bool), i ≤ n ∧ vs = .bool b ∧ vi = .int .i64 (i : Int) ∧ Fr No w wr ∧ (b = true → xs.take i = ys.take i) ∧ (b = false → xs ≠ ys)) (fun vs vi _ => n - (intOf vi).toNat)
    case atStart => exact ⟨0, true, Nat.zero_le _, rfl, rfl, Fr.refl _ _, fun _ => rfl, fun h => by cases h⟩
    case round =>
      obtain ⟨i, b, hi, rfl, rfl, hf, ht, hne⟩ := hrel
      have HF := Lib.hid hf
      clear hf
      cases b with
      | false =>
        have HQ : Hid (decide (xs = ys) = false) := by show _ = _; rw [decide_eq_false_iff_not]; exact hne rfl
        clear ht hne
        go_wp2_with fail
        go_ret
        exact ⟨by rw [HQ.out]; rfl, HF.out⟩
      | true =>
        by_cases hil : i < n
        · obtain ⟨x, hxi⟩ : ∃ x, xs[i]? = some x := ⟨_, List.getElem?_eq_getElem (by rw [HX.out.1]; exact hil)⟩
          obtain ⟨y, hyi⟩ : ∃ y, ys[i]? = some y := ⟨_, List.getElem?_eq_getElem (by rw [HX.out.2]; exact hil)⟩
          obtain ⟨G, rfl⟩ : ∃ G, A1 = some ⟨G, 0, none⟩ := by
            rcases H1.out.2 with ⟨e, e0⟩ | ⟨G, cap, cur, e, _⟩
            · omega
            · injection e with e; exact ⟨G, e⟩
          obtain ⟨G2, rfl⟩ : ∃ G, A2 = some ⟨G, 0, none⟩ := by
            rcases H2.out.2 with ⟨e, e0⟩ | ⟨G, cap, cur, e, _⟩
            · omega
            · injection e with e; exact ⟨G, e⟩
          have hg1 := H1.out.cells (g := G) rfl i (.string ⟨x.toArray⟩) (svs_at hxi)
          have hg2 := H2.out.cells (g := G2) rfl i (.string ⟨y.toArray⟩) (svs_at hyi)
          rw [Addr.add_lit, Nat.zero_add] at hg1 hg2
          have hw1 := HF.out.cell hg1 (fun e => e)
          have hw2 := HF.out.cell hg2 (fun e => e)
          have hwk : IntKind.i64.wrap ((i : Int) + 1) = ((i + 1 : Nat) : Int) := by
            rw [show ((i : Int) + 1) = ((i + 1 : Nat) : Int) by omega]
            exact IntWalk.i64_in _ (by omega)
          clear hg1 hg2
          go_wp2_with fail
          go_quiet (fail)
          have HF2 := Lib.hid (HF.out.no_trans (Fr.drewN No wr nq))
          have htx : xs.take (i + 1) = xs.take i ++ [x] := by rw [List.take_add_one, hxi]; simp
          have hty : ys.take (i + 1) = ys.take i ++ [y] := by rw [List.take_add_one, hyi]; simp
          have HR := Lib.hid (show ((x == y) = true → xs.take (i + 1) = ys.take (i + 1)) ∧ ((x == y) = false → xs ≠ ys) by
            refine ⟨fun h => ?_, fun h => ?_⟩
            · rw [htx, hty, ht (by simp), eq_of_beq h]
            · intro e
              subst e
              rw [hxi] at hyi
              cases hyi
              simp at h)
          clear ht hne htx hty
          go_wp2_with fail
          go_roundw
          case rel => exact ⟨i + 1, x == y, by omega, by first | rfl | go_num, by go_num, HF2.out, HR.out.1, HR.out.2⟩
          case measure => simp [intOf]; omega
        · have hie : i = n := by omega
          subst hie
          have HQ : Hid (decide (xs = ys) = true) := by
            show _ = _
            rw [decide_eq_true_eq]
            have := ht rfl
            rw [List.take_of_length_le (by have := HX.out.1; omega), List.take_of_length_le (by have := HX.out.2; omega)] at this
            exact this
          clear ht hne
          go_wp2_with fail
          go_ret
          exact ⟨by rw [HQ.out]; rfl, HF.out⟩
  · have hd : ((n : Int) == (m : Int)) = false := by rw [beq_eq_false_iff_ne]; omega
    have HQ : Hid (decide (xs = ys) = false) := by
      show _ = _
      rw [decide_eq_false_iff_not]
      intro e
      have h1 := HX.out.1
      have h2 := HX.out.2
      rw [e] at h1
      omega
    go_enter Tryz.func30, Tryz.ntmps30
    go_wp2_with fail
    go_loopw [5, 6] (fun vs vi wr => vs = .bool false ∧ vi = .int .i64 0 ∧ wr = w) (fun vs vi _ => 0)
    case atStart => exact ⟨by first | rfl | rw [hd], rfl, rfl⟩
    case round =>
      obtain ⟨rfl, rfl, rfl⟩ := hrel
      go_wp2_with fail
      go_ret
      exact ⟨by rw [HQ.out]; rfl, Fr.refl _ _⟩
end Go.Proofs.YtggejecmhfafoaaGreatDoor
namespace Go.Proofs.YtggejecmhfafoaaGreatDoor
open Go.RowKit Go.Maps

theorem small_bytes (s t c : Nat) (hs : s < 128) (ht : t < 128) (hc : c < 128) (L : List UInt8) (h : mgc ++ [UInt8.ofNat s] ++ [UInt8.ofNat t] ++ [UInt8.ofNat c] ++ ([UInt8.ofNat 0] ++ []) = L) (b : List UInt8) (hb : L ++ be4 (crc L) = b) : Rn.bytes ⟨s, t, c, []⟩ = b := by
  unfold Rn.bytes Rn.body
  simp only [List.length_nil]
  rw [varint_small hs, varint_small ht, varint_small hc, varint_small (show 0 < 128 by omega), h, hb]
/-- The three roots. -/
def r1 : Rn := ⟨1, 5, 2, []⟩
def r2 : Rn := ⟨2, 6, 2, []⟩
def r3 : Rn := ⟨2, 7, 2, []⟩
def b1 : List UInt8 := [72, 83, 82, 49, 1, 5, 2, 0, 220, 33, 10, 221]
def b2 : List UInt8 := [72, 83, 82, 49, 2, 6, 2, 0, 204, 210, 27, 106]
def b3 : List UInt8 := [72, 83, 82, 49, 2, 7, 2, 0, 205, 16, 113, 93]
theorem r1_bytes : r1.bytes = b1 := small_bytes 1 5 2 (by omega) (by omega) (by omega) [72, 83, 82, 49, 1, 5, 2, 0] (by decide +kernel) _ (by decide +kernel)
theorem r2_bytes : r2.bytes = b2 := small_bytes 2 6 2 (by omega) (by omega) (by omega) [72, 83, 82, 49, 2, 6, 2, 0] (by decide +kernel) _ (by decide +kernel)
theorem r3_bytes : r3.bytes = b3 := small_bytes 2 7 2 (by omega) (by omega) (by omega) [72, 83, 82, 49, 2, 7, 2, 0] (by decide +kernel) _ (by decide +kernel)
theorem b1_prs : prs b1 = (r1, 0) := by rw [← r1_bytes]; exact prs_bytes r1 (by decide) (by decide)
theorem b2_prs : prs b2 = (r2, 0) := by rw [← r2_bytes]; exact prs_bytes r2 (by decide) (by decide)
theorem b3_prs : prs b3 = (r3, 0) := by rw [← r3_bytes]; exact prs_bytes r3 (by decide) (by decide)
def b2x : List UInt8 := [72, 83, 82, 49, 2, 6, 2, 0, 204, 210, 27, 106, 120]
theorem b2x_prs : (prs b2x).2 ≠ 0 := by
  have h : (unS b2x).2 = 12 := by decide +kernel
  unfold prs
  rw [if_pos (by rw [h]; decide), h]
  decide
/-- The names, written out. -/
theorem nmR0 : nmR 0 = [114, 111, 111, 116, 48] := by decide +kernel
theorem nmR1 : nmR 1 = [114, 111, 111, 116, 49] := by decide +kernel
/-- The disks of the examples. -/
def S0 : Ab := ⟨false, false, 0, 1000, []⟩
def S1 : Ab := ⟨false, false, 0, 1000, [⟨[114, 111, 111, 116, 49], b1, 12⟩]⟩
def S2 : Ab := ⟨false, false, 0, 1000, [⟨[114, 111, 111, 116, 48], b2, 12⟩, ⟨[114, 111, 111, 116, 49], b1, 12⟩]⟩
def S3 : Ab := ⟨false, false, 0, 1000, [⟨[114, 111, 111, 116, 48], b2x, 12⟩, ⟨[114, 111, 111, 116, 49], b1, 12⟩]⟩
def S4 : Ab := ⟨false, false, 0, 1000, [⟨[114, 111, 111, 116, 48], b3, 12⟩, ⟨[114, 111, 111, 116, 49], b1, 12⟩]⟩
/-- What a file tells. -/
theorem rfA_none {S : Ab} {d : Nat} (h : S.err (nmR d) = 13) : rfA S d = (Rn.zero, 0) := by unfold rfA; rw [if_pos h]
theorem rfA_root {S : Ab} {d : Nat} {b : List UInt8} {r : Rn} (h : S.err (nmR d) = 0) (hb : (aold (nmR d) S.fs).bs = b) (hp : prs b = (r, 0)) (hr : r.s % 2 = d) : rfA S d = (r, 0) := by
  unfold rfA
  rw [if_neg (by rw [h]; decide), if_neg (by rw [h]; decide), hb, hp]
  simp only
  rw [if_neg (by rw [hr]; simp)]
theorem rfA_spoilt {S : Ab} {d : Nat} {b : List UInt8} (h : S.err (nmR d) = 0) (hb : (aold (nmR d) S.fs).bs = b) (hp : (prs b).2 ≠ 0) : rfA S d = (Rn.zero, 0) := by
  unfold rfA
  rw [if_neg (by rw [h]; decide), if_neg (by rw [h]; decide), hb, if_pos (Or.inl hp)]
theorem rdA_both {S : Ab} {x y : Rn} (h0 : rfA S 0 = (x, 0)) (h1 : rfA S 1 = (y, 0)) : rdA S = (pickR (pickR Rn.zero x) y, decide (0 < (pickR (pickR Rn.zero x) y).s), 0) := by
  unfold rdA
  rw [if_neg (by rw [h0]; simp), if_neg (by rw [h1]; simp)]
  show (pickR (pickR Rn.zero (rfA S 0).1) (rfA S 1).1, decide (0 < (pickR (pickR Rn.zero (rfA S 0).1) (rfA S 1).1).s), 0) = _
  rw [h0, h1]
theorem S0_rd : rdA S0 = (Rn.zero, false, 0) := rdA_both (rfA_none (by decide +kernel)) (rfA_none (by decide +kernel))
theorem S1_rd : rdA S1 = (r1, true, 0) := rdA_both (rfA_none (by decide +kernel)) (rfA_root (by decide +kernel) (b := b1) (by decide +kernel) b1_prs (by decide))
theorem S2_rd : rdA S2 = (r2, true, 0) := rdA_both (rfA_root (by decide +kernel) (b := b2) (by decide +kernel) b2_prs (by decide)) (rfA_root (by decide +kernel) (b := b1) (by decide +kernel) b1_prs (by decide))
theorem S3_rd : rdA S3 = (r1, true, 0) := rdA_both (rfA_spoilt (by decide +kernel) (b := b2x) (by decide +kernel) b2x_prs) (rfA_root (by decide +kernel) (b := b1) (by decide +kernel) b1_prs (by decide))
theorem S4_rd : rdA S4 = (r3, true, 0) := rdA_both (rfA_root (by decide +kernel) (b := b3) (by decide +kernel) b3_prs (by decide)) (rfA_root (by decide +kernel) (b := b1) (by decide +kernel) b1_prs (by decide))
/-- Write, where it goes well. -/
theorem wrA_well {S S' : Ab} {m r : Rn} {ok : Bool} {t : Nat} {b : List UInt8} (hr : rdA S = (m, ok, 0)) (hm : m.s + 1 = r.s) (hs : 1 ≤ r.s ∧ r.s ≤ 100) (ht : t ≤ 100) (he : r = ⟨r.s, t, 2, []⟩) (hb : r.bytes = b) (hw : wfA (nmR (r.s % 2)) b S 4 = (0, S')) : wrA S (t : Int) 2 [] = ((r, 0), S') := by
  obtain ⟨q, hq⟩ : ∃ q, r.s = q := ⟨_, rfl⟩
  rw [hq] at he hm hs hw
  subst he
  unfold wrA
  rw [hr]
  simp only [hm]
  have hg : rgt (q : Int) (t : Int) 2 = true := by
    unfold rgt
    simp only [Bool.and_eq_true, decide_eq_true_eq]
    omega
  rw [if_neg (by simp), hg, if_neg (by simp)]
  simp only [Int.toNat_natCast, show (2 : Int).toNat = 2 from rfl]
  rw [hb, hw]
  simp
theorem S0_wr : wrA S0 5 2 [] = ((r1, 0), S1) := wrA_well (t := 5) S0_rd rfl (by decide) (by decide) rfl r1_bytes (by rfl)
theorem S1_wr : wrA S1 6 2 [] = ((r2, 0), S2) := wrA_well (t := 6) S1_rd rfl (by decide) (by decide) rfl r2_bytes (by rfl)
theorem S2_ap : S2.append [114, 111, 111, 116, 48] [120] = (0, S3) := by rfl
theorem S3_wr : wrA S3 7 2 [] = ((r3, 0), S4) := wrA_well (t := 7) S3_rd rfl (by decide) (by decide) rfl r3_bytes (by rfl)
end Go.Proofs.YtggejecmhfafoaaGreatDoor
namespace Go.Proofs.YtggejecmhfafoaaGreatDoor
open Go.RowKit Go.Maps

theorem lon_lens {S : Ab} {s : St} (ha : s.ab = S) (hl : ∀ f ∈ S.fs, f.bs.length ≤ 20000) : ∀ f ∈ s.fs, f.bs.length ≤ 20000 := by
  intro f hf
  subst ha
  exact hl f.ab (List.mem_map.2 ⟨f, hf, rfl⟩)
set_option maxHeartbeats 8000000 in
set_option maxRecDepth 100000 in
theorem reads_any {w0 w : World} {D M : Nat} {S : Ab} (h : Lon w0 D M S w) (ht : Tab w0) (hl : ∀ f ∈ S.fs, f.bs.length ≤ 20000) {m : Rn} {ok : Bool} (hr : rdA S = (m, ok, 0)) (a b : Nat) (hok : ok = decide (0 < a)) (hms : m.s = a) (hmt : m.t = b) :
    Calls Tryz.prog 28 #[.pointer (some ⟨D, 0, none⟩), .int .i64 (a : Int), .int .i64 (b : Int)] w fun e w' => e = .returned (.bool true) ∧ Lon w0 D M S w' := by
  have HK := Lib.hid (fun w' (hf : Fr No w w') => h.no hf)
  obtain ⟨s, hd, ha, hF, hb⟩ := h
  have hrd := read_any hd (ht.keep hb ht.pos) (lon_lens ha hl)
  rw [ha, hr] at hrd
  have HR := Lib.hid hrd
  have HOK := Lib.hid hok
  subst hms hmt
  clear hrd hd ha hF hb ht hl hr hok
  go_enter Tryz.func28, Tryz.ntmps28
  go_wp2_with fail
  refine HR.out.mono ?_
  rintro e w1 ⟨A1, n1, c1, rfl, hr1, hb1⟩
  simp only
  have hfx := Fr.alloc No w1 (.cells #[.int .i64 (m.s : Int), .int .i64 (m.t : Int), .int .i64 (m.c : Int), .slice A1 n1 c1] 30)
  have hgx := heap_alloc_new w1 (.cells #[.int .i64 (m.s : Int), .int .i64 (m.t : Int), .int .i64 (m.c : Int), .slice A1 n1 c1] 30)
  have HF1 := Lib.hid (show Fr No w w1 from Fr.of_below hb1)
  clear hr1 hb1
  go_upto_region 2 with fail
  obtain ⟨G, hG⟩ : ∃ G, w1.heap.size = G := ⟨_, rfl⟩
  obtain ⟨w2, hw2⟩ : ∃ u, w1.alloc (.cells #[.int .i64 (m.s : Int), .int .i64 (m.t : Int), .int .i64 (m.c : Int), .slice A1 n1 c1] 30) = u := ⟨_, rfl⟩
  rw [hw2] at hfx hgx ⊢
  rw [hG] at hgx ⊢
  have HF2 := Lib.hid (HF1.out.no_trans hfx)
  have u0 : w2.cell? ⟨G, 0, none⟩ = some (.int .i64 (m.s : Int)) := by unfold World.cell?; rw [hgx]; rfl
  have u1 : w2.cell? ⟨G, 1, none⟩ = some (.int .i64 (m.t : Int)) := by unfold World.cell?; rw [hgx]; rfl
  clear hw2 hG hfx hgx
  have hx : ok = decide (0 < m.s) := HOK.out
  go_wp2_with fail
  go_ret
  exact ⟨rfl, HK.out _ HF2.out⟩
set_option maxHeartbeats 8000000 in
set_option maxRecDepth 100000 in
theorem writes_any {w0 w : World} {D M : Nat} {S S' : Ab} (h : Lon w0 D M S w) (ht : Tab w0) (hl : ∀ f ∈ S.fs, f.bs.length ≤ 20000) (hl' : ∀ f ∈ S'.fs, f.bs.length ≤ 20000) {r m : Rn} (t q : Nat) (hw : wrA S (t : Int) 2 [] = ((r, 0), S')) (hrs : r.s = q) (hrt : r.t = t) (hrc : r.c = 2)
    (hr : rdA S' = (m, true, 0)) (hms : m.s = q) (hmt : m.t = t) (hq : 0 < q) :
    Calls Tryz.prog 29 #[.pointer (some ⟨D, 0, none⟩), .int .i64 (t : Int), .int .i64 (q : Int)] w fun e w' => e = .returned (.bool true) ∧ Lon w0 D M S' w' := by
  obtain ⟨s, hd, ha, hF, hb⟩ := h
  have hwr := write_any hd (ht.keep hb ht.pos) (lon_lens ha hl) 99 (t : Int) 2 none 0 0 [] Rd.nil (by omega) (fun h _ _ => absurd h (by omega))
  rw [ha, hw] at hwr
  have HW := Lib.hid hwr
  have HC := Lib.hid (fun W s' (hN : Nx D M w s W s') (ha : s'.ab = S') => Lon.call hF hb hN ha)
  have HRR := Lib.hid (fun W (hL : Lon w0 D M S' W) => reads_any hL ht hl' hr q t (by simp [hq]) hms hmt)
  have HV := Lib.hid (And.intro hrs (And.intro hrt hrc))
  clear hwr hd ha hF hb ht hl hl' hr hw hms hmt hq hrs hrt hrc
  go_enter Tryz.func29, Tryz.ntmps29
  go_wp2_with fail
  refine HW.out.mono ?_
  rintro e w1 ⟨s', A1, n1, c1, rfl, hr1, hN, ha⟩
  simp only
  have HL1 := Lib.hid (HC.out w1 s' hN ha)
  rw [HV.out.1, HV.out.2.1, HV.out.2.2]
  have hfx := Fr.alloc No w1 (.cells #[.int .i64 (q : Int), .int .i64 (t : Int), .int .i64 ((2 : Nat) : Int), .slice A1 n1 c1] 30)
  have hgx := heap_alloc_new w1 (.cells #[.int .i64 (q : Int), .int .i64 (t : Int), .int .i64 ((2 : Nat) : Int), .slice A1 n1 c1] 30)
  clear hr1 hN ha
  go_upto_region 2 with fail
  obtain ⟨G, hG⟩ : ∃ G, w1.heap.size = G := ⟨_, rfl⟩
  obtain ⟨w2, hw2⟩ : ∃ u, w1.alloc (.cells #[.int .i64 (q : Int), .int .i64 (t : Int), .int .i64 2, .slice A1 n1 c1] 30) = u := ⟨_, rfl⟩
  first | rw [hw2] at hfx hgx ⊢ | (rw [show ((2 : Nat) : Int) = 2 from rfl, hw2] at hfx hgx; rw [hw2])
  rw [hG] at hgx ⊢
  have HL2 := Lib.hid (HL1.out.no hfx)
  have u0 : w2.cell? ⟨G, 0, none⟩ = some (.int .i64 (q : Int)) := by unfold World.cell?; rw [hgx]; rfl
  have u1 : w2.cell? ⟨G, 1, none⟩ = some (.int .i64 (t : Int)) := by unfold World.cell?; rw [hgx]; rfl
  have u2 : w2.cell? ⟨G, 2, none⟩ = some (.int .i64 2) := by unfold World.cell?; rw [hgx]; rfl
  clear hw2 hG hfx hgx
  go_wp2_with fail
  refine (HRR.out _ HL2.out).mono ?_
  rintro e w3 ⟨rfl, hL3⟩
  simp only
  have HL3 := Lib.hid hL3
  clear hL3
  go_wp2_with fail
  go_ret
  exact ⟨rfl, HL3.out⟩
end Go.Proofs.YtggejecmhfafoaaGreatDoor
namespace Go.Proofs.YtggejecmhfafoaaGreatDoor
open Go.RowKit Go.Maps

theorem own_texts (w : World) (xs : List (List UInt8)) (n : Nat) (hn : xs.length = n) (h : n ≤ 1000) (cs : Array Value) (hcs : cs.toList = svs xs) : (w.alloc (.cells cs 9)).ownsRow w.heap.size 9 1 (.slice (some ⟨w.heap.size, 0, none⟩) n n) n (svs xs) := by
  have hl : (svs xs).length = n := by rw [svs_length, hn]
  refine ⟨by omega, .inr ⟨w.heap.size, n, cs, rfl, Nat.le_refl _, heap_alloc_new w _, Nat.le_refl _, by unfold maxLen; omega, ?_, ?_⟩⟩
  · rw [← Array.length_toList, hcs]; omega
  · rw [hcs, List.take_of_length_le (by omega)]
/-- What List tells, held against a row of texts written out. -/
theorem same_lit {w : World} {B n : Nat} {A : Option Addr} {c : Nat} {xs : List (List UInt8)} (h : w.ownsRow B 9 1 (.slice A n c) n (svs xs)) (hn : xs.length = n) (h1 : n ≤ 1000) (cs : Array Value) (hcs : cs.toList = svs xs) :
    Calls Tryz.prog 30 #[.slice A n c, .slice (some ⟨w.heap.size, 0, none⟩) n n] (w.alloc (.cells cs 9)) fun e w' => e = .returned (.bool true) ∧ Fr No w w' := by
  refine (texts_any (h.alloc _) (own_texts w xs n hn h1 cs hcs) h1 h1).mono ?_
  rintro e w' ⟨rfl, hf⟩
  exact ⟨by simp, (Fr.alloc No w _).no_trans hf⟩
theorem lens_of (S : Ab) (h : (S.fs.all fun f => decide (f.bs.length ≤ 20000)) = true) : ∀ f ∈ S.fs, f.bs.length ≤ 20000 := fun f hf => by
  have h1 := List.all_eq_true.1 h f hf
  simpa using h1
theorem S0_l : ∀ f ∈ S0.fs, f.bs.length ≤ 20000 := lens_of S0 (by decide +kernel)
theorem S1_l : ∀ f ∈ S1.fs, f.bs.length ≤ 20000 := lens_of S1 (by decide +kernel)
theorem S2_l : ∀ f ∈ S2.fs, f.bs.length ≤ 20000 := lens_of S2 (by decide +kernel)
theorem S3_l : ∀ f ∈ S3.fs, f.bs.length ≤ 20000 := lens_of S3 (by decide +kernel)
theorem S4_l : ∀ f ∈ S4.fs, f.bs.length ≤ 20000 := lens_of S4 (by decide +kernel)
theorem sz5 : (⟨#[114, 111, 111, 116, 48]⟩ : ByteArray).size ≤ maxLen := by
  have e : (⟨#[114, 111, 111, 116, 48]⟩ : ByteArray).size = 5 := rfl
  unfold maxLen
  omega
set_option maxHeartbeats 8000000 in
set_option maxRecDepth 100000 in
theorem awake_any (w : World) (ht : Tab w) : Calls Tryz.prog 12 #[] w fun e w' => e = .returned (.bool true) ∧ Below w.heap.size w w' := by
  have HT := Lib.hid ht
  have hnew := lon_new 1000 w (by omega)
  obtain ⟨D, HDD⟩ : ∃ D, Hid (w.heap.size + 1 = D) := ⟨_, rfl⟩
  obtain ⟨M, HMM⟩ : ∃ M, Hid (w.heap.size = M) := ⟨_, rfl⟩
  rw [HDD.out, HMM.out] at hnew
  have K1 := Lib.hid (fun W (h : Lon w D M S0 W) => reads_any h HT.out S0_l S0_rd 0 0 (by decide) rfl rfl)
  have K2 := Lib.hid (fun W (h : Lon w D M S0 W) => writes_any h HT.out S0_l S1_l 5 1 S0_wr rfl rfl rfl S1_rd rfl rfl (by omega))
  have K3 := Lib.hid (fun W (h : Lon w D M S1 W) => lon_list h (n := 1) rfl)
  have K4 := Lib.hid (fun W (h : Lon w D M S1 W) => writes_any h HT.out S1_l S2_l 6 2 S1_wr rfl rfl rfl S2_rd rfl rfl (by omega))
  have K5 := Lib.hid (fun W (h : Lon w D M S2 W) => lon_list h (n := 2) rfl)
  have K6 := Lib.hid (fun W (h : Lon w D M S3 W) => reads_any h HT.out S3_l S3_rd 1 5 (by decide) rfl rfl)
  have K7 := Lib.hid (fun W (h : Lon w D M S3 W) => writes_any h HT.out S3_l S4_l 7 2 S3_wr rfl rfl rfl S4_rd rfl rfl (by omega))
  have HN := Lib.hid hnew
  have kc := fun (W : World) (C : Array Value) (n c : Nat) => Lib.run_convert_bytes_const (P := Tryz.prog) W 28 5 C n c Tryz.underlying28 Tryz.underlying5
  clear hnew ht
  go_enter Tryz.func12, Tryz.ntmps12
  go_wp2_with fail
  refine HN.out.mono ?_
  rintro e w1 ⟨rfl, hl⟩
  have HL1 := Lib.hid hl
  clear hl
  go_wp2_with fail
  refine (K1.out _ HL1.out).mono ?_
  rintro e w2 ⟨rfl, hl⟩
  simp only
  have HL2 := Lib.hid hl
  clear hl
  go_wp2_with fail
  refine (K2.out _ HL2.out).mono ?_
  rintro e w3 ⟨rfl, hl⟩
  simp only
  have HL3 := Lib.hid hl
  clear hl
  go_wp2_with fail
  refine (K3.out _ HL3.out).mono ?_
  rintro e w4 ⟨A4, c4, rfl, ho, hl⟩
  simp only
  have HL4 := Lib.hid hl
  have HO4 := Lib.hid ho
  clear hl ho
  go_wp2_with fail
  refine (same_lit (xs := [[114, 111, 111, 116, 49]]) HO4.out rfl (by omega) #[.string ⟨#[114, 111, 111, 116, 49]⟩] rfl).mono ?_
  rintro e w5 ⟨rfl, hf⟩
  simp only
  have HL5 := Lib.hid (HL4.out.no hf)
  clear hf
  go_wp2_with fail
  refine (K4.out _ HL5.out).mono ?_
  rintro e w6 ⟨rfl, hl⟩
  simp only
  have HL6 := Lib.hid hl
  clear hl
  go_wp2_with fail
  refine (K5.out _ HL6.out).mono ?_
  rintro e w7 ⟨A7, c7, rfl, ho, hl⟩
  simp only
  have HL7 := Lib.hid hl
  have HO7 := Lib.hid ho
  clear hl ho
  go_wp2_with fail
  refine (same_lit (xs := [[114, 111, 111, 116, 48], [114, 111, 111, 116, 49]]) HO7.out rfl (by omega) #[.string ⟨#[114, 111, 111, 116, 48]⟩, .string ⟨#[114, 111, 111, 116, 49]⟩] rfl).mono ?_
  rintro e w8 ⟨rfl, hf⟩
  simp only
  have HL8 := Lib.hid (HL7.out.no hf)
  clear hf
  go_wp2_with fail
  refine (lon_append (HL8.out.no (Fr.alloc No w8 (.cells #[.int .u8 120] 5 (1, 2)))) ⟨#[114, 111, 111, 116, 48]⟩ sz5 _ 1 1 [120] ((Rd.new w8 [120] #[.int .u8 120] rfl (1, 2)).more (by simp)) S2_ap).mono ?_
  rintro e w9 ⟨rfl, hl⟩
  have HL9 := Lib.hid hl
  clear hl
  go_wp2_with fail
  refine (K6.out _ HL9.out).mono ?_
  rintro e w10 ⟨rfl, hl⟩
  simp only
  have HL10 := Lib.hid hl
  clear hl
  go_wp2_with fail
  refine (K7.out _ HL10.out).mono ?_
  rintro e w11 ⟨rfl, hl⟩
  simp only
  have HL11 := Lib.hid hl
  clear hl
  go_wp2_with fail
  go_ret
  exact ⟨rfl, HL11.out.bel⟩
end Go.Proofs.YtggejecmhfafoaaGreatDoor
namespace Go.Proofs.YtggejecmhfafoaaGreatDoor
open Go.RowKit Go.Maps

theorem bytes_lit_eq (l1 l2 : List UInt8) : ((⟨l1.toArray⟩ : ByteArray).toList == (⟨l2.toArray⟩ : ByteArray).toList) = decide (l1 = l2) := by
  rw [ByteArray.toList_mk, ByteArray.toList_mk]
  by_cases h : l1 = l2
  · subst h; simp
  · rw [decide_eq_false h, beq_eq_false_iff_ne]; exact h
set_option maxRecDepth 100000 in
theorem same_bytes {w : World} {A B : Option Addr} {n m : Nat} {l1 l2 : List UInt8} (c d : Nat) (h1 : Rd w w.heap.size A n l1) (h2 : Rd w w.heap.size B m l2) :
    Calls Tryz.prog 22 #[.slice A n c, .slice B m d] w fun e w' => e = .returned (.bool (decide (l1 = l2))) ∧ w' = w := by
  have s1 := str_rule c h1
  have s2 := str_rule d h2
  have hb := bytes_lit_eq l1 l2
  clear h1 h2
  obtain ⟨x, hx⟩ : ∃ x, (⟨l1.toArray⟩ : ByteArray) = x := ⟨_, rfl⟩
  obtain ⟨y, hy⟩ : ∃ y, (⟨l2.toArray⟩ : ByteArray) = y := ⟨_, rfl⟩
  rw [hx] at s1 hb
  rw [hy] at s2 hb
  have HB := Lib.hid hb
  clear hx hy hb
  go_enter Tryz.func22, Tryz.ntmps22
  go_wp2_with fail
  go_ret
  rw [← HB.out]
  exact ⟨rfl, rfl⟩
/-- Two roots as they stand in memory. -/
def eqR (a1 t1 c1 a2 t2 c2 : Int) (l1 l2 : List UInt8) : Bool := decide (a1 = a2 ∧ t1 = t2 ∧ c1 = c2 ∧ l1 = l2)
set_option maxHeartbeats 4000000 in
set_option maxRecDepth 100000 in
theorem same_root {w : World} {A B : Option Addr} {n m : Nat} {l1 l2 : List UInt8} (a1 t1 c1 a2 t2 c2 : Int) (k j : Nat) (h1 : Rd w w.heap.size A n l1) (h2 : Rd w w.heap.size B m l2) :
    Calls Tryz.prog 9 #[.agg #[.int .i64 a1, .int .i64 t1, .int .i64 c1, .slice A n k], .agg #[.int .i64 a2, .int .i64 t2, .int .i64 c2, .slice B m j]] w fun e w' => e = .returned (.bool (eqR a1 t1 c1 a2 t2 c2 l1 l2)) ∧ Below w.heap.size w w' := by
  have hf1 := Fr.alloc No w (.cells #[.int .i64 a1, .int .i64 t1, .int .i64 c1, .slice A n k] 30)
  have hf2 := Fr.alloc No (w.alloc (.cells #[.int .i64 a1, .int .i64 t1, .int .i64 c1, .slice A n k] 30)) (.cells #[.int .i64 a2, .int .i64 t2, .int .i64 c2, .slice B m j] 30)
  have hb1 : ((w.alloc (.cells #[.int .i64 a1, .int .i64 t1, .int .i64 c1, .slice A n k] 30)).alloc (.cells #[.int .i64 a2, .int .i64 t2, .int .i64 c2, .slice B m j] 30)).heap[w.heap.size]? = some (.cells #[.int .i64 a1, .int .i64 t1, .int .i64 c1, .slice A n k] 30 (0, 0)) :=
    (Below.heap_alloc _ _ _ (by simp)).trans (heap_alloc_new w _)
  have hb2 := heap2R w (.cells #[.int .i64 a1, .int .i64 t1, .int .i64 c1, .slice A n k] 30) (.cells #[.int .i64 a2, .int .i64 t2, .int .i64 c2, .slice B m j] 30)
  have hff := hf1.no_trans hf2
  have h1' := rd_offR hff h1 (fun _ _ _ e => e)
  have h2' := rd_offR hff h2 (fun _ _ _ e => e)
  clear hf1 hf2 h1 h2
  go_enter Tryz.func9, Tryz.ntmps9
  go_upto_region 1 with fail
  obtain ⟨w2, hw2⟩ : ∃ u, (w.alloc (.cells #[.int .i64 a1, .int .i64 t1, .int .i64 c1, .slice A n k] 30)).alloc (.cells #[.int .i64 a2, .int .i64 t2, .int .i64 c2, .slice B m j] 30) = u := ⟨_, rfl⟩
  rw [hw2] at hff hb1 hb2 h1' h2' ⊢
  obtain ⟨P, hP⟩ : ∃ P, w.heap.size = P := ⟨_, rfl⟩
  have HF := Lib.hid (show Below w.heap.size w w2 from hff.noBelow)
  rw [hP] at hb1 hb2 ⊢
  obtain ⟨R, hR⟩ : ∃ R, P + 1 = R := ⟨_, rfl⟩
  rw [hR] at hb2 ⊢
  have u0 : w2.cell? ⟨P, 0, none⟩ = some (.int .i64 a1) := by unfold World.cell?; rw [hb1]; rfl
  have u1 : w2.cell? ⟨P, 1, none⟩ = some (.int .i64 t1) := by unfold World.cell?; rw [hb1]; rfl
  have u2 : w2.cell? ⟨P, 2, none⟩ = some (.int .i64 c1) := by unfold World.cell?; rw [hb1]; rfl
  have u3 : w2.cell? ⟨P, 3, none⟩ = some (.slice A n k) := by unfold World.cell?; rw [hb1]; rfl
  have v0 : w2.cell? ⟨R, 0, none⟩ = some (.int .i64 a2) := by unfold World.cell?; rw [hb2]; rfl
  have v1 : w2.cell? ⟨R, 1, none⟩ = some (.int .i64 t2) := by unfold World.cell?; rw [hb2]; rfl
  have v2 : w2.cell? ⟨R, 2, none⟩ = some (.int .i64 c2) := by unfold World.cell?; rw [hb2]; rfl
  have v3 : w2.cell? ⟨R, 3, none⟩ = some (.slice B m j) := by unfold World.cell?; rw [hb2]; rfl
  have HS := Lib.hid (same_bytes k j h1' h2')
  clear hw2 hP hR hb1 hb2 hff h1' h2'
  by_cases e0 : a1 = a2
  · subst e0
    by_cases e1 : t1 = t2
    · subst e1
      by_cases e2 : c1 = c2
      · subst e2
        have HQ := Lib.hid (show decide (l1 = l2) = eqR a1 t1 c1 a1 t1 c1 l1 l2 by unfold eqR; simp)
        go_wp2_with fail
        refine HS.out.mono ?_
        rintro e w3 ⟨rfl, rfl⟩
        simp only
        rw [HQ.out]
        go_wp2_with fail
        go_ret
        exact ⟨rfl, HF.out⟩
      · have hx : (c1 == c2) = false := by rw [beq_eq_false_iff_ne]; exact e2
        have HQ := Lib.hid (show false = eqR a1 t1 c1 a1 t1 c2 l1 l2 by unfold eqR; simp [e2])
        clear e2
        go_wp2_with fail
        go_ret
        rw [← HQ.out]
        exact ⟨rfl, HF.out⟩
    · have hx : (t1 == t2) = false := by rw [beq_eq_false_iff_ne]; exact e1
      have HQ := Lib.hid (show false = eqR a1 t1 c1 a1 t2 c2 l1 l2 by unfold eqR; simp [e1])
      clear e1
      go_wp2_with fail
      go_ret
      rw [← HQ.out]
      exact ⟨rfl, HF.out⟩
  · have hx : (a1 == a2) = false := by rw [beq_eq_false_iff_ne]; exact e0
    have HQ := Lib.hid (show false = eqR a1 t1 c1 a2 t2 c2 l1 l2 by unfold eqR; simp [e0])
    clear e0
    go_wp2_with fail
    go_ret
    rw [← HQ.out]
    exact ⟨rfl, HF.out⟩
end Go.Proofs.YtggejecmhfafoaaGreatDoor
namespace Go.Proofs.YtggejecmhfafoaaGreatDoor
open Go.RowKit Go.Maps

theorem varint_len : ∀ (k n : Nat), n < 128 ^ (k + 1) → (varint n).length ≤ k + 1
  | 0, n, h => by
    rw [varint_small (by simpa using h)]
    simp
  | k + 1, n, h => by
    by_cases hs : n < 128
    · rw [varint_small hs]; simp
    · rw [varint_big hs, List.length_cons]
      have := varint_len k (n / 128) (by rw [Nat.div_lt_iff_lt_mul (by omega), ← Nat.pow_succ]; exact h)
      omega
theorem varint_len9 {n : Nat} (h : n ≤ top) : (varint n).length ≤ 9 := varint_len 8 n (by unfold top at h; omega)
theorem bytes_len (r : Rn) (h : r.right = true) (hl : r.l.length ≤ 10000) : r.l.length ≤ r.bytes.length ∧ r.bytes.length ≤ r.l.length + 100 := by
  obtain ⟨_, h1, h2, h3⟩ := (right_iff r).1 h
  have e1 := varint_len9 h1
  have e2 := varint_len9 h2
  have e3 := varint_len9 h3
  have e4 := varint_len9 (show r.l.length ≤ top by unfold top; omega)
  have e5 : mgc.length = 4 := rfl
  have e6 : ∀ s, (be4 s).length = 4 := fun _ => rfl
  unfold Rn.bytes Rn.body
  simp only [List.length_append, e5, e6]
  omega
/-- What Bytes answers: the bytes, the error. -/
def byR (a t c : Int) (l : List UInt8) : List UInt8 × Int := if rgt a t c = true then (Rn.bytes ⟨a.toNat, t.toNat, c.toNat, l⟩, 0) else ([], 2)
def Byp (w : World) (r : List UInt8 × Int) (e : Ending) (w' : World) : Prop :=
  ∃ A n c, e = .returned (.tuple #[.slice A n c, .int .i64 r.2]) ∧ n ≤ c ∧ Rd w' w'.heap.size A n r.1 ∧ Below w.heap.size w w'
theorem rgt_nat {a t c : Int} (h : rgt a t c = true) : ∃ x y z : Nat, a = (x : Int) ∧ t = (y : Int) ∧ c = (z : Int) ∧ ∀ l, (⟨x, y, z, l⟩ : Rn).right = true := by
  have hrg : 1 ≤ a ∧ a ≤ 9007199254740992 ∧ 0 ≤ t ∧ t ≤ 9007199254740992 ∧ 0 ≤ c ∧ c ≤ 9007199254740992 := by
    unfold rgt at h
    simp only [Bool.and_eq_true, decide_eq_true_eq] at h
    omega
  refine ⟨a.toNat, t.toNat, c.toNat, by omega, by omega, by omega, fun l => (right_iff _).2 ?_⟩
  show 1 ≤ a.toNat ∧ a.toNat ≤ 9007199254740992 ∧ t.toNat ≤ 9007199254740992 ∧ c.toNat ≤ 9007199254740992
  omega
theorem Bytes_any (a t c : Int) (A : Option Addr) (n k : Nat) (l : List UInt8) (w : World) (h : Rd w w.heap.size A n l) (hn : n ≤ 10000) (ht : Tab w) :
    Calls Tryz.prog 19 #[.agg #[.int .i64 a, .int .i64 t, .int .i64 c, .slice A n k]] w (Byp w (byR a t c l)) := by
  cases hg : rgt a t c with
  | false =>
    refine (bytes_bad a t c A n k w hg).mono ?_
    rintro e w' ⟨rfl, hb⟩
    unfold byR
    rw [if_neg (by rw [hg]; simp)]
    exact ⟨none, 0, 0, rfl, Nat.le_refl _, Rd.nil, hb⟩
  | true =>
    unfold byR
    rw [if_pos hg]
    obtain ⟨x, y, z, rfl, rfl, rfl, hr⟩ := rgt_nat hg
    refine (bytes_ok ⟨x, y, z, l⟩ (hr l) A n k w h hn ht).mono ?_
    rintro e w' ⟨v, rfl, v', hv, ho, hb⟩
    injection hv with hv
    subst hv
    obtain ⟨A1, c1, rfl, h1, _⟩ := own_shape ho
    exact ⟨A1, _, c1, rfl, h1, Rd.own ho, hb⟩
theorem byR_bad {a t c : Int} {l : List UInt8} (h : (byR a t c l).2 ≠ 0) : byR a t c l = ([], 2) := by
  unfold byR at h ⊢
  by_cases hg : rgt a t c = true
  · rw [if_pos hg] at h; exact absurd rfl h
  · rw [if_neg hg]
/-- A right root's bytes are read as that root. -/
theorem byR_prs {a t c : Int} {l : List UInt8} (h : (byR a t c l).2 = 0) (hl : l.length ≤ 10000) : ∃ r : Rn, prs (byR a t c l).1 = (r, 0) ∧ (byR a t c l).1 = r.bytes ∧ r.right = true ∧ (r.s : Int) = a ∧ (r.t : Int) = t ∧ (r.c : Int) = c ∧ r.l = l := by
  unfold byR at h ⊢
  by_cases hg : rgt a t c = true
  · rw [if_pos hg]
    obtain ⟨x, y, z, rfl, rfl, rfl, hr⟩ := rgt_nat hg
    exact ⟨⟨x, y, z, l⟩, prs_bytes _ (hr l) (by show l.length ≤ _; omega), rfl, hr l, rfl, rfl, rfl, rfl⟩
  · rw [if_neg hg] at h; simp at h
theorem byR_len {a t c : Int} {l : List UInt8} (hl : l.length ≤ 10000) : (byR a t c l).1.length ≤ 10100 := by
  by_cases h : (byR a t c l).2 = 0
  · obtain ⟨r, _, e, hr, _, _, _, hl2⟩ := byR_prs h hl
    rw [e]
    have := (bytes_len r hr (by rw [hl2]; exact hl)).2
    rw [hl2] at this
    omega
  · rw [byR_bad h]
    simp
/-- Two right roots are alike where their bytes are. -/
theorem byR_same {a t c a' t' c' : Int} {l l' : List UInt8} (h : (byR a t c l).2 = 0) (h' : (byR a' t' c' l').2 = 0) (hl : l.length ≤ 10000) (hl' : l'.length ≤ 10000) : eqR a t c a' t' c' l l' = decide ((byR a t c l).1 = (byR a' t' c' l').1) := by
  obtain ⟨r, p1, e1, g1, rfl, rfl, rfl, rfl⟩ := byR_prs h hl
  obtain ⟨q, p2, e2, g2, rfl, rfl, rfl, rfl⟩ := byR_prs h' hl'
  rw [e1, e2]
  unfold eqR
  rw [decide_eq_decide]
  constructor
  · rintro ⟨h1, h2, h3, h4⟩
    have : r = q := by
      cases r; cases q
      simp only [Int.natCast_inj] at h1 h2 h3
      simp only at h4
      subst h1 h2 h3 h4
      rfl
    rw [this]
  · intro h
    have := bytes_inj g1 (by omega) g2 (by omega) h
    subst this
    exact ⟨rfl, rfl, rfl, rfl⟩
/-- Bytes that are parsed well are that root's. -/
theorem prs_byR {l : List UInt8} {r : Rn} (h : prs l = (r, 0)) (hl : l.length ≤ 1000) : byR r.s r.t r.c r.l = (l, 0) ∧ r.l.length ≤ 1000 := by
  obtain ⟨h1, h2, h3⟩ := prs_tells l r h
  unfold byR
  rw [if_pos (by rw [rgt_right]; exact h1)]
  refine ⟨by rw [h3]; rfl, ?_⟩
  have h4 : r.l.length ≤ r.bytes.length := by
    unfold Rn.bytes Rn.body
    simp only [List.length_append]
    omega
  rw [← h3] at h4
  omega
end Go.Proofs.YtggejecmhfafoaaGreatDoor
namespace Go.Proofs.YtggejecmhfafoaaGreatDoor
open Go.RowKit Go.Maps

def nm0 : List UInt8 := [114, 111, 111, 116, 48]
def nm1 : List UInt8 := [114, 111, 111, 116, 49]
/-- A disk with room for a million bytes, and its files. -/
def dk (fs : List Af) : Ab := ⟨false, false, 0, 1048576, fs⟩
def fl (nm b : List UInt8) : Af := ⟨nm, b, b.length⟩
theorem dk_fl (fs : List Af) : ¬ ((dk fs).fl = true) := by show ¬ (false = true); decide
theorem dk_fails (fs : List Af) : ¬ ((dk fs).fails = true) := by unfold Ab.fails dk; simp
theorem rm_none {fs : List Af} (h : afnd nmN fs = none) : rmA (dk fs) nmN = (0, dk fs) := by
  have he : (dk fs).err nmN = 13 := by
    unfold Ab.err dk
    simp only
    rw [h]
    rfl
  have hr : (dk fs).remove nmN = (13, dk fs) := by
    unfold Ab.remove
    rw [if_pos (by rw [he]; decide), he]
  unfold rmA
  rw [hr, if_pos rfl]
/-- The four steps of writing a file, one by one. -/
theorem wf_well {fs f2 f3 f4 : List Af} {nm b : List UInt8} (h0 : afnd nmN fs = none) (hfit : (dk fs).fits nmN b.length = true) (h2 : aput ⟨nmN, [] ++ b, 0⟩ fs = f2) (h3 : aput ⟨nmN, b, b.length⟩ f2 = f3) (hf2 : (afnd nmN f2) = some ⟨nmN, b, 0⟩) (hf3 : afnd nmN f3 = some ⟨nmN, b, b.length⟩) (hn : isNm nm = true) (h4 : aput ⟨nm, b, b.length⟩ (adel nmN f3) = f4) :
    wfA nm b (dk fs) 4 = (0, dk f4) := by
  have e1 : wfA nm b (dk fs) 1 = (0, dk fs) := by
    show (if ((0 : Int), dk fs).1 ≠ 0 then _ else rmA (dk fs) nmN) = _
    rw [if_neg (by simp), rm_none h0]
  have e2 : wfA nm b (dk fs) 2 = (0, dk f2) := by
    show (if (wfA nm b (dk fs) 1).1 ≠ 0 then _ else (wfA nm b (dk fs) 1).2.append nmN b) = _
    rw [e1, if_neg (by simp)]
    show (dk fs).append nmN b = _
    unfold Ab.append
    have hold : aold nmN (dk fs).fs = ⟨nmN, [], 0⟩ := by
      show aold nmN fs = _
      unfold aold
      rw [h0]
      rfl
    rw [if_neg (dk_fl fs), if_neg (by decide), if_neg (by rw [hfit]; simp), if_neg (dk_fails fs), hold]
    show ((0 : Int), dk (aput ⟨nmN, [] ++ b, 0⟩ fs)) = _
    rw [h2]
  have e3 : wfA nm b (dk fs) 3 = (0, dk f3) := by
    show (if (wfA nm b (dk fs) 2).1 ≠ 0 then _ else (wfA nm b (dk fs) 2).2.sync nmN) = _
    rw [e2, if_neg (by simp)]
    show (dk f2).sync nmN = _
    have he : (dk f2).err nmN = 0 := by unfold Ab.err dk; simp only; rw [hf2]; rfl
    have hold : aold nmN (dk f2).fs = ⟨nmN, b, 0⟩ := by show aold nmN f2 = _; unfold aold; rw [hf2]; rfl
    unfold Ab.sync
    rw [if_neg (by rw [he]; simp), if_neg (dk_fails f2), hold]
    show ((0 : Int), dk (aput ⟨nmN, b, b.length⟩ f2)) = _
    rw [h3]
  show (if (wfA nm b (dk fs) 3).1 ≠ 0 then _ else (wfA nm b (dk fs) 3).2.rename nmN nm) = _
  rw [e3, if_neg (by simp)]
  show (dk f3).rename nmN nm = _
  have he : (dk f3).err nmN = 0 := by unfold Ab.err dk; simp only; rw [hf3]; rfl
  have hold : aold nmN (dk f3).fs = ⟨nmN, b, b.length⟩ := by show aold nmN f3 = _; unfold aold; rw [hf3]; rfl
  unfold Ab.rename
  rw [if_neg (by rw [he]; simp), if_neg (by rw [hn]; simp), if_neg (dk_fails f3), hold]
  show ((0 : Int), dk (aput ⟨nm, b, b.length⟩ (adel nmN f3))) = _
  rw [h4]
theorem fits_of {fs : List Af} {n : Nat} (h1 : aused fs + n ≤ 1048576) (h2 : fs.length < 200) (nm : List UInt8) : (dk fs).fits nm n = true := by
  unfold Ab.fits dk
  simp only [Bool.and_eq_true, Bool.or_eq_true, decide_eq_true_eq]
  exact ⟨h1, .inr h2⟩
theorem wf_0 (b : List UInt8) (h : b.length ≤ 1000) : wfA nm1 b (dk []) 4 = (0, dk [fl nm1 b]) :=
  wf_well (f2 := [⟨nmN, b, 0⟩]) (f3 := [⟨nmN, b, b.length⟩]) rfl (fits_of (by show 0 + b.length ≤ _; omega) (by decide) _) rfl rfl rfl rfl (by decide) rfl
theorem wf_1 (b1 b : List UInt8) (h1 : b1.length ≤ 1000) (h : b.length ≤ 1000) : wfA nm0 b (dk [fl nm1 b1]) 4 = (0, dk [fl nm0 b, fl nm1 b1]) :=
  wf_well (f2 := [⟨nmN, b, 0⟩, fl nm1 b1]) (f3 := [⟨nmN, b, b.length⟩, fl nm1 b1]) rfl (fits_of (by show b1.length + 0 + b.length ≤ _; omega) (by simp) _) rfl rfl rfl rfl (by decide) rfl
theorem wf_20 (b0 b1 b : List UInt8) (h0 : b0.length ≤ 1000) (h1 : b1.length ≤ 1000) (h : b.length ≤ 1000) : wfA nm0 b (dk [fl nm0 b0, fl nm1 b1]) 4 = (0, dk [fl nm0 b, fl nm1 b1]) :=
  wf_well (f2 := [⟨nmN, b, 0⟩, fl nm0 b0, fl nm1 b1]) (f3 := [⟨nmN, b, b.length⟩, fl nm0 b0, fl nm1 b1]) rfl (fits_of (by show b0.length + (b1.length + 0) + b.length ≤ _; omega) (by simp) _) rfl rfl rfl rfl (by decide) rfl
theorem wf_21 (b0 b1 b : List UInt8) (h0 : b0.length ≤ 1000) (h1 : b1.length ≤ 1000) (h : b.length ≤ 1000) : wfA nm1 b (dk [fl nm0 b0, fl nm1 b1]) 4 = (0, dk [fl nm0 b0, fl nm1 b]) :=
  wf_well (f2 := [⟨nmN, b, 0⟩, fl nm0 b0, fl nm1 b1]) (f3 := [⟨nmN, b, b.length⟩, fl nm0 b0, fl nm1 b1]) rfl (fits_of (by show b0.length + (b1.length + 0) + b.length ≤ _; omega) (by simp) _) rfl rfl rfl rfl (by decide) rfl
/-- A root that was written: right, of a short blob. -/
def Okr (r : Rn) : Prop := r.right = true ∧ r.l.length ≤ 100
theorem Okr.len {r : Rn} (h : Okr r) : r.bytes.length ≤ 1000 := by
  have := (bytes_len r h.1 (by have := h.2; omega)).2
  have := h.2
  omega
theorem Okr.prs {r : Rn} (h : Okr r) : prs r.bytes = (r, 0) := prs_bytes r h.1 (by have := h.2; omega)
/-- What a disk holds after n roots, and the one that counts. -/
inductive Turn : Nat → Rn → List Af → Prop
  | zero : Turn 0 Rn.zero []
  | one (r : Rn) : Okr r → r.s = 1 → Turn 1 r [fl nm1 r.bytes]
  | even (n : Nat) (r q : Rn) : Okr r → Okr q → 2 ≤ n → n % 2 = 0 → r.s = n → q.s + 1 = n → Turn n r [fl nm0 r.bytes, fl nm1 q.bytes]
  | odd (n : Nat) (r q : Rn) : Okr r → Okr q → 2 ≤ n → n % 2 = 1 → r.s = n → q.s + 1 = n → Turn n r [fl nm0 q.bytes, fl nm1 r.bytes]
theorem rf_dk {fs : List Af} {d : Nat} {r : Rn} {nm : List UInt8} (hd : nmR d = nm) (hf : afnd nm fs = some (fl nm r.bytes)) (h : Okr r) (hr : r.s % 2 = d) : rfA (dk fs) d = (r, 0) :=
  rfA_root (b := r.bytes) (by rw [hd]; unfold Ab.err dk; simp only; rw [hf]; rfl) (by rw [hd]; show (aold nm fs).bs = _; unfold aold; rw [hf]; rfl) h.prs hr
theorem rf_none {fs : List Af} {d : Nat} {nm : List UInt8} (hd : nmR d = nm) (hf : afnd nm fs = none) : rfA (dk fs) d = (Rn.zero, 0) :=
  rfA_none (by rw [hd]; unfold Ab.err dk; simp only; rw [hf]; rfl)
/-- The root that counts is read. -/
theorem Turn.rd {n : Nat} {r : Rn} {fs : List Af} (h : Turn n r fs) : rdA (dk fs) = (r, decide (0 < n), 0) := by
  cases h with
  | zero => exact rdA_both (x := Rn.zero) (y := Rn.zero) (rf_none nmR0 rfl) (rf_none nmR1 rfl)
  | one _ h hs =>
    rw [rdA_both (x := Rn.zero) (y := r) (rf_none nmR0 rfl) (rf_dk nmR1 rfl h (by rw [hs]))]
    have e : pickR (pickR Rn.zero Rn.zero) r = r := by
      show (if (pickR Rn.zero Rn.zero).s < r.s then r else _) = r
      rw [if_pos (by rw [hs]; decide)]
    rw [e, hs]
  | even _ _ q h hq h2 hm hs hqs =>
    rw [rdA_both (x := r) (y := q) (rf_dk nmR0 rfl h (by rw [hs]; exact hm)) (rf_dk nmR1 rfl hq (by omega))]
    have e : pickR (pickR Rn.zero r) q = r := by
      have e0 : pickR Rn.zero r = r := by show (if 0 < r.s then r else _) = r; rw [if_pos (by omega)]
      rw [e0]
      show (if r.s < q.s then q else r) = r
      rw [if_neg (by omega)]
    rw [e, hs]
  | odd _ _ q h hq h2 hm hs hqs =>
    rw [rdA_both (x := q) (y := r) (rf_dk nmR0 rfl hq (by omega)) (rf_dk nmR1 rfl h (by rw [hs]; exact hm))]
    have e : pickR (pickR Rn.zero q) r = r := by
      have e0 : pickR Rn.zero q = q := by show (if 0 < q.s then q else _) = q; rw [if_pos (by omega)]
      rw [e0]
      show (if q.s < r.s then r else q) = r
      rw [if_pos (by omega)]
    rw [e, hs]
theorem Turn.serial {n : Nat} {r : Rn} {fs : List Af} (h : Turn n r fs) : r.s = n := by
  cases h with
  | zero => rfl
  | one _ h hs => exact hs
  | even _ _ q h hq h2 hm hs hqs => exact hs
  | odd _ _ q h hq h2 hm hs hqs => exact hs
/-- What Read tells of a file. -/
def rdF (fs : List Af) (nm : List UInt8) : List UInt8 × Int := match afnd nm fs with
  | none => ([], 13)
  | some f => (f.bs, 0)
theorem Turn.len {n : Nat} {r : Rn} {fs : List Af} (h : Turn n r fs) : fs.length = min n 2 := by
  cases h with
  | zero => rfl
  | one _ h hs => rfl
  | even _ _ q h hq h2 hm hs hqs => show 2 = _; omega
  | odd _ _ q h hq h2 hm hs hqs => show 2 = _; omega
theorem Turn.lens {n : Nat} {r : Rn} {fs : List Af} (h : Turn n r fs) : ∀ f ∈ (dk fs).fs, f.bs.length ≤ 20000 := by
  intro f hf
  have hf : f ∈ fs := hf
  cases h with
  | zero => cases hf
  | one _ h hs =>
    simp only [List.mem_cons, List.not_mem_nil, or_false] at hf
    subst hf
    have := h.len
    show r.bytes.length ≤ _
    omega
  | even _ _ q h hq h2 hm hs hqs =>
    have := h.len
    have := hq.len
    simp only [List.mem_cons, List.not_mem_nil, or_false] at hf
    rcases hf with rfl | rfl
    · show r.bytes.length ≤ _
      omega
    · show q.bytes.length ≤ _
      omega
  | odd _ _ q h hq h2 hm hs hqs =>
    have := h.len
    have := hq.len
    simp only [List.mem_cons, List.not_mem_nil, or_false] at hf
    rcases hf with rfl | rfl
    · show q.bytes.length ≤ _
      omega
    · show r.bytes.length ≤ _
      omega
/-- The next root is written into the other file. -/
theorem Turn.wf {n : Nat} {r : Rn} {fs : List Af} (h : Turn n r fs) {q : Rn} (hq : Okr q) (hs : q.s = n + 1) : ∃ fs', wfA (nmR (q.s % 2)) q.bytes (dk fs) 4 = (0, dk fs') ∧ Turn (n + 1) q fs' ∧ rdF fs' (nmR (n % 2)) = rdF fs (nmR (n % 2)) := by
  cases h with
  | zero =>
    rw [hs, nmR1]
    exact ⟨_, wf_0 _ hq.len, .one q hq hs, rfl⟩
  | one _ h h1 =>
    rw [hs, nmR0]
    exact ⟨_, wf_1 _ _ h.len hq.len, .even _ q r hq h (by omega) (by omega) hs (by omega), rfl⟩
  | even _ _ p h hp h2 hm h1 hps =>
    rw [show q.s % 2 = 1 by omega, nmR1]
    exact ⟨_, wf_21 _ _ _ h.len hp.len hq.len, .odd _ q r hq h (by omega) (by omega) hs (by omega), by rw [hm]; rfl⟩
  | odd _ _ p h hp h2 hm h1 hps =>
    rw [show q.s % 2 = 0 by omega, nmR0]
    exact ⟨_, wf_20 _ _ _ hp.len h.len hq.len, .even _ q r hq h (by omega) (by omega) hs (by omega), by rw [hm]; rfl⟩
/-- What Write does in its turn. -/
theorem Turn.wr {n : Nat} {r : Rn} {fs : List Af} (h : Turn n r fs) (t c : Int) (l : List UInt8) (hl : l.length ≤ 100) :
    (wrA (dk fs) t c l = ((Rn.zero, 2), dk fs)) ∨ ∃ q fs', wrA (dk fs) t c l = ((q, 0), dk fs') ∧ Turn (n + 1) q fs' ∧ q.s = n + 1 ∧ rdF fs' (nmR (n % 2)) = rdF fs (nmR (n % 2)) := by
  unfold wrA
  rw [h.rd]
  simp only [h.serial]
  rw [if_neg (by simp)]
  by_cases hg : rgt ((n + 1 : Nat) : Int) t c = false
  · left
    rw [if_pos hg]
  · right
    rw [if_neg hg]
    obtain ⟨x, y, z, hx, rfl, rfl, hr⟩ := rgt_nat (by simpa using hg : rgt ((n + 1 : Nat) : Int) t c = true)
    obtain rfl : n + 1 = x := by omega
    simp only [Int.toNat_natCast]
    obtain ⟨fs', hw, ht, hk⟩ := h.wf (q := ⟨n + 1, y, z, l⟩) ⟨hr l, hl⟩ rfl
    have hw' : wfA (nmR ((n + 1) % 2)) (Rn.bytes ⟨n + 1, y, z, l⟩) (dk fs) 4 = (0, dk fs') := hw
    rw [hw']
    exact ⟨_, fs', by simp, ht, rfl, hk⟩
end Go.Proofs.YtggejecmhfafoaaGreatDoor
namespace Go.Proofs.YtggejecmhfafoaaGreatDoor
open Go.RowKit

/-- A slice of n things of so many cells each: at each place what At says. -/
def RowOf {α : Type} (W : World) (size : Nat) (At : Addr → α → Prop) (A : Option Addr) (n : Nat) (xs : List α) : Prop :=
  xs.length = n ∧ (0 < n → ∃ b o, A = some ⟨b, o, none⟩ ∧ b < W.heap.size ∧ ∀ j (h : j < xs.length), At ⟨b, o + j * size, none⟩ xs[j])
/-- A slice of bytes, as it stands in a cell. -/
structure Sb where
  A : Option Addr
  n : Nat
  c : Nat
  l : List UInt8
def BsAt (W : World) (a : Addr) (x : Sb) : Prop := W.cell? a = some (.slice x.A x.n x.c) ∧ Rd W W.heap.size x.A x.n x.l
end Go.Proofs.YtggejecmhfafoaaGreatDoor
namespace Go.Proofs.YtggejecmhfafoaaGreatDoor
open Go.RowKit Go.Maps

theorem dk_fs {s : St} {fs : List Af} (ha : s.ab = dk fs) : s.fl = false ∧ s.fs.map Fl.ab = fs := by
  have e1 : s.ab.fl = false := by rw [ha]; rfl
  have e2 : s.ab.fs = fs := by rw [ha]; rfl
  exact ⟨e1, e2⟩
theorem rdk {w : World} {D M : Nat} {s : St} {fs : List Af} (h : Dsk w D M s) (ha : s.ab = dk fs) (nm : ByteArray) (hs : nm.size ≤ maxLen) :
    Calls Tryz.prog 50 #[.pointer (some ⟨D, 0, none⟩), .string nm] w fun e w' => ∃ A n c, e = .returned (.tuple #[.slice A n c, .int .i64 (rdF fs nm.data.toList).2]) ∧ Rd w' w'.heap.size A n (rdF fs nm.data.toList).1 ∧ (∀ a, A = some a → w.heap.size ≤ a.block) ∧ Fr No w w' := by
  obtain ⟨hfl, hfs⟩ := dk_fs ha
  cases hf : fnd nm.data.toList s.fs with
  | none =>
    have he : s.err nm.data.toList = 13 := by unfold St.err; rw [hfl, hf]; rfl
    have hr : rdF fs nm.data.toList = ([], 13) := by unfold rdF; rw [← hfs, fnd_ab, hf]; rfl
    refine (read_bad h nm hs (by rw [he]; decide)).mono ?_
    rintro e w' ⟨rfl, hF⟩
    rw [hr, he]
    exact ⟨none, 0, 0, rfl, Rd.nil, (fun _ h => by cases h), hF⟩
  | some f =>
    have hr : rdF fs nm.data.toList = (f.bs, 0) := by unfold rdF; rw [← hfs, fnd_ab, hf]; rfl
    refine (read_ok h nm hs hfl f hf).mono ?_
    rintro e w' ⟨v, rfl, ho, hF⟩
    rw [hr]
    obtain ⟨A, c, rfl, _, _⟩ := own_shape ho
    exact ⟨A, _, c, rfl, Rd.own ho, (fun a ha => by subst ha; exact (ho.lt a.block rfl).1), hF⟩
theorem listk {w : World} {D M : Nat} {s : St} {fs : List Af} (h : Dsk w D M s) (ha : s.ab = dk fs) :
    Calls Tryz.prog 23 #[.pointer (some ⟨D, 0, none⟩)] w fun e w' => ∃ A c, e = .returned (.slice A fs.length c) ∧ Fr No w w' := by
  obtain ⟨_, hfs⟩ := dk_fs ha
  refine (list_any h).mono ?_
  rintro e w' ⟨v, rfl, ho, hF⟩
  have e : s.fs.length = fs.length := by rw [← hfs, List.length_map]
  rw [e] at ho
  obtain ⟨A, c, rfl, _, _⟩ := own_shape ho
  exact ⟨A, c, rfl, hF⟩
/-- A root as it stands in a cell row. -/
structure Rc where
  s : Int
  t : Int
  c : Int
  A : Option Addr
  n : Nat
  k : Nat
  l : List UInt8
def RtAt (W : World) (a : Addr) (x : Rc) : Prop :=
  W.cell? a = some (.int .i64 x.s) ∧ W.cell? (a.add 1) = some (.int .i64 x.t) ∧ W.cell? (a.add 2) = some (.int .i64 x.c) ∧ W.cell? (a.add 3) = some (.slice x.A x.n x.k) ∧ Rd W W.heap.size x.A x.n x.l
/-- Where a disk, and a row of the law's own beside it, stand since w. -/
def Lor (w : World) (D M N : Nat) (o : Obj) (s : St) (W : World) : Prop := Dsk W D M s ∧ (∀ k, foot D M s.fs k → w.heap.size ≤ k) ∧ Below w.heap.size w W ∧ W.heap[N]? = some o ∧ ¬ foot D M s.fs N
theorem Lor.no {w W W' : World} {D M N : Nat} {o : Obj} {s : St} (h : Lor w D M N o s W) (hf : Fr No W W') : Lor w D M N o s W' := by
  obtain ⟨hd, hF, hb, hN, hn⟩ := h
  exact ⟨hd.no hf, hF, hb.trans (hf.noBelow.mono hb.size), (hf.block N (Array.getElem?_eq_some_iff.1 hN).1 (fun e => e)).trans hN, hn⟩
theorem Lor.call {w W W' : World} {D M N : Nat} {o : Obj} {s s' : St} (h : Lor w D M N o s W) (hx : Nx D M W s W' s') : Lor w D M N o s' W' := by
  obtain ⟨hd, hF, hb, hN, hn⟩ := h
  have hl := (Array.getElem?_eq_some_iff.1 hN).1
  refine ⟨hx.1, fun k hk => ?_, hb.trans (hx.2.1.below hb.size hF), (hx.2.1.block N hl hn).trans hN, fun hk => ?_⟩
  · rcases hx.2.2 k hk with e | e
    · exact hF k e
    · have := hb.size; omega
  · rcases hx.2.2 N hk with e | e
    · exact hn e
    · omega
end Go.Proofs.YtggejecmhfafoaaGreatDoor
namespace Go.Proofs.YtggejecmhfafoaaGreatDoor
open Go.RowKit Go.Maps

/-- A disk whose power is there, bound to fail or not; one without power. -/
def sw (bd : Bool) (lf : Nat) (fs : List Af) : Ab := ⟨false, bd, lf, 1048576, fs⟩
def dead (fs : List Af) : Ab := ⟨true, false, 0, 1048576, fs⟩
/-- The files of T, and perhaps one that was not given its name. -/
def Lft (fs T : List Af) : Prop := fs = T ∨ ∃ x m, fs = ⟨nmN, x, m⟩ :: T ∧ x.length ≤ 1000 ∧ m ≤ x.length
structure Bs (T : List Af) : Prop where
  none : afnd nmN T = none
  ins : ∀ b m, ains ⟨nmN, b, m⟩ T = ⟨nmN, b, m⟩ :: T
  del : adel nmN T = T
  used : aused T ≤ 3000
  len : T.length ≤ 2
  firm : ∀ f ∈ T, f.fm = f.bs.length
theorem Turn.bs {n : Nat} {r : Rn} {T : List Af} (h : Turn n r T) : Bs T := by
  cases h with
  | zero => exact ⟨rfl, fun _ _ => rfl, rfl, by decide, by decide, fun f hf => by cases hf⟩
  | one _ h hs =>
    have := h.len
    exact ⟨rfl, fun _ _ => rfl, rfl, by show r.bytes.length + 0 ≤ _; omega, by simp, fun f hf => by simp at hf; subst hf; rfl⟩
  | even _ _ q h hq h2 hm hs hqs =>
    have := h.len
    have := hq.len
    exact ⟨rfl, fun _ _ => rfl, rfl, by show r.bytes.length + (q.bytes.length + 0) ≤ _; omega, by simp, fun f hf => by simp at hf; rcases hf with rfl | rfl <;> rfl⟩
  | odd _ _ q h hq h2 hm hs hqs =>
    have := h.len
    have := hq.len
    exact ⟨rfl, fun _ _ => rfl, rfl, by show q.bytes.length + (r.bytes.length + 0) ≤ _; omega, by simp, fun f hf => by simp at hf; rcases hf with rfl | rfl <;> rfl⟩
section
variable {bd : Bool} {lf : Nat} {fs T : List Af} {nm b x : List UInt8} {m : Nat}
theorem sw_step (h : (sw bd lf fs).fails = false) : ∃ lf', (sw bd lf fs).step = sw bd lf' fs := by
  unfold Ab.fails sw at h
  unfold Ab.step sw
  cases bd with
  | false => exact ⟨lf, rfl⟩
  | true =>
    have h0 : ¬ lf = 0 := fun e => by rw [e] at h; simp at h
    exact ⟨lf - 1, by simp [h0]⟩
theorem sw_dies (h : (sw bd lf fs).fails = true) : (sw bd lf fs).step = dead fs := by
  unfold Ab.fails sw at h
  unfold Ab.step sw dead
  cases bd with
  | false => simp at h
  | true =>
    have h0 : lf = 0 := by simpa using h
    simp [h0]
theorem del_cons (hB : Bs T) : adel nmN (⟨nmN, x, m⟩ :: T) = T := by
  have : adel nmN (⟨nmN, x, m⟩ :: T) = adel nmN T := by
    unfold adel
    rw [List.filter_cons]
    simp
  rw [this, hB.del]
theorem fnd_cons : afnd nmN (⟨nmN, x, m⟩ :: T) = some ⟨nmN, x, m⟩ := by
  unfold afnd
  rw [List.find?_cons]
  simp
theorem put_cons (hB : Bs T) : aput ⟨nmN, b, lf⟩ (⟨nmN, x, m⟩ :: T) = ⟨nmN, b, lf⟩ :: T := by
  show ains _ (adel nmN _) = _
  rw [del_cons hB, hB.ins]
theorem put_new (hB : Bs T) : aput ⟨nmN, b, lf⟩ T = ⟨nmN, b, lf⟩ :: T := by
  show ains _ (adel nmN _) = _
  rw [hB.del, hB.ins]
/-- The first step: a file that was not given its name goes. -/
theorem sw_rm (hB : Bs T) (hL : Lft fs T) : (∃ lf', rmA (sw bd lf fs) nmN = (0, sw bd lf' T)) ∨ (rmA (sw bd lf fs) nmN = (15, dead fs)) := by
  rcases hL with rfl | ⟨x, m, rfl, _, _⟩
  · left
    refine ⟨lf, ?_⟩
    have he : (sw bd lf fs).err nmN = 13 := by unfold Ab.err sw; simp only; rw [hB.none]; rfl
    have hr : (sw bd lf fs).remove nmN = (13, sw bd lf fs) := by unfold Ab.remove; rw [if_pos (by rw [he]; decide), he]
    unfold rmA
    rw [hr, if_pos rfl]
  · have he : (sw bd lf (⟨nmN, x, m⟩ :: T)).err nmN = 0 := by unfold Ab.err sw; simp only; rw [fnd_cons]; rfl
    cases hf : (sw bd lf (⟨nmN, x, m⟩ :: T)).fails with
    | true =>
      right
      have hr : (sw bd lf (⟨nmN, x, m⟩ :: T)).remove nmN = (15, dead (⟨nmN, x, m⟩ :: T)) := by
        unfold Ab.remove
        rw [if_neg (by rw [he]; decide), if_pos hf, sw_dies hf]
      unfold rmA
      rw [hr, if_neg (by simp)]
    | false =>
      left
      obtain ⟨lf', hs⟩ := sw_step hf
      refine ⟨lf', ?_⟩
      have hr : (sw bd lf (⟨nmN, x, m⟩ :: T)).remove nmN = (0, sw bd lf' T) := by
        unfold Ab.remove
        rw [if_neg (by rw [he]; decide), if_neg (by rw [hf]; decide), hs]
        show ((0 : Int), sw bd lf' (adel nmN (⟨nmN, x, m⟩ :: T))) = _
        rw [del_cons hB]
      unfold rmA
      rw [hr, if_neg (by simp)]
theorem sw_ap (hB : Bs T) (hb : b.length ≤ 1000) : (∃ lf', (sw bd lf T).append nmN b = (0, sw bd lf' (⟨nmN, b, 0⟩ :: T))) ∨ ((sw bd lf T).append nmN b = (15, dead T)) := by
  have hfit : (sw bd lf T).fits nmN b.length = true := by
    unfold Ab.fits sw
    simp only [Bool.and_eq_true, Bool.or_eq_true, decide_eq_true_eq]
    have := hB.used
    have := hB.len
    exact ⟨by omega, .inr (by omega)⟩
  have hnm : isNm nmN = true := by decide
  have hold : aold nmN T = ⟨nmN, [], 0⟩ := by unfold aold; rw [hB.none]; rfl
  cases hf : (sw bd lf T).fails with
  | true =>
    right
    unfold Ab.append
    rw [if_neg (by show ¬ (false = true); decide), if_neg (by rw [hnm]; decide), if_neg (by rw [hfit]; decide), if_pos hf, sw_dies hf]
  | false =>
    left
    obtain ⟨lf', hs⟩ := sw_step hf
    refine ⟨lf', ?_⟩
    unfold Ab.append
    rw [if_neg (by show ¬ (false = true); decide), if_neg (by rw [hnm]; decide), if_neg (by rw [hfit]; decide), if_neg (by rw [hf]; decide), hs]
    show ((0 : Int), sw bd lf' (aput ⟨nmN, (aold nmN T).bs ++ b, (aold nmN T).fm⟩ T)) = _
    rw [hold, put_new hB]
    rfl
theorem sw_sy (hB : Bs T) : (∃ lf', (sw bd lf (⟨nmN, b, 0⟩ :: T)).sync nmN = (0, sw bd lf' (⟨nmN, b, b.length⟩ :: T))) ∨ ((sw bd lf (⟨nmN, b, 0⟩ :: T)).sync nmN = (15, dead (⟨nmN, b, 0⟩ :: T))) := by
  have he : (sw bd lf (⟨nmN, b, 0⟩ :: T)).err nmN = 0 := by unfold Ab.err sw; simp only; rw [fnd_cons]; rfl
  have hold : aold nmN (⟨nmN, b, 0⟩ :: T) = ⟨nmN, b, 0⟩ := by unfold aold; rw [fnd_cons]; rfl
  cases hf : (sw bd lf (⟨nmN, b, 0⟩ :: T)).fails with
  | true =>
    right
    unfold Ab.sync
    rw [if_neg (by rw [he]; decide), if_pos hf, sw_dies hf]
  | false =>
    left
    obtain ⟨lf', hs⟩ := sw_step hf
    refine ⟨lf', ?_⟩
    unfold Ab.sync
    rw [if_neg (by rw [he]; decide), if_neg (by rw [hf]; decide), hs]
    show ((0 : Int), sw bd lf' (aput ⟨nmN, (aold nmN (⟨nmN, b, 0⟩ :: T)).bs, (aold nmN (⟨nmN, b, 0⟩ :: T)).bs.length⟩ (⟨nmN, b, 0⟩ :: T))) = _
    rw [hold, put_cons hB]
theorem sw_rn (hB : Bs T) (hn : isNm nm = true) : (∃ lf', (sw bd lf (⟨nmN, b, b.length⟩ :: T)).rename nmN nm = (0, sw bd lf' (aput ⟨nm, b, b.length⟩ T))) ∨ ((sw bd lf (⟨nmN, b, b.length⟩ :: T)).rename nmN nm = (15, dead (⟨nmN, b, b.length⟩ :: T))) := by
  have he : (sw bd lf (⟨nmN, b, b.length⟩ :: T)).err nmN = 0 := by unfold Ab.err sw; simp only; rw [fnd_cons]; rfl
  have hold : aold nmN (⟨nmN, b, b.length⟩ :: T) = ⟨nmN, b, b.length⟩ := by unfold aold; rw [fnd_cons]; rfl
  cases hf : (sw bd lf (⟨nmN, b, b.length⟩ :: T)).fails with
  | true =>
    right
    unfold Ab.rename
    rw [if_neg (by rw [he]; decide), if_neg (by rw [hn]; decide), if_pos hf, sw_dies hf]
  | false =>
    left
    obtain ⟨lf', hs⟩ := sw_step hf
    refine ⟨lf', ?_⟩
    unfold Ab.rename
    rw [if_neg (by rw [he]; decide), if_neg (by rw [hn]; decide), if_neg (by rw [hf]; decide), hs]
    show ((0 : Int), sw bd lf' (aput ⟨nm, (aold nmN (⟨nmN, b, b.length⟩ :: T)).bs, (aold nmN (⟨nmN, b, b.length⟩ :: T)).fm⟩ (adel nmN (⟨nmN, b, b.length⟩ :: T)))) = _
    rw [hold, del_cons hB]
theorem wfA_succ (nm l : List UInt8) (S : Ab) (k : Nat) : wfA nm l S (k + 1) = if (wfA nm l S k).1 ≠ 0 then wfA nm l S k else stA nm l k (wfA nm l S k).2 := rfl
theorem wfA_dead {nm l : List UInt8} {S : Ab} {k : Nat} {X : Ab} (h : wfA nm l S k = (15, X)) (hk : k ≤ 4) : wfA nm l S 4 = (15, X) := by
  rw [wfA_stop (k := k) (by rw [h]; simp) 4 hk, h]
theorem wfA_go {nm l : List UInt8} {S X : Ab} {k : Nat} (h : wfA nm l S k = (0, X)) : wfA nm l S (k + 1) = stA nm l k X := by
  rw [wfA_succ, h, if_neg (by simp)]
/-- Writing a file where the power may fail: the file is there, or nothing of what counts has changed. -/
theorem sw_wf (hB : Bs T) (hL : Lft fs T) (hb : b.length ≤ 1000) (hn : isNm nm = true) :
    (∃ lf', wfA nm b (sw bd lf fs) 4 = (0, sw bd lf' (aput ⟨nm, b, b.length⟩ T))) ∨ (∃ fs', wfA nm b (sw bd lf fs) 4 = (15, dead fs') ∧ Lft fs' T) := by
  have e0 : wfA nm b (sw bd lf fs) 0 = (0, sw bd lf fs) := rfl
  have e1 := wfA_go e0
  have r0 : stA nm b 0 (sw bd lf fs) = rmA (sw bd lf fs) nmN := rfl
  rw [r0] at e1
  rcases sw_rm (bd := bd) (lf := lf) hB hL with ⟨l1, h1⟩ | h1
  · rw [h1] at e1
    have e2 := wfA_go e1
    have r1 : stA nm b 1 (sw bd l1 T) = (sw bd l1 T).append nmN b := rfl
    rw [r1] at e2
    rcases sw_ap (bd := bd) (lf := l1) hB hb with ⟨l2, h2⟩ | h2
    · rw [h2] at e2
      have e3 := wfA_go e2
      have r2 : stA nm b 2 (sw bd l2 (⟨nmN, b, 0⟩ :: T)) = (sw bd l2 (⟨nmN, b, 0⟩ :: T)).sync nmN := rfl
      rw [r2] at e3
      rcases sw_sy (bd := bd) (lf := l2) (b := b) hB with ⟨l3, h3⟩ | h3
      · rw [h3] at e3
        have e4 := wfA_go e3
        have r3 : stA nm b 3 (sw bd l3 (⟨nmN, b, b.length⟩ :: T)) = (sw bd l3 (⟨nmN, b, b.length⟩ :: T)).rename nmN nm := rfl
        rw [r3] at e4
        rcases sw_rn (bd := bd) (lf := l3) (b := b) hB hn with ⟨l4, h4⟩ | h4
        · rw [h4] at e4
          exact .inl ⟨l4, e4⟩
        · rw [h4] at e4
          exact .inr ⟨_, e4, .inr ⟨b, b.length, rfl, hb, Nat.le_refl _⟩⟩
      · rw [h3] at e3
        exact .inr ⟨_, wfA_dead e3 (by omega), .inr ⟨b, 0, rfl, hb, Nat.zero_le _⟩⟩
    · rw [h2] at e2
      exact .inr ⟨_, wfA_dead e2 (by omega), .inl rfl⟩
  · rw [h1] at e1
    exact .inr ⟨_, wfA_dead e1 (by omega), hL⟩
theorem rdA_congr {S S' : Ab} (h0 : rfA S 0 = rfA S' 0) (h1 : rfA S 1 = rfA S' 1) : rdA S = rdA S' := by
  unfold rdA
  have e2 : cntR S 2 = cntR S' 2 := by
    show pickR (pickR Rn.zero (rfA S 0).1) (rfA S 1).1 = pickR (pickR Rn.zero (rfA S' 0).1) (rfA S' 1).1
    rw [h0, h1]
  rw [h0, h1, e2]
theorem rfA_congr {S S' : Ab} {d : Nat} (h1 : S.err (nmR d) = S'.err (nmR d)) (h2 : aold (nmR d) S.fs = aold (nmR d) S'.fs) : rfA S d = rfA S' d := by
  unfold rfA
  rw [h1, h2]
/-- A file that was not given its name, and how the power is bound, say nothing of what is read. -/
theorem sw_rd (hL : Lft fs T) : rdA (sw bd lf fs) = rdA (dk T) := by
  have key : ∀ d, (nmN == nmR d) = false → rfA (sw bd lf fs) d = rfA (dk T) d := fun d hd => by
    have hf : afnd (nmR d) fs = afnd (nmR d) T := by
      rcases hL with rfl | ⟨x, m, rfl, _, _⟩
      · rfl
      · unfold afnd
        rw [List.find?_cons]
        simp only [hd]
    refine rfA_congr ?_ ?_
    · unfold Ab.err sw dk
      simp only
      rw [hf]
    · show aold (nmR d) fs = aold (nmR d) T
      unfold aold
      rw [hf]
  exact rdA_congr (key 0 (by rw [nmR0]; decide)) (key 1 (by rw [nmR1]; decide))
/-- What a crash leaves. -/
theorem crA_firm (ks : List Int) : ∀ {T : List Af} (i : Nat), (∀ f ∈ T, f.fm = f.bs.length) → crA ks i T = T
  | [], _, _ => rfl
  | f :: r, i, h => by
    have h1 := h f List.mem_cons_self
    have ih := crA_firm ks (T := r) (i + 1) (fun g hg => h g (List.mem_cons_of_mem _ hg))
    unfold crA
    rw [ih, h1, Nat.sub_self, Nat.min_zero, Nat.add_zero, List.take_length]
    congr 1
    cases f
    simp at h1
    subst h1
    rfl
theorem sw_crash (hB : Bs T) (hL : Lft fs T) (ks : List Int) : Lft (crA ks 0 fs) T := by
  rcases hL with rfl | ⟨x, m, rfl, hx, hm⟩
  · left
    exact crA_firm ks 0 hB.firm
  · right
    unfold crA
    rw [crA_firm ks (0 + 1) hB.firm]
    exact ⟨_, _, rfl, by dsimp only; rw [List.length_take]; omega, by dsimp only; rw [List.length_take]; omega⟩
end
/-- What Write does where the power may fail. -/
theorem sw_wr {n : Nat} {r : Rn} {T fs : List Af} (h : Turn n r T) (hL : Lft fs T) (bd : Bool) (lf : Nat) (t c : Int) (l : List UInt8) (hl : l.length ≤ 100) :
    (wrA (sw bd lf fs) t c l = ((Rn.zero, 2), sw bd lf fs)) ∨ (∃ q lf' T', wrA (sw bd lf fs) t c l = ((q, 0), sw bd lf' T') ∧ Turn (n + 1) q T' ∧ q.s = n + 1 ∧ (q.t : Int) = t ∧ (q.c : Int) = c ∧ q.l = l) ∨ (∃ fs', wrA (sw bd lf fs) t c l = ((Rn.zero, 15), dead fs') ∧ Lft fs' T) := by
  have hrd := sw_rd (bd := bd) (lf := lf) hL
  rw [h.rd] at hrd
  unfold wrA
  rw [hrd]
  simp only [h.serial]
  rw [if_neg (by simp)]
  by_cases hg : rgt ((n + 1 : Nat) : Int) t c = false
  · left
    rw [if_pos hg]
  · right
    rw [if_neg hg]
    obtain ⟨x, y, z, hx, rfl, rfl, hr⟩ := rgt_nat (by simpa using hg : rgt ((n + 1 : Nat) : Int) t c = true)
    obtain rfl : n + 1 = x := by omega
    simp only [Int.toNat_natCast]
    have hq : Okr ⟨n + 1, y, z, l⟩ := ⟨hr l, hl⟩
    obtain ⟨fs', hw, ht, hk⟩ := h.wf (q := ⟨n + 1, y, z, l⟩) hq rfl
    have hnm : isNm (nmR ((n + 1) % 2)) = true := by
      rcases (show (n + 1) % 2 = 0 ∨ (n + 1) % 2 = 1 by omega) with e | e <;> rw [e]
      · rw [nmR0]; decide
      · rw [nmR1]; decide
    have hput : aput ⟨nmR ((n + 1) % 2), Rn.bytes ⟨n + 1, y, z, l⟩, (Rn.bytes ⟨n + 1, y, z, l⟩).length⟩ T = fs' := by
      rcases sw_wf (bd := false) (lf := 0) (fs := T) h.bs (.inl rfl) hq.len hnm with ⟨l1, h1⟩ | ⟨f1, h1, _⟩
      · have h2 : wfA (nmR ((n + 1) % 2)) (Rn.bytes ⟨n + 1, y, z, l⟩) (sw false 0 T) 4 = (0, dk fs') := hw
        rw [h1] at h2
        have h3 := congrArg (fun p => p.2.fs) h2
        exact h3
      · have h2 : wfA (nmR ((n + 1) % 2)) (Rn.bytes ⟨n + 1, y, z, l⟩) (sw false 0 T) 4 = (0, dk fs') := hw
        rw [h1] at h2
        have h3 := congrArg (fun p => p.1) h2
        simp at h3
    rcases sw_wf (bd := bd) (lf := lf) h.bs hL hq.len hnm with ⟨l1, h1⟩ | ⟨f1, h1, h2⟩
    · left
      rw [hput] at h1
      rw [h1]
      exact ⟨_, l1, fs', by simp, ht, rfl, rfl, rfl, rfl⟩
    · right
      rw [h1]
      exact ⟨f1, by simp, h2⟩
end Go.Proofs.YtggejecmhfafoaaGreatDoor
namespace Go.Proofs.YtggejecmhfafoaaGreatDoor
open Go.RowKit Go.Maps

theorem crr_ab {ks : List Int} {fs0 fs : List Fl} (hC : CrR ks fs0 fs0.length fs) : fs.map Fl.ab = crA ks 0 (fs0.map Fl.ab) := by
  apply List.ext_getElem?
  intro j
  rw [crA_at, List.getElem?_map, List.getElem?_map]
  cases hf : fs0[j]? with
  | none => rw [List.getElem?_eq_none (by rw [hC.1]; exact List.getElem?_eq_none_iff.1 hf)]; rfl
  | some f =>
    obtain ⟨g, hg, hn, hq, _⟩ := hC.2 j f hf
    have hj := (List.getElem?_eq_some_iff.1 hf).1
    rw [hg, Nat.zero_add]
    show some g.ab = some (⟨f.nm, f.bs.take (kp f (kAt ks j)), kp f (kAt ks j)⟩ : Af)
    unfold Fl.ab
    rw [hn, (hq hj).1, (hq hj).2]
/-- Crash of a disk whose state stands as S. -/
theorem crash_ab {w : World} {D M : Nat} {s : St} (h : Dsk w D M s) (A : Option Addr) (n c : Nat) (ks : List Int) (hk : RdI w (foot D M s.fs) A n ks) :
    Calls Tryz.prog 10 #[.pointer (some ⟨D, 0, none⟩), .slice A n c] w fun e w' => e = .returned (.tuple #[]) ∧
      ∃ s', s'.ab = ⟨false, false, 0, s.ab.mo, crA ks 0 s.ab.fs⟩ ∧ Nx D M w s w' s' := by
  refine (crash_any h A n c ks hk).mono ?_
  rintro e w' ⟨rfl, fs, hC, hN⟩
  refine ⟨rfl, _, ?_, hN⟩
  show (⟨false, false, 0, s.mo, fs.map Fl.ab⟩ : Ab) = ⟨false, false, 0, s.mo, crA ks 0 (s.fs.map Fl.ab)⟩
  rw [crr_ab hC]
/-- A crash of a disk of roots, the power on or off: what it holds is a Turn's again. -/
theorem crash_sw {w : World} {D M : Nat} {s : St} {T : List Af} (hB : Bs T) (hL : Lft s.ab.fs T) (hm : s.ab.mo = 1048576) (h : Dsk w D M s) (A : Option Addr) (n c : Nat) (ks : List Int) (hk : RdI w (foot D M s.fs) A n ks) :
    Calls Tryz.prog 10 #[.pointer (some ⟨D, 0, none⟩), .slice A n c] w fun e w' => e = .returned (.tuple #[]) ∧
      ∃ s' fs, s'.ab = sw false 0 fs ∧ Lft fs T ∧ Nx D M w s w' s' := by
  refine (crash_ab h A n c ks hk).mono ?_
  rintro e w' ⟨rfl, s', ha, hN⟩
  refine ⟨rfl, s', _, ?_, sw_crash hB hL ks, hN⟩
  rw [ha, hm]
  rfl
end Go.Proofs.YtggejecmhfafoaaGreatDoor
namespace Go.Proofs.YtggejecmhfafoaaGreatDoor
open Go.RowKit Go.Maps

def Now (w : World) (D M N : Nat) (A : Option Addr) (m c : Nat) (r : Rn) (s : St) (W : World) : Prop :=
  Lor w D M N (.cells #[.int .i64 (r.s : Int), .int .i64 (r.t : Int), .int .i64 (r.c : Int), .slice A m c] 30 (0, 0)) s W ∧ Rd W W.heap.size A m r.l ∧ (0 < m → ∀ a, A = some a → ¬ foot D M s.fs a.block) ∧ w.heap.size ≤ N
section
variable {w W W' : World} {D M N m c n k : Nat} {A B : Option Addr} {r q : Rn} {s s' : St} {T fs : List Af} {bd : Bool} {lf : Nat}
theorem Now.no (h : Now w D M N A m c r s W) (hf : Fr No W W') : Now w D M N A m c r s W' :=
  ⟨h.1.no hf, rd_offR hf h.2.1 (fun _ _ _ e => e), h.2.2.1, h.2.2.2⟩
/-- What lies off the disk stays off it. -/
theorem off_call {l : List UInt8} (hr : Rd W W.heap.size A m l) (hA : 0 < m → ∀ a, A = some a → ¬ foot D M s.fs a.block) (hx : Nx D M W s W' s') : 0 < m → ∀ a, A = some a → ¬ foot D M s'.fs a.block := by
  intro hm a ha hk
  rcases hx.2.2 _ hk with e | e
  · exact hA hm a ha e
  · obtain ⟨b, o, e', hb, _⟩ := hr.2 hm
    rw [ha] at e'
    injection e' with e'
    subst e'
    have h1 : b < W.heap.size := hb
    have h2 : W.heap.size ≤ b := e
    omega
theorem Now.call (h : Now w D M N A m c r s W) (hx : Nx D M W s W' s') : Now w D M N A m c r s' W' :=
  ⟨h.1.call hx, rd_offR hx.2.1 h.2.1 h.2.2.1, off_call h.2.1 h.2.2.1 hx, h.2.2.2⟩
theorem Now.set (h : Now w D M N A m c r s W) (hq : Rd W W.heap.size B n q.l) (hB : 0 < n → ∀ a, B = some a → ¬ foot D M s.fs a.block) (k : Nat) :
    Now w D M N B n k q s ((((W.setCell ⟨N, 0, none⟩ (.int .i64 (q.s : Int))).setCell ⟨N, 1, none⟩ (.int .i64 (q.t : Int))).setCell ⟨N, 2, none⟩ (.int .i64 (q.c : Int))).setCell ⟨N, 3, none⟩ (.slice B n k)) := by
  obtain ⟨⟨hd, hF, hb, hN, hn⟩, hr, hA, hw⟩ := h
  have h4 := four_setR hN (.int .i64 (q.s : Int)) (.int .i64 (q.t : Int)) (.int .i64 (q.c : Int)) (.slice B n k)
  have hf := four_setF W N (.int .i64 (q.s : Int)) (.int .i64 (q.t : Int)) (.int .i64 (q.c : Int)) (.slice B n k)
  exact ⟨⟨hd.keep hf (fun j hj e => hn (e ▸ hj)), hF, hb.trans (h4.2.mono hw), h4.1, hn⟩, rd_offR hf hq (fun h0 a ha e => rd_noroot hq hN h0 a ha e), hB, hw⟩
theorem Lft.lens (htu : Turn n r T) (hL : Lft fs T) : ∀ f ∈ (sw bd lf fs).fs, f.bs.length ≤ 20000 := by
  intro f hf
  rcases hL with rfl | ⟨x, j, rfl, hx, hj⟩
  · exact htu.lens f hf
  · rcases List.mem_cons.1 hf with rfl | h
    · exact Nat.le_trans hx (by omega)
    · exact htu.lens f h
theorem arm_now (h : Now w D M N A m c r s W) (ha : s.ab = sw bd lf fs) (x : Int) (hx : x ≤ 9223372036854775807) :
    Calls Tryz.prog 7 #[.pointer (some ⟨D, 0, none⟩), .int .i64 x] W fun e W' => e = .returned (.tuple #[]) ∧ ∃ s' bd' lf', s'.ab = sw bd' lf' fs ∧ Now w D M N A m c r s' W' := by
  have e1 : s.fl = false := by
    have e : s.ab.fl = false := by rw [ha]; rfl
    exact e
  have e2 : s.mo = 1048576 := by
    have e : s.ab.mo = 1048576 := by rw [ha]; rfl
    exact e
  have e3 : s.fs.map Fl.ab = fs := by
    have e : s.ab.fs = fs := by rw [ha]; rfl
    exact e
  refine (arm_dsk h.1.1 e1 x hx).mono ?_
  rintro e W' ⟨rfl, hN⟩
  refine ⟨rfl, _, true, (max x 0).toNat, ?_, h.call hN⟩
  show (⟨s.fl, true, (max x 0).toNat, s.mo, s.fs.map Fl.ab⟩ : Ab) = ⟨false, true, (max x 0).toNat, 1048576, fs⟩
  rw [e1, e2, e3]
/-- Write: refused, and nothing but the armed power turned; done; or the power fails on the way. -/
theorem write_now (h : Now w D M N A m c r s W) {i : Nat} (htu : Turn i r T) (hL : Lft fs T) (ha : s.ab = sw bd lf fs) (ht : Tab W) (a t u : Int) (l : List UInt8) (hr : Rd W w.heap.size B n l) (hn : n ≤ 100) :
    Calls Tryz.prog 8 #[.pointer (some ⟨D, 0, none⟩), .agg #[.int .i64 a, .int .i64 t, .int .i64 u, .slice B n k]] W fun e W' =>
      ∃ (p : Rn) (x : Int) (s' : St) (C : Option Addr) (j y : Nat), e = .returned (.tuple #[.agg #[.int .i64 (p.s : Int), .int .i64 (p.t : Int), .int .i64 (p.c : Int), .slice C j y], .int .i64 x]) ∧ Rd W' W'.heap.size C j p.l ∧ Now w D M N A m c r s' W' ∧ (∀ b, b < W.heap.size → ¬ foot D M s.fs b → W'.heap[b]? = W.heap[b]?) ∧
        ((x = 2 ∧ s'.ab = sw bd lf fs) ∨ (x = 0 ∧ (∃ lf' T', s'.ab = sw bd lf' T' ∧ Turn (i + 1) p T') ∧ p.s = i + 1 ∧ (p.t : Int) = t ∧ (p.c : Int) = u ∧ p.l = l) ∨ (x = 15 ∧ ∃ fs', s'.ab = dead fs' ∧ Lft fs' T)) := by
  have hw := write_any h.1.1 ht (lon_lens ha (Lft.lens htu hL)) a t u B n k l (hr.more h.1.2.2.1.size) (by omega) (fun h0 b hb hk => by
    have h5 := h.1.2.1 _ hk
    obtain ⟨b', o', e', hlt, _⟩ := hr.2 h0
    rw [hb] at e'
    injection e' with e'
    subst e'
    have h6 : w.heap.size ≤ b' := h5
    omega)
  refine hw.mono ?_
  rintro e W' ⟨s', C, j, y, rfl, hC, hN, hs⟩
  rw [ha] at hs hC ⊢
  refine ⟨_, _, s', C, j, y, rfl, hC, h.call hN, fun b hb hk => hN.2.1.block b hb hk, ?_⟩
  rcases sw_wr htu hL bd lf t u l (by have := hr.1; omega) with e | ⟨p, lf', T', e, h1, h2, h3, h4, h5⟩ | ⟨fs', e, h1⟩ <;> rw [e] at hs ⊢
  · exact .inl ⟨rfl, hs⟩
  · exact .inr (.inl ⟨rfl, ⟨lf', T', hs, h1⟩, h2, h3, h4, h5⟩)
  · exact .inr (.inr ⟨rfl, fs', hs, h1⟩)
theorem crash_now (h : Now w D M N A m c r s W) (hB : Bs T) (hL : Lft s.ab.fs T) (hm : s.ab.mo = 1048576) (K : Option Addr) (n k : Nat) (ks : List Int) (hk : RdI w No K n ks) :
    Calls Tryz.prog 10 #[.pointer (some ⟨D, 0, none⟩), .slice K n k] W fun e W' => e = .returned (.tuple #[]) ∧
      ∃ s' fs, s'.ab = sw false 0 fs ∧ Lft fs T ∧ Now w D M N A m c r s' W' ∧ Nx D M W s W' s' := by
  refine (crash_sw hB hL hm h.1.1 K n k ks ⟨hk.1, fun hn => ?_⟩).mono ?_
  · obtain ⟨b, o, e, hb, _, hc⟩ := hk.2 hn
    refine ⟨b, o, e, Nat.lt_of_lt_of_le hb h.1.2.2.1.size, fun hf => ?_, fun j hj => (h.1.2.2.1.cell (p := ⟨b, o + j, none⟩) hb).trans (hc j hj)⟩
    have := h.1.2.1 b hf
    omega
  · rintro e W' ⟨rfl, s', fs, h1, h2, h3⟩
    exact ⟨rfl, s', fs, h1, h2, h.call h3, h3⟩
theorem read_now (h : Now w D M N A m c r s W) {i : Nat} (htu : Turn i q T) (hL : Lft fs T) (ha : s.ab = sw bd lf fs) (ht : Tab W) :
    Calls Tryz.prog 11 #[.pointer (some ⟨D, 0, none⟩)] W fun e W' =>
      ∃ (C : Option Addr) (j y : Nat), e = .returned (.tuple #[.agg #[.int .i64 (i : Int), .int .i64 (q.t : Int), .int .i64 (q.c : Int), .slice C j y], .bool (decide (0 < i)), .int .i64 0]) ∧ Rd W' W'.heap.size C j q.l ∧ (0 < j → ∀ a, C = some a → ¬ foot D M s.fs a.block) ∧ Fr No W W' := by
  have hr := read_anyN h.1.1 ht (lon_lens ha (Lft.lens htu hL))
  rw [ha, sw_rd hL, htu.rd] at hr
  refine hr.mono ?_
  rintro e W' ⟨C, j, y, rfl, h1, h2, h3⟩
  rw [htu.serial]
  exact ⟨C, j, y, rfl, h1, fun _ a hC hk => by have h4 := h3 a hC; have h5 := h.1.1.foot_lt hk; omega, Fr.of_below h2⟩
end
end Go.Proofs.YtggejecmhfafoaaGreatDoor
namespace Go.Proofs.YtggejecmhfafoaaGreatDoor
open Go.RowKit Go.Maps

/-- Any number as one of 0 to n - 1. -/
def pickS (x : Int) (n : Nat) : Nat := (x % (n : Int)).toNat
theorem pickS_lt (x : Int) {n : Nat} (h : 0 < n) : pickS x n < n := by
  unfold pickS
  have := Int.emod_nonneg x (show (n : Int) ≠ 0 by omega)
  have := Int.emod_lt_of_pos x (show (0 : Int) < n by omega)
  omega
theorem pickS_cases (x : Int) {n : Nat} (h : 0 < n) : (x.tmod (n : Int) < 0 ∧ x.tmod (n : Int) + (n : Int) = (pickS x n : Int)) ∨ (0 ≤ x.tmod (n : Int) ∧ x.tmod (n : Int) = (pickS x n : Int)) := by
  have h1 := Int.emod_nonneg x (show (n : Int) ≠ 0 by omega)
  have h2 := Int.emod_lt_of_pos x (show (0 : Int) < n by omega)
  have h3 := Int.tmod_eq_emod (a := x) (b := (n : Int))
  unfold pickS
  rw [h3]
  split <;> omega
set_option maxRecDepth 100000 in
theorem pickS_any (w : World) (x : Int) (n : Nat) (h : 0 < n) (hn : n ≤ 2000000) :
    Calls Tryz.prog 6 #[.int .i64 x, .int .i64 (n : Int)] w fun e w' => e = .returned (.int .i64 (pickS x n : Int)) ∧ w' = w := by
  have hc := pickS_cases x h
  have hl := pickS_lt x h
  have hz : ¬ ((n : Int) < 1) := by omega
  have hz2 : (n : Int) ≠ 0 := by omega
  rcases hc with ⟨hc1, hc2⟩ | ⟨hc1, hc2⟩
  · have hw : IntKind.i64.wrap (x.tmod (n : Int)) = x.tmod (n : Int) := IntWalk.i64_in _ (by omega)
    have hw2 : wrap64 ((n : Int) + x.tmod (n : Int)) = (pickS x n : Int) := by
      rw [Int.add_comm, hc2]
      exact IntWalk.wrap64_in (pickS x n : Int) (by omega)
    clear hc2 hl h
    go_enter Tryz.func6, Tryz.ntmps6
    go_wp2_with fail
    go_ret
    exact ⟨rfl, rfl⟩
  · have hw : IntKind.i64.wrap (x.tmod (n : Int)) = (pickS x n : Int) := by
      rw [hc2]
      exact IntWalk.i64_in _ (by omega)
    have hc3 : ¬ (x.tmod (n : Int) < 0) := by omega
    rw [hc2] at hc3
    go_enter Tryz.func6, Tryz.ntmps6
    go_wp2_with fail
    go_ret
    exact ⟨rfl, rfl⟩
/-- A block of the law's own beside it is turned. -/
theorem Now.turn {w W W' : World} {D M N m c J : Nat} {A : Option Addr} {r : Rn} {s : St} (h : Now w D M N A m c r s W) (hf : Fr (fun k => k = J) W W') (hJ : ¬ foot D M s.fs J) (hN : N ≠ J) (hw : w.heap.size ≤ J) (hA : 0 < m → ∀ a, A = some a → a.block ≠ J) : Now w D M N A m c r s W' := by
  obtain ⟨⟨hd, hF, hb, hN', hn⟩, hr, hA', hw'⟩ := h
  refine ⟨⟨hd.keep hf (fun j hj e => hJ (e ▸ hj)), hF, hb.trans (hf.below hb.size (fun k e => by have e : k = J := e; omega)), (hf.block N (Array.getElem?_eq_some_iff.1 hN').1 hN).trans hN', hn⟩, rd_offR hf hr hA, hA', hw'⟩
theorem root_cell {W : World} {G : Nat} {a b c d : Value} {T : TypeId} (h : W.heap[G]? = some (.cells #[a, b, c, d] T (0, 0))) :
    W.cell? ⟨G, 0, none⟩ = some a ∧ W.cell? ⟨G, 1, none⟩ = some b ∧ W.cell? ⟨G, 2, none⟩ = some c ∧ W.cell? ⟨G, 3, none⟩ = some d := by
  refine ⟨?_, ?_, ?_, ?_⟩ <;> (unfold World.cell?; rw [h]; rfl)
theorem root_free {W : World} {G : Nat} {a b c d : Value} {T : TypeId} (h : W.heap[G]? = some (.cells #[a, b, c, d] T (0, 0))) :
    W.frozen? ⟨G, 0, none⟩ = false ∧ W.frozen? ⟨G, 1, none⟩ = false ∧ W.frozen? ⟨G, 2, none⟩ = false ∧ W.frozen? ⟨G, 3, none⟩ = false := by
  refine ⟨?_, ?_, ?_, ?_⟩ <;> (unfold World.frozen?; rw [h]; rfl)
theorem root_set0 {W : World} {G : Nat} {a b c d : Value} {T : TypeId} (h : W.heap[G]? = some (.cells #[a, b, c, d] T (0, 0))) (x : Value) :
    (W.setCell ⟨G, 0, none⟩ x).heap[G]? = some (.cells #[x, b, c, d] T (0, 0)) := by
  have hl := (Array.getElem?_eq_some_iff.1 h)
  simp only [World.setCell, Array.getElem?_modify, h]
  simp
set_option maxHeartbeats 16000000 in
set_option maxRecDepth 100000 in
theorem switch_walk {w : World} (ht : Tab w) (A : Option Addr) (n c : Nat) (xs : List Rc) (hx : RowOf w 4 (RtAt w) A n xs) (hnm : n ≤ maxLen) (B : Option Addr) (nb cb : Nat) (acs : List Int) (hb : RdI w No B nb acs) (hbm : nb ≤ maxLen) (K : Option Addr) (nk ck : Nat) (ks : List Int) (hk : RdI w No K nk ks) :
    Calls Tryz.prog 3 #[.slice A n c, .slice B nb cb, .slice K nk ck] w fun e w' => e = .returned (.bool true) ∧ Below w.heap.size w w' := by
  have HT := Lib.hid (fun W (h : Below w.heap.size w W) => ht.keep h ht.pos)
  have HA := Lib.hid (fun W (h : Below w.heap.size w W) => awake_any W (HT.out W h))
  have HX := Lib.hid hx
  have HB := Lib.hid hb
  have HK := Lib.hid hk
  have hnew := new_dsk 1048576 w (by omega)
  obtain ⟨D, HDD⟩ : ∃ D, Hid (w.heap.size + 1 = D) := ⟨_, rfl⟩
  obtain ⟨M, HMM⟩ : ∃ M, Hid (w.heap.size = M) := ⟨_, rfl⟩
  rw [HMM.out] at HDD
  rw [HMM.out, HDD.out] at hnew
  have HN := Lib.hid hnew
  have HNM := Lib.hid (And.intro hnm hbm)
  clear hnew hx ht hnm hbm hb hk
  go_enter Tryz.func3, Tryz.ntmps3
  go_wp2_with fail
  refine HN.out.mono ?_
  rintro e w1 ⟨rfl, hd1, hb1⟩
  have hf2 := Fr.alloc No w1 (.cells #[.int .i64 0, .int .i64 0, .int .i64 0, .slice none 0 0] 30)
  have hg2 := heap_alloc_new w1 (.cells #[.int .i64 0, .int .i64 0, .int .i64 0, .slice none 0 0] 30)
  have HD1 := Lib.hid hd1
  have HB1 := Lib.hid hb1
  clear hd1 hb1
  go_upto_region 5 with fail
  obtain ⟨N, hN⟩ : ∃ N, w1.heap.size = N := ⟨_, rfl⟩
  obtain ⟨w2, hw2⟩ : ∃ u, w1.alloc (.cells #[.int .i64 0, .int .i64 0, .int .i64 0, .slice none 0 0] 30) = u := ⟨_, rfl⟩
  rw [hw2] at hf2 hg2 ⊢
  rw [hN] at hg2 ⊢
  have HL2 : Hid (Now w D M N none 0 0 Rn.zero ⟨false, false, 0, 1048576, []⟩ w2) := Lib.hid (show Now w D M N none 0 0 Rn.zero ⟨false, false, 0, 1048576, []⟩ w2 from by
    have hfoot : ∀ k, foot D M [] k → k = D ∨ k = M := fun k hk => by
      rcases hk with e | e | ⟨f, hf, _⟩
      · first | exact .inl e | exact .inr e
      · first | exact .inr e | exact .inl e
      · cases hf
    have h1 := HDD.out
    have h2 := HMM.out
    have h3 := HB1.out.size
    have hDN : D < w1.heap.size := HD1.out.foot_lt (k := D) (by first | exact .inl rfl | exact .inr (.inl rfl))
    refine ⟨⟨HD1.out.no hf2, fun k hk => ?_, (by have := HB1.out; rw [← HMM.out] at this; exact this.trans (hf2.noBelow.mono this.size)), hg2, fun hk => ?_⟩, Rd.nil, fun h => absurd h (by omega), by omega⟩
    · rcases hfoot k hk with rfl | rfl <;> omega
    · rcases hfoot N hk with e | e <;> omega)
  clear hw2 hN hf2 hg2
  go_wp2_with fail
  go_loopw [10] (fun v10 wr => ∃ (i m : Nat) (r : Rn) (T fs : List Af) (bd : Bool) (lf : Nat) (s : St) (C : Option Addr) (j y : Nat), i ≤ n ∧ i ≤ 30 ∧ i ≤ nb ∧ m ≤ i ∧ v10 = .int .i64 (i : Int) ∧ Turn m r T ∧ Lft fs T ∧ s.ab = sw bd lf fs ∧ Now w D M N C j y r s wr) (fun v10 _ => 30 - (intOf v10).toNat)
  case atStart => exact ⟨0, 0, Rn.zero, [], [], false, 0, ⟨false, false, 0, 1048576, []⟩, none, 0, 0, Nat.zero_le _, Nat.zero_le _, Nat.zero_le _, Nat.le_refl _, rfl, .zero, .inl rfl, rfl, HL2.out⟩
  case round =>
    obtain ⟨i, m, r, T, fs, bd, lf, s, C, j, y, hin, hi30, hib, hmi, rfl, htu, hlf, hab, hnow⟩ := hrel
    have HTU := Lib.hid htu
    have HLF := Lib.hid hlf
    have HAB := Lib.hid hab
    have HL := Lib.hid hnow
    clear htu hlf hab hnow
    have hwi : IntKind.i64.wrap ((i : Int) + 1) = ((i + 1 : Nat) : Int) := by
      rw [show ((i : Int) + 1) = ((i + 1 : Nat) : Int) by omega]
      exact IntWalk.i64_in _ (by omega)
    have HWI := Lib.hid hwi
    clear hwi
    by_cases h1 : i < n
    · by_cases h2 : i < 30
      · by_cases h4 : i < nb
        · obtain ⟨x, HXI⟩ : ∃ x, Hid (xs[i]? = some x) := ⟨_, List.getElem?_eq_getElem (by rw [HX.out.1]; exact h1)⟩
          obtain ⟨b, o1, rfl, hbl, hat⟩ := HX.out.2 (by omega)
          have hxi := hat i (by rw [HX.out.1]; exact h1)
          have hxe : xs[i]'(by rw [HX.out.1]; exact h1) = x := by have := HXI.out; rw [List.getElem?_eq_getElem (by rw [HX.out.1]; exact h1)] at this; exact Option.some.inj this
          rw [hxe] at hxi
          obtain ⟨c0, c1, c2, c3, hrl⟩ := hxi
          obtain ⟨b2, o2, rfl, hbl2, _, hat2⟩ := HB.out.2 (by omega)
          obtain ⟨av, hav⟩ : ∃ av, acs[i]'(by rw [HB.out.1]; exact h4) = av := ⟨_, rfl⟩
          have hai := hat2 i (by rw [HB.out.1]; exact h4)
          rw [hav] at hai
          have HBL := Lib.hid hbl
          have HBL2 := Lib.hid hbl2
          rw [Addr.add_lit] at c1 c2 c3
          have CW := Lib.hid (fun W (h : Below w.heap.size w W) => And.intro ((h.cell (p := ⟨b, o1 + i * 4, none⟩) HBL.out).trans c0) (And.intro ((h.cell (p := ⟨b, o1 + i * 4 + 1, none⟩) HBL.out).trans c1) (And.intro ((h.cell (p := ⟨b, o1 + i * 4 + 2, none⟩) HBL.out).trans c2) ((h.cell (p := ⟨b, o1 + i * 4 + 3, none⟩) HBL.out).trans c3))))
          have CA := Lib.hid (fun W (h : Below w.heap.size w W) => (h.cell (p := ⟨b2, o2 + i, none⟩) HBL2.out).trans hai)
          have HRL := Lib.hid hrl
          clear hat hat2 hxe hav c0 c1 c2 c3 hrl hbl hbl2 hai
          have d3 := (CW.out wr HL.out.1.2.2.1).2.2.2
          have da := CA.out wr HL.out.1.2.2.1
          by_cases h3 : 100 < x.n
          · have hwi := HWI.out
            go_wp2_with fail
            go_roundw
            case rel => exact ⟨i + 1, m, r, T, fs, bd, lf, s, C, j, y, by omega, by omega, by omega, by omega, by go_num, HTU.out, HLF.out, HAB.out, HL.out⟩
            case measure => simp [intOf]; omega
          · have HP := Lib.hid (fun W => pickS_any W av 1000003 (by omega) (by omega))
            go_wp2_with fail
            refine (HP.out _).mono ?_
            rintro e w3 ⟨rfl, hw3⟩
            obtain rfl : wr = w3 := hw3.symm
            obtain ⟨act, HAC⟩ : ∃ act, Hid (pickS av 1000003 = act) := ⟨_, rfl⟩
            have hact : act < 1000003 := by rw [← HAC.out]; exact pickS_lt av (by omega)
            rw [HAC.out]
            clear hw3
            simp only
            go_upto_if 54 with fail
            go_cut [] from 24 to 134 (fun wx => ∃ (bd : Bool) (lf : Nat) (s : St), s.ab = sw bd lf fs ∧ Now w D M N C j y r s wx)
            case first =>
              rcases (show act % 2 = 0 ∨ act % 2 = 1 by omega) with ha2 | ha2
              · have hr2 : (act : Int) % 2 = 0 := by omega
                go_wp2_with fail
                refine (arm_now HL.out HAB.out _ ?_).mono ?_
                · omega
                rintro e w5 ⟨rfl, s5, bd5, lf5, ha5, hn5⟩
                have HA5 := Lib.hid ha5
                have HN5 := Lib.hid hn5
                clear ha5 hn5
                go_wp2_with fail
                go_meet
                exact ⟨bd5, lf5, s5, HA5.out, HN5.out⟩
              · have hr2 : (act : Int) % 2 = 1 := by omega
                go_wp2_with fail
                go_meet
                exact ⟨bd, lf, s, HAB.out, HL.out⟩
            case rest =>
              obtain ⟨bd1, lf1, s1, hab1, hn1⟩ := hcut
              have HAB1 := Lib.hid hab1
              have HN1 := Lib.hid hn1
              clear d3 da
              obtain ⟨e0, e1, e2, e3⟩ := CW.out _ HN1.out.1.2.2.1
              have HW := Lib.hid (write_now (k := x.k) HN1.out HTU.out HLF.out HAB1.out (HT.out _ HN1.out.1.2.2.1) x.s x.t x.c x.l (HRL.out.below HN1.out.1.2.2.1) (by omega))
              clear hab1 hn1
              go_wp2_with fail
              refine HW.out.mono ?_
              rintro e w5 ⟨p, ec, s5, P, pn, pk, rfl, hrp, hn5, _, hcase⟩
              simp only
              obtain ⟨m1, HM1⟩ : ∃ m1, Hid (m + 1 = m1) := ⟨_, rfl⟩
              rw [HM1.out] at hcase
              have HN5 := Lib.hid hn5
              have HRP := Lib.hid hrp
              have hwi := HWI.out
              have HRS : Hid (r.s = m) := Lib.hid HTU.out.serial
              have hwm : IntKind.i64.wrap ((m : Int) + 1) = (m1 : Int) := by
                rw [show ((m : Int) + 1) = (m1 : Int) by have := HM1.out; omega]
                exact IntWalk.i64_in _ (by have := HM1.out; omega)
              clear hrp hn5 e0 e1 e2 e3
              rcases hcase with ⟨rfl, ha5⟩ | ⟨rfl, ⟨lf5, T5, ha5, htu5⟩, hps, hpt, hpc, hpl⟩ | ⟨rfl, f5, ha5, hl5⟩
              · have HA5 := Lib.hid ha5
                clear ha5
                go_wp2_with fail
                go_roundw
                case rel => exact ⟨i + 1, m, r, T, fs, bd1, lf1, s5, C, j, y, by omega, by omega, by omega, by omega, by go_num, HTU.out, HLF.out, HA5.out, HN5.out.no (Fr.alloc No w5 _)⟩
                case measure => simp [intOf]; omega
              · have HA5 := Lib.hid ha5
                have HT5 := Lib.hid htu5
                have HPE := Lib.hid (And.intro hps (And.intro hpt (And.intro hpc hpl)))
                clear ha5 htu5 hps hpt hpc hpl
                have HF6 := Lib.hid (Fr.alloc No w5 (.cells #[.int .i64 (p.s : Int), .int .i64 (p.t : Int), .int .i64 (p.c : Int), .slice P pn pk] 30))
                have hg6 := heap_alloc_new w5 (.cells #[.int .i64 (p.s : Int), .int .i64 (p.t : Int), .int .i64 (p.c : Int), .slice P pn pk] 30)
                have HN6 := Lib.hid (HN5.out.no HF6.out)
                go_upto_region 13 with fail
                obtain ⟨G, hG⟩ : ∃ G, w5.heap.size = G := ⟨_, rfl⟩
                obtain ⟨w6, hw6⟩ : ∃ u, w5.alloc (.cells #[.int .i64 (p.s : Int), .int .i64 (p.t : Int), .int .i64 (p.c : Int), .slice P pn pk] 30) = u := ⟨_, rfl⟩
                rw [hw6] at HF6 HN6 hg6 ⊢
                rw [hG] at hg6 ⊢
                have HG6 : Hid (w6.heap[G]? = some (.cells #[.int .i64 (p.s : Int), .int .i64 (p.t : Int), .int .i64 (p.c : Int), .slice P pn pk] 30 (0, 0))) := Lib.hid hg6
                clear hw6 hG hg6
                obtain ⟨e0, e1, e2, e3⟩ := CW.out _ HN6.out.1.2.2.1
                have HF7 := Lib.hid (Fr.alloc No w6 (.cells #[.int .i64 x.s, .int .i64 x.t, .int .i64 x.c, .slice x.A x.n x.k] 30))
                have hg7 := heap_alloc_new w6 (.cells #[.int .i64 x.s, .int .i64 x.t, .int .i64 x.c, .slice x.A x.n x.k] 30)
                have HN7 := Lib.hid (HN6.out.no HF7.out)
                go_upto_region 15 with fail
                obtain ⟨J, hJ⟩ : ∃ J, w6.heap.size = J := ⟨_, rfl⟩
                have HFJ : Hid (¬ foot D M s5.fs J) := Lib.hid (fun hk => by have := HN6.out.1.1.foot_lt hk; omega)
                have HJN : Hid (N ≠ J) := Lib.hid (by have := (Array.getElem?_eq_some_iff.1 HN6.out.1.2.2.2.1).1; omega)
                have HJG : Hid (G ≠ J) := Lib.hid (by have := (Array.getElem?_eq_some_iff.1 HG6.out).1; omega)
                have HJW : Hid (w.heap.size ≤ J) := Lib.hid (by have := HN6.out.1.2.2.1.size; omega)
                obtain ⟨w7, hw7⟩ : ∃ u, w6.alloc (.cells #[.int .i64 x.s, .int .i64 x.t, .int .i64 x.c, .slice x.A x.n x.k] 30) = u := ⟨_, rfl⟩
                rw [hw7] at HF7 HN7 hg7 ⊢
                rw [hJ] at hg7 ⊢
                have HG7 := Lib.hid ((HF7.out.block G (Array.getElem?_eq_some_iff.1 HG6.out).1 (fun e => e)).trans HG6.out)
                have HJ7 : Hid (w7.heap[J]? = some (.cells #[.int .i64 x.s, .int .i64 x.t, .int .i64 x.c, .slice x.A x.n x.k] 30 (0, 0))) := Lib.hid hg7
                have n0 : w7.cell? ⟨N, 0, none⟩ = some (.int .i64 (m : Int)) := by rw [← HRS.out]; exact (root_cell HN7.out.1.2.2.2.1).1
                have j0 := (root_cell HJ7.out).1
                have k0 := (root_free HJ7.out).1
                have HF8 := Lib.hid (Fr.setCell w7 ⟨J, 0, none⟩ (.int .i64 (m1 : Int)) (F := fun k => k = J) rfl)
                have HJ8 := Lib.hid (root_set0 HJ7.out (.int .i64 (m1 : Int)))
                have HN8 := Lib.hid (HN7.out.turn HF8.out HFJ.out HJN.out HJW.out (fun h0 a ha => rd_noroot HN7.out.2.1 HJ7.out h0 a ha))
                have HG8 := Lib.hid ((HF8.out.block G (Array.getElem?_eq_some_iff.1 HG7.out).1 HJG.out).trans HG7.out)
                clear hw7 hJ hg7 e0 e1 e2 e3
                go_upto_region 16 with fail
                obtain ⟨w8, hw8⟩ : ∃ u, w7.setCell ⟨J, 0, none⟩ (.int .i64 (m1 : Int)) = u := ⟨_, rfl⟩
                rw [hw8] at HF8 HJ8 HN8 HG8 ⊢
                have HRP8 : Hid (Rd w8 w8.heap.size P pn p.l) := Lib.hid (rd_offR HF8.out (rd_offR HF7.out (rd_offR HF6.out HRP.out (fun _ _ _ e => e)) (fun _ _ _ e => e)) (fun h0 a ha => rd_noroot (rd_offR HF7.out (rd_offR HF6.out HRP.out (fun _ _ _ e => e)) (fun _ _ _ e => e)) HJ7.out h0 a ha))
                have HRX8 : Hid (Rd w8 w8.heap.size x.A x.n x.l) := Lib.hid ((HRL.out.below HN8.out.1.2.2.1).more HN8.out.1.2.2.1.size)
                obtain ⟨x0, x1, x2, x3⟩ := root_cell HG8.out
                obtain ⟨y0, y1, y2, y3⟩ := root_cell HJ8.out
                clear hw8 n0 j0 k0
                have HE8 : Hid (eqR (p.s : Int) (p.t : Int) (p.c : Int) (m1 : Int) x.t x.c p.l x.l = true) := Lib.hid (by
                  obtain ⟨a1, a2, a3, a4⟩ := HPE.out
                  unfold eqR
                  rw [decide_eq_true_iff]
                  exact ⟨by omega, a2, a3, a4⟩)
                have HSR := Lib.hid (same_root (p.s : Int) (p.t : Int) (p.c : Int) (m1 : Int) x.t x.c pk x.k HRP8.out HRX8.out)
                rw [HE8.out] at HSR
                go_wp2_with fail
                refine HSR.out.mono ?_
                rintro e w9 ⟨rfl, hb9⟩
                simp only
                have HF9 := Lib.hid (show Fr No w8 w9 from Fr.of_below hb9)
                have HN9 := Lib.hid (HN8.out.no HF9.out)
                have HJ9 := Lib.hid ((HF9.out.block J (Array.getElem?_eq_some_iff.1 HJ8.out).1 (fun e => e)).trans HJ8.out)
                clear hb9 x0 x1 x2 x3 y0 y1 y2 y3
                go_upto_if 101 with fail
                go_cut [] from 24 to 134 (fun wx => ∃ (bd : Bool) (lf : Nat) (fs : List Af) (s : St), s.ab = sw bd lf fs ∧ Lft fs T5 ∧ Now w D M N C j y r s wx ∧ wx.heap[J]? = some (.cells #[.int .i64 (m1 : Int), .int .i64 x.t, .int .i64 x.c, .slice x.A x.n x.k] 30 (0, 0)))
                case first =>
                  by_cases ha3 : act % 3 = 0
                  · have hr3 : (act : Int) % 3 = 0 := by omega
                    have HC := Lib.hid (crash_now HN9.out HT5.out.bs (by rw [HA5.out]; exact .inl rfl) (by rw [HA5.out]; rfl) K nk ck ks HK.out)
                    go_wp2_with fail
                    refine HC.out.mono ?_
                    rintro e w10 ⟨rfl, s10, f10, ha10, hl10, hn10, hx10⟩
                    have HR10 := Lib.hid (And.intro ha10 (And.intro hl10 (And.intro hn10 ((hx10.2.1.block J (Array.getElem?_eq_some_iff.1 HJ9.out).1 HFJ.out).trans HJ9.out))))
                    clear ha10 hl10 hn10 hx10
                    go_wp2_with fail
                    go_meet
                    exact ⟨false, 0, f10, s10, HR10.out⟩
                  · have hr3 : ¬ (act : Int) % 3 = 0 := by omega
                    go_wp2_with fail
                    go_meet
                    exact ⟨bd1, lf5, T5, s5, HA5.out, .inl rfl, HN9.out, HJ9.out⟩
                case rest =>
                  obtain ⟨bd6, lf6, f6, s6, ha6, hl6, hn6, hj6⟩ := hcut
                  have HA6 := Lib.hid ha6
                  have HL6 := Lib.hid hl6
                  have HN6 := Lib.hid hn6
                  have HJ6 := Lib.hid hj6
                  clear ha6 hl6 hn6 hj6
                  have HRD := Lib.hid (read_now HN6.out HT5.out HL6.out HA6.out (HT.out _ HN6.out.1.2.2.1))
                  rw [show decide (0 < m1) = true by have := HM1.out; simp; omega] at HRD
                  have HEX : Hid (eqR (m1 : Int) (p.t : Int) (p.c : Int) (m1 : Int) x.t x.c p.l x.l = true) := Lib.hid (by
                    obtain ⟨a1, a2, a3, a4⟩ := HPE.out
                    unfold eqR
                    rw [decide_eq_true_iff]
                    exact ⟨rfl, a2, a3, a4⟩)
                  go_wp2_with fail
                  refine HRD.out.mono ?_
                  rintro e w11 ⟨X, xn, xk, rfl, hrx, hoff, hf11⟩
                  simp only
                  have HF12 := Lib.hid (Fr.alloc No w11 (.cells #[.int .i64 (m1 : Int), .int .i64 (p.t : Int), .int .i64 (p.c : Int), .slice X xn xk] 30))
                  have hg12 := heap_alloc_new w11 (.cells #[.int .i64 (m1 : Int), .int .i64 (p.t : Int), .int .i64 (p.c : Int), .slice X xn xk] 30)
                  have HN12 := Lib.hid ((HN6.out.no hf11).no HF12.out)
                  have HJ12 := Lib.hid (((hf11.no_trans HF12.out).block J (Array.getElem?_eq_some_iff.1 HJ6.out).1 (fun e => e)).trans HJ6.out)
                  have HX12 := Lib.hid (rd_offR HF12.out hrx (fun _ _ _ e => e))
                  have HOX := Lib.hid hoff
                  clear hrx hoff hf11
                  go_upto_region 21 with fail
                  obtain ⟨Q, hQ⟩ : ∃ Q, w11.heap.size = Q := ⟨_, rfl⟩
                  obtain ⟨w12, hw12⟩ : ∃ u, w11.alloc (.cells #[.int .i64 (m1 : Int), .int .i64 (p.t : Int), .int .i64 (p.c : Int), .slice X xn xk] 30) = u := ⟨_, rfl⟩
                  rw [hw12] at HN12 HJ12 HX12 hg12 ⊢
                  rw [hQ] at hg12 ⊢
                  have HQ12 : Hid (w12.heap[Q]? = some (.cells #[.int .i64 (m1 : Int), .int .i64 (p.t : Int), .int .i64 (p.c : Int), .slice X xn xk] 30 (0, 0))) := Lib.hid hg12
                  obtain ⟨y0, y1, y2, y3⟩ := root_cell HJ12.out
                  obtain ⟨z0, z1, z2, z3⟩ := root_cell HQ12.out
                  have HRX12 : Hid (Rd w12 w12.heap.size x.A x.n x.l) := Lib.hid ((HRL.out.below HN12.out.1.2.2.1).more HN12.out.1.2.2.1.size)
                  have HSX := Lib.hid (same_root (m1 : Int) (p.t : Int) (p.c : Int) (m1 : Int) x.t x.c xk x.k HX12.out HRX12.out)
                  rw [HEX.out] at HSX
                  clear hw12 hQ HF12 hg12
                  have hpos : decide (0 < m1) = true := by have := HM1.out; simp; omega
                  go_wp2_with fail
                  refine HSX.out.mono ?_
                  rintro e w13 ⟨rfl, hb13⟩
                  simp only
                  have HF13 := Lib.hid (show Fr No w12 w13 from Fr.of_below hb13)
                  clear hb13 y0 y1 y2 y3 z0 z1 z2 z3
                  have HN13 := Lib.hid (HN12.out.no HF13.out)
                  have HX13 := Lib.hid (rd_offR HF13.out HX12.out (fun _ _ _ e => e))
                  have HQ13 := Lib.hid ((HF13.out.block Q (Array.getElem?_eq_some_iff.1 HQ12.out).1 (fun e => e)).trans HQ12.out)
                  obtain ⟨q0, q1, q2, q3⟩ := root_cell HQ13.out
                  obtain ⟨n0, n1, n2, n3⟩ := root_cell HN13.out.1.2.2.2.1
                  obtain ⟨m0, m2, m3, m4⟩ := root_free HN13.out.1.2.2.2.1
                  have HNW := Lib.hid (HN13.out.set (q := p) HX13.out HOX.out xk)
                  rw [HPE.out.1] at HNW
                  go_wp2_with fail
                  go_roundw
                  case rel => exact ⟨i + 1, m1, p, T5, f6, bd6, lf6, s6, X, xn, xk, by omega, by omega, by omega, by have := HM1.out; omega, by go_num, HT5.out, HL6.out, HA6.out, HNW.out⟩
                  case measure => simp [intOf]; omega
              · have HA5 := Lib.hid ha5
                have HL5 := Lib.hid hl5
                clear ha5 hl5
                have HF6 := Lib.hid (Fr.alloc No w5 (.cells #[.int .i64 (p.s : Int), .int .i64 (p.t : Int), .int .i64 (p.c : Int), .slice P pn pk] 30))
                have hg6 := heap_alloc_new w5 (.cells #[.int .i64 (p.s : Int), .int .i64 (p.t : Int), .int .i64 (p.c : Int), .slice P pn pk] 30)
                have HN6 := Lib.hid (HN5.out.no HF6.out)
                go_upto_region 13 with fail
                obtain ⟨G, hG⟩ : ∃ G, w5.heap.size = G := ⟨_, rfl⟩
                obtain ⟨w6, hw6⟩ : ∃ u, w5.alloc (.cells #[.int .i64 (p.s : Int), .int .i64 (p.t : Int), .int .i64 (p.c : Int), .slice P pn pk] 30) = u := ⟨_, rfl⟩
                rw [hw6] at HF6 HN6 hg6 ⊢
                rw [hG] at hg6 ⊢
                have HG6 : Hid (w6.heap[G]? = some (.cells #[.int .i64 (p.s : Int), .int .i64 (p.t : Int), .int .i64 (p.c : Int), .slice P pn pk] 30 (0, 0))) := Lib.hid hg6
                clear hw6 hG hg6
                obtain ⟨e0, e1, e2, e3⟩ := CW.out _ HN6.out.1.2.2.1
                have HF7 := Lib.hid (Fr.alloc No w6 (.cells #[.int .i64 x.s, .int .i64 x.t, .int .i64 x.c, .slice x.A x.n x.k] 30))
                have hg7 := heap_alloc_new w6 (.cells #[.int .i64 x.s, .int .i64 x.t, .int .i64 x.c, .slice x.A x.n x.k] 30)
                have HN7 := Lib.hid (HN6.out.no HF7.out)
                go_upto_region 15 with fail
                obtain ⟨J, hJ⟩ : ∃ J, w6.heap.size = J := ⟨_, rfl⟩
                have HFJ : Hid (¬ foot D M s5.fs J) := Lib.hid (fun hk => by have := HN6.out.1.1.foot_lt hk; omega)
                have HJN : Hid (N ≠ J) := Lib.hid (by have := (Array.getElem?_eq_some_iff.1 HN6.out.1.2.2.2.1).1; omega)
                have HJG : Hid (G ≠ J) := Lib.hid (by have := (Array.getElem?_eq_some_iff.1 HG6.out).1; omega)
                have HJW : Hid (w.heap.size ≤ J) := Lib.hid (by have := HN6.out.1.2.2.1.size; omega)
                obtain ⟨w7, hw7⟩ : ∃ u, w6.alloc (.cells #[.int .i64 x.s, .int .i64 x.t, .int .i64 x.c, .slice x.A x.n x.k] 30) = u := ⟨_, rfl⟩
                rw [hw7] at HF7 HN7 hg7 ⊢
                rw [hJ] at hg7 ⊢
                have HG7 := Lib.hid ((HF7.out.block G (Array.getElem?_eq_some_iff.1 HG6.out).1 (fun e => e)).trans HG6.out)
                have HJ7 : Hid (w7.heap[J]? = some (.cells #[.int .i64 x.s, .int .i64 x.t, .int .i64 x.c, .slice x.A x.n x.k] 30 (0, 0))) := Lib.hid hg7
                have n0 : w7.cell? ⟨N, 0, none⟩ = some (.int .i64 (m : Int)) := by rw [← HRS.out]; exact (root_cell HN7.out.1.2.2.2.1).1
                have j0 := (root_cell HJ7.out).1
                have k0 := (root_free HJ7.out).1
                have HF8 := Lib.hid (Fr.setCell w7 ⟨J, 0, none⟩ (.int .i64 (m1 : Int)) (F := fun k => k = J) rfl)
                have HJ8 := Lib.hid (root_set0 HJ7.out (.int .i64 (m1 : Int)))
                have HN8 := Lib.hid (HN7.out.turn HF8.out HFJ.out HJN.out HJW.out (fun h0 a ha => rd_noroot HN7.out.2.1 HJ7.out h0 a ha))
                have HG8 := Lib.hid ((HF8.out.block G (Array.getElem?_eq_some_iff.1 HG7.out).1 HJG.out).trans HG7.out)
                clear hw7 hJ hg7 e0 e1 e2 e3
                go_upto_region 16 with fail
                obtain ⟨w8, hw8⟩ : ∃ u, w7.setCell ⟨J, 0, none⟩ (.int .i64 (m1 : Int)) = u := ⟨_, rfl⟩
                rw [hw8] at HF8 HJ8 HN8 HG8 ⊢
                have HRP8 : Hid (Rd w8 w8.heap.size P pn p.l) := Lib.hid (rd_offR HF8.out (rd_offR HF7.out (rd_offR HF6.out HRP.out (fun _ _ _ e => e)) (fun _ _ _ e => e)) (fun h0 a ha => rd_noroot (rd_offR HF7.out (rd_offR HF6.out HRP.out (fun _ _ _ e => e)) (fun _ _ _ e => e)) HJ7.out h0 a ha))
                have HRX8 : Hid (Rd w8 w8.heap.size x.A x.n x.l) := Lib.hid ((HRL.out.below HN8.out.1.2.2.1).more HN8.out.1.2.2.1.size)
                obtain ⟨x0, x1, x2, x3⟩ := root_cell HG8.out
                obtain ⟨y0, y1, y2, y3⟩ := root_cell HJ8.out
                clear hw8 n0 j0 k0
                have HC := Lib.hid (crash_now HN8.out HTU.out.bs (by rw [HA5.out]; exact HL5.out) (by rw [HA5.out]; rfl) K nk ck ks HK.out)
                go_wp2_with fail
                refine HC.out.mono ?_
                rintro e w10 ⟨rfl, s6, f6, ha6, hl6, hn6, hx6⟩
                simp only
                have HA6 := Lib.hid ha6
                have HL6 := Lib.hid hl6
                have HN6' := Lib.hid hn6
                have HJ6 := Lib.hid ((hx6.2.1.block J (Array.getElem?_eq_some_iff.1 HJ8.out).1 HFJ.out).trans HJ8.out)
                clear ha6 hl6 hn6 hx6 x0 x1 x2 x3 y0 y1 y2 y3
                have HRD := Lib.hid (read_now HN6'.out HTU.out HL6.out HA6.out (HT.out _ HN6'.out.1.2.2.1))
                have HEX : Hid (eqR (m : Int) (r.t : Int) (r.c : Int) (m1 : Int) x.t x.c r.l x.l = false) := Lib.hid (by
                  unfold eqR
                  rw [decide_eq_false_iff_not]
                  intro h
                  have := HM1.out
                  have := h.1
                  omega)
                obtain ⟨bd6, hbd6⟩ : ∃ b, false = b := ⟨_, rfl⟩
                obtain ⟨lf6, hlf6⟩ : ∃ b, 0 = b := ⟨_, rfl⟩
                rw [hbd6, hlf6] at HA6
                clear hbd6 hlf6
                go_wp2_with fail
                refine HRD.out.mono ?_
                rintro e w11 ⟨X, xn, xk, rfl, hrx, hoff, hf11⟩
                simp only
                have HF12 := Lib.hid (Fr.alloc No w11 (.cells #[.int .i64 (m : Int), .int .i64 (r.t : Int), .int .i64 (r.c : Int), .slice X xn xk] 30))
                have hg12 := heap_alloc_new w11 (.cells #[.int .i64 (m : Int), .int .i64 (r.t : Int), .int .i64 (r.c : Int), .slice X xn xk] 30)
                have HN12 := Lib.hid ((HN6'.out.no hf11).no HF12.out)
                have HJ12 := Lib.hid (((hf11.no_trans HF12.out).block J (Array.getElem?_eq_some_iff.1 HJ6.out).1 (fun e => e)).trans HJ6.out)
                have HX12 := Lib.hid (rd_offR HF12.out hrx (fun _ _ _ e => e))
                have HOX := Lib.hid hoff
                clear hrx hoff hf11
                go_upto_region 21 with fail
                obtain ⟨Q, hQ⟩ : ∃ Q, w11.heap.size = Q := ⟨_, rfl⟩
                obtain ⟨w12, hw12⟩ : ∃ u, w11.alloc (.cells #[.int .i64 (m : Int), .int .i64 (r.t : Int), .int .i64 (r.c : Int), .slice X xn xk] 30) = u := ⟨_, rfl⟩
                rw [hw12] at HN12 HJ12 HX12 hg12 ⊢
                rw [hQ] at hg12 ⊢
                have HQ12 : Hid (w12.heap[Q]? = some (.cells #[.int .i64 (m : Int), .int .i64 (r.t : Int), .int .i64 (r.c : Int), .slice X xn xk] 30 (0, 0))) := Lib.hid hg12
                obtain ⟨y0, y1, y2, y3⟩ := root_cell HJ12.out
                obtain ⟨z0, z1, z2, z3⟩ := root_cell HQ12.out
                have HRX12 : Hid (Rd w12 w12.heap.size x.A x.n x.l) := Lib.hid ((HRL.out.below HN12.out.1.2.2.1).more HN12.out.1.2.2.1.size)
                have HSX := Lib.hid (same_root (m : Int) (r.t : Int) (r.c : Int) (m1 : Int) x.t x.c xk x.k HX12.out HRX12.out)
                rw [HEX.out] at HSX
                clear hw12 hQ HF12 hg12
                have hee : (decide (0 < m) != decide (0 < m)) = false := by simp
                obtain ⟨n0, n1, n2, n3⟩ := root_cell HN12.out.1.2.2.2.1
                go_wp2_with fail
                refine HSX.out.mono ?_
                rintro e w14 ⟨rfl, hb14⟩
                simp only
                have HF14 := Lib.hid (show Fr No w12 w14 from Fr.of_below hb14)
                have HN14 := Lib.hid (HN12.out.no HF14.out)
                have HX14 := Lib.hid (rd_offR HF14.out HX12.out (fun _ _ _ e => e))
                have HQ14 := Lib.hid ((HF14.out.block Q (Array.getElem?_eq_some_iff.1 HQ12.out).1 (fun e => e)).trans HQ12.out)
                clear hb14 y0 y1 y2 y3 z0 z1 z2 z3 n0 n1 n2 n3
                obtain ⟨z0, z1, z2, z3⟩ := root_cell HQ14.out
                obtain ⟨n0, n1, n2, n3⟩ := root_cell HN14.out.1.2.2.2.1
                have HSN := Lib.hid (same_root (m : Int) (r.t : Int) (r.c : Int) (r.s : Int) (r.t : Int) (r.c : Int) xk y HX14.out HN14.out.2.1)
                rw [show eqR (m : Int) (r.t : Int) (r.c : Int) (r.s : Int) (r.t : Int) (r.c : Int) r.l r.l = true by unfold eqR; rw [decide_eq_true_iff, HRS.out]; exact ⟨rfl, rfl, rfl, rfl⟩] at HSN
                go_wp2_with fail
                refine HSN.out.mono ?_
                rintro e w13 ⟨rfl, hb13⟩
                simp only
                have HF13 := Lib.hid (HF14.out.no_trans (show Fr No w14 w13 from Fr.of_below hb13))
                clear hb13 z0 z1 z2 z3 n0 n1 n2 n3
                have HN13 := Lib.hid (HN12.out.no HF13.out)
                have HX13 := Lib.hid (rd_offR HF13.out HX12.out (fun _ _ _ e => e))
                have HQ13 := Lib.hid ((HF13.out.block Q (Array.getElem?_eq_some_iff.1 HQ12.out).1 (fun e => e)).trans HQ12.out)
                obtain ⟨q0, q1, q2, q3⟩ := root_cell HQ13.out
                obtain ⟨n0, n1, n2, n3⟩ := root_cell HN13.out.1.2.2.2.1
                obtain ⟨m0, m2, m3, m4⟩ := root_free HN13.out.1.2.2.2.1
                have HNW := Lib.hid (HN13.out.set (q := r) HX13.out HOX.out xk)
                rw [HRS.out] at HNW
                go_wp2_with fail
                go_roundw
                case rel => exact ⟨i + 1, m, r, T, f6, bd6, lf6, s6, X, xn, xk, by omega, by omega, by omega, by have := HM1.out; omega, by go_num, HTU.out, HL6.out, HA6.out, HNW.out⟩
                case measure => simp [intOf]; omega
        · go_wp2_with fail
          refine (HA.out _ HL.out.1.2.2.1).mono ?_
          rintro e wz ⟨rfl, hbz⟩
          have HZ := Lib.hid (HL.out.1.2.2.1.trans (hbz.mono HL.out.1.2.2.1.size))
          clear hbz
          go_wp2_with fail
          go_ret
          exact ⟨rfl, HZ.out⟩
      · go_wp2_with fail
        refine (HA.out _ HL.out.1.2.2.1).mono ?_
        rintro e wz ⟨rfl, hbz⟩
        have HZ := Lib.hid (HL.out.1.2.2.1.trans (hbz.mono HL.out.1.2.2.1.size))
        clear hbz
        go_wp2_with fail
        go_ret
        exact ⟨rfl, HZ.out⟩
    · go_wp2_with fail
      refine (HA.out _ HL.out.1.2.2.1).mono ?_
      rintro e wz ⟨rfl, hbz⟩
      have HZ := Lib.hid (HL.out.1.2.2.1.trans (hbz.mono HL.out.1.2.2.1.size))
      clear hbz
      go_wp2_with fail
      go_ret
      exact ⟨rfl, HZ.out⟩
end Go.Proofs.YtggejecmhfafoaaGreatDoor

/-
  A new disk; Arm at a disk; the law's own word on a file. No statement of the seat is proved here.
-/
import Derived.Test.YtggejecmhfafoaaGreatDoorDkW
namespace Go.Proofs.YtggejecmhfafoaaGreatDoor
open Go.RowKit Go.Maps Go.Sort

set_option maxRecDepth 100000 in
theorem new_dsk (n : Nat) (w : World) (h : n ≤ 16777216) :
    Calls Tryz.prog 5 #[.int .i64 (n : Int)] w fun e w' => e = .returned (.tuple #[.pointer (some ⟨w.heap.size + 1, 0, none⟩), .int .i64 0]) ∧
      Dsk w' (w.heap.size + 1) w.heap.size ⟨false, false, 0, n, []⟩ ∧ Below w.heap.size w w' := by
  refine (new_any (n : Int) w (by omega) (by omega)).mono ?_
  rintro e w' ⟨rfl, rfl⟩
  refine ⟨rfl, ⟨?_, ?_, ?_, ?_, ?_, ?_, ?_, h, by simp, by simp⟩, ((Below.refl _ w).alloc (Nat.le_refl _) _).alloc (by simp) _⟩
  · exact heap2 w _ _
  · exact (World.ownsMap_made w Tryz.prog 9 flR).alloc _
  all_goals first
    | (intro f hf; cases hf)
    | exact Nat.zero_le _
set_option maxRecDepth 100000 in
theorem arm_dsk {w : World} {D M : Nat} {s : St} (h : Dsk w D M s) (hfl : s.fl = false) (n : Int) (hn : n ≤ 9223372036854775807) :
    Calls Tryz.prog 7 #[.pointer (some ⟨D, 0, none⟩), .int .i64 n] w fun e w' => e = .returned (.tuple #[]) ∧ Nx D M w s w' { s with bd := true, lf := (max n 0).toNat } := by
  refine (arm_up D n _ _ w h.c3 (by rw [h.c0, hfl]) h.c1 h.c2 (h.unfrozen 0) (h.unfrozen 1) (h.unfrozen 2)).mono ?_
  rintro e w' ⟨rfl, hw⟩
  have hfr : Fr (fun k => k = D) w w' := by
    rw [hw]
    exact ((Fr.setAt _ D 0 _).trans (Fr.setAt _ D 1 _) (fun _ _ e => e)).trans (Fr.setAt _ D 2 _) (fun _ _ e => e)
  have hD := h.power hfr s.fl true (max n 0).toNat (by omega) (by
    rw [hw, hfl]
    have e : (((max n 0).toNat : Nat) : Int) = max n 0 := by omega
    have := heap_cells_set _ D 2 _ _ (.int .i64 (max n 0)) (heap_cells_set _ D 1 _ _ (.bool true) (heap_cells_set _ D 0 _ _ (.bool false) h.blk))
    rw [← e] at this ⊢
    exact this)
  exact ⟨rfl, hD, hfr.mono (fun _ _ e => .inl e), fun k hk => .inl hk⟩
set_option maxRecDepth 100000 in
theorem arm_dead {w : World} {D M : Nat} {s : St} (h : Dsk w D M s) (hfl : s.fl = true) (n : Int) :
    Calls Tryz.prog 7 #[.pointer (some ⟨D, 0, none⟩), .int .i64 n] w fun e w' => e = .returned (.tuple #[]) ∧ w = w' :=
  arm_down D n w h.c3 (by rw [h.c0, hfl])
end Go.Proofs.YtggejecmhfafoaaGreatDoor

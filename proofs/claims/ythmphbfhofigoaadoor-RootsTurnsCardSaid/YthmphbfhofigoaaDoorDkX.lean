/-
  A new disk; Arm at a disk; the law's own word on a file. No statement of the seat is proved here.
-/
import Derived.Test.YthmphbfhofigoaaDoorDkW
namespace Go.Proofs.YthmphbfhofigoaaDoor
open Go.RowKit Go.Maps Go.Sort

set_option maxRecDepth 100000 in
theorem new_dsk (n : Nat) (w : World) (h : n ≤ 16777216) :
    Calls Tryd.prog 10 #[.int .i64 (n : Int)] w fun e w' => e = .returned (.tuple #[.pointer (some ⟨w.heap.size + 1, 0, none⟩), .int .i64 0]) ∧
      Dsk w' (w.heap.size + 1) w.heap.size ⟨false, false, 0, n, []⟩ ∧ Below w.heap.size w w' := by
  refine (new_any (n : Int) w (by omega) (by omega)).mono ?_
  rintro e w' ⟨rfl, rfl⟩
  refine ⟨rfl, ⟨?_, ?_, ?_, ?_, ?_, ?_, ?_, h, by simp, by simp⟩, ((Below.refl _ w).alloc (Nat.le_refl _) _).alloc (by simp) _⟩
  · exact heap2 w _ _
  · exact (World.ownsMap_made w Tryd.prog 9 flR).alloc _
  all_goals first
    | (intro f hf; cases hf)
    | exact Nat.zero_le _
end Go.Proofs.YthmphbfhofigoaaDoor

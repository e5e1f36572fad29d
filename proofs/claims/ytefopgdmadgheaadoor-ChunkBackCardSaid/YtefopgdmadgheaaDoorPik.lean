/-
  One of so many, picked by any number. No statement of the seat is proved here.
-/
import Derived.Test.YtefopgdmadgheaaDoorSlO
namespace Go.Proofs.YtefopgdmadgheaaDoor
open Go.RowKit Go.Deep

/-- Any number as one of 0 to n - 1. -/
def pick (x : Int) (n : Nat) : Nat := (x % (n : Int)).toNat
theorem pick_lt (x : Int) {n : Nat} (h : 0 < n) : pick x n < n := by
  unfold pick
  have := Int.emod_nonneg x (show (n : Int) ≠ 0 by omega)
  have := Int.emod_lt_of_pos x (show (0 : Int) < n by omega)
  omega
theorem pick_cases (x : Int) {n : Nat} (h : 0 < n) : (x.tmod (n : Int) < 0 ∧ x.tmod (n : Int) + (n : Int) = (pick x n : Int)) ∨ (0 ≤ x.tmod (n : Int) ∧ x.tmod (n : Int) = (pick x n : Int)) := by
  have h1 := Int.emod_nonneg x (show (n : Int) ≠ 0 by omega)
  have h2 := Int.emod_lt_of_pos x (show (0 : Int) < n by omega)
  have h3 := Int.tmod_eq_emod (a := x) (b := (n : Int))
  unfold pick
  rw [h3]
  split <;> omega
end Go.Proofs.YtefopgdmadgheaaDoor

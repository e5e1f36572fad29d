/-
  One of so many, picked by any number. No statement of the seat is proved here.
-/
import Derived.Test.YtjdhbgdpmojobaaDoorSlO
namespace Go.Proofs.YtjdhbgdpmojobaaDoor
open Go.RowKit Go.Deep

/-- Any number as one of 0 to n - 1. -/
def pick (x : Int) (n : Nat) : Nat := (x % (n : Int)).toNat
theorem pick_lt (x : Int) {n : Nat} (h : 0 < n) : pick x n < n := by
  unfold pick
  have := Int.emod_nonneg x (show (n : Int) ≠ 0 by omega)
  have := Int.emod_lt_of_pos x (show (0 : Int) < n by omega)
  omega
theorem pick_cases (x : Int) {n : Nat} (h : 0 < n) : (x.tmod (n : Int) < 0 ∧ x.tmod (n : Int) + (n : Int) = (pick x n : Int)) ∨ (0 ≤ x.tmod (n : Int) ∧ x.tmod (n : Int) = (pick x n : Int)) := by
  have h1 := Int.emod_nonneg x (show (n : Int) ≠ 0 by omega)
  have h2 := Int.emod_lt_of_pos x (show (0 : Int) < n by omega)
  have h3 := Int.tmod_eq_emod (a := x) (b := (n : Int))
  unfold pick
  rw [h3]
  split <;> omega
set_option maxRecDepth 100000 in
theorem pick_any (w : World) (x : Int) (n : Nat) (h : 0 < n) (hn : n ≤ 1000000) :
    Calls Tryd.prog 19 #[.int .i64 x, .int .i64 (n : Int)] w fun e w' => e = .returned (.int .i64 (pick x n : Int)) ∧ w' = w := by
  have hc := pick_cases x h
  have hl := pick_lt x h
  have hz : ¬ ((n : Int) < 1) := by omega
  have hz2 : (n : Int) ≠ 0 := by omega
  rcases hc with ⟨hc1, hc2⟩ | ⟨hc1, hc2⟩
  · have hw : IntKind.i64.wrap (x.tmod (n : Int)) = x.tmod (n : Int) := IntWalk.i64_in _ (by omega)
    have hw2 : IntKind.i64.wrap (x.tmod (n : Int) + (n : Int)) = (pick x n : Int) := by
      rw [hc2]
      exact IntWalk.i64_in _ (by omega)
    clear hc2 hl h
    go_enter Tryd.func19, Tryd.ntmps19
    go_wp2_with fail
    go_ret
    exact ⟨rfl, rfl⟩
  · have hw : IntKind.i64.wrap (x.tmod (n : Int)) = (pick x n : Int) := by
      rw [hc2]
      exact IntWalk.i64_in _ (by omega)
    have hc3 : ¬ (x.tmod (n : Int) < 0) := by omega
    rw [hc2] at hc3
    go_enter Tryd.func19, Tryd.ntmps19
    go_wp2_with fail
    go_ret
    exact ⟨rfl, rfl⟩
end Go.Proofs.YtjdhbgdpmojobaaDoor

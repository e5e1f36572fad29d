/-
  The document's own table and recipes; awake. No statement of the seat is proved here.
-/
import Derived.Test.YtmallcjhccbgdaaDoorItB
namespace Go.Proofs.YtmallcjhccbgdaaDoor
open Go.RowKit Go.Deep

section
variable {w : World} {i : Nat}
set_option maxRecDepth 100000 in
set_option maxHeartbeats 1600000 in
theorem rstack_any (hi : i < 256) : Calls Tryd.prog 34 #[.int .u8 (i : Int)] w fun e w' => e = .returned (.int .i64 (stI i)) ∧ w = w' := by
  rcases (show i = 0 ∨ i = 1 ∨ i = 2 ∨ i = 3 ∨ i = 4 ∨ i = 5 ∨ i = 6 ∨ i = 7 ∨ i = 8 ∨ i = 9 ∨ i = 10 ∨ i = 11 ∨ i = 12 ∨ 13 ≤ i by omega) with rfl | rfl | rfl | rfl | rfl | rfl | rfl | rfl | rfl | rfl | rfl | rfl | rfl | h13
  case' inr.inr.inr.inr.inr.inr.inr.inr.inr.inr.inr.inr.inr =>
    have E : Hid (stI i = 0) := by
      show stI i = 0
      unfold stI
      rw [List.getD_eq_getElem?_getD, List.getElem?_eq_none (by simpa using h13)]
      rfl
    have e1 : ((i : Int) == 12) = false := by rw [beq_eq_false_iff_ne]; omega
    have e2 : ((i : Int) == 9) = false := by rw [beq_eq_false_iff_ne]; omega
    have e3 : ¬ ((i : Int) ≤ 12) := by omega
    have e4 : (1 : Int) ≤ (i : Int) := by omega
    have e5 : ¬ ((i : Int) ≤ 5) := by omega
    have e6 : ((i : Int) == 7) = false := by rw [beq_eq_false_iff_ne]; omega
    have e7 : ((i : Int) == 10) = false := by rw [beq_eq_false_iff_ne]; omega
    have e8 : (13 : Int) ≤ (i : Int) := by omega
    have e9 : ((i : Int) == 4) = false := by rw [beq_eq_false_iff_ne]; omega
    go_enter Tryd.func34, Tryd.ntmps34
    go_wp2_with fail
    go_ret
    exact ⟨by rw [E.out]; rfl, rfl⟩
  all_goals
    go_enter Tryd.func34, Tryd.ntmps34
    go_wp2_with fail
    go_ret
    exact ⟨rfl, rfl⟩
end
end Go.Proofs.YtmallcjhccbgdaaDoor

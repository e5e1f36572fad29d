/-
  The document's own table and recipes; awake. No statement of the seat is proved here.
-/
import Derived.Test.YtjaklhfcgcjmmaaDoorItB
namespace Go.Proofs.YtjaklhfcgcjmmaaDoor
open Go.RowKit Go.Deep

section
variable {w : World} {i : Nat}
set_option maxRecDepth 100000 in
set_option maxHeartbeats 1600000 in
theorem rstack_any (hi : i < 256) : Calls Tryd.prog 11 #[.int .u8 (i : Int)] w fun e w' => e = .returned (.int .i64 (stI i)) ∧ w = w' := by
  rcases (show i = 0 ∨ i = 1 ∨ i = 2 ∨ i = 3 ∨ i = 4 ∨ i = 5 ∨ i = 6 ∨ i = 7 ∨ i = 8 ∨ i = 9 ∨ i = 10 ∨ i = 11 ∨ i = 12 ∨ 13 ≤ i by omega) with rfl | rfl | rfl | rfl | rfl | rfl | rfl | rfl | rfl | rfl | rfl | rfl | rfl | h13
  case' inr.inr.inr.inr.inr.inr.inr.inr.inr.inr.inr.inr.inr =>
    have E : Hid (stI i = 0) := by
      show stI i = 0
      unfold stI
      rw [List.getD_eq_getElem?_getD, List.getElem?_eq_none (by simpa using h13)]
      rfl
    have e1 : ((i : Int) == 12) = false := by rw [beq_eq_false_iff_ne]; omega
    have e2 : ((i : Int) == 9) = false := by rw [beq_eq_false_iff_ne]; omega
    have e3 : ¬ ((i : Int) ≤ 12) := by omega
    have e4 : (1 : Int) ≤ (i : Int) := by omega
    have e5 : ¬ ((i : Int) ≤ 5) := by omega
    have e6 : ((i : Int) == 7) = false := by rw [beq_eq_false_iff_ne]; omega
    have e7 : ((i : Int) == 10) = false := by rw [beq_eq_false_iff_ne]; omega
    have e8 : (13 : Int) ≤ (i : Int) := by omega
    have e9 : ((i : Int) == 4) = false := by rw [beq_eq_false_iff_ne]; omega
    go_enter Tryd.func11, Tryd.ntmps11
    go_wp2_with fail
    go_ret
    exact ⟨by rw [E.out]; rfl, rfl⟩
  all_goals
    go_enter Tryd.func11, Tryd.ntmps11
    go_wp2_with fail
    go_ret
    exact ⟨rfl, rfl⟩
set_option maxRecDepth 100000 in
set_option maxHeartbeats 1600000 in
theorem rblock_any (hi : i < 256) : Calls Tryd.prog 13 #[.int .u8 (i : Int)] w fun e w' => e = .returned (.bool (blI i)) ∧ w = w' := by
  rcases (show i = 0 ∨ i = 1 ∨ i = 2 ∨ i = 3 ∨ i = 4 ∨ i = 5 ∨ i = 6 ∨ i = 7 ∨ i = 8 ∨ i = 9 ∨ i = 10 ∨ i = 11 ∨ i = 12 ∨ 13 ≤ i by omega) with rfl | rfl | rfl | rfl | rfl | rfl | rfl | rfl | rfl | rfl | rfl | rfl | rfl | h13
  case' inr.inr.inr.inr.inr.inr.inr.inr.inr.inr.inr.inr.inr =>
    have E : Hid (blI i = false) := by
      show blI i = false
      unfold blI
      rw [List.getD_eq_getElem?_getD, List.getElem?_eq_none (by simpa using h13)]
      rfl
    have e1 : ((i : Int) == 12) = false := by rw [beq_eq_false_iff_ne]; omega
    have e2 : ((i : Int) == 9) = false := by rw [beq_eq_false_iff_ne]; omega
    have e3 : ¬ ((i : Int) ≤ 12) := by omega
    have e4 : (1 : Int) ≤ (i : Int) := by omega
    have e5 : ¬ ((i : Int) ≤ 5) := by omega
    have e6 : ((i : Int) == 7) = false := by rw [beq_eq_false_iff_ne]; omega
    have e7 : ((i : Int) == 10) = false := by rw [beq_eq_false_iff_ne]; omega
    have e8 : (13 : Int) ≤ (i : Int) := by omega
    have e9 : ((i : Int) == 4) = false := by rw [beq_eq_false_iff_ne]; omega
    go_enter Tryd.func13, Tryd.ntmps13
    go_wp2_with fail
    go_ret
    exact ⟨by rw [E.out]; rfl, rfl⟩
  all_goals
    go_enter Tryd.func13, Tryd.ntmps13
    go_wp2_with fail
    go_ret
    exact ⟨rfl, rfl⟩
set_option maxRecDepth 100000 in
set_option maxHeartbeats 1600000 in
theorem rgives_any (hi : i < 256) : Calls Tryd.prog 15 #[.int .u8 (i : Int)] w fun e w' => e = .returned (.int .u8 (gvI i : Int)) ∧ w = w' := by
  rcases (show i = 0 ∨ i = 1 ∨ i = 2 ∨ i = 3 ∨ i = 4 ∨ i = 5 ∨ i = 6 ∨ i = 7 ∨ i = 8 ∨ i = 9 ∨ i = 10 ∨ i = 11 ∨ i = 12 ∨ 13 ≤ i by omega) with rfl | rfl | rfl | rfl | rfl | rfl | rfl | rfl | rfl | rfl | rfl | rfl | rfl | h13
  case' inr.inr.inr.inr.inr.inr.inr.inr.inr.inr.inr.inr.inr =>
    have E : Hid (gvI i = 0) := by
      show gvI i = 0
      unfold gvI
      rw [List.getD_eq_getElem?_getD, List.getElem?_eq_none (by simpa using h13)]
      rfl
    have e1 : ((i : Int) == 12) = false := by rw [beq_eq_false_iff_ne]; omega
    have e2 : ((i : Int) == 9) = false := by rw [beq_eq_false_iff_ne]; omega
    have e3 : ¬ ((i : Int) ≤ 12) := by omega
    have e4 : (1 : Int) ≤ (i : Int) := by omega
    have e5 : ¬ ((i : Int) ≤ 5) := by omega
    have e6 : ((i : Int) == 7) = false := by rw [beq_eq_false_iff_ne]; omega
    have e7 : ((i : Int) == 10) = false := by rw [beq_eq_false_iff_ne]; omega
    have e8 : (13 : Int) ≤ (i : Int) := by omega
    have e9 : ((i : Int) == 4) = false := by rw [beq_eq_false_iff_ne]; omega
    have HB : Hid (blI i = false) := by
      show blI i = false
      unfold blI
      rw [List.getD_eq_getElem?_getD, List.getElem?_eq_none (by simpa using h13)]
      rfl
    go_enter Tryd.func15, Tryd.ntmps15
    go_wp2_with (refine (rblock_any (by omega)).mono ?_; rintro e w1 ⟨rfl, rfl⟩; try simp only [HB.out])
    go_ret
    exact ⟨by rw [E.out]; rfl, rfl⟩
  all_goals
    go_enter Tryd.func15, Tryd.ntmps15
    go_wp2_with (refine (rblock_any (by omega)).mono ?_; rintro e w1 ⟨rfl, rfl⟩)
    go_ret
    exact ⟨rfl, rfl⟩
set_option maxRecDepth 100000 in
set_option maxHeartbeats 1600000 in
theorem rname_any (hi : i < 256) : Calls Tryd.prog 17 #[.int .u8 (i : Int)] w fun e w' => e = .returned (.string (nmI i)) ∧ Fr No w w' := by
  rcases (show i = 0 ∨ i = 1 ∨ i = 2 ∨ i = 3 ∨ i = 4 ∨ i = 5 ∨ i = 6 ∨ i = 7 ∨ i = 8 ∨ i = 9 ∨ i = 10 ∨ i = 11 ∨ i = 12 ∨ 13 ≤ i by omega) with rfl | rfl | rfl | rfl | rfl | rfl | rfl | rfl | rfl | rfl | rfl | rfl | rfl | h13
  case' inr.inr.inr.inr.inr.inr.inr.inr.inr.inr.inr.inr.inr =>
    have E : Hid (nmI i = ⟨#[]⟩) := by
      show nmI i = ⟨#[]⟩
      unfold nmI nmL
      rw [List.getD_eq_getElem?_getD, List.getElem?_eq_none (by simpa using h13)]
      rfl
    have e1 : ((i : Int) == 12) = false := by rw [beq_eq_false_iff_ne]; omega
    have e2 : ((i : Int) == 9) = false := by rw [beq_eq_false_iff_ne]; omega
    have e3 : ¬ ((i : Int) ≤ 12) := by omega
    have e4 : (1 : Int) ≤ (i : Int) := by omega
    have e5 : ¬ ((i : Int) ≤ 5) := by omega
    have e6 : ((i : Int) == 7) = false := by rw [beq_eq_false_iff_ne]; omega
    have e7 : ((i : Int) == 10) = false := by rw [beq_eq_false_iff_ne]; omega
    have e8 : (13 : Int) ≤ (i : Int) := by omega
    have e9 : ((i : Int) == 4) = false := by rw [beq_eq_false_iff_ne]; omega
    go_enter Tryd.func17, Tryd.ntmps17
    go_wp2_with fail
    go_ret
    exact ⟨by rw [E.out]; rfl, Fr.alloc _ _ _⟩
  all_goals
    go_enter Tryd.func17, Tryd.ntmps17
    go_wp2_with fail
    go_ret
    exact ⟨rfl, Fr.alloc _ _ _⟩
end
end Go.Proofs.YtjaklhfcgcjmmaaDoor

/-
  Pick; what Put answers in two parts; the walk of BagParts. No statement of the seat is proved here.
-/
import Derived.Test.YtmallcjhccbgdaaDoorBgP
import Derived.BigQuiet
namespace Go.Proofs.YtmallcjhccbgdaaDoor
open Go.RowKit Go.Deep

/-- Any number as one of 0 to n - 1. -/
def pick (x : Int) (n : Nat) : Nat := (x % (n : Int)).toNat
theorem pick_lt (x : Int) {n : Nat} (h : 0 < n) : pick x n < n := by
  unfold pick
  have := Int.emod_nonneg x (show (n : Int) ≠ 0 by omega)
  have := Int.emod_lt_of_pos x (show (0 : Int) < n by omega)
  omega
theorem pick_cases (x : Int) {n : Nat} (h : 0 < n) : (x.tmod (n : Int) < 0 ∧ x.tmod (n : Int) + (n : Int) = (pick x n : Int)) ∨ (0 ≤ x.tmod (n : Int) ∧ x.tmod (n : Int) = (pick x n : Int)) := by
  have h1 := Int.emod_nonneg x (show (n : Int) ≠ 0 by omega)
  have h2 := Int.emod_lt_of_pos x (show (0 : Int) < n by omega)
  have h3 := Int.tmod_eq_emod (a := x) (b := (n : Int))
  unfold pick
  rw [h3]
  split <;> omega
section
variable {i : Nat} {a b : Int} {l : List (Nat × Int)}
theorem PutL_ok (hr : rgt l = true) (ha : 1 ≤ a) : 0 ≤ (PutL i l a).2 ∧ (PutL i l a).2 ≤ a ∧ (PutL i l a).1.length = l.length ∧ rgt (PutL i l a).1 = true := by
  unfold PutL
  rw [if_neg (by omega)]
  split
  · exact ⟨by dsimp only; omega, by dsimp only; omega, rfl, hr⟩
  · rename_i h
    have hs := stI_le i
    have hpos : 0 < stI i := by
      have : ¬ stI i = 0 := fun e => h (.inr e)
      omega
    obtain ⟨h1, h2⟩ := putL_left (i := i) (st := stI i) (n := a) (l := l) rfl (.inl hpos) (by omega) hr
    exact ⟨h1, h2, putL_len, putL_rgt rfl (.inl hpos) hr⟩
theorem PutL_byI (hi : i < 256) (hb : By l) : By (PutL i l a).1 := by
  unfold PutL
  split
  · exact hb
  · split
    · exact hb
    · exact putL_by hi hb
theorem PutL_parts (hr : rgt l = true) (ha : 1 ≤ a) (hb : 1 ≤ b) : (PutL i l (a + b)).1 = (PutL i (PutL i l a).1 b).1 ∧ (PutL i l (a + b)).2 = (PutL i l a).2 + (PutL i (PutL i l a).1 b).2 := by
  have h2 := (PutL_ok (i := i) hr ha).2.2.2
  by_cases h : stI i = 0
  · have e : ∀ (L : List (Nat × Int)) (n : Int), 1 ≤ n → PutL i L n = (L, n) := fun L n hn => by
      unfold PutL
      rw [if_neg (by omega), if_pos (.inr h)]
    rw [e l a ha, e l (a + b) (by omega)]
    dsimp only
    rw [e l b hb]
    exact ⟨rfl, rfl⟩
  · have e : ∀ (L : List (Nat × Int)) (n : Int), rgt L = true → 1 ≤ n → PutL i L n = putL i (stI i) L n := fun L n hL hn => by
      unfold PutL
      rw [if_neg (by omega), if_neg (by rw [hL]; simp [h])]
    rw [e _ b h2 hb, e l a hr ha, e l (a + b) hr (by omega)]
    have hs := stI_le i
    exact putL_parts rfl (by omega) hr (by omega) (by omega)
end
section
variable {w : World} {A : Option Addr} {n c : Nat} {l : List (Nat × Int)}
end
end Go.Proofs.YtmallcjhccbgdaaDoor

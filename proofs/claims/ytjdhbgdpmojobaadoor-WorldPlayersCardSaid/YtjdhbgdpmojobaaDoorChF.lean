/-
  Where a box stands among boxes in order. No statement of the seat is proved here.
-/
import Derived.Test.YtjdhbgdpmojobaaDoorChE
namespace Go.Proofs.YtjdhbgdpmojobaaDoor
open Go.RowKit Go.Deep

theorem cmpZ_lt {a b : Int} : cmpZ a b < 0 ↔ a < b := by unfold cmpZ; split <;> (try split) <;> omega
theorem cmpZ_eq {a b : Int} : (cmpZ a b == 0) = decide (a = b) := by
  unfold cmpZ
  rcases Int.lt_trichotomy a b with h | h | h
  · rw [if_pos h, decide_eq_false (by omega)]; rfl
  · subst h; rw [if_neg (by omega), if_neg (by omega), decide_eq_true rfl]; rfl
  · rw [if_neg (by omega), if_pos h, decide_eq_false (by omega)]; rfl
/-- k is where t stands, or would stand, in the row. -/
def AtB (l : List Int) (t : Int) (k : Nat) : Prop := k ≤ l.length ∧ (∀ j (h : j < l.length), j < k → l[j] < t) ∧ (∀ j (h : j < l.length), k ≤ j → t ≤ l[j])
section
variable {w w' : World} {A : Option Addr} {n c lo : Nat}
end
end Go.Proofs.YtjdhbgdpmojobaaDoor

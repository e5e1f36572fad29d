/-
  Bags: which slots are wrong, Right, a bag in memory of its own. No statement of the seat is proved here.
-/
import Derived.Test.YtcoednijggoeiaaSlO
import Derived.Deep.RegionHeld3
namespace Go.Proofs.Ytcoednijggoeiaa
open Go.RowKit Go.Deep

/-- A slot that no right bag has. -/
def wrg (s : Nat × Int) : Bool := !(s.1 == 0 && s.2 == 0) && (decide (s.2 < 1) || decide (stI s.1 < s.2))
/-- A right bag. -/
def rgt (l : List (Nat × Int)) : Bool := l.all (fun s => !wrg s)
/-- Items are numbers of one byte. -/
def By (l : List (Nat × Int)) : Prop := ∀ s ∈ l, s.1 < 256
theorem By.at {l : List (Nat × Int)} (h : By l) (j : Nat) (hj : j < l.length) : l[j].1 < 256 := h _ (List.getElem_mem hj)
section
variable {w : World}
end
end Go.Proofs.Ytcoednijggoeiaa

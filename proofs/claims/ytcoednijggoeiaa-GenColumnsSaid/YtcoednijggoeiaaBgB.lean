/-
  Bags: Right of any slots, a bag in memory of its own, one slot of it written, less. No statement of the seat is proved here.
-/
import Derived.Test.YtcoednijggoeiaaBgA
namespace Go.Proofs.Ytcoednijggoeiaa
open Go.RowKit Go.Deep

section
variable {w w' : World} {A : Option Addr} {n c lo : Nat} {l : List (Nat × Int)}
theorem rgt_any (l : List (Nat × Int)) : rgt l = !(l.any wrg) := by
  unfold rgt
  rw [List.not_any_eq_all_not]
end
end Go.Proofs.Ytcoednijggoeiaa

/-
  Chunks: the small questions; rows held against a question; Right of any chunk. No statement of the seat is proved here.
-/
import Derived.Test.YtcoednijggoeiaaChA
import Derived.BigRegion
import Derived.BigQuiet
import Derived.Deep.QuietTactic
namespace Go.Proofs.Ytcoednijggoeiaa
open Go.RowKit Go.Deep

section
variable {w w' : World} {A : Option Addr} {n c lo : Nat}
/-! ### rows held against a question -/
end
end Go.Proofs.Ytcoednijggoeiaa

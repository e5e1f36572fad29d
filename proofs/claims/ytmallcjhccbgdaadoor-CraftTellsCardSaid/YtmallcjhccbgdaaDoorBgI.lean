/-
  The walk of BagErrors. No statement of the seat is proved here.
-/
import Derived.Test.YtmallcjhccbgdaaDoorBgH
namespace Go.Proofs.YtmallcjhccbgdaaDoor
open Go.RowKit Go.Deep

section
variable {w : World} {A : Option Addr} {n c lo : Nat} {l : List (Nat × Int)}
end
end Go.Proofs.YtmallcjhccbgdaaDoor

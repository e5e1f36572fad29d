/-
  room; the walk of BagRoom. No statement of the seat is proved here.
-/
import Derived.Test.YtmallcjhccbgdaaDoorBgK
namespace Go.Proofs.YtmallcjhccbgdaaDoor
open Go.RowKit Go.Deep

section
variable {w : World} {A : Option Addr} {n c : Nat} {l : List (Nat × Int)}
end
end Go.Proofs.YtmallcjhccbgdaaDoor

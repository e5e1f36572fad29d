/-
  The walk of BagErrors. No statement of the seat is proved here.
-/
import Derived.Test.YthmnnfmepklafaaDoorBgH
namespace Go.Proofs.YthmnnfmepklafaaDoor
open Go.RowKit Go.Deep

section
variable {w : World} {A : Option Addr} {n c lo : Nat} {l : List (Nat × Int)}
theorem awake_w (ht : ItT w) : ∀ W, Fr No w W → Calls Tryd.prog 6 #[] W fun e w' => e = .returned (.bool true) ∧ Fr No w w' :=
  fun _ hW => (awake_any (ht.no hW)).mono (fun _ _ ⟨h1, h2⟩ => ⟨h1, hW.no_trans h2⟩)
end
end Go.Proofs.YthmnnfmepklafaaDoor

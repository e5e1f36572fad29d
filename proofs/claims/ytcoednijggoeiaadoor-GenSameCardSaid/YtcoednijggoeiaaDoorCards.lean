/-
  DERIVED. GIVEN WITH THE SEED: THE CARDS: each row of YtcoednijggoeiaaDoorRows.lean that lists a variable, with what it lists TIED to the program's text (the seventh form; the later family's looks); each row that meets fmt, with fmt's text TOLD by the authors' own Lean function (tested against real Go, not proved from fmt's source: count such statements apart). THE CARD IS WHAT COUNTS. Prove the row's statement (the work); the ties are given (YtcoednijggoeiaaDoorTie.lean); close each card by the builder's one call (the guide's Derived/Test/ToyasCard.lean, 'card_holds'). Laid BY PROGRAM, IN A SANDBOX (cutbox-door.mjs). By AI agents, Wed Nov 11 2026. No macro, syntax, notation, axiom, sorry.
-/
import Derived.Test.YtcoednijggoeiaaDoorRows
import GoSem.ClaimSeven
namespace Go.Proofs.YtcoednijggoeiaaDoor
namespace Rows

/-- THE TIED CARD OF 'homesteadlaw12.GenSame'. -/
def genSameCard : Claim7 := { stood := { row := genSameRow, standIns := [], harness := (true, "7ffc0262de0e46cfb1c4a091a1f9f3ef242e9c715e36ad7bd9647539ea2079b7"), looks := false }, kinds := [], alts := [], laidByText := true, laidKinds := [.data], laidTests := true, laidLooks := .later }
def GenSameCardSaid : Prop := Claim7.holds Tryd.pinned (.plain (OpenSpec.ofChange genSameSpec)) genSameCard

/-- THE SECOND FORM's CARD OF 'homesteadlaw12.GenSame'. -/
def genSameUptoCard : Claim7 := { stood := { row := genSameUptoRow, standIns := [], harness := (true, "7ffc0262de0e46cfb1c4a091a1f9f3ef242e9c715e36ad7bd9647539ea2079b7"), looks := false }, kinds := [], alts := [], laidByText := true, laidKinds := [.data], laidTests := true, laidLooks := .later }
def GenSameUptoCardSaid : Prop := Claim7.holds Tryd.pinned (.plain (OpenSpec.upto genSameSpec)) genSameUptoCard
end Rows
end Go.Proofs.YtcoednijggoeiaaDoor

/-
  DERIVED. GIVEN WITH THE SEED: THE CARDS: each row of YtjaklhfcgcjmmaaDoorRows.lean that lists a variable, with what it lists TIED to the program's text (the seventh form; the later family's looks); each row that meets fmt, with fmt's text TOLD by the authors' own Lean function (tested against real Go, not proved from fmt's source: count such statements apart). THE CARD IS WHAT COUNTS. Prove the row's statement (the work); the ties are given (YtjaklhfcgcjmmaaDoorTie.lean); close each card by the builder's one call (the guide's Derived/Test/ToyasCard.lean, 'card_holds'). Laid BY PROGRAM, IN A SANDBOX (cutbox-door.mjs). By AI agents, Wed Nov 11 2026. No macro, syntax, notation, axiom, sorry.
-/
import Derived.Test.YtjaklhfcgcjmmaaDoorRows
import GoSem.ClaimSeven
namespace Go.Proofs.YtjaklhfcgcjmmaaDoor
namespace Rows

/-- THE TIED CARD OF 'homesteadlaw08.ItemsTell'. -/
def itemsTellCard : Claim7 := { stood := { row := itemsTellRow, standIns := [], harness := (true, "17474700de66f3ce64fbe8e4cf000ec72d43ff26496c0ace7b7a3a88d9f1a2e8"), looks := false }, kinds := [], alts := [], laidByText := true, laidKinds := [.data], laidTests := true, laidLooks := .later }
def ItemsTellCardSaid : Prop := Claim7.holds Tryd.pinned (.plain (OpenSpec.ofChange itemsTellSpec)) itemsTellCard

/-- THE TIED CARD OF 'homesteadlaw08.ItemsHold'. -/
def itemsHoldCard : Claim7 := { stood := { row := itemsHoldRow, standIns := [], harness := (true, "17474700de66f3ce64fbe8e4cf000ec72d43ff26496c0ace7b7a3a88d9f1a2e8"), looks := false }, kinds := [], alts := [], laidByText := true, laidKinds := [.data], laidTests := true, laidLooks := .later }
def ItemsHoldCardSaid : Prop := Claim7.holds Tryd.pinned (.plain (OpenSpec.ofChange itemsHoldSpec)) itemsHoldCard

/-- THE TIED CARD OF 'homesteadlaw08.ItemsBlocks'. -/
def itemsBlocksCard : Claim7 := { stood := { row := itemsBlocksRow, standIns := [], harness := (true, "17474700de66f3ce64fbe8e4cf000ec72d43ff26496c0ace7b7a3a88d9f1a2e8"), looks := false }, kinds := [], alts := [], laidByText := true, laidKinds := [.data], laidTests := true, laidLooks := .later }
def ItemsBlocksCardSaid : Prop := Claim7.holds Tryd.pinned (.plain (OpenSpec.ofChange itemsBlocksSpec)) itemsBlocksCard

/-- THE TIED CARD OF 'homesteadlaw08.ItemsMakes'. -/
def itemsMakesCard : Claim7 := { stood := { row := itemsMakesRow, standIns := [], harness := (true, "17474700de66f3ce64fbe8e4cf000ec72d43ff26496c0ace7b7a3a88d9f1a2e8"), looks := false }, kinds := [], alts := [], laidByText := true, laidKinds := [.data], laidTests := true, laidLooks := .later }
def ItemsMakesCardSaid : Prop := Claim7.holds Tryd.pinned (.plain (OpenSpec.ofChange itemsMakesSpec)) itemsMakesCard

/-- THE TIED CARD OF 'homesteadlaw08.ItemsStill'. -/
def itemsStillCard : Claim7 := { stood := { row := itemsStillRow, standIns := [], harness := (true, "17474700de66f3ce64fbe8e4cf000ec72d43ff26496c0ace7b7a3a88d9f1a2e8"), looks := false }, kinds := [], alts := [], laidByText := true, laidKinds := [.data], laidTests := true, laidLooks := .later }
def ItemsStillCardSaid : Prop := Claim7.holds Tryd.pinned (.plain (OpenSpec.ofChange itemsStillSpec)) itemsStillCard

/-- THE SECOND FORM's CARD OF 'homesteadlaw08.ItemsTell'. -/
def itemsTellUptoCard : Claim7 := { stood := { row := itemsTellUptoRow, standIns := [], harness := (true, "17474700de66f3ce64fbe8e4cf000ec72d43ff26496c0ace7b7a3a88d9f1a2e8"), looks := false }, kinds := [], alts := [], laidByText := true, laidKinds := [.data], laidTests := true, laidLooks := .later }
def ItemsTellUptoCardSaid : Prop := Claim7.holds Tryd.pinned (.plain (OpenSpec.upto itemsTellSpec)) itemsTellUptoCard

/-- THE SECOND FORM's CARD OF 'homesteadlaw08.ItemsHold'. -/
def itemsHoldUptoCard : Claim7 := { stood := { row := itemsHoldUptoRow, standIns := [], harness := (true, "17474700de66f3ce64fbe8e4cf000ec72d43ff26496c0ace7b7a3a88d9f1a2e8"), looks := false }, kinds := [], alts := [], laidByText := true, laidKinds := [.data], laidTests := true, laidLooks := .later }
def ItemsHoldUptoCardSaid : Prop := Claim7.holds Tryd.pinned (.plain (OpenSpec.upto itemsHoldSpec)) itemsHoldUptoCard

/-- THE SECOND FORM's CARD OF 'homesteadlaw08.ItemsBlocks'. -/
def itemsBlocksUptoCard : Claim7 := { stood := { row := itemsBlocksUptoRow, standIns := [], harness := (true, "17474700de66f3ce64fbe8e4cf000ec72d43ff26496c0ace7b7a3a88d9f1a2e8"), looks := false }, kinds := [], alts := [], laidByText := true, laidKinds := [.data], laidTests := true, laidLooks := .later }
def ItemsBlocksUptoCardSaid : Prop := Claim7.holds Tryd.pinned (.plain (OpenSpec.upto itemsBlocksSpec)) itemsBlocksUptoCard

/-- THE SECOND FORM's CARD OF 'homesteadlaw08.ItemsMakes'. -/
def itemsMakesUptoCard : Claim7 := { stood := { row := itemsMakesUptoRow, standIns := [], harness := (true, "17474700de66f3ce64fbe8e4cf000ec72d43ff26496c0ace7b7a3a88d9f1a2e8"), looks := false }, kinds := [], alts := [], laidByText := true, laidKinds := [.data], laidTests := true, laidLooks := .later }
def ItemsMakesUptoCardSaid : Prop := Claim7.holds Tryd.pinned (.plain (OpenSpec.upto itemsMakesSpec)) itemsMakesUptoCard

/-- THE SECOND FORM's CARD OF 'homesteadlaw08.ItemsStill'. -/
def itemsStillUptoCard : Claim7 := { stood := { row := itemsStillUptoRow, standIns := [], harness := (true, "17474700de66f3ce64fbe8e4cf000ec72d43ff26496c0ace7b7a3a88d9f1a2e8"), looks := false }, kinds := [], alts := [], laidByText := true, laidKinds := [.data], laidTests := true, laidLooks := .later }
def ItemsStillUptoCardSaid : Prop := Claim7.holds Tryd.pinned (.plain (OpenSpec.upto itemsStillSpec)) itemsStillUptoCard
end Rows
end Go.Proofs.YtjaklhfcgcjmmaaDoor

/-
  DERIVED. GIVEN WITH THE SEED: THE CARDS: each row of YtegoebkdcogggaaDoorRows.lean that lists a variable, with what it lists TIED to the program's text (the seventh form; the later family's looks); each row that meets fmt, with fmt's text TOLD by the authors' own Lean function (tested against real Go, not proved from fmt's source: count such statements apart). THE CARD IS WHAT COUNTS. Prove the row's statement (the work); the ties are given (YtegoebkdcogggaaDoorTie.lean); close each card by the builder's one call (the guide's Derived/Test/ToyasCard.lean, 'card_holds'). Laid BY PROGRAM, IN A SANDBOX (cutbox-door.mjs). By AI agents, Wed Nov 11 2026. No macro, syntax, notation, axiom, sorry.
-/
import Derived.Test.YtegoebkdcogggaaDoorRows
import GoSem.ClaimSeven
namespace Go.Proofs.YtegoebkdcogggaaDoor
namespace Rows

/-- THE TIED CARD OF 'homesteadlaw09.BagKeeps'. -/
def bagKeepsCard : Claim7 := { stood := { row := bagKeepsRow, standIns := [], harness := (true, "f18ed1c5128fcc963a8ba4ad91f2485ca0638f37d3acf9a84989fb1dd2833f85"), looks := false }, kinds := [], alts := [], laidByText := true, laidKinds := [.data], laidTests := true, laidLooks := .later }
def BagKeepsCardSaid : Prop := Claim7.holds Tryd.pinned (.plain (OpenSpec.ofChange bagKeepsSpec)) bagKeepsCard

/-- THE TIED CARD OF 'homesteadlaw09.BagRoom'. -/
def bagRoomCard : Claim7 := { stood := { row := bagRoomRow, standIns := [], harness := (true, "f18ed1c5128fcc963a8ba4ad91f2485ca0638f37d3acf9a84989fb1dd2833f85"), looks := false }, kinds := [], alts := [], laidByText := true, laidKinds := [.data], laidTests := true, laidLooks := .later }
def BagRoomCardSaid : Prop := Claim7.holds Tryd.pinned (.plain (OpenSpec.ofChange bagRoomSpec)) bagRoomCard

/-- THE TIED CARD OF 'homesteadlaw09.BagParts'. -/
def bagPartsCard : Claim7 := { stood := { row := bagPartsRow, standIns := [], harness := (true, "f18ed1c5128fcc963a8ba4ad91f2485ca0638f37d3acf9a84989fb1dd2833f85"), looks := false }, kinds := [], alts := [], laidByText := true, laidKinds := [.data], laidTests := true, laidLooks := .later }
def BagPartsCardSaid : Prop := Claim7.holds Tryd.pinned (.plain (OpenSpec.ofChange bagPartsSpec)) bagPartsCard

/-- THE TIED CARD OF 'homesteadlaw09.BagBack'. -/
def bagBackCard : Claim7 := { stood := { row := bagBackRow, standIns := [], harness := (true, "f18ed1c5128fcc963a8ba4ad91f2485ca0638f37d3acf9a84989fb1dd2833f85"), looks := false }, kinds := [], alts := [], laidByText := true, laidKinds := [.data], laidTests := true, laidLooks := .later }
def BagBackCardSaid : Prop := Claim7.holds Tryd.pinned (.plain (OpenSpec.ofChange bagBackSpec)) bagBackCard

/-- THE TIED CARD OF 'homesteadlaw09.BagAll'. -/
def bagAllCard : Claim7 := { stood := { row := bagAllRow, standIns := [], harness := (true, "f18ed1c5128fcc963a8ba4ad91f2485ca0638f37d3acf9a84989fb1dd2833f85"), looks := false }, kinds := [], alts := [], laidByText := true, laidKinds := [.data], laidTests := true, laidLooks := .later }
def BagAllCardSaid : Prop := Claim7.holds Tryd.pinned (.plain (OpenSpec.ofChange bagAllSpec)) bagAllCard

/-- THE TIED CARD OF 'homesteadlaw09.BagErrors'. -/
def bagErrorsCard : Claim7 := { stood := { row := bagErrorsRow, standIns := [], harness := (true, "f18ed1c5128fcc963a8ba4ad91f2485ca0638f37d3acf9a84989fb1dd2833f85"), looks := false }, kinds := [], alts := [], laidByText := true, laidKinds := [.data], laidTests := true, laidLooks := .later }
def BagErrorsCardSaid : Prop := Claim7.holds Tryd.pinned (.plain (OpenSpec.ofChange bagErrorsSpec)) bagErrorsCard

/-- THE SECOND FORM's CARD OF 'homesteadlaw09.BagKeeps'. -/
def bagKeepsUptoCard : Claim7 := { stood := { row := bagKeepsUptoRow, standIns := [], harness := (true, "f18ed1c5128fcc963a8ba4ad91f2485ca0638f37d3acf9a84989fb1dd2833f85"), looks := false }, kinds := [], alts := [], laidByText := true, laidKinds := [.data], laidTests := true, laidLooks := .later }
def BagKeepsUptoCardSaid : Prop := Claim7.holds Tryd.pinned (.plain (OpenSpec.upto bagKeepsSpec)) bagKeepsUptoCard

/-- THE SECOND FORM's CARD OF 'homesteadlaw09.BagRoom'. -/
def bagRoomUptoCard : Claim7 := { stood := { row := bagRoomUptoRow, standIns := [], harness := (true, "f18ed1c5128fcc963a8ba4ad91f2485ca0638f37d3acf9a84989fb1dd2833f85"), looks := false }, kinds := [], alts := [], laidByText := true, laidKinds := [.data], laidTests := true, laidLooks := .later }
def BagRoomUptoCardSaid : Prop := Claim7.holds Tryd.pinned (.plain (OpenSpec.upto bagRoomSpec)) bagRoomUptoCard

/-- THE SECOND FORM's CARD OF 'homesteadlaw09.BagParts'. -/
def bagPartsUptoCard : Claim7 := { stood := { row := bagPartsUptoRow, standIns := [], harness := (true, "f18ed1c5128fcc963a8ba4ad91f2485ca0638f37d3acf9a84989fb1dd2833f85"), looks := false }, kinds := [], alts := [], laidByText := true, laidKinds := [.data], laidTests := true, laidLooks := .later }
def BagPartsUptoCardSaid : Prop := Claim7.holds Tryd.pinned (.plain (OpenSpec.upto bagPartsSpec)) bagPartsUptoCard

/-- THE SECOND FORM's CARD OF 'homesteadlaw09.BagBack'. -/
def bagBackUptoCard : Claim7 := { stood := { row := bagBackUptoRow, standIns := [], harness := (true, "f18ed1c5128fcc963a8ba4ad91f2485ca0638f37d3acf9a84989fb1dd2833f85"), looks := false }, kinds := [], alts := [], laidByText := true, laidKinds := [.data], laidTests := true, laidLooks := .later }
def BagBackUptoCardSaid : Prop := Claim7.holds Tryd.pinned (.plain (OpenSpec.upto bagBackSpec)) bagBackUptoCard

/-- THE SECOND FORM's CARD OF 'homesteadlaw09.BagAll'. -/
def bagAllUptoCard : Claim7 := { stood := { row := bagAllUptoRow, standIns := [], harness := (true, "f18ed1c5128fcc963a8ba4ad91f2485ca0638f37d3acf9a84989fb1dd2833f85"), looks := false }, kinds := [], alts := [], laidByText := true, laidKinds := [.data], laidTests := true, laidLooks := .later }
def BagAllUptoCardSaid : Prop := Claim7.holds Tryd.pinned (.plain (OpenSpec.upto bagAllSpec)) bagAllUptoCard

/-- THE SECOND FORM's CARD OF 'homesteadlaw09.BagErrors'. -/
def bagErrorsUptoCard : Claim7 := { stood := { row := bagErrorsUptoRow, standIns := [], harness := (true, "f18ed1c5128fcc963a8ba4ad91f2485ca0638f37d3acf9a84989fb1dd2833f85"), looks := false }, kinds := [], alts := [], laidByText := true, laidKinds := [.data], laidTests := true, laidLooks := .later }
def BagErrorsUptoCardSaid : Prop := Claim7.holds Tryd.pinned (.plain (OpenSpec.upto bagErrorsSpec)) bagErrorsUptoCard
end Rows
end Go.Proofs.YtegoebkdcogggaaDoor

/-
  DERIVED. GIVEN WITH THE SEED: THE CARDS: each row of YthmnnfmepklafaaDoorRows.lean that lists a variable, with what it lists TIED to the program's text (the seventh form; the later family's looks); each row that meets fmt, with fmt's text TOLD by the authors' own Lean function (tested against real Go, not proved from fmt's source: count such statements apart). THE CARD IS WHAT COUNTS. Prove the row's statement (the work); the ties are given (YthmnnfmepklafaaDoorTie.lean); close each card by the builder's one call (the guide's Derived/Test/ToyasCard.lean, 'card_holds'). Laid BY PROGRAM, IN A SANDBOX (cutbox-door.mjs). By AI agents, Wed Nov 11 2026. No macro, syntax, notation, axiom, sorry.
-/
import Derived.Test.YthmnnfmepklafaaDoorRows
import GoSem.ClaimSeven
namespace Go.Proofs.YthmnnfmepklafaaDoor
namespace Rows

/-- THE TIED CARD OF 'homesteadlaw09.BagKeeps'. -/
def bagKeepsCard : Claim7 := { stood := { row := bagKeepsRow, standIns := [], harness := (true, "b0455867834c008037d2b30f720581f9cd9f26651cc5f6367b4b19170dfd464c"), looks := false }, kinds := [], alts := [], laidByText := true, laidKinds := [.data], laidTests := true, laidLooks := .later }
def BagKeepsCardSaid : Prop := Claim7.holds Tryd.pinned (.plain (OpenSpec.ofChange bagKeepsSpec)) bagKeepsCard

/-- THE TIED CARD OF 'homesteadlaw09.BagBack'. -/
def bagBackCard : Claim7 := { stood := { row := bagBackRow, standIns := [], harness := (true, "b0455867834c008037d2b30f720581f9cd9f26651cc5f6367b4b19170dfd464c"), looks := false }, kinds := [], alts := [], laidByText := true, laidKinds := [.data], laidTests := true, laidLooks := .later }
def BagBackCardSaid : Prop := Claim7.holds Tryd.pinned (.plain (OpenSpec.ofChange bagBackSpec)) bagBackCard

/-- THE SECOND FORM's CARD OF 'homesteadlaw09.BagKeeps'. -/
def bagKeepsUptoCard : Claim7 := { stood := { row := bagKeepsUptoRow, standIns := [], harness := (true, "b0455867834c008037d2b30f720581f9cd9f26651cc5f6367b4b19170dfd464c"), looks := false }, kinds := [], alts := [], laidByText := true, laidKinds := [.data], laidTests := true, laidLooks := .later }
def BagKeepsUptoCardSaid : Prop := Claim7.holds Tryd.pinned (.plain (OpenSpec.upto bagKeepsSpec)) bagKeepsUptoCard

/-- THE SECOND FORM's CARD OF 'homesteadlaw09.BagBack'. -/
def bagBackUptoCard : Claim7 := { stood := { row := bagBackUptoRow, standIns := [], harness := (true, "b0455867834c008037d2b30f720581f9cd9f26651cc5f6367b4b19170dfd464c"), looks := false }, kinds := [], alts := [], laidByText := true, laidKinds := [.data], laidTests := true, laidLooks := .later }
def BagBackUptoCardSaid : Prop := Claim7.holds Tryd.pinned (.plain (OpenSpec.upto bagBackSpec)) bagBackUptoCard
end Rows
end Go.Proofs.YthmnnfmepklafaaDoor

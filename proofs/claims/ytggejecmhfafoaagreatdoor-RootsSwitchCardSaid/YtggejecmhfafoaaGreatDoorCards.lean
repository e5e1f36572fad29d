/-
  DERIVED. GIVEN WITH THE SEED: THE CARDS: each row of YtggejecmhfafoaaGreatDoorRows.lean that lists a variable, with what it lists TIED to the program's text (the seventh form; the later family's looks); each row that meets fmt, with fmt's text TOLD by the authors' own Lean function (tested against real Go, not proved from fmt's source: count such statements apart). THE CARD IS WHAT COUNTS. Prove the row's statement (the work); the ties are given (YtggejecmhfafoaaGreatDoorTie.lean); close each card by the builder's one call (the guide's Derived/Test/ToyasCard.lean, 'card_holds'). Laid BY PROGRAM, IN A SANDBOX (cutbox-door.mjs). By AI agents, Wed Nov 11 2026. No macro, syntax, notation, axiom, sorry.
-/
import Derived.Test.YtggejecmhfafoaaGreatDoorRows
import GoSem.ClaimSeven
namespace Go.Proofs.YtggejecmhfafoaaGreatDoor
namespace Rows

/-- THE TIED CARD OF 'homesteadlaw06.RootsSwitch'. -/
def rootsSwitchCard : Claim7 := { stood := { row := rootsSwitchRow, standIns := [], harness := (true, "95ed04891b67a5fa00ed7c84b89686c2dd04d17c056fe60315b33917983d70f3"), looks := false }, kinds := [], alts := [], laidByText := true, laidKinds := [.data, .data, .data, .data], laidTests := true, laidLooks := .later }
def RootsSwitchCardSaid : Prop := Claim7.holds Tryz.pinned (.plain (OpenSpec.ofChange rootsSwitchSpec)) rootsSwitchCard

/-- THE TIED CARD OF 'homesteadlaw06.RootsSpoilt'. -/
def rootsSpoiltCard : Claim7 := { stood := { row := rootsSpoiltRow, standIns := [], harness := (true, "95ed04891b67a5fa00ed7c84b89686c2dd04d17c056fe60315b33917983d70f3"), looks := false }, kinds := [], alts := [], laidByText := true, laidKinds := [.data, .data, .data, .data], laidTests := true, laidLooks := .later }
def RootsSpoiltCardSaid : Prop := Claim7.holds Tryz.pinned (.plain (OpenSpec.ofChange rootsSpoiltSpec)) rootsSpoiltCard

/-- THE SECOND FORM's CARD OF 'homesteadlaw06.RootsSwitch'. -/
def rootsSwitchUptoCard : Claim7 := { stood := { row := rootsSwitchUptoRow, standIns := [], harness := (true, "95ed04891b67a5fa00ed7c84b89686c2dd04d17c056fe60315b33917983d70f3"), looks := false }, kinds := [], alts := [], laidByText := true, laidKinds := [.data, .data, .data, .data], laidTests := true, laidLooks := .later }
def RootsSwitchUptoCardSaid : Prop := Claim7.holds Tryz.pinned (.plain (OpenSpec.upto rootsSwitchSpec)) rootsSwitchUptoCard

/-- THE SECOND FORM's CARD OF 'homesteadlaw06.RootsSpoilt'. -/
def rootsSpoiltUptoCard : Claim7 := { stood := { row := rootsSpoiltUptoRow, standIns := [], harness := (true, "95ed04891b67a5fa00ed7c84b89686c2dd04d17c056fe60315b33917983d70f3"), looks := false }, kinds := [], alts := [], laidByText := true, laidKinds := [.data, .data, .data, .data], laidTests := true, laidLooks := .later }
def RootsSpoiltUptoCardSaid : Prop := Claim7.holds Tryz.pinned (.plain (OpenSpec.upto rootsSpoiltSpec)) rootsSpoiltUptoCard
end Rows
end Go.Proofs.YtggejecmhfafoaaGreatDoor

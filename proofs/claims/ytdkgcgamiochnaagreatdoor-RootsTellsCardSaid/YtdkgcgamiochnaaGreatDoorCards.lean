/-
  DERIVED. GIVEN WITH THE SEED: THE CARDS: each row of YtdkgcgamiochnaaGreatDoorRows.lean that lists a variable, with what it lists TIED to the program's text (the seventh form; the later family's looks); each row that meets fmt, with fmt's text TOLD by the authors' own Lean function (tested against real Go, not proved from fmt's source: count such statements apart). THE CARD IS WHAT COUNTS. Prove the row's statement (the work); the ties are given (YtdkgcgamiochnaaGreatDoorTie.lean); close each card by the builder's one call (the guide's Derived/Test/ToyasCard.lean, 'card_holds'). Laid BY PROGRAM, IN A SANDBOX (cutbox-door.mjs). By AI agents, Wed Nov 11 2026. No macro, syntax, notation, axiom, sorry.
-/
import Derived.Test.YtdkgcgamiochnaaGreatDoorRows
import GoSem.ClaimSeven
namespace Go.Proofs.YtdkgcgamiochnaaGreatDoor
namespace Rows

/-- THE TIED CARD OF 'homesteadlaw06.RootsTells'. -/
def rootsTellsCard : Claim7 := { stood := { row := rootsTellsRow, standIns := [], harness := (true, "11cb4747ab1ce6f48d025cc2c63b18ed47e2bcceed734c398067b2d0b503db5a"), looks := false }, kinds := [], alts := [], laidByText := true, laidKinds := [.data, .data, .data, .data], laidTests := true, laidLooks := .later }
def RootsTellsCardSaid : Prop := Claim7.holds Tryz.pinned (.plain (OpenSpec.ofChange rootsTellsSpec)) rootsTellsCard

/-- THE SECOND FORM's CARD OF 'homesteadlaw06.RootsTells'. -/
def rootsTellsUptoCard : Claim7 := { stood := { row := rootsTellsUptoRow, standIns := [], harness := (true, "11cb4747ab1ce6f48d025cc2c63b18ed47e2bcceed734c398067b2d0b503db5a"), looks := false }, kinds := [], alts := [], laidByText := true, laidKinds := [.data, .data, .data, .data], laidTests := true, laidLooks := .later }
def RootsTellsUptoCardSaid : Prop := Claim7.holds Tryz.pinned (.plain (OpenSpec.upto rootsTellsSpec)) rootsTellsUptoCard
end Rows
end Go.Proofs.YtdkgcgamiochnaaGreatDoor

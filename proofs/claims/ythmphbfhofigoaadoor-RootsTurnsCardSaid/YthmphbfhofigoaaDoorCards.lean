/-
  DERIVED. GIVEN WITH THE SEED: THE CARDS: each row of YthmphbfhofigoaaDoorRows.lean that lists a variable, with what it lists TIED to the program's text (the seventh form; the later family's looks); each row that meets fmt, with fmt's text TOLD by the authors' own Lean function (tested against real Go, not proved from fmt's source: count such statements apart). THE CARD IS WHAT COUNTS. Prove the row's statement (the work); the ties are given (YthmphbfhofigoaaDoorTie.lean); close each card by the builder's one call (the guide's Derived/Test/ToyasCard.lean, 'card_holds'). Laid BY PROGRAM, IN A SANDBOX (cutbox-door.mjs). By AI agents, Wed Nov 11 2026. No macro, syntax, notation, axiom, sorry.
-/
import Derived.Test.YthmphbfhofigoaaDoorRows
import GoSem.ClaimSeven
namespace Go.Proofs.YthmphbfhofigoaaDoor
namespace Rows

/-- THE TIED CARD OF 'homesteadlaw06.RootsBack'. -/
def rootsBackCard : Claim7 := { stood := { row := rootsBackRow, standIns := [], harness := (true, "205e16091b22c6f63a628e585a8a5b17fe970a3bce4432938d734c2e6dffb50a"), looks := false }, kinds := [], alts := [], laidByText := true, laidKinds := [.data, .data, .data, .data], laidTests := true, laidLooks := .later }
def RootsBackCardSaid : Prop := Claim7.holds Tryd.pinned (.plain (OpenSpec.ofChange rootsBackSpec)) rootsBackCard

/-- THE TIED CARD OF 'homesteadlaw06.RootsTurns'. -/
def rootsTurnsCard : Claim7 := { stood := { row := rootsTurnsRow, standIns := [], harness := (true, "205e16091b22c6f63a628e585a8a5b17fe970a3bce4432938d734c2e6dffb50a"), looks := false }, kinds := [], alts := [], laidByText := true, laidKinds := [.data, .data, .data, .data], laidTests := true, laidLooks := .later }
def RootsTurnsCardSaid : Prop := Claim7.holds Tryd.pinned (.plain (OpenSpec.ofChange rootsTurnsSpec)) rootsTurnsCard

/-- THE SECOND FORM's CARD OF 'homesteadlaw06.RootsBack'. -/
def rootsBackUptoCard : Claim7 := { stood := { row := rootsBackUptoRow, standIns := [], harness := (true, "205e16091b22c6f63a628e585a8a5b17fe970a3bce4432938d734c2e6dffb50a"), looks := false }, kinds := [], alts := [], laidByText := true, laidKinds := [.data, .data, .data, .data], laidTests := true, laidLooks := .later }
def RootsBackUptoCardSaid : Prop := Claim7.holds Tryd.pinned (.plain (OpenSpec.upto rootsBackSpec)) rootsBackUptoCard

/-- THE SECOND FORM's CARD OF 'homesteadlaw06.RootsTurns'. -/
def rootsTurnsUptoCard : Claim7 := { stood := { row := rootsTurnsUptoRow, standIns := [], harness := (true, "205e16091b22c6f63a628e585a8a5b17fe970a3bce4432938d734c2e6dffb50a"), looks := false }, kinds := [], alts := [], laidByText := true, laidKinds := [.data, .data, .data, .data], laidTests := true, laidLooks := .later }
def RootsTurnsUptoCardSaid : Prop := Claim7.holds Tryd.pinned (.plain (OpenSpec.upto rootsTurnsSpec)) rootsTurnsUptoCard
end Rows
end Go.Proofs.YthmphbfhofigoaaDoor

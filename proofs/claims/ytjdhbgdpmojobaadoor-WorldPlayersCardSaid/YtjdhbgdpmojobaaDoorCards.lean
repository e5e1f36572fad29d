/-
  DERIVED. GIVEN WITH THE SEED: THE CARDS: each row of YtjdhbgdpmojobaaDoorRows.lean that lists a variable, with what it lists TIED to the program's text (the seventh form; the later family's looks); each row that meets fmt, with fmt's text TOLD by the authors' own Lean function (tested against real Go, not proved from fmt's source: count such statements apart). THE CARD IS WHAT COUNTS. Prove the row's statement (the work); the ties are given (YtjdhbgdpmojobaaDoorTie.lean); close each card by the builder's one call (the guide's Derived/Test/ToyasCard.lean, 'card_holds'). Laid BY PROGRAM, IN A SANDBOX (cutbox-door.mjs). By AI agents, Wed Nov 11 2026. No macro, syntax, notation, axiom, sorry.
-/
import Derived.Test.YtjdhbgdpmojobaaDoorRows
import GoSem.ClaimSeven
namespace Go.Proofs.YtjdhbgdpmojobaaDoor
namespace Rows

/-- THE TIED CARD OF 'homesteadlaw13.WorldPuts'. -/
def worldPutsCard : Claim7 := { stood := { row := worldPutsRow, standIns := [], harness := (true, "ee39d64a36612eb9334343aec9697dfd2ec05b836ea729f39869e89bbfa39e42"), looks := false }, kinds := [], alts := [], laidByText := true, laidKinds := [.data], laidTests := true, laidLooks := .later }
def WorldPutsCardSaid : Prop := Claim7.holds Tryd.pinned (.plain (OpenSpec.ofChange worldPutsSpec)) worldPutsCard

/-- THE TIED CARD OF 'homesteadlaw13.WorldFirst'. -/
def worldFirstCard : Claim7 := { stood := { row := worldFirstRow, standIns := [], harness := (true, "ee39d64a36612eb9334343aec9697dfd2ec05b836ea729f39869e89bbfa39e42"), looks := false }, kinds := [], alts := [], laidByText := true, laidKinds := [.data], laidTests := true, laidLooks := .later }
def WorldFirstCardSaid : Prop := Claim7.holds Tryd.pinned (.plain (OpenSpec.ofChange worldFirstSpec)) worldFirstCard

/-- THE TIED CARD OF 'homesteadlaw13.WorldPlayers'. -/
def worldPlayersCard : Claim7 := { stood := { row := worldPlayersRow, standIns := [], harness := (true, "ee39d64a36612eb9334343aec9697dfd2ec05b836ea729f39869e89bbfa39e42"), looks := false }, kinds := [], alts := [], laidByText := true, laidKinds := [.data], laidTests := true, laidLooks := .later }
def WorldPlayersCardSaid : Prop := Claim7.holds Tryd.pinned (.plain (OpenSpec.ofChange worldPlayersSpec)) worldPlayersCard

/-- THE TIED CARD OF 'homesteadlaw13.WorldCells'. -/
def worldCellsCard : Claim7 := { stood := { row := worldCellsRow, standIns := [], harness := (true, "ee39d64a36612eb9334343aec9697dfd2ec05b836ea729f39869e89bbfa39e42"), looks := false }, kinds := [], alts := [], laidByText := true, laidKinds := [.data], laidTests := true, laidLooks := .later }
def WorldCellsCardSaid : Prop := Claim7.holds Tryd.pinned (.plain (OpenSpec.ofChange worldCellsSpec)) worldCellsCard

/-- THE SECOND FORM's CARD OF 'homesteadlaw13.WorldPuts'. -/
def worldPutsUptoCard : Claim7 := { stood := { row := worldPutsUptoRow, standIns := [], harness := (true, "ee39d64a36612eb9334343aec9697dfd2ec05b836ea729f39869e89bbfa39e42"), looks := false }, kinds := [], alts := [], laidByText := true, laidKinds := [.data], laidTests := true, laidLooks := .later }
def WorldPutsUptoCardSaid : Prop := Claim7.holds Tryd.pinned (.plain (OpenSpec.upto worldPutsSpec)) worldPutsUptoCard

/-- THE SECOND FORM's CARD OF 'homesteadlaw13.WorldFirst'. -/
def worldFirstUptoCard : Claim7 := { stood := { row := worldFirstUptoRow, standIns := [], harness := (true, "ee39d64a36612eb9334343aec9697dfd2ec05b836ea729f39869e89bbfa39e42"), looks := false }, kinds := [], alts := [], laidByText := true, laidKinds := [.data], laidTests := true, laidLooks := .later }
def WorldFirstUptoCardSaid : Prop := Claim7.holds Tryd.pinned (.plain (OpenSpec.upto worldFirstSpec)) worldFirstUptoCard

/-- THE SECOND FORM's CARD OF 'homesteadlaw13.WorldPlayers'. -/
def worldPlayersUptoCard : Claim7 := { stood := { row := worldPlayersUptoRow, standIns := [], harness := (true, "ee39d64a36612eb9334343aec9697dfd2ec05b836ea729f39869e89bbfa39e42"), looks := false }, kinds := [], alts := [], laidByText := true, laidKinds := [.data], laidTests := true, laidLooks := .later }
def WorldPlayersUptoCardSaid : Prop := Claim7.holds Tryd.pinned (.plain (OpenSpec.upto worldPlayersSpec)) worldPlayersUptoCard

/-- THE SECOND FORM's CARD OF 'homesteadlaw13.WorldCells'. -/
def worldCellsUptoCard : Claim7 := { stood := { row := worldCellsUptoRow, standIns := [], harness := (true, "ee39d64a36612eb9334343aec9697dfd2ec05b836ea729f39869e89bbfa39e42"), looks := false }, kinds := [], alts := [], laidByText := true, laidKinds := [.data], laidTests := true, laidLooks := .later }
def WorldCellsUptoCardSaid : Prop := Claim7.holds Tryd.pinned (.plain (OpenSpec.upto worldCellsSpec)) worldCellsUptoCard
end Rows
end Go.Proofs.YtjdhbgdpmojobaaDoor

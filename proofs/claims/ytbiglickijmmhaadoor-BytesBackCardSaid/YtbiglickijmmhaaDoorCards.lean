/-
  DERIVED. GIVEN WITH THE SEED: THE CARDS: each row of YtbiglickijmmhaaDoorRows.lean that lists a variable, with what it lists TIED to the program's text (the seventh form; the later family's looks); each row that meets fmt, with fmt's text TOLD by the authors' own Lean function (tested against real Go, not proved from fmt's source: count such statements apart). THE CARD IS WHAT COUNTS. Prove the row's statement (the work); the ties are given (YtbiglickijmmhaaDoorTie.lean); close each card by the builder's one call (the guide's Derived/Test/ToyasCard.lean, 'card_holds'). Laid BY PROGRAM, IN A SANDBOX (cutbox-door.mjs). By AI agents, Wed Nov 11 2026. No macro, syntax, notation, axiom, sorry.
-/
import Derived.Test.YtbiglickijmmhaaDoorRows
import GoSem.ClaimSeven
namespace Go.Proofs.YtbiglickijmmhaaDoor
namespace Rows

/-- THE TIED CARD OF 'homesteadlaw01.BytesTells'. -/
def bytesTellsCard : Claim7 := { stood := { row := bytesTellsRow, standIns := [], harness := (true, "aa561887f47c9b1f3b56a9f6b9ed51fc89cd64bcd1ddf9ab73071c96a516a58c"), looks := false }, kinds := [], alts := [], laidByText := true, laidKinds := [.data], laidTests := true, laidLooks := .later }
def BytesTellsCardSaid : Prop := Claim7.holds Tryd.pinned (.plain (OpenSpec.ofChange bytesTellsSpec)) bytesTellsCard

/-- THE TIED CARD OF 'homesteadlaw01.BytesBack'. -/
def bytesBackCard : Claim7 := { stood := { row := bytesBackRow, standIns := [], harness := (true, "aa561887f47c9b1f3b56a9f6b9ed51fc89cd64bcd1ddf9ab73071c96a516a58c"), looks := false }, kinds := [], alts := [], laidByText := true, laidKinds := [.data], laidTests := true, laidLooks := .later }
def BytesBackCardSaid : Prop := Claim7.holds Tryd.pinned (.plain (OpenSpec.ofChange bytesBackSpec)) bytesBackCard

/-- THE SECOND FORM's CARD OF 'homesteadlaw01.BytesTells'. -/
def bytesTellsUptoCard : Claim7 := { stood := { row := bytesTellsUptoRow, standIns := [], harness := (true, "aa561887f47c9b1f3b56a9f6b9ed51fc89cd64bcd1ddf9ab73071c96a516a58c"), looks := false }, kinds := [], alts := [], laidByText := true, laidKinds := [.data], laidTests := true, laidLooks := .later }
def BytesTellsUptoCardSaid : Prop := Claim7.holds Tryd.pinned (.plain (OpenSpec.upto bytesTellsSpec)) bytesTellsUptoCard

/-- THE SECOND FORM's CARD OF 'homesteadlaw01.BytesBack'. -/
def bytesBackUptoCard : Claim7 := { stood := { row := bytesBackUptoRow, standIns := [], harness := (true, "aa561887f47c9b1f3b56a9f6b9ed51fc89cd64bcd1ddf9ab73071c96a516a58c"), looks := false }, kinds := [], alts := [], laidByText := true, laidKinds := [.data], laidTests := true, laidLooks := .later }
def BytesBackUptoCardSaid : Prop := Claim7.holds Tryd.pinned (.plain (OpenSpec.upto bytesBackSpec)) bytesBackUptoCard
end Rows
end Go.Proofs.YtbiglickijmmhaaDoor

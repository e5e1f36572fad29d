/-
  DERIVED. GIVEN WITH THE SEED: THE CARDS: each row of YtkoapldkjlfpeaaDoorRows.lean that lists a variable, with what it lists TIED to the program's text (the seventh form; the later family's looks); each row that meets fmt, with fmt's text TOLD by the authors' own Lean function (tested against real Go, not proved from fmt's source: count such statements apart). THE CARD IS WHAT COUNTS. Prove the row's statement (the work); the ties are given (YtkoapldkjlfpeaaDoorTie.lean); close each card by the builder's one call (the guide's Derived/Test/ToyasCard.lean, 'card_holds'). Laid BY PROGRAM, IN A SANDBOX (cutbox-door.mjs). By AI agents, Wed Nov 11 2026. No macro, syntax, notation, axiom, sorry.
-/
import Derived.Test.YtkoapldkjlfpeaaDoorRows
import GoSem.ClaimSeven
namespace Go.Proofs.YtkoapldkjlfpeaaDoor
namespace Rows

/-- THE TIED CARD OF 'homesteadlaw01.BytesFixed'. -/
def bytesFixedCard : Claim7 := { stood := { row := bytesFixedRow, standIns := [], harness := (true, "14e377ba54d7fea5cd98425c5872fb3d11392d2cc94fc7b1f93ed5643f96dcb1"), looks := false }, kinds := [], alts := [], laidByText := true, laidKinds := [.data], laidTests := true, laidLooks := .later }
def BytesFixedCardSaid : Prop := Claim7.holds Tryd.pinned (.plain (OpenSpec.ofChange bytesFixedSpec)) bytesFixedCard

/-- THE TIED CARD OF 'homesteadlaw01.BytesTells'. -/
def bytesTellsCard : Claim7 := { stood := { row := bytesTellsRow, standIns := [], harness := (true, "14e377ba54d7fea5cd98425c5872fb3d11392d2cc94fc7b1f93ed5643f96dcb1"), looks := false }, kinds := [], alts := [], laidByText := true, laidKinds := [.data], laidTests := true, laidLooks := .later }
def BytesTellsCardSaid : Prop := Claim7.holds Tryd.pinned (.plain (OpenSpec.ofChange bytesTellsSpec)) bytesTellsCard

/-- THE TIED CARD OF 'homesteadlaw01.BytesBack'. -/
def bytesBackCard : Claim7 := { stood := { row := bytesBackRow, standIns := [], harness := (true, "14e377ba54d7fea5cd98425c5872fb3d11392d2cc94fc7b1f93ed5643f96dcb1"), looks := false }, kinds := [], alts := [], laidByText := true, laidKinds := [.data], laidTests := true, laidLooks := .later }
def BytesBackCardSaid : Prop := Claim7.holds Tryd.pinned (.plain (OpenSpec.ofChange bytesBackSpec)) bytesBackCard

/-- THE TIED CARD OF 'homesteadlaw01.BytesLadder'. -/
def bytesLadderCard : Claim7 := { stood := { row := bytesLadderRow, standIns := [], harness := (true, "14e377ba54d7fea5cd98425c5872fb3d11392d2cc94fc7b1f93ed5643f96dcb1"), looks := false }, kinds := [], alts := [], laidByText := true, laidKinds := [.data], laidTests := true, laidLooks := .later }
def BytesLadderCardSaid : Prop := Claim7.holds Tryd.pinned (.plain (OpenSpec.ofChange bytesLadderSpec)) bytesLadderCard

/-- THE TIED CARD OF 'homesteadlaw01.BytesCompare'. -/
def bytesCompareCard : Claim7 := { stood := { row := bytesCompareRow, standIns := [], harness := (true, "14e377ba54d7fea5cd98425c5872fb3d11392d2cc94fc7b1f93ed5643f96dcb1"), looks := false }, kinds := [], alts := [], laidByText := true, laidKinds := [.data], laidTests := true, laidLooks := .later }
def BytesCompareCardSaid : Prop := Claim7.holds Tryd.pinned (.plain (OpenSpec.ofChange bytesCompareSpec)) bytesCompareCard

/-- THE TIED CARD OF 'homesteadlaw01.BytesMirror'. -/
def bytesMirrorCard : Claim7 := { stood := { row := bytesMirrorRow, standIns := [], harness := (true, "14e377ba54d7fea5cd98425c5872fb3d11392d2cc94fc7b1f93ed5643f96dcb1"), looks := false }, kinds := [], alts := [], laidByText := true, laidKinds := [.data], laidTests := true, laidLooks := .later }
def BytesMirrorCardSaid : Prop := Claim7.holds Tryd.pinned (.plain (OpenSpec.ofChange bytesMirrorSpec)) bytesMirrorCard

/-- THE TIED CARD OF 'homesteadlaw01.BytesResidue'. -/
def bytesResidueCard : Claim7 := { stood := { row := bytesResidueRow, standIns := [], harness := (true, "14e377ba54d7fea5cd98425c5872fb3d11392d2cc94fc7b1f93ed5643f96dcb1"), looks := false }, kinds := [], alts := [], laidByText := true, laidKinds := [.data], laidTests := true, laidLooks := .later }
def BytesResidueCardSaid : Prop := Claim7.holds Tryd.pinned (.plain (OpenSpec.ofChange bytesResidueSpec)) bytesResidueCard

/-- THE TIED CARD OF 'homesteadlaw01.BytesTwo'. -/
def bytesTwoCard : Claim7 := { stood := { row := bytesTwoRow, standIns := [], harness := (true, "14e377ba54d7fea5cd98425c5872fb3d11392d2cc94fc7b1f93ed5643f96dcb1"), looks := false }, kinds := [], alts := [], laidByText := true, laidKinds := [.data], laidTests := true, laidLooks := .later }
def BytesTwoCardSaid : Prop := Claim7.holds Tryd.pinned (.plain (OpenSpec.ofChange bytesTwoSpec)) bytesTwoCard

/-- THE SECOND FORM's CARD OF 'homesteadlaw01.BytesFixed'. -/
def bytesFixedUptoCard : Claim7 := { stood := { row := bytesFixedUptoRow, standIns := [], harness := (true, "14e377ba54d7fea5cd98425c5872fb3d11392d2cc94fc7b1f93ed5643f96dcb1"), looks := false }, kinds := [], alts := [], laidByText := true, laidKinds := [.data], laidTests := true, laidLooks := .later }
def BytesFixedUptoCardSaid : Prop := Claim7.holds Tryd.pinned (.plain (OpenSpec.upto bytesFixedSpec)) bytesFixedUptoCard

/-- THE SECOND FORM's CARD OF 'homesteadlaw01.BytesTells'. -/
def bytesTellsUptoCard : Claim7 := { stood := { row := bytesTellsUptoRow, standIns := [], harness := (true, "14e377ba54d7fea5cd98425c5872fb3d11392d2cc94fc7b1f93ed5643f96dcb1"), looks := false }, kinds := [], alts := [], laidByText := true, laidKinds := [.data], laidTests := true, laidLooks := .later }
def BytesTellsUptoCardSaid : Prop := Claim7.holds Tryd.pinned (.plain (OpenSpec.upto bytesTellsSpec)) bytesTellsUptoCard

/-- THE SECOND FORM's CARD OF 'homesteadlaw01.BytesBack'. -/
def bytesBackUptoCard : Claim7 := { stood := { row := bytesBackUptoRow, standIns := [], harness := (true, "14e377ba54d7fea5cd98425c5872fb3d11392d2cc94fc7b1f93ed5643f96dcb1"), looks := false }, kinds := [], alts := [], laidByText := true, laidKinds := [.data], laidTests := true, laidLooks := .later }
def BytesBackUptoCardSaid : Prop := Claim7.holds Tryd.pinned (.plain (OpenSpec.upto bytesBackSpec)) bytesBackUptoCard

/-- THE SECOND FORM's CARD OF 'homesteadlaw01.BytesLadder'. -/
def bytesLadderUptoCard : Claim7 := { stood := { row := bytesLadderUptoRow, standIns := [], harness := (true, "14e377ba54d7fea5cd98425c5872fb3d11392d2cc94fc7b1f93ed5643f96dcb1"), looks := false }, kinds := [], alts := [], laidByText := true, laidKinds := [.data], laidTests := true, laidLooks := .later }
def BytesLadderUptoCardSaid : Prop := Claim7.holds Tryd.pinned (.plain (OpenSpec.upto bytesLadderSpec)) bytesLadderUptoCard

/-- THE SECOND FORM's CARD OF 'homesteadlaw01.BytesCompare'. -/
def bytesCompareUptoCard : Claim7 := { stood := { row := bytesCompareUptoRow, standIns := [], harness := (true, "14e377ba54d7fea5cd98425c5872fb3d11392d2cc94fc7b1f93ed5643f96dcb1"), looks := false }, kinds := [], alts := [], laidByText := true, laidKinds := [.data], laidTests := true, laidLooks := .later }
def BytesCompareUptoCardSaid : Prop := Claim7.holds Tryd.pinned (.plain (OpenSpec.upto bytesCompareSpec)) bytesCompareUptoCard

/-- THE SECOND FORM's CARD OF 'homesteadlaw01.BytesMirror'. -/
def bytesMirrorUptoCard : Claim7 := { stood := { row := bytesMirrorUptoRow, standIns := [], harness := (true, "14e377ba54d7fea5cd98425c5872fb3d11392d2cc94fc7b1f93ed5643f96dcb1"), looks := false }, kinds := [], alts := [], laidByText := true, laidKinds := [.data], laidTests := true, laidLooks := .later }
def BytesMirrorUptoCardSaid : Prop := Claim7.holds Tryd.pinned (.plain (OpenSpec.upto bytesMirrorSpec)) bytesMirrorUptoCard

/-- THE SECOND FORM's CARD OF 'homesteadlaw01.BytesResidue'. -/
def bytesResidueUptoCard : Claim7 := { stood := { row := bytesResidueUptoRow, standIns := [], harness := (true, "14e377ba54d7fea5cd98425c5872fb3d11392d2cc94fc7b1f93ed5643f96dcb1"), looks := false }, kinds := [], alts := [], laidByText := true, laidKinds := [.data], laidTests := true, laidLooks := .later }
def BytesResidueUptoCardSaid : Prop := Claim7.holds Tryd.pinned (.plain (OpenSpec.upto bytesResidueSpec)) bytesResidueUptoCard

/-- THE SECOND FORM's CARD OF 'homesteadlaw01.BytesTwo'. -/
def bytesTwoUptoCard : Claim7 := { stood := { row := bytesTwoUptoRow, standIns := [], harness := (true, "14e377ba54d7fea5cd98425c5872fb3d11392d2cc94fc7b1f93ed5643f96dcb1"), looks := false }, kinds := [], alts := [], laidByText := true, laidKinds := [.data], laidTests := true, laidLooks := .later }
def BytesTwoUptoCardSaid : Prop := Claim7.holds Tryd.pinned (.plain (OpenSpec.upto bytesTwoSpec)) bytesTwoUptoCard
end Rows
end Go.Proofs.YtkoapldkjlfpeaaDoor

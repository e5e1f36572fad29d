/-
  DERIVED. GIVEN WITH THE SEED: THE CARDS: each row of YtllmdbalhjlbpaaDoorRows.lean that lists a variable, with what it lists TIED to the program's text (the seventh form; the later family's looks); each row that meets fmt, with fmt's text TOLD by the authors' own Lean function (tested against real Go, not proved from fmt's source: count such statements apart). THE CARD IS WHAT COUNTS. Prove the row's statement (the work); the ties are given (YtllmdbalhjlbpaaDoorTie.lean); close each card by the builder's one call (the guide's Derived/Test/ToyasCard.lean, 'card_holds'). Laid BY PROGRAM, IN A SANDBOX (cutbox-door.mjs). By AI agents, Wed Nov 11 2026. No macro, syntax, notation, axiom, sorry.
-/
import Derived.Test.YtllmdbalhjlbpaaDoorRows
import GoSem.ClaimSeven
namespace Go.Proofs.YtllmdbalhjlbpaaDoor
namespace Rows

/-- THE TIED CARD OF 'homesteadlaw01.BytesTells'. -/
def bytesTellsCard : Claim7 := { stood := { row := bytesTellsRow, standIns := [], harness := (true, "c6c77e865ce716c6c60996e2e1e5318aa441ea07bdd5ca27b10fcaf2854240e9"), looks := false }, kinds := [], alts := [], laidByText := true, laidKinds := [.data], laidTests := true, laidLooks := .later }
def BytesTellsCardSaid : Prop := Claim7.holds Tryd.pinned (.plain (OpenSpec.ofChange bytesTellsSpec)) bytesTellsCard

/-- THE TIED CARD OF 'homesteadlaw01.BytesBack'. -/
def bytesBackCard : Claim7 := { stood := { row := bytesBackRow, standIns := [], harness := (true, "c6c77e865ce716c6c60996e2e1e5318aa441ea07bdd5ca27b10fcaf2854240e9"), looks := false }, kinds := [], alts := [], laidByText := true, laidKinds := [.data], laidTests := true, laidLooks := .later }
def BytesBackCardSaid : Prop := Claim7.holds Tryd.pinned (.plain (OpenSpec.ofChange bytesBackSpec)) bytesBackCard

/-- THE TIED CARD OF 'homesteadlaw02.ShaFixed'. -/
def shaFixedCard : Claim7 := { stood := { row := shaFixedRow, standIns := [], harness := (true, "c6c77e865ce716c6c60996e2e1e5318aa441ea07bdd5ca27b10fcaf2854240e9"), looks := false }, kinds := [], alts := [], laidByText := true, laidKinds := [.data], laidTests := true, laidLooks := .later }
def ShaFixedCardSaid : Prop := Claim7.holds Tryd.pinned (.plain (OpenSpec.ofChange shaFixedSpec)) shaFixedCard

/-- THE TIED CARD OF 'homesteadlaw02.ShaTells'. -/
def shaTellsCard : Claim7 := { stood := { row := shaTellsRow, standIns := [], harness := (true, "c6c77e865ce716c6c60996e2e1e5318aa441ea07bdd5ca27b10fcaf2854240e9"), looks := false }, kinds := [], alts := [], laidByText := true, laidKinds := [.data], laidTests := true, laidLooks := .later }
def ShaTellsCardSaid : Prop := Claim7.holds Tryd.pinned (.plain (OpenSpec.ofChange shaTellsSpec)) shaTellsCard

/-- THE TIED CARD OF 'homesteadlaw02.ShaOrder'. -/
def shaOrderCard : Claim7 := { stood := { row := shaOrderRow, standIns := [], harness := (true, "c6c77e865ce716c6c60996e2e1e5318aa441ea07bdd5ca27b10fcaf2854240e9"), looks := false }, kinds := [], alts := [], laidByText := true, laidKinds := [.data], laidTests := true, laidLooks := .later }
def ShaOrderCardSaid : Prop := Claim7.holds Tryd.pinned (.plain (OpenSpec.ofChange shaOrderSpec)) shaOrderCard

/-- THE TIED CARD OF 'homesteadlaw02.ShaPublished'. -/
def shaPublishedCard : Claim7 := { stood := { row := shaPublishedRow, standIns := [], harness := (true, "c6c77e865ce716c6c60996e2e1e5318aa441ea07bdd5ca27b10fcaf2854240e9"), looks := false }, kinds := [], alts := [], laidByText := true, laidKinds := [.data], laidTests := true, laidLooks := .later }
def ShaPublishedCardSaid : Prop := Claim7.holds Tryd.pinned (.plain (OpenSpec.ofChange shaPublishedSpec)) shaPublishedCard

/-- THE TIED CARD OF 'homesteadlaw02.ShaBlock'. -/
def shaBlockCard : Claim7 := { stood := { row := shaBlockRow, standIns := [], harness := (true, "c6c77e865ce716c6c60996e2e1e5318aa441ea07bdd5ca27b10fcaf2854240e9"), looks := false }, kinds := [], alts := [], laidByText := true, laidKinds := [.data], laidTests := true, laidLooks := .later }
def ShaBlockCardSaid : Prop := Claim7.holds Tryd.pinned (.plain (OpenSpec.ofChange shaBlockSpec)) shaBlockCard

/-- THE TIED CARD OF 'homesteadlaw02.ShaOuter'. -/
def shaOuterCard : Claim7 := { stood := { row := shaOuterRow, standIns := [], harness := (true, "c6c77e865ce716c6c60996e2e1e5318aa441ea07bdd5ca27b10fcaf2854240e9"), looks := false }, kinds := [], alts := [], laidByText := true, laidKinds := [.data], laidTests := true, laidLooks := .later }
def ShaOuterCardSaid : Prop := Claim7.holds Tryd.pinned (.plain (OpenSpec.ofChange shaOuterSpec)) shaOuterCard

/-- THE TIED CARD OF 'homesteadlaw02.ShaStill'. -/
def shaStillCard : Claim7 := { stood := { row := shaStillRow, standIns := [], harness := (true, "c6c77e865ce716c6c60996e2e1e5318aa441ea07bdd5ca27b10fcaf2854240e9"), looks := false }, kinds := [], alts := [], laidByText := true, laidKinds := [.data], laidTests := true, laidLooks := .later }
def ShaStillCardSaid : Prop := Claim7.holds Tryd.pinned (.plain (OpenSpec.ofChange shaStillSpec)) shaStillCard

/-- THE SECOND FORM's CARD OF 'homesteadlaw01.BytesTells'. -/
def bytesTellsUptoCard : Claim7 := { stood := { row := bytesTellsUptoRow, standIns := [], harness := (true, "c6c77e865ce716c6c60996e2e1e5318aa441ea07bdd5ca27b10fcaf2854240e9"), looks := false }, kinds := [], alts := [], laidByText := true, laidKinds := [.data], laidTests := true, laidLooks := .later }
def BytesTellsUptoCardSaid : Prop := Claim7.holds Tryd.pinned (.plain (OpenSpec.upto bytesTellsSpec)) bytesTellsUptoCard

/-- THE SECOND FORM's CARD OF 'homesteadlaw01.BytesBack'. -/
def bytesBackUptoCard : Claim7 := { stood := { row := bytesBackUptoRow, standIns := [], harness := (true, "c6c77e865ce716c6c60996e2e1e5318aa441ea07bdd5ca27b10fcaf2854240e9"), looks := false }, kinds := [], alts := [], laidByText := true, laidKinds := [.data], laidTests := true, laidLooks := .later }
def BytesBackUptoCardSaid : Prop := Claim7.holds Tryd.pinned (.plain (OpenSpec.upto bytesBackSpec)) bytesBackUptoCard

/-- THE SECOND FORM's CARD OF 'homesteadlaw02.ShaFixed'. -/
def shaFixedUptoCard : Claim7 := { stood := { row := shaFixedUptoRow, standIns := [], harness := (true, "c6c77e865ce716c6c60996e2e1e5318aa441ea07bdd5ca27b10fcaf2854240e9"), looks := false }, kinds := [], alts := [], laidByText := true, laidKinds := [.data], laidTests := true, laidLooks := .later }
def ShaFixedUptoCardSaid : Prop := Claim7.holds Tryd.pinned (.plain (OpenSpec.upto shaFixedSpec)) shaFixedUptoCard

/-- THE SECOND FORM's CARD OF 'homesteadlaw02.ShaTells'. -/
def shaTellsUptoCard : Claim7 := { stood := { row := shaTellsUptoRow, standIns := [], harness := (true, "c6c77e865ce716c6c60996e2e1e5318aa441ea07bdd5ca27b10fcaf2854240e9"), looks := false }, kinds := [], alts := [], laidByText := true, laidKinds := [.data], laidTests := true, laidLooks := .later }
def ShaTellsUptoCardSaid : Prop := Claim7.holds Tryd.pinned (.plain (OpenSpec.upto shaTellsSpec)) shaTellsUptoCard

/-- THE SECOND FORM's CARD OF 'homesteadlaw02.ShaOrder'. -/
def shaOrderUptoCard : Claim7 := { stood := { row := shaOrderUptoRow, standIns := [], harness := (true, "c6c77e865ce716c6c60996e2e1e5318aa441ea07bdd5ca27b10fcaf2854240e9"), looks := false }, kinds := [], alts := [], laidByText := true, laidKinds := [.data], laidTests := true, laidLooks := .later }
def ShaOrderUptoCardSaid : Prop := Claim7.holds Tryd.pinned (.plain (OpenSpec.upto shaOrderSpec)) shaOrderUptoCard

/-- THE SECOND FORM's CARD OF 'homesteadlaw02.ShaPublished'. -/
def shaPublishedUptoCard : Claim7 := { stood := { row := shaPublishedUptoRow, standIns := [], harness := (true, "c6c77e865ce716c6c60996e2e1e5318aa441ea07bdd5ca27b10fcaf2854240e9"), looks := false }, kinds := [], alts := [], laidByText := true, laidKinds := [.data], laidTests := true, laidLooks := .later }
def ShaPublishedUptoCardSaid : Prop := Claim7.holds Tryd.pinned (.plain (OpenSpec.upto shaPublishedSpec)) shaPublishedUptoCard

/-- THE SECOND FORM's CARD OF 'homesteadlaw02.ShaBlock'. -/
def shaBlockUptoCard : Claim7 := { stood := { row := shaBlockUptoRow, standIns := [], harness := (true, "c6c77e865ce716c6c60996e2e1e5318aa441ea07bdd5ca27b10fcaf2854240e9"), looks := false }, kinds := [], alts := [], laidByText := true, laidKinds := [.data], laidTests := true, laidLooks := .later }
def ShaBlockUptoCardSaid : Prop := Claim7.holds Tryd.pinned (.plain (OpenSpec.upto shaBlockSpec)) shaBlockUptoCard

/-- THE SECOND FORM's CARD OF 'homesteadlaw02.ShaOuter'. -/
def shaOuterUptoCard : Claim7 := { stood := { row := shaOuterUptoRow, standIns := [], harness := (true, "c6c77e865ce716c6c60996e2e1e5318aa441ea07bdd5ca27b10fcaf2854240e9"), looks := false }, kinds := [], alts := [], laidByText := true, laidKinds := [.data], laidTests := true, laidLooks := .later }
def ShaOuterUptoCardSaid : Prop := Claim7.holds Tryd.pinned (.plain (OpenSpec.upto shaOuterSpec)) shaOuterUptoCard

/-- THE SECOND FORM's CARD OF 'homesteadlaw02.ShaStill'. -/
def shaStillUptoCard : Claim7 := { stood := { row := shaStillUptoRow, standIns := [], harness := (true, "c6c77e865ce716c6c60996e2e1e5318aa441ea07bdd5ca27b10fcaf2854240e9"), looks := false }, kinds := [], alts := [], laidByText := true, laidKinds := [.data], laidTests := true, laidLooks := .later }
def ShaStillUptoCardSaid : Prop := Claim7.holds Tryd.pinned (.plain (OpenSpec.upto shaStillSpec)) shaStillUptoCard
end Rows
end Go.Proofs.YtllmdbalhjlbpaaDoor

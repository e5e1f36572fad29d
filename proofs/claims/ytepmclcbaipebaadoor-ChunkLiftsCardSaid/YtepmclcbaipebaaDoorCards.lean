/-
  DERIVED. GIVEN WITH THE SEED: THE CARDS: each row of YtepmclcbaipebaaDoorRows.lean that lists a variable, with what it lists TIED to the program's text (the seventh form; the later family's looks); each row that meets fmt, with fmt's text TOLD by the authors' own Lean function (tested against real Go, not proved from fmt's source: count such statements apart). THE CARD IS WHAT COUNTS. Prove the row's statement (the work); the ties are given (YtepmclcbaipebaaDoorTie.lean); close each card by the builder's one call (the guide's Derived/Test/ToyasCard.lean, 'card_holds'). Laid BY PROGRAM, IN A SANDBOX (cutbox-door.mjs). By AI agents, Wed Nov 11 2026. No macro, syntax, notation, axiom, sorry.
-/
import Derived.Test.YtepmclcbaipebaaDoorRows
import GoSem.ClaimSeven
namespace Go.Proofs.YtepmclcbaipebaaDoor
namespace Rows

/-- THE TIED CARD OF 'homesteadlaw11.ChunkBack'. -/
def chunkBackCard : Claim7 := { stood := { row := chunkBackRow, standIns := [], harness := (true, "c67cf1ea0950fcd88363c8b47047cd0d84b413702c8ed72f7d0bd9cd97783b2c"), looks := false }, kinds := [], alts := [], laidByText := true, laidKinds := [.data], laidTests := true, laidLooks := .later }
def ChunkBackCardSaid : Prop := Claim7.holds Tryd.pinned (.plain (OpenSpec.ofChange chunkBackSpec)) chunkBackCard

/-- THE TIED CARD OF 'homesteadlaw11.ChunkLifts'. -/
def chunkLiftsCard : Claim7 := { stood := { row := chunkLiftsRow, standIns := [], harness := (true, "c67cf1ea0950fcd88363c8b47047cd0d84b413702c8ed72f7d0bd9cd97783b2c"), looks := false }, kinds := [], alts := [], laidByText := true, laidKinds := [.data], laidTests := true, laidLooks := .later }
def ChunkLiftsCardSaid : Prop := Claim7.holds Tryd.pinned (.plain (OpenSpec.ofChange chunkLiftsSpec)) chunkLiftsCard

/-- THE TIED CARD OF 'homesteadlaw11.ChunkSets'. -/
def chunkSetsCard : Claim7 := { stood := { row := chunkSetsRow, standIns := [], harness := (true, "c67cf1ea0950fcd88363c8b47047cd0d84b413702c8ed72f7d0bd9cd97783b2c"), looks := false }, kinds := [], alts := [], laidByText := true, laidKinds := [.data], laidTests := true, laidLooks := .later }
def ChunkSetsCardSaid : Prop := Claim7.holds Tryd.pinned (.plain (OpenSpec.ofChange chunkSetsSpec)) chunkSetsCard

/-- THE TIED CARD OF 'homesteadlaw11.ChunkBoxes'. -/
def chunkBoxesCard : Claim7 := { stood := { row := chunkBoxesRow, standIns := [], harness := (true, "c67cf1ea0950fcd88363c8b47047cd0d84b413702c8ed72f7d0bd9cd97783b2c"), looks := false }, kinds := [], alts := [], laidByText := true, laidKinds := [.data], laidTests := true, laidLooks := .later }
def ChunkBoxesCardSaid : Prop := Claim7.holds Tryd.pinned (.plain (OpenSpec.ofChange chunkBoxesSpec)) chunkBoxesCard

/-- THE TIED CARD OF 'homesteadlaw11.ChunkLimits'. -/
def chunkLimitsCard : Claim7 := { stood := { row := chunkLimitsRow, standIns := [], harness := (true, "c67cf1ea0950fcd88363c8b47047cd0d84b413702c8ed72f7d0bd9cd97783b2c"), looks := false }, kinds := [], alts := [], laidByText := true, laidKinds := [.data], laidTests := true, laidLooks := .later }
def ChunkLimitsCardSaid : Prop := Claim7.holds Tryd.pinned (.plain (OpenSpec.ofChange chunkLimitsSpec)) chunkLimitsCard

/-- THE SECOND FORM's CARD OF 'homesteadlaw11.ChunkBack'. -/
def chunkBackUptoCard : Claim7 := { stood := { row := chunkBackUptoRow, standIns := [], harness := (true, "c67cf1ea0950fcd88363c8b47047cd0d84b413702c8ed72f7d0bd9cd97783b2c"), looks := false }, kinds := [], alts := [], laidByText := true, laidKinds := [.data], laidTests := true, laidLooks := .later }
def ChunkBackUptoCardSaid : Prop := Claim7.holds Tryd.pinned (.plain (OpenSpec.upto chunkBackSpec)) chunkBackUptoCard

/-- THE SECOND FORM's CARD OF 'homesteadlaw11.ChunkLifts'. -/
def chunkLiftsUptoCard : Claim7 := { stood := { row := chunkLiftsUptoRow, standIns := [], harness := (true, "c67cf1ea0950fcd88363c8b47047cd0d84b413702c8ed72f7d0bd9cd97783b2c"), looks := false }, kinds := [], alts := [], laidByText := true, laidKinds := [.data], laidTests := true, laidLooks := .later }
def ChunkLiftsUptoCardSaid : Prop := Claim7.holds Tryd.pinned (.plain (OpenSpec.upto chunkLiftsSpec)) chunkLiftsUptoCard

/-- THE SECOND FORM's CARD OF 'homesteadlaw11.ChunkSets'. -/
def chunkSetsUptoCard : Claim7 := { stood := { row := chunkSetsUptoRow, standIns := [], harness := (true, "c67cf1ea0950fcd88363c8b47047cd0d84b413702c8ed72f7d0bd9cd97783b2c"), looks := false }, kinds := [], alts := [], laidByText := true, laidKinds := [.data], laidTests := true, laidLooks := .later }
def ChunkSetsUptoCardSaid : Prop := Claim7.holds Tryd.pinned (.plain (OpenSpec.upto chunkSetsSpec)) chunkSetsUptoCard

/-- THE SECOND FORM's CARD OF 'homesteadlaw11.ChunkBoxes'. -/
def chunkBoxesUptoCard : Claim7 := { stood := { row := chunkBoxesUptoRow, standIns := [], harness := (true, "c67cf1ea0950fcd88363c8b47047cd0d84b413702c8ed72f7d0bd9cd97783b2c"), looks := false }, kinds := [], alts := [], laidByText := true, laidKinds := [.data], laidTests := true, laidLooks := .later }
def ChunkBoxesUptoCardSaid : Prop := Claim7.holds Tryd.pinned (.plain (OpenSpec.upto chunkBoxesSpec)) chunkBoxesUptoCard

/-- THE SECOND FORM's CARD OF 'homesteadlaw11.ChunkLimits'. -/
def chunkLimitsUptoCard : Claim7 := { stood := { row := chunkLimitsUptoRow, standIns := [], harness := (true, "c67cf1ea0950fcd88363c8b47047cd0d84b413702c8ed72f7d0bd9cd97783b2c"), looks := false }, kinds := [], alts := [], laidByText := true, laidKinds := [.data], laidTests := true, laidLooks := .later }
def ChunkLimitsUptoCardSaid : Prop := Claim7.holds Tryd.pinned (.plain (OpenSpec.upto chunkLimitsSpec)) chunkLimitsUptoCard
end Rows
end Go.Proofs.YtepmclcbaipebaaDoor

/-
  DERIVED. GIVEN WITH THE SEED: THE CARDS: each row of YtloimopcecbkbaaDoorRows.lean that lists a variable, with what it lists TIED to the program's text (the seventh form; the later family's looks); each row that meets fmt, with fmt's text TOLD by the authors' own Lean function (tested against real Go, not proved from fmt's source: count such statements apart). THE CARD IS WHAT COUNTS. Prove the row's statement (the work); the ties are given (YtloimopcecbkbaaDoorTie.lean); close each card by the builder's one call (the guide's Derived/Test/ToyasCard.lean, 'card_holds'). Laid BY PROGRAM, IN A SANDBOX (cutbox-door.mjs). By AI agents, Wed Nov 11 2026. No macro, syntax, notation, axiom, sorry.
-/
import Derived.Test.YtloimopcecbkbaaDoorRows
import GoSem.ClaimSeven
namespace Go.Proofs.YtloimopcecbkbaaDoor
namespace Rows

/-- THE TIED CARD OF 'homesteadlaw10.CraftTrades'. -/
def craftTradesCard : Claim7 := { stood := { row := craftTradesRow, standIns := [], harness := (true, "5c45a3ee8f603f9f5527a863a4ef8510041ccbee1e979affb99480c59d1aba8e"), looks := false }, kinds := [], alts := [], laidByText := true, laidKinds := [.data], laidTests := true, laidLooks := .later }
def CraftTradesCardSaid : Prop := Claim7.holds Tryd.pinned (.plain (OpenSpec.ofChange craftTradesSpec)) craftTradesCard

/-- THE TIED CARD OF 'homesteadlaw10.CraftErrors'. -/
def craftErrorsCard : Claim7 := { stood := { row := craftErrorsRow, standIns := [], harness := (true, "5c45a3ee8f603f9f5527a863a4ef8510041ccbee1e979affb99480c59d1aba8e"), looks := false }, kinds := [], alts := [], laidByText := true, laidKinds := [.data], laidTests := true, laidLooks := .later }
def CraftErrorsCardSaid : Prop := Claim7.holds Tryd.pinned (.plain (OpenSpec.ofChange craftErrorsSpec)) craftErrorsCard

/-- THE TIED CARD OF 'homesteadlaw10.CraftMore'. -/
def craftMoreCard : Claim7 := { stood := { row := craftMoreRow, standIns := [], harness := (true, "5c45a3ee8f603f9f5527a863a4ef8510041ccbee1e979affb99480c59d1aba8e"), looks := false }, kinds := [], alts := [], laidByText := true, laidKinds := [.data], laidTests := true, laidLooks := .later }
def CraftMoreCardSaid : Prop := Claim7.holds Tryd.pinned (.plain (OpenSpec.ofChange craftMoreSpec)) craftMoreCard

/-- THE TIED CARD OF 'homesteadlaw10.CraftCan'. -/
def craftCanCard : Claim7 := { stood := { row := craftCanRow, standIns := [], harness := (true, "5c45a3ee8f603f9f5527a863a4ef8510041ccbee1e979affb99480c59d1aba8e"), looks := false }, kinds := [], alts := [], laidByText := true, laidKinds := [.data], laidTests := true, laidLooks := .later }
def CraftCanCardSaid : Prop := Claim7.holds Tryd.pinned (.plain (OpenSpec.ofChange craftCanSpec)) craftCanCard

/-- THE TIED CARD OF 'homesteadlaw10.CraftChains'. -/
def craftChainsCard : Claim7 := { stood := { row := craftChainsRow, standIns := [], harness := (true, "5c45a3ee8f603f9f5527a863a4ef8510041ccbee1e979affb99480c59d1aba8e"), looks := false }, kinds := [], alts := [], laidByText := true, laidKinds := [.data], laidTests := true, laidLooks := .later }
def CraftChainsCardSaid : Prop := Claim7.holds Tryd.pinned (.plain (OpenSpec.ofChange craftChainsSpec)) craftChainsCard

/-- THE SECOND FORM's CARD OF 'homesteadlaw10.CraftTrades'. -/
def craftTradesUptoCard : Claim7 := { stood := { row := craftTradesUptoRow, standIns := [], harness := (true, "5c45a3ee8f603f9f5527a863a4ef8510041ccbee1e979affb99480c59d1aba8e"), looks := false }, kinds := [], alts := [], laidByText := true, laidKinds := [.data], laidTests := true, laidLooks := .later }
def CraftTradesUptoCardSaid : Prop := Claim7.holds Tryd.pinned (.plain (OpenSpec.upto craftTradesSpec)) craftTradesUptoCard

/-- THE SECOND FORM's CARD OF 'homesteadlaw10.CraftErrors'. -/
def craftErrorsUptoCard : Claim7 := { stood := { row := craftErrorsUptoRow, standIns := [], harness := (true, "5c45a3ee8f603f9f5527a863a4ef8510041ccbee1e979affb99480c59d1aba8e"), looks := false }, kinds := [], alts := [], laidByText := true, laidKinds := [.data], laidTests := true, laidLooks := .later }
def CraftErrorsUptoCardSaid : Prop := Claim7.holds Tryd.pinned (.plain (OpenSpec.upto craftErrorsSpec)) craftErrorsUptoCard

/-- THE SECOND FORM's CARD OF 'homesteadlaw10.CraftMore'. -/
def craftMoreUptoCard : Claim7 := { stood := { row := craftMoreUptoRow, standIns := [], harness := (true, "5c45a3ee8f603f9f5527a863a4ef8510041ccbee1e979affb99480c59d1aba8e"), looks := false }, kinds := [], alts := [], laidByText := true, laidKinds := [.data], laidTests := true, laidLooks := .later }
def CraftMoreUptoCardSaid : Prop := Claim7.holds Tryd.pinned (.plain (OpenSpec.upto craftMoreSpec)) craftMoreUptoCard

/-- THE SECOND FORM's CARD OF 'homesteadlaw10.CraftCan'. -/
def craftCanUptoCard : Claim7 := { stood := { row := craftCanUptoRow, standIns := [], harness := (true, "5c45a3ee8f603f9f5527a863a4ef8510041ccbee1e979affb99480c59d1aba8e"), looks := false }, kinds := [], alts := [], laidByText := true, laidKinds := [.data], laidTests := true, laidLooks := .later }
def CraftCanUptoCardSaid : Prop := Claim7.holds Tryd.pinned (.plain (OpenSpec.upto craftCanSpec)) craftCanUptoCard

/-- THE SECOND FORM's CARD OF 'homesteadlaw10.CraftChains'. -/
def craftChainsUptoCard : Claim7 := { stood := { row := craftChainsUptoRow, standIns := [], harness := (true, "5c45a3ee8f603f9f5527a863a4ef8510041ccbee1e979affb99480c59d1aba8e"), looks := false }, kinds := [], alts := [], laidByText := true, laidKinds := [.data], laidTests := true, laidLooks := .later }
def CraftChainsUptoCardSaid : Prop := Claim7.holds Tryd.pinned (.plain (OpenSpec.upto craftChainsSpec)) craftChainsUptoCard
end Rows
end Go.Proofs.YtloimopcecbkbaaDoor

/-
  DERIVED. GIVEN WITH THE SEED: THE CARDS: each row of YtmallcjhccbgdaaDoorRows.lean that lists a variable, with what it lists TIED to the program's text (the seventh form; the later family's looks); each row that meets fmt, with fmt's text TOLD by the authors' own Lean function (tested against real Go, not proved from fmt's source: count such statements apart). THE CARD IS WHAT COUNTS. Prove the row's statement (the work); the ties are given (YtmallcjhccbgdaaDoorTie.lean); close each card by the builder's one call (the guide's Derived/Test/ToyasCard.lean, 'card_holds'). Laid BY PROGRAM, IN A SANDBOX (cutbox-door.mjs). By AI agents, Wed Nov 11 2026. No macro, syntax, notation, axiom, sorry.
-/
import Derived.Test.YtmallcjhccbgdaaDoorRows
import GoSem.ClaimSeven
namespace Go.Proofs.YtmallcjhccbgdaaDoor
namespace Rows

/-- THE TIED CARD OF 'homesteadlaw10.CraftTells'. -/
def craftTellsCard : Claim7 := { stood := { row := craftTellsRow, standIns := [], harness := (true, "f4e1c66b04ad41ff8ba9f09a6ea5321eaa574bd1dee090c5db74bb92e0b0808b"), looks := false }, kinds := [], alts := [], laidByText := true, laidKinds := [.data], laidTests := true, laidLooks := .later }
def CraftTellsCardSaid : Prop := Claim7.holds Tryd.pinned (.plain (OpenSpec.ofChange craftTellsSpec)) craftTellsCard

/-- THE SECOND FORM's CARD OF 'homesteadlaw10.CraftTells'. -/
def craftTellsUptoCard : Claim7 := { stood := { row := craftTellsUptoRow, standIns := [], harness := (true, "f4e1c66b04ad41ff8ba9f09a6ea5321eaa574bd1dee090c5db74bb92e0b0808b"), looks := false }, kinds := [], alts := [], laidByText := true, laidKinds := [.data], laidTests := true, laidLooks := .later }
def CraftTellsUptoCardSaid : Prop := Claim7.holds Tryd.pinned (.plain (OpenSpec.upto craftTellsSpec)) craftTellsUptoCard
end Rows
end Go.Proofs.YtmallcjhccbgdaaDoor

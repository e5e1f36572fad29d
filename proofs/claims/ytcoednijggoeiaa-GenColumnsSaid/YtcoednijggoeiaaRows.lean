/-
  No cell of these rows narrows 'for every input' (looked for: loops, veiled, ifaces, maps, wideKeys, modest, calm, conditions, laid).
  DERIVED. THE GIVEN ROWS OF THIS SEAT. 4 by the template 'for every input the law returns true; each argument reads behind the call as it read before'; 0 by the template 'total and deterministic' (their statements: YtcoednijggoeiaaTotals.lean).
  GIVEN WITH THE SEED: the statements are not yours to turn. If you find one false, say at which input.
  Laid BY PROGRAM, IN A SANDBOX (cutbox-rows.mjs): the forced cells as the released guide's own fill.sh prints them over the translation bb0d5c71edf3267e… (all of the seat's roots in one cut). By AI agents, Wed Nov 11 2026. No macro, syntax, notation, axiom, sorry.
-/
import Derived.Test.YtcoednijggoeiaaChecked
import GoSem.Claim
import GoSem.ClaimJoined
import GoSem.ClaimMapViews
import Derived.JoinedTies
import Derived.KernelRfl
namespace Go.Proofs.Ytcoednijggoeiaa
/- THE CELL 'sum', in the pinned program and in every row, IS THE sha256 OF THE DUMP (.gsa) THAT YtcoednijggoeiaaProg.lean LOADS. Nothing in Lean hashes anything: it is a label: what it is worth is what the hold of that sum in a sandbox is worth. -/
noncomputable def Try.pinned : Pinned := { name := "ytcoednijggoeiaa", sum := "bb0d5c71edf3267e82f773c9490eb1aee1b92c0185fe2644ad6cc0a336efedb7", checked := Try.checked }
namespace Rows
def none {H : Type} : Left H := { results := [], args := [] }

/-- 'homesteadlaw12.GenTells': WHATEVER THE INPUT: true; the input reads as it did. -/
def genTellsSpec : ChangeSpec := { name := "genTells", fn := fun _ => fun
  | [d1, d2, d3] => { results := [.lit (.bool true)], args := [d1, d2, d3] }
  | _ => none }
def genTellsRow : OpenClaim := { program := "ytcoednijggoeiaa", sum := "bb0d5c71edf3267e82f773c9490eb1aee1b92c0185fe2644ad6cc0a336efedb7", func := "homestead/homesteadlaw12.GenTells", spec := "genTells", unfollowed := true, recurses := true, apart := false }
def GenTellsSaid : Prop := genTellsRow.holds Try.pinned (OpenSpec.ofChange genTellsSpec)

/-- ITS FALSE NEIGHBOUR: 'it returns false'. Refute it at one input. -/
def genTellsWrong : ChangeSpec := { name := "genTells", fn := fun _ => fun
  | [d1, d2, d3] => { results := [.lit (.bool false)], args := [d1, d2, d3] }
  | _ => none }
def GenTellsWrongFalsely : Prop := genTellsRow.holds Try.pinned (OpenSpec.ofChange genTellsWrong)

/-- 'homesteadlaw12.GenMixes': WHATEVER THE INPUT: true; the input reads as it did. -/
def genMixesSpec : ChangeSpec := { name := "genMixes", fn := fun _ => fun
  | [d1, d2, d3] => { results := [.lit (.bool true)], args := [d1, d2, d3] }
  | _ => none }
def genMixesRow : OpenClaim := { program := "ytcoednijggoeiaa", sum := "bb0d5c71edf3267e82f773c9490eb1aee1b92c0185fe2644ad6cc0a336efedb7", func := "homestead/homesteadlaw12.GenMixes", spec := "genMixes", unfollowed := true, recurses := true, apart := false }
def GenMixesSaid : Prop := genMixesRow.holds Try.pinned (OpenSpec.ofChange genMixesSpec)

/-- ITS FALSE NEIGHBOUR: 'it returns false'. Refute it at one input. -/
def genMixesWrong : ChangeSpec := { name := "genMixes", fn := fun _ => fun
  | [d1, d2, d3] => { results := [.lit (.bool false)], args := [d1, d2, d3] }
  | _ => none }
def GenMixesWrongFalsely : Prop := genMixesRow.holds Try.pinned (OpenSpec.ofChange genMixesWrong)

/-- 'homesteadlaw12.GenColumns': WHATEVER THE INPUT: true; the input reads as it did. -/
def genColumnsSpec : ChangeSpec := { name := "genColumns", fn := fun _ => fun
  | [d1, d2] => { results := [.lit (.bool true)], args := [d1, d2] }
  | _ => none }
def genColumnsRow : OpenClaim := { program := "ytcoednijggoeiaa", sum := "bb0d5c71edf3267e82f773c9490eb1aee1b92c0185fe2644ad6cc0a336efedb7", func := "homestead/homesteadlaw12.GenColumns", spec := "genColumns", unfollowed := true, recurses := true, apart := false }
def GenColumnsSaid : Prop := genColumnsRow.holds Try.pinned (OpenSpec.ofChange genColumnsSpec)

/-- ITS FALSE NEIGHBOUR: 'it returns false'. Refute it at one input. -/
def genColumnsWrong : ChangeSpec := { name := "genColumns", fn := fun _ => fun
  | [d1, d2] => { results := [.lit (.bool false)], args := [d1, d2] }
  | _ => none }
def GenColumnsWrongFalsely : Prop := genColumnsRow.holds Try.pinned (OpenSpec.ofChange genColumnsWrong)

/-- 'homesteadlaw12.GenApart': WHATEVER THE INPUT: true; the input reads as it did. -/
def genApartSpec : ChangeSpec := { name := "genApart", fn := fun _ => fun
  | [d1, d2, d3] => { results := [.lit (.bool true)], args := [d1, d2, d3] }
  | _ => none }
def genApartRow : OpenClaim := { program := "ytcoednijggoeiaa", sum := "bb0d5c71edf3267e82f773c9490eb1aee1b92c0185fe2644ad6cc0a336efedb7", func := "homestead/homesteadlaw12.GenApart", spec := "genApart", unfollowed := true, recurses := true, apart := false }
def GenApartSaid : Prop := genApartRow.holds Try.pinned (OpenSpec.ofChange genApartSpec)

/-- ITS FALSE NEIGHBOUR: 'it returns false'. Refute it at one input. -/
def genApartWrong : ChangeSpec := { name := "genApart", fn := fun _ => fun
  | [d1, d2, d3] => { results := [.lit (.bool false)], args := [d1, d2, d3] }
  | _ => none }
def GenApartWrongFalsely : Prop := genApartRow.holds Try.pinned (OpenSpec.ofChange genApartWrong)

/- THE SECOND FORM. 'bulk': how many values and letters a reading holds, each counted each time it is reached (what is shared counts as often as it is met; a slice's spare places count too). A statement '..UptoSaid' is the law's where the arguments, and the package variables that the reading takes, are together of bulk at most 1048576: NARROWER than '..Said'. Prove '..Said' where nothing that the law and all that it calls make is longer than what came in: it says more and counts as full. Else prove '..UptoSaid'. A law counts once. -/
mutual
def uptoBulk {H : Type} : DataW H → Nat
  | .lit (.string bytes) => bytes.length + 1
  | .lit _ => 1
  | .nil => 1
  | .ptr d => uptoBulk d + 1
  | .slice elems spare => uptoBulkAll elems + uptoBulkAll spare + 1
  | .agg parts => uptoBulkAll parts + 1
  | .iface _ d => uptoBulk d + 1
  | .map entries => uptoBulkEntries entries + 1
  | .held _ => 1
def uptoBulkAll {H : Type} : List (DataW H) → Nat
  | [] => 0
  | d :: r => uptoBulk d + uptoBulkAll r
def uptoBulkEntries {H : Type} : List (Lit × DataW H) → Nat
  | [] => 0
  | x :: r => uptoBulkEntry x + uptoBulkEntries r
def uptoBulkEntry {H : Type} : Lit × DataW H → Nat
  | (.string bytes, d) => bytes.length + uptoBulk d + 1
  | (_, d) => uptoBulk d + 1
 end
def uptoSmall : (H : Type) → List (DataW H) → Bool := fun _ ds => decide (uptoBulkAll ds ≤ 1048576)
def OpenSpec.upto (s : _root_.Go.ChangeSpec) : _root_.Go.OpenSpec := { _root_.Go.OpenSpec.ofChange s with cond := some uptoSmall }

/-- 'homesteadlaw12.GenTells', WHERE WHAT IT READS IS OF BULK AT MOST 1048576: true; the input reads as it did. -/
def genTellsUptoRow : OpenClaim := { program := "ytcoednijggoeiaa", sum := "bb0d5c71edf3267e82f773c9490eb1aee1b92c0185fe2644ad6cc0a336efedb7", func := "homestead/homesteadlaw12.GenTells", spec := "genTells", unfollowed := true, recurses := true, apart := false, narrowed := true }
def GenTellsUptoSaid : Prop := genTellsUptoRow.holds Try.pinned (OpenSpec.upto genTellsSpec)

/-- 'homesteadlaw12.GenMixes', WHERE WHAT IT READS IS OF BULK AT MOST 1048576: true; the input reads as it did. -/
def genMixesUptoRow : OpenClaim := { program := "ytcoednijggoeiaa", sum := "bb0d5c71edf3267e82f773c9490eb1aee1b92c0185fe2644ad6cc0a336efedb7", func := "homestead/homesteadlaw12.GenMixes", spec := "genMixes", unfollowed := true, recurses := true, apart := false, narrowed := true }
def GenMixesUptoSaid : Prop := genMixesUptoRow.holds Try.pinned (OpenSpec.upto genMixesSpec)

/-- 'homesteadlaw12.GenColumns', WHERE WHAT IT READS IS OF BULK AT MOST 1048576: true; the input reads as it did. -/
def genColumnsUptoRow : OpenClaim := { program := "ytcoednijggoeiaa", sum := "bb0d5c71edf3267e82f773c9490eb1aee1b92c0185fe2644ad6cc0a336efedb7", func := "homestead/homesteadlaw12.GenColumns", spec := "genColumns", unfollowed := true, recurses := true, apart := false, narrowed := true }
def GenColumnsUptoSaid : Prop := genColumnsUptoRow.holds Try.pinned (OpenSpec.upto genColumnsSpec)

/-- 'homesteadlaw12.GenApart', WHERE WHAT IT READS IS OF BULK AT MOST 1048576: true; the input reads as it did. -/
def genApartUptoRow : OpenClaim := { program := "ytcoednijggoeiaa", sum := "bb0d5c71edf3267e82f773c9490eb1aee1b92c0185fe2644ad6cc0a336efedb7", func := "homestead/homesteadlaw12.GenApart", spec := "genApart", unfollowed := true, recurses := true, apart := false, narrowed := true }
def GenApartUptoSaid : Prop := genApartUptoRow.holds Try.pinned (OpenSpec.upto genApartSpec)

end Rows
end Go.Proofs.Ytcoednijggoeiaa

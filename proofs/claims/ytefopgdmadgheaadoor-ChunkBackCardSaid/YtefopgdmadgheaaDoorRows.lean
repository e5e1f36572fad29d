/-
  NARROWER THAN 'FOR EVERY INPUT', by the rows' own cells (each row's printed sentence says how): ChunkBack: laid.
  DERIVED. THE GIVEN ROWS OF THIS SEAT. 1 by the template 'for every input the law returns true; each argument reads behind the call as it read before'; 0 by the template 'total and deterministic' (their statements: YtefopgdmadgheaaDoorTotals.lean).
  GIVEN WITH THE SEED: the statements are not yours to turn. If you find one false, say at which input.
  Laid BY PROGRAM, IN A SANDBOX (cutbox-rows.mjs): the forced cells as the released guide's own fill.sh prints them over the translation 159083f5a8566827… (all of the seat's roots in one cut). By AI agents, Wed Nov 11 2026. No macro, syntax, notation, axiom, sorry.
-/
import Derived.Test.YtefopgdmadgheaaDoorChecked
import GoSem.Claim
import GoSem.ClaimJoined
import GoSem.ClaimMapViews
import Derived.JoinedTies
import Derived.KernelRfl
namespace Go.Proofs.YtefopgdmadgheaaDoor
/- THE CELL 'sum', in the pinned program and in every row, IS THE sha256 OF THE DUMP (.gsa) THAT YtefopgdmadgheaaDoorProg.lean LOADS. Nothing in Lean hashes anything: it is a label: what it is worth is what the hold of that sum in a sandbox is worth. -/
noncomputable def Tryd.pinned : Pinned := { name := "ytefopgdmadgheaadoor", sum := "159083f5a8566827d8c66af77839c36aa4879d7f57955f25902743b3dd341cd4", checked := Tryd.checked }
namespace Rows
def none {H : Type} : Left H := { results := [], args := [] }

/- WHAT THE LISTED PACKAGE-LEVEL VARIABLES READ AS WHEN THE CALL BEGINS. Each datum BY PROGRAM (the guide's laid-datum.mjs) off the statement by which the dump's own 'gosem.cut.vars' lays the variable. In a bare row this is a premise. The card (YtefopgdmadgheaaDoorCards.lean) ties it to the program's text. -/
def laid_homestead_items_itemRows {H : Type} : DataW H := .agg [.agg [.lit (.string []), .lit (.int .i64 0), .lit (.bool false), .lit (.int .u8 0)], .agg [.lit (.string [100, 105, 114, 116]), .lit (.int .i64 16), .lit (.bool true), .lit (.int .u8 1)], .agg [.lit (.string [115, 116, 111, 110, 101]), .lit (.int .i64 16), .lit (.bool true), .lit (.int .u8 2)], .agg [.lit (.string [119, 111, 111, 100]), .lit (.int .i64 16), .lit (.bool true), .lit (.int .u8 3)], .agg [.lit (.string [108, 101, 97, 102]), .lit (.int .i64 16), .lit (.bool true), .lit (.int .u8 11)], .agg [.lit (.string [112, 108, 97, 110, 107]), .lit (.int .i64 16), .lit (.bool true), .lit (.int .u8 5)], .agg [.lit (.string [115, 116, 105, 99, 107]), .lit (.int .i64 16), .lit (.bool false), .lit (.int .u8 0)], .agg [.lit (.string [111, 114, 101]), .lit (.int .i64 16), .lit (.bool true), .lit (.int .u8 7)], .agg [.lit (.string [105, 110, 103, 111, 116]), .lit (.int .i64 16), .lit (.bool false), .lit (.int .u8 0)], .agg [.lit (.string [99, 104, 101, 115, 116]), .lit (.int .i64 4), .lit (.bool true), .lit (.int .u8 9)], .agg [.lit (.string [116, 111, 114, 99, 104]), .lit (.int .i64 16), .lit (.bool true), .lit (.int .u8 10)], .agg [.lit (.string [98, 101, 114, 114, 121]), .lit (.int .i64 16), .lit (.bool false), .lit (.int .u8 0)], .agg [.lit (.string [112, 105, 99, 107]), .lit (.int .i64 1), .lit (.bool false), .lit (.int .u8 0)]]

/-- 'homesteadlaw11.ChunkBack': WHATEVER THE INPUT: true; the input reads as it did. -/
def chunkBackSpec : ChangeSpec := { name := "chunkBack", fn := fun _ => fun
  | [d1, d2] => { results := [.lit (.bool true)], args := [d1, d2] }
  | _ => none }
def chunkBackRow : OpenClaim := { program := "ytefopgdmadgheaadoor", sum := "159083f5a8566827d8c66af77839c36aa4879d7f57955f25902743b3dd341cd4", func := "homestead/homesteadlaw11.ChunkBack", spec := "chunkBack", inPlace := ["slices.overlaps[homestead/api.Box]"], unfollowed := true, recurses := true, named := ["homestead/items.itemRows"], apart := false, laid := [("homestead/items.itemRows", laid_homestead_items_itemRows)] }
def ChunkBackSaid : Prop := chunkBackRow.holds Tryd.pinned (OpenSpec.ofChange chunkBackSpec)

/-- ITS FALSE NEIGHBOUR: 'it returns false'. Refute it at one input. -/
def chunkBackWrong : ChangeSpec := { name := "chunkBack", fn := fun _ => fun
  | [d1, d2] => { results := [.lit (.bool false)], args := [d1, d2] }
  | _ => none }
def ChunkBackWrongFalsely : Prop := chunkBackRow.holds Tryd.pinned (OpenSpec.ofChange chunkBackWrong)

/- THE SECOND FORM. 'bulk': how many values and letters a reading holds, each counted each time it is reached (what is shared counts as often as it is met; a slice's spare places count too). A statement '..UptoSaid' is the law's where the arguments, and the package variables that the reading takes, are together of bulk at most 1048576: NARROWER than '..Said'. Prove '..Said' where nothing that the law and all that it calls make is longer than what came in: it says more and counts as full. Else prove '..UptoSaid'. A law counts once. -/
mutual
def uptoBulk {H : Type} : DataW H → Nat
  | .lit (.string bytes) => bytes.length + 1
  | .lit _ => 1
  | .nil => 1
  | .ptr d => uptoBulk d + 1
  | .slice elems spare => uptoBulkAll elems + uptoBulkAll spare + 1
  | .agg parts => uptoBulkAll parts + 1
  | .iface _ d => uptoBulk d + 1
  | .map entries => uptoBulkEntries entries + 1
  | .held _ => 1
def uptoBulkAll {H : Type} : List (DataW H) → Nat
  | [] => 0
  | d :: r => uptoBulk d + uptoBulkAll r
def uptoBulkEntries {H : Type} : List (Lit × DataW H) → Nat
  | [] => 0
  | x :: r => uptoBulkEntry x + uptoBulkEntries r
def uptoBulkEntry {H : Type} : Lit × DataW H → Nat
  | (.string bytes, d) => bytes.length + uptoBulk d + 1
  | (_, d) => uptoBulk d + 1
 end
def uptoSmall : (H : Type) → List (DataW H) → Bool := fun _ ds => decide (uptoBulkAll ds ≤ 1048576)
def OpenSpec.upto (s : _root_.Go.ChangeSpec) : _root_.Go.OpenSpec := { _root_.Go.OpenSpec.ofChange s with cond := some uptoSmall }

/-- 'homesteadlaw11.ChunkBack', WHERE WHAT IT READS IS OF BULK AT MOST 1048576: true; the input reads as it did. -/
def chunkBackUptoRow : OpenClaim := { program := "ytefopgdmadgheaadoor", sum := "159083f5a8566827d8c66af77839c36aa4879d7f57955f25902743b3dd341cd4", func := "homestead/homesteadlaw11.ChunkBack", spec := "chunkBack", inPlace := ["slices.overlaps[homestead/api.Box]"], unfollowed := true, recurses := true, named := ["homestead/items.itemRows"], apart := false, laid := [("homestead/items.itemRows", laid_homestead_items_itemRows)], narrowed := true }
def ChunkBackUptoSaid : Prop := chunkBackUptoRow.holds Tryd.pinned (OpenSpec.upto chunkBackSpec)

end Rows
end Go.Proofs.YtefopgdmadgheaaDoor

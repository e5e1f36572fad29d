/-
  NARROWER THAN 'FOR EVERY INPUT', by the rows' own cells (each row's printed sentence says how): WorldPuts: laid · WorldFirst: laid · WorldPlayers: laid · WorldCells: laid.
  DERIVED. THE GIVEN ROWS OF THIS SEAT. 4 by the template 'for every input the law returns true; each argument reads behind the call as it read before'; 0 by the template 'total and deterministic' (their statements: YtjdhbgdpmojobaaDoorTotals.lean).
  GIVEN WITH THE SEED: the statements are not yours to turn. If you find one false, say at which input.
  Laid BY PROGRAM, IN A SANDBOX (cutbox-rows.mjs): the forced cells as the released guide's own fill.sh prints them over the translation e5f508c517b8cc8e… (all of the seat's roots in one cut). By AI agents, Wed Nov 11 2026. No macro, syntax, notation, axiom, sorry.
-/
import Derived.Test.YtjdhbgdpmojobaaDoorChecked
import GoSem.Claim
import GoSem.ClaimJoined
import GoSem.ClaimMapViews
import Derived.JoinedTies
import Derived.KernelRfl
namespace Go.Proofs.YtjdhbgdpmojobaaDoor
/- THE CELL 'sum', in the pinned program and in every row, IS THE sha256 OF THE DUMP (.gsa) THAT YtjdhbgdpmojobaaDoorProg.lean LOADS. Nothing in Lean hashes anything: it is a label: what it is worth is what the hold of that sum in a sandbox is worth. -/
noncomputable def Tryd.pinned : Pinned := { name := "ytjdhbgdpmojobaadoor", sum := "e5f508c517b8cc8e8aceda4fd1634816f0b5a264d2f7d7878b7e6ecf7fdb5157", checked := Tryd.checked }
namespace Rows
def none {H : Type} : Left H := { results := [], args := [] }

/- WHAT THE LISTED PACKAGE-LEVEL VARIABLES READ AS WHEN THE CALL BEGINS. Each datum BY PROGRAM (the guide's laid-datum.mjs) off the statement by which the dump's own 'gosem.cut.vars' lays the variable. In a bare row this is a premise. The card (YtjdhbgdpmojobaaDoorCards.lean) ties it to the program's text. -/
def laid_homestead_items_itemRows {H : Type} : DataW H := .agg [.agg [.lit (.string []), .lit (.int .i64 0), .lit (.bool false), .lit (.int .u8 0)], .agg [.lit (.string [100, 105, 114, 116]), .lit (.int .i64 16), .lit (.bool true), .lit (.int .u8 1)], .agg [.lit (.string [115, 116, 111, 110, 101]), .lit (.int .i64 16), .lit (.bool true), .lit (.int .u8 2)], .agg [.lit (.string [119, 111, 111, 100]), .lit (.int .i64 16), .lit (.bool true), .lit (.int .u8 3)], .agg [.lit (.string [108, 101, 97, 102]), .lit (.int .i64 16), .lit (.bool true), .lit (.int .u8 11)], .agg [.lit (.string [112, 108, 97, 110, 107]), .lit (.int .i64 16), .lit (.bool true), .lit (.int .u8 5)], .agg [.lit (.string [115, 116, 105, 99, 107]), .lit (.int .i64 16), .lit (.bool false), .lit (.int .u8 0)], .agg [.lit (.string [111, 114, 101]), .lit (.int .i64 16), .lit (.bool true), .lit (.int .u8 7)], .agg [.lit (.string [105, 110, 103, 111, 116]), .lit (.int .i64 16), .lit (.bool false), .lit (.int .u8 0)], .agg [.lit (.string [99, 104, 101, 115, 116]), .lit (.int .i64 4), .lit (.bool true), .lit (.int .u8 9)], .agg [.lit (.string [116, 111, 114, 99, 104]), .lit (.int .i64 16), .lit (.bool true), .lit (.int .u8 10)], .agg [.lit (.string [98, 101, 114, 114, 121]), .lit (.int .i64 16), .lit (.bool false), .lit (.int .u8 0)], .agg [.lit (.string [112, 105, 99, 107]), .lit (.int .i64 1), .lit (.bool false), .lit (.int .u8 0)]]

/-- 'homesteadlaw13.WorldPuts': WHATEVER THE INPUT: true; the input reads as it did. -/
def worldPutsSpec : ChangeSpec := { name := "worldPuts", fn := fun _ => fun
  | [d1, d2, d3] => { results := [.lit (.bool true)], args := [d1, d2, d3] }
  | _ => none }
def worldPutsRow : OpenClaim := { program := "ytjdhbgdpmojobaadoor", sum := "e5f508c517b8cc8e8aceda4fd1634816f0b5a264d2f7d7878b7e6ecf7fdb5157", func := "homestead/homesteadlaw13.WorldPuts", spec := "worldPuts", inPlace := ["slices.overlaps[homestead/api.Chunk]", "slices.overlaps[homestead/api.Player]"], unfollowed := true, recurses := true, named := ["homestead/items.itemRows"], apart := false, laid := [("homestead/items.itemRows", laid_homestead_items_itemRows)] }
def WorldPutsSaid : Prop := worldPutsRow.holds Tryd.pinned (OpenSpec.ofChange worldPutsSpec)

/-- ITS FALSE NEIGHBOUR: 'it returns false'. Refute it at one input. -/
def worldPutsWrong : ChangeSpec := { name := "worldPuts", fn := fun _ => fun
  | [d1, d2, d3] => { results := [.lit (.bool false)], args := [d1, d2, d3] }
  | _ => none }
def WorldPutsWrongFalsely : Prop := worldPutsRow.holds Tryd.pinned (OpenSpec.ofChange worldPutsWrong)

/-- 'homesteadlaw13.WorldFirst': WHATEVER THE INPUT: true; the input reads as it did. -/
def worldFirstSpec : ChangeSpec := { name := "worldFirst", fn := fun _ => fun
  | [d1, d2, d3] => { results := [.lit (.bool true)], args := [d1, d2, d3] }
  | _ => none }
def worldFirstRow : OpenClaim := { program := "ytjdhbgdpmojobaadoor", sum := "e5f508c517b8cc8e8aceda4fd1634816f0b5a264d2f7d7878b7e6ecf7fdb5157", func := "homestead/homesteadlaw13.WorldFirst", spec := "worldFirst", inPlace := ["slices.overlaps[homestead/api.Chunk]"], unfollowed := true, recurses := true, named := ["homestead/items.itemRows"], apart := false, laid := [("homestead/items.itemRows", laid_homestead_items_itemRows)] }
def WorldFirstSaid : Prop := worldFirstRow.holds Tryd.pinned (OpenSpec.ofChange worldFirstSpec)

/-- ITS FALSE NEIGHBOUR: 'it returns false'. Refute it at one input. -/
def worldFirstWrong : ChangeSpec := { name := "worldFirst", fn := fun _ => fun
  | [d1, d2, d3] => { results := [.lit (.bool false)], args := [d1, d2, d3] }
  | _ => none }
def WorldFirstWrongFalsely : Prop := worldFirstRow.holds Tryd.pinned (OpenSpec.ofChange worldFirstWrong)

/-- 'homesteadlaw13.WorldPlayers': WHATEVER THE INPUT: true; the input reads as it did. -/
def worldPlayersSpec : ChangeSpec := { name := "worldPlayers", fn := fun _ => fun
  | [d1, d2] => { results := [.lit (.bool true)], args := [d1, d2] }
  | _ => none }
def worldPlayersRow : OpenClaim := { program := "ytjdhbgdpmojobaadoor", sum := "e5f508c517b8cc8e8aceda4fd1634816f0b5a264d2f7d7878b7e6ecf7fdb5157", func := "homestead/homesteadlaw13.WorldPlayers", spec := "worldPlayers", inPlace := ["slices.overlaps[homestead/api.Player]", "slices.overlaps[homestead/api.Chunk]"], unfollowed := true, recurses := true, named := ["homestead/items.itemRows"], apart := false, laid := [("homestead/items.itemRows", laid_homestead_items_itemRows)] }
def WorldPlayersSaid : Prop := worldPlayersRow.holds Tryd.pinned (OpenSpec.ofChange worldPlayersSpec)

/-- ITS FALSE NEIGHBOUR: 'it returns false'. Refute it at one input. -/
def worldPlayersWrong : ChangeSpec := { name := "worldPlayers", fn := fun _ => fun
  | [d1, d2] => { results := [.lit (.bool false)], args := [d1, d2] }
  | _ => none }
def WorldPlayersWrongFalsely : Prop := worldPlayersRow.holds Tryd.pinned (OpenSpec.ofChange worldPlayersWrong)

/-- 'homesteadlaw13.WorldCells': WHATEVER THE INPUT: true; the input reads as it did. -/
def worldCellsSpec : ChangeSpec := { name := "worldCells", fn := fun _ => fun
  | [d1, d2, d3] => { results := [.lit (.bool true)], args := [d1, d2, d3] }
  | _ => none }
def worldCellsRow : OpenClaim := { program := "ytjdhbgdpmojobaadoor", sum := "e5f508c517b8cc8e8aceda4fd1634816f0b5a264d2f7d7878b7e6ecf7fdb5157", func := "homestead/homesteadlaw13.WorldCells", spec := "worldCells", inPlace := ["slices.overlaps[homestead/api.Chunk]"], unfollowed := true, recurses := true, named := ["homestead/items.itemRows"], apart := false, laid := [("homestead/items.itemRows", laid_homestead_items_itemRows)] }
def WorldCellsSaid : Prop := worldCellsRow.holds Tryd.pinned (OpenSpec.ofChange worldCellsSpec)

/-- ITS FALSE NEIGHBOUR: 'it returns false'. Refute it at one input. -/
def worldCellsWrong : ChangeSpec := { name := "worldCells", fn := fun _ => fun
  | [d1, d2, d3] => { results := [.lit (.bool false)], args := [d1, d2, d3] }
  | _ => none }
def WorldCellsWrongFalsely : Prop := worldCellsRow.holds Tryd.pinned (OpenSpec.ofChange worldCellsWrong)

/- THE SECOND FORM. 'bulk': how many values and letters a reading holds, each counted each time it is reached (what is shared counts as often as it is met; a slice's spare places count too). A statement '..UptoSaid' is the law's where the arguments, and the package variables that the reading takes, are together of bulk at most 1048576: NARROWER than '..Said'. Prove '..Said' where nothing that the law and all that it calls make is longer than what came in: it says more and counts as full. Else prove '..UptoSaid'. A law counts once. -/
mutual
def uptoBulk {H : Type} : DataW H → Nat
  | .lit (.string bytes) => bytes.length + 1
  | .lit _ => 1
  | .nil => 1
  | .ptr d => uptoBulk d + 1
  | .slice elems spare => uptoBulkAll elems + uptoBulkAll spare + 1
  | .agg parts => uptoBulkAll parts + 1
  | .iface _ d => uptoBulk d + 1
  | .map entries => uptoBulkEntries entries + 1
  | .held _ => 1
def uptoBulkAll {H : Type} : List (DataW H) → Nat
  | [] => 0
  | d :: r => uptoBulk d + uptoBulkAll r
def uptoBulkEntries {H : Type} : List (Lit × DataW H) → Nat
  | [] => 0
  | x :: r => uptoBulkEntry x + uptoBulkEntries r
def uptoBulkEntry {H : Type} : Lit × DataW H → Nat
  | (.string bytes, d) => bytes.length + uptoBulk d + 1
  | (_, d) => uptoBulk d + 1
 end
def uptoSmall : (H : Type) → List (DataW H) → Bool := fun _ ds => decide (uptoBulkAll ds ≤ 1048576)
def OpenSpec.upto (s : _root_.Go.ChangeSpec) : _root_.Go.OpenSpec := { _root_.Go.OpenSpec.ofChange s with cond := some uptoSmall }

/-- 'homesteadlaw13.WorldPuts', WHERE WHAT IT READS IS OF BULK AT MOST 1048576: true; the input reads as it did. -/
def worldPutsUptoRow : OpenClaim := { program := "ytjdhbgdpmojobaadoor", sum := "e5f508c517b8cc8e8aceda4fd1634816f0b5a264d2f7d7878b7e6ecf7fdb5157", func := "homestead/homesteadlaw13.WorldPuts", spec := "worldPuts", inPlace := ["slices.overlaps[homestead/api.Chunk]", "slices.overlaps[homestead/api.Player]"], unfollowed := true, recurses := true, named := ["homestead/items.itemRows"], apart := false, laid := [("homestead/items.itemRows", laid_homestead_items_itemRows)], narrowed := true }
def WorldPutsUptoSaid : Prop := worldPutsUptoRow.holds Tryd.pinned (OpenSpec.upto worldPutsSpec)

/-- 'homesteadlaw13.WorldFirst', WHERE WHAT IT READS IS OF BULK AT MOST 1048576: true; the input reads as it did. -/
def worldFirstUptoRow : OpenClaim := { program := "ytjdhbgdpmojobaadoor", sum := "e5f508c517b8cc8e8aceda4fd1634816f0b5a264d2f7d7878b7e6ecf7fdb5157", func := "homestead/homesteadlaw13.WorldFirst", spec := "worldFirst", inPlace := ["slices.overlaps[homestead/api.Chunk]"], unfollowed := true, recurses := true, named := ["homestead/items.itemRows"], apart := false, laid := [("homestead/items.itemRows", laid_homestead_items_itemRows)], narrowed := true }
def WorldFirstUptoSaid : Prop := worldFirstUptoRow.holds Tryd.pinned (OpenSpec.upto worldFirstSpec)

/-- 'homesteadlaw13.WorldPlayers', WHERE WHAT IT READS IS OF BULK AT MOST 1048576: true; the input reads as it did. -/
def worldPlayersUptoRow : OpenClaim := { program := "ytjdhbgdpmojobaadoor", sum := "e5f508c517b8cc8e8aceda4fd1634816f0b5a264d2f7d7878b7e6ecf7fdb5157", func := "homestead/homesteadlaw13.WorldPlayers", spec := "worldPlayers", inPlace := ["slices.overlaps[homestead/api.Player]", "slices.overlaps[homestead/api.Chunk]"], unfollowed := true, recurses := true, named := ["homestead/items.itemRows"], apart := false, laid := [("homestead/items.itemRows", laid_homestead_items_itemRows)], narrowed := true }
def WorldPlayersUptoSaid : Prop := worldPlayersUptoRow.holds Tryd.pinned (OpenSpec.upto worldPlayersSpec)

/-- 'homesteadlaw13.WorldCells', WHERE WHAT IT READS IS OF BULK AT MOST 1048576: true; the input reads as it did. -/
def worldCellsUptoRow : OpenClaim := { program := "ytjdhbgdpmojobaadoor", sum := "e5f508c517b8cc8e8aceda4fd1634816f0b5a264d2f7d7878b7e6ecf7fdb5157", func := "homestead/homesteadlaw13.WorldCells", spec := "worldCells", inPlace := ["slices.overlaps[homestead/api.Chunk]"], unfollowed := true, recurses := true, named := ["homestead/items.itemRows"], apart := false, laid := [("homestead/items.itemRows", laid_homestead_items_itemRows)], narrowed := true }
def WorldCellsUptoSaid : Prop := worldCellsUptoRow.holds Tryd.pinned (OpenSpec.upto worldCellsSpec)

end Rows
end Go.Proofs.YtjdhbgdpmojobaaDoor

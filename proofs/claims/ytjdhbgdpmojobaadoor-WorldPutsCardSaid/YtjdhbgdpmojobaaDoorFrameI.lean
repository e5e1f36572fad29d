/-
  What the cards of layers 8 and 9 share: a world for the witness. No statement of the seat is proved here.
-/
import Derived.Test.YtjdhbgdpmojobaaDoorItA
import Derived.Test.YtjdhbgdpmojobaaDoorCards
import Derived.Test.YtjdhbgdpmojobaaDoorTie
import Derived.ProofKit
import Derived.OpenShut
import Derived.ChangeOld
import Derived.Deep.DeepHandedRow
import Derived.Deep.Slices
import Derived.Deep.Fields
import Derived.ChangeSame
namespace Go.Proofs.YtjdhbgdpmojobaaDoor
open Go.ChangeShapes Go.WideShapes Go.ChangeAt Go.RowKit Go.Deep

theorem own : ownKnob Tryd.prog.godebug = none := by kernel_rfl
theorem laidOut : laidOutB Tryd.prog = true := by kernel_rfl
/-- A world for the witness: the settled one, the table holding what its initialiser lays. -/
def laying (cs : Array Value) : Obj → Obj
  | .cells _ t frozen => .cells cs t frozen
  | o => o
def itCells : Array Value := ((List.range 13).flatMap fun i => [Value.string (nmI i), .int .i64 (stI i), .bool (blI i), .int .u8 (gvI i : Int)]).toArray
noncomputable def laidWorld (os : Os) : World :=
  { World.holding Tryd.prog os ⟨#[], #[], []⟩ with heap := ((World.holding Tryd.prog os ⟨#[], #[], []⟩).heap).modify 0 (laying itCells) }
end Go.Proofs.YtjdhbgdpmojobaaDoor

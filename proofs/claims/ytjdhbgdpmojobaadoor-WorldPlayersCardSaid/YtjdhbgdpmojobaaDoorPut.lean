/-
  What a call leaves that puts bytes behind bytes of its own. No statement of the seat is proved here.
-/
import Derived.Test.YtjdhbgdpmojobaaDoorBase
import Derived.Lib.Hide
namespace Go.Proofs.YtjdhbgdpmojobaaDoor
open Go.RowKit

/-- What a call that puts bytes behind bytes of its own leaves: the value owns the old bytes and the new ones; below block B nothing has turned. -/
def Put (B : Nat) (w : World) (l : List UInt8) (e : Ending) (w' : World) : Prop :=
  ∃ v, e = .returned v ∧ w'.ownsRow B 5 1 v l.length (bvs l) ∧ Below B w w'
set_option maxRecDepth 100000 in
theorem own_snoc {B : Nat} {w : World} {v : Value} {l : List UInt8} {z : Int} {x : UInt8} (hz : z = (x.toNat : Int))
    (h : w.ownsRow B 5 1 v (l.length + 1) (bvs l ++ [.int .u8 z])) : w.ownsRow B 5 1 v (l ++ [x]).length (bvs (l ++ [x])) := by
  subst hz
  rw [bvs_append, List.length_append]
  exact h
set_option maxRecDepth 100000 in
theorem cell_new (w : World) (z : Int) (t : TypeId) : ∀ j u, [Value.int .u8 z][j]? = some u → (w.alloc (.cells #[.int .u8 z] t)).cell? ((⟨w.heap.size, 0, none⟩ : Addr).add j) = some u := by
  intro j u hj
  match j, hj with
  | 0, hj => simp at hj; subst hj; simp [Addr.add]
set_option maxRecDepth 100000 in
theorem one_new (z : Int) : ∀ u ∈ [Value.int .u8 z], u.oneCell' = true := by intro u hu; simp at hu; subst hu; rfl
end Go.Proofs.YtjdhbgdpmojobaaDoor

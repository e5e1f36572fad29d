/-
  Two hashes held against one another. No statement of the seat is proved here.
-/
import Derived.Test.YtgdcjealhbfnaaaDoorShaS
import Derived.ChangeKeysEq
namespace Go.Proofs.YtgdcjealhbfnaaaDoor
open Go.RowKit

set_option maxRecDepth 100000 in
theorem eqItems_same (l : List UInt8) (d : Nat) (W : World) : ∀ is : List Nat, (∀ i ∈ is, i < l.length) → (Op.eqItems (d + 1) 5 1 (bcs l) (bcs l) is).run Tryd.prog W = .ok true W
  | [], _ => by simp [Op.eqItems]
  | i :: is, h => by
    have hi := h i (by simp)
    obtain ⟨i0, hi0, hz0, hz1, hz2⟩ := info_parts info_u8
    have hp : (part 5 (bcs l) (i * 1)).run Tryd.prog W = .ok (.int .u8 ((l.getD i 0).toNat : Int)) W := by
      rw [Nat.mul_one]
      simp [part, sizeOf, typeInfo, hi0, hz1, bcs_at l i hi]
    have he : (Op.equalIn (d + 1) 5 (.int .u8 ((l.getD i 0).toNat : Int)) (.int .u8 ((l.getD i 0).toNat : Int))).run Tryd.prog W = .ok true W := by
      simp [Op.equalIn, run_underlying Tryd.underlying5]
    simp only [Op.eqItems, Sem.run_bind, hp, he, Result.andThen_ok, Bool.not_true, Bool.false_eq_true, if_false]
    exact eqItems_same l d W is (fun j hj => h j (by simp [hj]))
theorem cells_u8' : Tryd.prog.cellsOf 5 = 1 := by kernel_rfl
set_option maxRecDepth 100000 in
theorem equal_hash (l : List UInt8) (hl : l.length = 32) (W : World) : (Op.equal 23 (.agg (bcs l)) (.agg (bcs l))).run Tryd.prog W = .ok true W := by
  obtain ⟨i0, hi0, hz0, hz1, hz2⟩ := info_parts info_u8
  unfold Op.equal
  rw [show Op.maxDepth = 9999 + 1 from rfl, run_equalIn_array W 9999 _ _ Tryd.underlying23 hi0, cells_u8']
  exact eqItems_same l 9998 W _ (fun i hi => by rw [hl]; simpa using hi)
set_option maxRecDepth 100000 in
theorem neq_hash (cs : List Value) (l : List UInt8) (h : bvs l = cs) (hl : l.length = 32) (W : World) : (binOp .neq 23 (.agg cs.toArray) (.agg cs.toArray)).run Tryd.prog W = .ok (.bool false) W := by
  have := equal_hash l hl W
  unfold bcs at this
  rw [h] at this
  simp only [binOp]
  simp [this]
set_option maxRecDepth 100000 in
theorem eql_hash (cs : List Value) (l : List UInt8) (h : bvs l = cs) (hl : l.length = 32) (W : World) : (binOp .eql 23 (.agg cs.toArray) (.agg cs.toArray)).run Tryd.prog W = .ok (.bool true) W := by
  have := equal_hash l hl W
  unfold bcs at this
  rw [h] at this
  simp only [binOp]
  simp [this]
end Go.Proofs.YtgdcjealhbfnaaaDoor

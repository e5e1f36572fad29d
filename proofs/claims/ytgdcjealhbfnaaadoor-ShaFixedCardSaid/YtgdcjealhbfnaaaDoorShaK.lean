/-
  The contract of held: a key's block, each byte of it held against a mark. No statement of the seat is proved here.
-/
import Derived.Test.YtgdcjealhbfnaaaDoorShaS
namespace Go.Proofs.YtgdcjealhbfnaaaDoor
open Go.RowKit

/-- The block, of which the first so many bytes are held against the mark. -/
def heldZ (l : List UInt8) (x : UInt8) (k : Nat) : List UInt8 := heldB (l.take k) x ++ l.drop k
set_option maxRecDepth 100000 in
theorem heldZ_length (l : List UInt8) (x : UInt8) (k : Nat) : (heldZ l x k).length = l.length := by
  simp [heldZ, heldB]; omega
set_option maxRecDepth 100000 in
theorem heldZ_at (l : List UInt8) (x : UInt8) (k : Nat) (h : k < l.length) : (heldZ l x k).getD k 0 = l.getD k 0 := by
  unfold heldZ
  rw [List.getD_eq_getElem?_getD, List.getElem?_append_right (by simp [heldB]; omega), List.getD_eq_getElem?_getD, List.getElem?_drop]
  congr 2
  simp [heldB]; omega
set_option maxRecDepth 100000 in
theorem heldZ_set (l : List UInt8) (x : UInt8) (k : Nat) (h : k < l.length) : (heldZ l x k).set k (l.getD k 0 ^^^ x) = heldZ l x (k + 1) := by
  unfold heldZ
  have hl : (heldB (l.take k) x).length = k := by simp [heldB]; omega
  have hd : l.drop k = l.getD k 0 :: l.drop (k + 1) := by
    rw [List.getD_eq_getElem?_getD, List.getElem?_eq_getElem h]
    exact List.drop_eq_getElem_cons h
  rw [List.set_append_right _ _ (by omega), hl, Nat.sub_self, hd, List.set_cons_zero, List.take_succ_eq_append_getElem h]
  rw [show heldB (l.take k ++ [l[k]]) x = heldB (l.take k) x ++ [l[k] ^^^ x] by simp only [heldB, List.map_append, List.map_cons, List.map_nil], List.append_assoc, List.getD_eq_getElem?_getD, List.getElem?_eq_getElem h]
  rfl
set_option maxRecDepth 100000 in
theorem xor_bytes (x y : UInt8) : bits .xor .u8 (x.toNat : Int) (y.toNat : Int) = ((x ^^^ y).toNat : Int) := by
  rw [u8_xor_nat _ _ x.toNat_lt y.toNat_lt, UInt8.toNat_xor]

set_option maxHeartbeats 1600000 in
set_option maxRecDepth 100000 in
theorem held_any (l : List UInt8) (x : UInt8) (w : World) (hl : l.length = 64) :
    Calls Tryd.prog 23 #[.agg (bcs l), .int .u8 (x.toNat : Int)] w fun e w' => e = .returned (.slice (some ⟨w.heap.size, 0, none⟩) 64 64) ∧ Arr w' w.heap.size 41 (bcs (heldB l x)) ∧ Below w.heap.size w w' := by
  have HL := Lib.hid hl
  clear hl
  go_enter Tryd.func23, Tryd.ntmps23
  go_wp2_with fail
  go_loopw [6] (fun i wr => ∃ k : Nat, k ≤ 64 ∧ i = .int .i64 (k : Int) ∧ Hid (Arr wr w.heap.size 41 (bcs (heldZ l x k))) ∧ Below w.heap.size w wr) (fun i _ => 64 - (intOf i).toNat)
  case atStart => exact ⟨0, by omega, rfl, (show Arr _ _ _ _ from Arr.new _ _ _), (Below.refl _ _).alloc (Nat.le_refl _) _⟩
  case round =>
    obtain ⟨k, hk, rfl, HA, hbr⟩ := hrel
    have HZL := Lib.hid ((heldZ_length l x k).trans HL.out)
    by_cases hlt : k < 64
    · have c1 := (HA.out.cell k).trans (bcs_at _ k (by rw [HZL.out]; exact hlt))
      rw [heldZ_at l x k (by rw [HL.out]; exact hlt)] at c1
      have f1 := HA.out.frozen k
      have HN : Hid (Arr (wr.setCell ⟨w.heap.size, k, none⟩ (.int .u8 (bits .xor .u8 ((l.getD k 0).toNat : Int) (x.toNat : Int)))) w.heap.size 41 (bcs (heldZ l x (k + 1)))) := by
        show Arr _ _ _ _
        rw [xor_bytes, ← heldZ_set l x k (by rw [HL.out]; exact hlt), ← bcs_set]
        exact HA.out.set _ _
      generalize l.getD k 0 = y at *
      have hxb : x.toNat < 256 := x.toNat_lt
      have hyb : y.toNat < 256 := y.toNat_lt
      go_wp2_with fail
      go_roundw
      case rel => exact ⟨k + 1, by omega, by go_num, HN, hbr.setCell (Nat.le_refl _) _⟩
      case measure => simp [intOf]; omega
    · have hge : decide ((k : Int) < 64) = false := by simp; omega
      have H64 : Unit → k = 64 := fun _ => by omega
      go_wp2_with fail
      go_ret
      refine ⟨rfl, ?_, hbr⟩
      have := HA.out
      rw [H64 ()] at this
      rw [heldZ, List.take_of_length_le (by rw [HL.out]; omega), List.drop_eq_nil_of_le (by rw [HL.out]; omega), List.append_nil] at this
      exact this
end Go.Proofs.YtgdcjealhbfnaaaDoor

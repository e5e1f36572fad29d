/-
  The hash, worked in over the whole padded message. No statement of the seat is proved here.
-/
import Derived.Test.YtgdcjealhbfnaaaDoorRfE
namespace Go.Proofs.YtgdcjealhbfnaaaDoor

theorem absorb_add : ∀ (m n : Nat) (s : List (BitVec 32)) (L : List UInt8), absorb (m + n) s L = absorb n (absorb m s L) (L.drop (64 * m))
  | 0, n, s, L => by simp [absorb]
  | m + 1, n, s, L => by
    rw [show m + 1 + n = (m + n) + 1 by omega, absorb, absorb, absorb_add m n, List.drop_drop, show 64 + 64 * m = 64 * (m + 1) by omega]
theorem absorb_front : ∀ (q : Nat) (s : List (BitVec 32)) (l t : List UInt8), 64 * q ≤ l.length → absorb q s (l ++ t) = absorb q s l
  | 0, s, l, t, _ => rfl
  | q + 1, s, l, t, h => by
    rw [absorb, absorb, List.take_append_of_le_length (by omega), List.drop_append_of_le_length (by omega), absorb_front q _ _ _ (by rw [List.length_drop]; omega)]
theorem pad_end (n : Nat) : padN n = endSize (n % 64) - 9 - n % 64 := by
  unfold padN endSize
  split <;> omega
theorem padded_length (l : List UInt8) : (padded l).length = l.length + 9 + padN l.length := by
  simp only [padded, List.length_append, List.length_replicate]
  simp [be8]
  omega
theorem padded_blocks (l : List UInt8) : (padded l).length = 64 * (l.length / 64 + endSize (l.length % 64) / 64) := by
  rw [padded_length]
  unfold padN endSize
  split <;> omega
theorem sha_padded (l : List UInt8) : sha l = seatB (absorb ((padded l).length / 64) seats0 (padded l)) := by
  rw [padded_blocks, Nat.mul_div_cancel_left _ (by omega : 0 < 64), absorb_add]
  unfold sha
  have e : padded l = l ++ ([128] ++ List.replicate (padN l.length) 0 ++ be8 (8 * l.length)) := by simp [padded]
  rw [e, absorb_front _ _ _ _ (by omega), List.drop_append_of_le_length (by omega)]
  congr 2
  unfold msgEnd
  rw [List.length_drop, show l.length - 64 * (l.length / 64) = l.length % 64 by omega, pad_end]
  simp
end Go.Proofs.YtgdcjealhbfnaaaDoor

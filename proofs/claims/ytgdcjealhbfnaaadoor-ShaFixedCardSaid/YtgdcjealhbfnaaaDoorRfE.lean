/-
  The contract of the document's message: the bytes, a mark, noughts, how many bits. No statement of the seat is proved here.
-/
import Derived.Test.YtgdcjealhbfnaaaDoorRfD
import Derived.Test.YtgdcjealhbfnaaaDoorShaE
import Derived.Test.YtgdcjealhbfnaaaDoorShaO
namespace Go.Proofs.YtgdcjealhbfnaaaDoor
open Go.RowKit

/-- How many noughts stand between the mark and the count. -/
def padN (n : Nat) : Nat := (64 - (n + 9) % 64) % 64
def padded (l : List UInt8) : List UInt8 := l ++ [128] ++ List.replicate (padN l.length) 0 ++ be8 (8 * l.length)
set_option maxRecDepth 100000 in
theorem padN_zero (n k : Nat) (hk : k ≤ padN n) : (n + 9 + k) % 64 = 0 ↔ k = padN n := by
  unfold padN at *
  omega
set_option maxRecDepth 100000 in
theorem padN_lt (n : Nat) : padN n < 64 := Nat.mod_lt _ (by omega)
/-- The lowest j bytes of a number, the highest first. -/
def tailB (m : Nat) : Nat → List UInt8
  | 0 => []
  | j + 1 => UInt8.ofNat (m / 256 ^ j) :: tailB m j
set_option maxRecDepth 100000 in
theorem tailB_length (m : Nat) : ∀ j, (tailB m j).length = j
  | 0 => rfl
  | j + 1 => by simp [tailB, tailB_length m j]
set_option maxRecDepth 100000 in
theorem tailB_eight (m : Nat) : tailB m 8 = be8 m := by
  simp only [tailB, be8, Nat.pow_zero, Nat.div_one]
set_option maxRecDepth 100000 in
theorem tailB_zero (m : Nat) (j : Nat) (h : m / 256 ^ j = 0) : ∀ d, tailB m (j + d) = List.replicate d 0 ++ tailB m j
  | 0 => by simp
  | d + 1 => by
    have : m / 256 ^ (j + d) = 0 := by
      rw [Nat.pow_add, ← Nat.div_div_eq_div_mul, h, Nat.zero_div]
    rw [show j + (d + 1) = (j + d) + 1 by omega, tailB, this, tailB_zero m j h d, List.replicate_succ]
    rfl
/-- The message while its count is written, from the end on. -/
def cntZ (l : List UInt8) (N j : Nat) : List UInt8 := l ++ [128] ++ List.replicate (N - l.length - 1 - j) 0 ++ tailB (8 * l.length) j
set_option maxRecDepth 100000 in
theorem cntZ_length (l : List UInt8) (N j : Nat) (h : l.length + 1 + j ≤ N) : (cntZ l N j).length = N := by
  simp [cntZ, tailB_length]; omega
set_option maxRecDepth 100000 in
theorem cntZ_set (l : List UInt8) (N j : Nat) (h : l.length + 1 + (j + 1) ≤ N) : (cntZ l N j).set (N - 1 - j) (UInt8.ofNat (8 * l.length / 256 ^ j)) = cntZ l N (j + 1) := by
  unfold cntZ
  have e : N - l.length - 1 - j = (N - l.length - 1 - (j + 1)) + 1 := by omega
  rw [List.set_append_left _ _ (by simp; omega), e, List.replicate_succ', ← List.append_assoc, List.set_append_right _ _ (by simp; omega)]
  have e2 : (l ++ [128] ++ List.replicate (N - l.length - 1 - (j + 1)) (0 : UInt8)).length = N - 1 - j := by simp; omega
  rw [e2, Nat.sub_self]
  simp [tailB]
set_option maxRecDepth 100000 in
theorem cntZ_done (l : List UInt8) (j : Nat) (hj : j ≤ 8) (h : 8 * l.length / 256 ^ j = 0) : cntZ l (l.length + 9 + padN l.length) j = padded l := by
  have := tailB_zero (8 * l.length) j h (8 - j)
  rw [show j + (8 - j) = 8 by omega, tailB_eight] at this
  unfold cntZ padded
  rw [this, show l.length + 9 + padN l.length - l.length - 1 - j = padN l.length + (8 - j) by omega, ← List.replicate_append_replicate]
  simp only [List.append_assoc]
def copyZ (l : List UInt8) (N i : Nat) : List UInt8 := l.take i ++ List.replicate (N - i) 0
set_option maxRecDepth 100000 in
theorem copyZ_length (l : List UInt8) (N i : Nat) (h : i ≤ l.length) (h2 : l.length ≤ N) : (copyZ l N i).length = N := by simp [copyZ]; omega
set_option maxRecDepth 100000 in
theorem copyZ_set (l : List UInt8) (N i : Nat) (h : i < l.length) (h2 : l.length ≤ N) : (copyZ l N i).set i (l.getD i 0) = copyZ l N (i + 1) := by
  unfold copyZ
  rw [show N - i = (N - (i + 1)) + 1 by omega, List.replicate_succ, List.set_append_right _ _ (by simp; omega), List.length_take, Nat.min_eq_left (by omega), Nat.sub_self, List.set_cons_zero, List.take_succ_eq_append_getElem h, List.append_assoc, List.getD_eq_getElem?_getD, List.getElem?_eq_getElem h]
  rfl
set_option maxRecDepth 100000 in
theorem copyZ_mark (l : List UInt8) (N : Nat) (h : l.length < N) : (copyZ l N l.length).set l.length 128 = cntZ l N 0 := by
  unfold copyZ cntZ
  rw [List.take_length, show N - l.length = (N - l.length - 1) + 1 by omega, List.replicate_succ, List.set_append_right _ _ (Nat.le_refl _), Nat.sub_self, List.set_cons_zero]
  simp [tailB]
end Go.Proofs.YtgdcjealhbfnaaaDoor

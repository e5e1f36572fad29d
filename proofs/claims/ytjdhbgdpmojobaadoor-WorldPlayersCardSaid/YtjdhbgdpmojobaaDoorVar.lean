/-
  Varints as lists of bytes: plain mathematics, no Go. 'varint n' is the form of a number; no statement of the seat is proved here.
-/
import Derived.Below
namespace Go.Proofs.YtjdhbgdpmojobaaDoor

/-- The bytes of a number: seven bits a byte, the lowest ones first, 128 on all but the last one. -/
def varint (n : Nat) : List UInt8 := if n < 128 then [UInt8.ofNat n] else UInt8.ofNat (128 + n % 128) :: varint (n / 128)
termination_by n
decreasing_by omega

theorem varint_small {n : Nat} (h : n < 128) : varint n = [UInt8.ofNat n] := by rw [varint, if_pos h]
theorem varint_big {n : Nat} (h : ¬ n < 128) : varint n = UInt8.ofNat (128 + n % 128) :: varint (n / 128) := by rw [varint, if_neg h]
theorem varint_ne (n : Nat) : varint n ≠ [] := by
  by_cases h : n < 128
  · rw [varint_small h]; simp
  · rw [varint_big h]; simp
/-- A number below 2 to the 7 k (k at least 1) has at most k bytes. -/
theorem varint_len_le (k : Nat) : ∀ n, n < 128 ^ (k + 1) → (varint n).length ≤ k + 1 := by
  induction k with
  | zero => intro n h; rw [varint_small (by simpa using h)]; simp
  | succ k ih =>
    intro n h
    by_cases hs : n < 128
    · rw [varint_small hs]; simp
    · rw [varint_big hs]
      have h1 : n < 128 ^ (k + 1) * 128 := by rw [← Nat.pow_succ]; exact h
      have := ih (n / 128) (Nat.div_lt_of_lt_mul (by omega))
      simp only [List.length_cons]; omega
theorem varint_len_ten {n : Nat} (h : n < 2 ^ 64) : (varint n).length ≤ 10 := varint_len_le 9 n (Nat.lt_of_lt_of_le h (by decide))
theorem toNat_ofNat_lt {n : Nat} (h : n < 256) : (UInt8.ofNat n).toNat = n := by
  rw [UInt8.toNat_ofNat']; omega

/-- The place of a number in the order 0, -1, 1, -2, 2 .. -/
def plc (n : Int) : Nat := if n < 0 then (2 * (-1 - n) + 1).toNat else (2 * n).toNat
/-- What stands at a place of that order. -/
def unplc (m : Nat) : Int := if m % 2 = 1 then -1 - ((m / 2 : Nat) : Int) else ((m / 2 : Nat) : Int)
theorem plc_lt {n : Int} (h0 : -2 ^ 63 ≤ n) (h1 : n < 2 ^ 63) : plc n < 2 ^ 64 := by unfold plc; split <;> omega
theorem unplc_plc (n : Int) : unplc (plc n) = n := by unfold unplc plc; split <;> split <;> omega
theorem unplc_lo {m : Nat} (h : m < 2 ^ 64) : -2 ^ 63 ≤ unplc m ∧ unplc m < 2 ^ 63 := by unfold unplc; split <;> omega
theorem plc_unplc (m : Nat) : plc (unplc m) = m := by unfold unplc plc; split <;> split <;> omega
end Go.Proofs.YtjdhbgdpmojobaaDoor

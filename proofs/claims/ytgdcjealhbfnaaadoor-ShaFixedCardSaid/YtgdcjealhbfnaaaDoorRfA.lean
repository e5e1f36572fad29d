/-
  The contracts of the document's turned, moved, digit and printed. No statement of the seat is proved here.
-/
import Derived.Test.YtgdcjealhbfnaaaDoorShaV
import Derived.Test.YtgdcjealhbfnaaaDoorShaQ
import Derived.Test.YtgdcjealhbfnaaaDoorOrdM
import Derived.Test.YtgdcjealhbfnaaaDoorTxt
import Derived.Deep.RegionHeld3
import Derived.Deep.QuietTactic
import Derived.BigQuiet
namespace Go.Proofs.YtgdcjealhbfnaaaDoor
open Go.RowKit

theorem ret_u32 {a b : Int} (h : a = b) : Ending.returned (.int .u32 a) = .returned (.int .u32 b) := by rw [h]
/-- Turned to the right by one bit after another. -/
def turnN (x : Nat) : Nat → Nat
  | 0 => x
  | n + 1 => turnN x n / 2 + turnN x n % 2 * 2147483648
theorem turnN_lt (x : Nat) (h : x < 4294967296) : ∀ n, turnN x n < 4294967296
  | 0 => h
  | n + 1 => by have := turnN_lt x h n; rw [turnN]; omega
theorem half_turn (Z : Nat) (hb : (Z / 4294967296) % 2 = Z % 2) : Z % 4294967296 / 2 + Z % 4294967296 % 2 * 2147483648 = Z / 2 % 4294967296 := by
  obtain ⟨q, y, hq, hy⟩ : ∃ q y, Z = 4294967296 * q + y ∧ y < 4294967296 := ⟨Z / 4294967296, Z % 4294967296, by omega, by omega⟩
  subst hq
  have e1 : (4294967296 * q + y) % 4294967296 = y := by omega
  have e2 : (4294967296 * q + y) / 4294967296 = q := by omega
  have e3 : (4294967296 * q + y) / 2 = 2147483648 * q + y / 2 := by omega
  rw [e2] at hb
  have e4 : q % 2 = y % 2 := by omega
  rw [e1, e3, ← e4]
  obtain ⟨r, b, hr, hb2⟩ : ∃ r b, q = 2 * r + b ∧ b < 2 := ⟨q / 2, q % 2, by omega, by omega⟩
  subst hr
  have e5 : (2 * r + b) % 2 = b := by omega
  rw [e5]
  omega
theorem turnN_eq (x : Nat) (hx : x < 2 ^ 32) : ∀ n, n ≤ 32 → turnN x n = (x * 4294967297) >>> n % 4294967296
  | 0, _ => by rw [turnN, Nat.shiftRight_zero]; omega
  | n + 1, h => by
    rw [turnN, turnN_eq x hx n (by omega), Nat.shiftRight_add, Nat.shiftRight_eq_div_pow _ 1, show (2 : Nat) ^ 1 = 2 from rfl]
    have hb : ((x * 4294967297) >>> n / 4294967296) % 2 = ((x * 4294967297) >>> n) % 2 := by
      have b1 : (x * 4294967297).testBit (n + 32) = (x * 4294967297).testBit n := by
        rw [mul_or x hx, Nat.testBit_or, Nat.testBit_or, Nat.testBit_shiftLeft, Nat.testBit_shiftLeft]
        have e1 : x.testBit (n + 32) = false := Nat.testBit_lt_two_pow (Nat.lt_of_lt_of_le hx (Nat.pow_le_pow_right (by omega) (by omega)))
        have e2 : ¬ 32 ≤ n := by omega
        simp [e1, e2]
      have c1 : ((x * 4294967297) >>> n / 4294967296) % 2 = ((x * 4294967297).testBit (n + 32)).toNat := by
        rw [show (4294967296 : Nat) = 2 ^ 32 from rfl, ← Nat.shiftRight_eq_div_pow, ← Nat.shiftRight_add, Nat.toNat_testBit, Nat.shiftRight_eq_div_pow]
      have c2 : ((x * 4294967297) >>> n) % 2 = ((x * 4294967297).testBit n).toNat := by
        rw [Nat.toNat_testBit, Nat.shiftRight_eq_div_pow]
      rw [c1, c2, b1]
    generalize (x * 4294967297) >>> n = Z at *
    exact half_turn Z hb
theorem turnN_rotr (x : BitVec 32) (n : Nat) (h1 : 0 < n) (h2 : n < 32) : turnN x.toNat n = (rotr x n).toNat := by
  rw [turnN_eq x.toNat x.isLt n (by omega), rot_nat x n h1 h2]
set_option maxHeartbeats 800000 in
set_option maxRecDepth 100000 in
theorem turned_nat (x n : Nat) (w : World) (hx : x < 4294967296) (hn : n ≤ 32) :
    Calls Tryd.prog 19 #[.int .u32 (x : Int), .int .i64 (n : Int)] w fun e w' => e = .returned (.int .u32 (turnN x n : Int)) ∧ w = w' := by
  go_enter Tryd.func19, Tryd.ntmps19
  go_wp2
  go_loop [0, 5] (fun v i => ∃ k : Nat, k ≤ n ∧ i = .int .i64 (k : Int) ∧ v = .int .u32 (turnN x k : Int)) (fun _ i => n - (intOf i).toNat)
  case atStart => exact ⟨0, Nat.zero_le _, rfl, rfl⟩
  case round =>
    obtain ⟨k, hk, rfl, rfl⟩ := hrel
    have hlt2 := turnN_lt x hx k
    have HT : Unit → turnN x (k + 1) = turnN x k / 2 + turnN x k % 2 * 2147483648 := fun _ => rfl
    generalize hy : turnN x k = y at *
    by_cases hlt : k < n
    · clear hy
      go_wp2
      go_round
      case rel => exact ⟨k + 1, by omega, by go_num, by rw [HT ()]; go_num⟩
      case measure => simp [intOf]; omega
    · have hkn : Unit → k = n := fun _ => by omega
      have hge : decide (k < n) = false := by simpa using hlt
      have HY := Lib.hid hy
      clear hy
      go_wp2
      go_ret
      refine ⟨ret_u32 ?_, rfl⟩; have hy2 := HY.out; rw [hkn ()] at hy2; rw [hy2]
set_option maxRecDepth 100000 in
theorem rturned_any (x : BitVec 32) (n : Nat) (z : Int) (hz : z = (n : Int)) (w : World) (h1 : 0 < n) (h2 : n < 32) :
    Calls Tryd.prog 19 #[.int .u32 (x.toNat : Int), .int .i64 z] w fun e w' => e = .returned (.int .u32 ((rotr x n).toNat : Int)) ∧ w = w' := by
  subst hz
  have := turned_nat x.toNat n w x.isLt (by omega)
  rw [turnN_rotr x n h1 h2] at this
  exact this

def moveN (x : Nat) : Nat → Nat
  | 0 => x
  | n + 1 => moveN x n / 2
theorem moveN_eq (x : Nat) : ∀ n, moveN x n = x >>> n
  | 0 => rfl
  | n + 1 => by rw [moveN, moveN_eq x n, Nat.shiftRight_add, Nat.shiftRight_eq_div_pow _ 1]
theorem moveN_le (x : Nat) : ∀ n, moveN x n ≤ x
  | 0 => Nat.le_refl _
  | n + 1 => by have := moveN_le x n; rw [moveN]; omega
set_option maxHeartbeats 800000 in
set_option maxRecDepth 100000 in
theorem rmoved_any (x : BitVec 32) (n : Nat) (z : Int) (hz : z = (n : Int)) (w : World) (hn : n ≤ 32) :
    Calls Tryd.prog 32 #[.int .u32 (x.toNat : Int), .int .i64 z] w fun e w' => e = .returned (.int .u32 ((x >>> n).toNat : Int)) ∧ w = w' := by
  subst hz
  have HF : Unit → (x >>> n).toNat = moveN x.toNat n := fun _ => by rw [moveN_eq, BitVec.toNat_ushiftRight]
  have hx : x.toNat < 4294967296 := x.isLt
  rw [HF ()]
  generalize x.toNat = x at *
  clear HF
  go_enter Tryd.func32, Tryd.ntmps32
  go_wp2
  go_loop [0, 5] (fun v i => ∃ k : Nat, k ≤ n ∧ i = .int .i64 (k : Int) ∧ v = .int .u32 (moveN x k : Int)) (fun _ i => n - (intOf i).toNat)
  case atStart => exact ⟨0, Nat.zero_le _, rfl, rfl⟩
  case round =>
    obtain ⟨k, hk, rfl, rfl⟩ := hrel
    have hlt2 := moveN_le x k
    have HT : Unit → moveN x (k + 1) = moveN x k / 2 := fun _ => rfl
    generalize hy : moveN x k = y at *
    by_cases hlt : k < n
    · clear hy
      go_wp2
      go_round
      case rel => exact ⟨k + 1, by omega, by go_num, by rw [HT ()]; go_num⟩
      case measure => simp [intOf]; omega
    · have hkn : Unit → k = n := fun _ => by omega
      have hge : decide (k < n) = false := by simpa using hlt
      have HY := Lib.hid hy
      clear hy
      go_wp2
      go_ret
      refine ⟨ret_u32 ?_, rfl⟩; have hy2 := HY.out; rw [hkn ()] at hy2; rw [hy2]

theorem digit_cases : ∀ n : Fin 16, (n.val < 10 ∧ (hexDigit n.val).toNat = 48 + n.val) ∨ (10 ≤ n.val ∧ (hexDigit n.val).toNat = 87 + n.val) := by decide +kernel
set_option maxHeartbeats 800000 in
set_option maxRecDepth 100000 in
theorem digit_any (n : Nat) (w : World) (hn : n < 16) :
    Calls Tryd.prog 31 #[.int .u8 ((hexDigit n).toNat : Int)] w fun e w' => e = .returned (.int .u32 (n : Int)) ∧ w = w' := by
  rcases digit_cases ⟨n, hn⟩ with ⟨h1, h2⟩ | ⟨h1, h2⟩
  · simp only at h1 h2
    rw [h2]
    have e1 : ((48 + n : Nat) : Int) = 48 + (n : Int) := by omega
    rw [e1]
    clear h2 e1
    go_enter Tryd.func31, Tryd.ntmps31
    go_wp2
    go_ret
    exact ⟨ret_u32 (by omega), rfl⟩
  · simp only at h1 h2
    rw [h2]
    have e1 : ((87 + n : Nat) : Int) = 87 + (n : Int) := by omega
    rw [e1]
    clear h2 e1
    go_enter Tryd.func31, Tryd.ntmps31
    go_wp2
    go_ret
    exact ⟨ret_u32 (by omega), rfl⟩
end Go.Proofs.YtgdcjealhbfnaaaDoor

/-
  The sum is linear: plain mathematics, no Go. No statement of the seat is proved here.
-/
import Derived.Test.YtbiglickijmmhaaDoorCrcM
namespace Go.Proofs.YtbiglickijmmhaaDoor

theorem tabAt_xor {a b : Nat} (ha : a < 16) (hb : b < 16) : tabAt (a ^^^ b) = tabAt a ^^^ tabAt b := by
  have : ∀ x y : Fin 16, tabAt (x.val ^^^ y.val) = tabAt x.val ^^^ tabAt y.val := by decide +kernel
  exact this ⟨a, ha⟩ ⟨b, hb⟩
theorem xor_div16 (a b : Nat) : (a ^^^ b) / 16 = a / 16 ^^^ b / 16 := Nat.xor_div_two_pow (n := 4)
theorem xor_mod16 (a b : Nat) : (a ^^^ b) % 16 = a % 16 ^^^ b % 16 := Nat.xor_mod_two_pow (n := 4)
theorem nib_xor (a b : Nat) : nib (a ^^^ b) = nib a ^^^ nib b := by
  unfold nib
  rw [xor_div16, xor_mod16, tabAt_xor (by omega) (by omega)]
  ac_rfl
/-- Eight steps. -/
def oct (s : Nat) : Nat := nib (nib s)
theorem oct_xor (a b : Nat) : oct (a ^^^ b) = oct a ^^^ oct b := by unfold oct; rw [nib_xor, nib_xor]
theorem oct_lt {s : Nat} (h : s < 2 ^ 32) : oct s < 2 ^ 32 := nib_lt (nib_lt h)
theorem crcByte_oct (s : Nat) (x : UInt8) : crcByte s x = oct (s ^^^ x.toNat) := rfl
theorem nib_shift (b : Nat) : nib (16 * b) = b := by
  unfold nib
  rw [Nat.mul_mod_right, Nat.mul_div_cancel_left _ (by decide)]
  show b ^^^ 0 = b
  simp
theorem oct_shift (b : Nat) : oct (256 * b) = b := by
  unfold oct
  rw [show 256 * b = 16 * (16 * b) by omega, nib_shift, nib_shift]
theorem split_byte (c : Nat) : c = (c % 256) ^^^ (256 * (c / 256)) := by
  have h1 : ((c % 256) ^^^ (256 * (c / 256))) % 2 ^ 8 = c % 256 := by
    rw [Nat.xor_mod_two_pow, show (2 : Nat) ^ 8 = 256 by decide, Nat.mul_mod_right, Nat.mod_mod, Nat.xor_zero]
  have h2 : ((c % 256) ^^^ (256 * (c / 256))) / 2 ^ 8 = c / 256 := by
    rw [Nat.xor_div_two_pow, show (2 : Nat) ^ 8 = 256 by decide, Nat.mul_div_cancel_left _ (by decide), Nat.div_eq_of_lt (Nat.mod_lt _ (by decide)), Nat.zero_xor]
  have h3 := Nat.div_add_mod ((c % 256) ^^^ (256 * (c / 256))) (2 ^ 8)
  rw [h1, h2] at h3
  omega
/-- A number's bytes, the lowest one first. -/
def leBytes : Nat → Nat → List UInt8
  | 0, _ => []
  | k + 1, c => UInt8.ofNat c :: leBytes k (c / 256)
def octs : Nat → Nat → Nat
  | 0, s => s
  | k + 1, s => octs k (oct s)
/-- Bytes of a number are as good as the number itself, held against what was there. -/
theorem crcRaw_le (k : Nat) : ∀ s c, crcRaw s (leBytes k c) ^^^ (c / 256 ^ k) = octs k (s ^^^ c) := by
  induction k with
  | zero => intro s c; simp [leBytes, octs, crcRaw]
  | succ k ih =>
    intro s c
    have h1 : crcRaw s (leBytes (k + 1) c) = crcRaw (oct (s ^^^ c % 256)) (leBytes k (c / 256)) := by
      show crcRaw (crcByte s (UInt8.ofNat c)) (leBytes k (c / 256)) = _
      rw [crcByte_oct, UInt8.toNat_ofNat']
    have h2 : c / 256 ^ (k + 1) = c / 256 / 256 ^ k := by rw [Nat.div_div_eq_div_mul, Nat.pow_succ, Nat.mul_comm]
    have h3 : oct (s ^^^ c) = oct (s ^^^ c % 256) ^^^ c / 256 := by
      conv => lhs; rw [split_byte c, ← Nat.xor_assoc, oct_xor, oct_shift]
    rw [h1, h2, ih, ← h3]
    rfl
/-- With their own sum behind them, the lowest byte first, all bytes have one sum. -/
theorem residue (l : List UInt8) : crc (l ++ leBytes 4 (crc l)) = 558161692 := by
  have hs : crcRaw 4294967295 l < 2 ^ 32 := crcRaw_lt l (by decide)
  have h0 := crcRaw_le 4 (crcRaw 4294967295 l) (crc l)
  have h1 : crc l = 4294967295 ^^^ crcRaw 4294967295 l := (ones_xor hs).symm
  have h2 : crc l / 256 ^ 4 = 0 := Nat.div_eq_of_lt (crc_lt l)
  have h3 : crcRaw 4294967295 l ^^^ crc l = 4294967295 := by
    rw [h1, Nat.xor_comm 4294967295, ← Nat.xor_assoc, Nat.xor_self, Nat.zero_xor]
  rw [h2, Nat.xor_zero, h3] at h0
  have h4 : crc (l ++ leBytes 4 (crc l)) = 4294967295 - crcRaw (crcRaw 4294967295 l) (leBytes 4 (crc l)) := by
    show 4294967295 - crcRaw 4294967295 (l ++ leBytes 4 (crc l)) = _
    rw [crcRaw_append]
  rw [h4, h0]
  decide +kernel
end Go.Proofs.YtbiglickijmmhaaDoor

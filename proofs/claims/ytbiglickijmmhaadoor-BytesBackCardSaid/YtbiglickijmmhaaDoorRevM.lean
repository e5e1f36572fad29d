/-
  The document's way to the sum (the highest bit first) and the program's (the lowest one first) come to the same: plain mathematics, no Go. No statement of the seat is proved here.
-/
import Derived.Test.YtbiglickijmmhaaDoorLin
namespace Go.Proofs.YtbiglickijmmhaaDoor

/-- One step of the division, the lowest bit first. -/
def stp (s : Nat) : Nat := s / 2 ^^^ (if s % 2 = 1 then 3988292384 else 0)
theorem stp_xor (a b : Nat) : stp (a ^^^ b) = stp a ^^^ stp b := by
  unfold stp
  have h1 : (a ^^^ b) / 2 = a / 2 ^^^ b / 2 := Nat.xor_div_two_pow (n := 1)
  have h2 : (a ^^^ b) % 2 = a % 2 ^^^ b % 2 := Nat.xor_mod_two_pow (n := 1)
  rw [h1, h2]
  rcases Nat.mod_two_eq_zero_or_one a with ha | ha <;> rcases Nat.mod_two_eq_zero_or_one b with hb | hb <;> simp only [ha, hb] <;> simp
  · ac_rfl
  · ac_rfl
  · rw [show a / 2 ^^^ 3988292384 ^^^ (b / 2 ^^^ 3988292384) = (a / 2 ^^^ b / 2) ^^^ (3988292384 ^^^ 3988292384) by ac_rfl, Nat.xor_self, Nat.xor_zero]
theorem stp_two (c : Nat) : stp (2 * c) = c := by
  unfold stp
  rw [if_neg (by omega), Nat.mul_div_cancel_left _ (by decide), Nat.xor_zero]
theorem stp_lt {s : Nat} (h : s < 2 ^ 32) : stp s < 2 ^ 32 := by
  unfold stp
  split
  · exact Nat.xor_lt_two_pow (by omega) (by decide)
  · rw [Nat.xor_zero]; omega
theorem split_nib (s : Nat) : s = (s % 16) ^^^ (16 * (s / 16)) := by
  have h1 : ((s % 16) ^^^ (16 * (s / 16))) % 2 ^ 4 = s % 16 := by
    rw [Nat.xor_mod_two_pow, show (2 : Nat) ^ 4 = 16 by decide, Nat.mul_mod_right, Nat.mod_mod, Nat.xor_zero]
  have h2 : ((s % 16) ^^^ (16 * (s / 16))) / 2 ^ 4 = s / 16 := by
    rw [Nat.xor_div_two_pow, show (2 : Nat) ^ 4 = 16 by decide, Nat.mul_div_cancel_left _ (by decide), Nat.div_eq_of_lt (Nat.mod_lt _ (by decide)), Nat.zero_xor]
  have h3 := Nat.div_add_mod ((s % 16) ^^^ (16 * (s / 16))) (2 ^ 4)
  rw [h1, h2] at h3
  omega
/-- Four steps are what the table says. -/
theorem nib_stp (s : Nat) : nib s = stp (stp (stp (stp s))) := by
  have ht : ∀ r : Fin 16, stp (stp (stp (stp r.val))) = tabAt r.val := by decide +kernel
  have h := ht ⟨s % 16, by omega⟩
  simp only at h
  conv => rhs; rw [split_nib s]
  rw [stp_xor, stp_xor, stp_xor, stp_xor, h, show 16 * (s / 16) = 2 * (2 * (2 * (2 * (s / 16)))) by omega, stp_two, stp_two, stp_two, stp_two]
  unfold nib
  rw [Nat.xor_comm]
theorem oct_stp (s : Nat) : oct s = stp (stp (stp (stp (stp (stp (stp (stp s))))))) := by
  unfold oct
  rw [nib_stp, nib_stp]
/-- Bits put in one by one, the lowest one first. -/
def bitIn : Nat → Nat → Nat → Nat
  | 0, _, s => s
  | k + 1, x, s => bitIn k (x / 2) (stp (s ^^^ x % 2))
def stps : Nat → Nat → Nat
  | 0, s => s
  | k + 1, s => stps k (stp s)
theorem split_bit (x : Nat) : x = (x % 2) ^^^ (2 * (x / 2)) := by
  have h1 : ((x % 2) ^^^ (2 * (x / 2))) % 2 ^ 1 = x % 2 := by
    rw [Nat.xor_mod_two_pow, show (2 : Nat) ^ 1 = 2 by decide, Nat.mul_mod_right, Nat.mod_mod, Nat.xor_zero]
  have h2 : ((x % 2) ^^^ (2 * (x / 2))) / 2 ^ 1 = x / 2 := by
    rw [Nat.xor_div_two_pow, show (2 : Nat) ^ 1 = 2 by decide, Nat.mul_div_cancel_left _ (by decide), Nat.div_eq_of_lt (Nat.mod_lt _ (by decide)), Nat.zero_xor]
  have h3 := Nat.div_add_mod ((x % 2) ^^^ (2 * (x / 2))) (2 ^ 1)
  rw [h1, h2] at h3
  omega
theorem bitIn_stps (k : Nat) : ∀ x s, bitIn k x s ^^^ (x / 2 ^ k) = stps k (s ^^^ x) := by
  induction k with
  | zero => intro x s; simp [bitIn, stps]
  | succ k ih =>
    intro x s
    have h3 : stp (s ^^^ x) = stp (s ^^^ x % 2) ^^^ x / 2 := by
      conv => lhs; rw [split_bit x, ← Nat.xor_assoc, stp_xor, stp_two]
    have h2 : x / 2 ^ (k + 1) = x / 2 / 2 ^ k := by rw [Nat.div_div_eq_div_mul, Nat.pow_succ, Nat.mul_comm]
    show bitIn k (x / 2) (stp (s ^^^ x % 2)) ^^^ (x / 2 ^ (k + 1)) = stps k (stp (s ^^^ x))
    rw [h2, ih, ← h3]
theorem crcByte_bits (s : Nat) (x : UInt8) : crcByte s x = bitIn 8 x.toNat s := by
  have h := bitIn_stps 8 x.toNat s
  rw [Nat.div_eq_of_lt (show x.toNat < 2 ^ 8 from x.toNat_lt), Nat.xor_zero] at h
  rw [h, crcByte_oct, oct_stp]
  rfl

/-- A number of 32 bits, turned round. -/
def rev (s : Nat) : Nat := (BitVec.ofNat 32 s).reverse.toNat
/-- One step, the highest bit first, of a number and a bit. -/
def up (t b : Nat) : Nat := (t * 2 % 2 ^ 32) ^^^ (if decide (2147483648 ≤ t) != decide (b = 1) then 79764919 else 0)
theorem rev_lt (s : Nat) : rev s < 2 ^ 32 := BitVec.isLt _
theorem rev_xor (a b : Nat) : rev (a ^^^ b) = rev a ^^^ rev b := by
  unfold rev
  rw [← BitVec.toNat_xor]
  congr 1
  rw [BitVec.ofNat_xor]
  apply BitVec.eq_of_getLsbD_eq
  intro i hi
  simp [BitVec.getLsbD_reverse]
theorem rev_bit (s i : Nat) (hi : i < 32) : (rev s).testBit i = s.testBit (31 - i) := by
  unfold rev
  rw [BitVec.testBit_toNat, BitVec.getLsbD_reverse, BitVec.getMsbD_eq_getLsbD]
  simp [hi, BitVec.getLsbD_ofNat]
  omega
theorem eq_of_bits {a b : Nat} (ha : a < 2 ^ 32) (hb : b < 2 ^ 32) (h : ∀ i, i < 32 → a.testBit i = b.testBit i) : a = b := by
  apply Nat.eq_of_testBit_eq
  intro i
  by_cases hi : i < 32
  · exact h i hi
  · rw [Nat.testBit_lt_two_pow (Nat.lt_of_lt_of_le ha (Nat.pow_le_pow_right (by decide) (by omega))), Nat.testBit_lt_two_pow (Nat.lt_of_lt_of_le hb (Nat.pow_le_pow_right (by decide) (by omega)))]
theorem rev_half {s : Nat} (h : s < 2 ^ 32) : rev (s / 2) = rev s * 2 % 2 ^ 32 := by
  apply eq_of_bits (rev_lt _) (Nat.mod_lt _ (by decide))
  intro i hi
  rw [rev_bit _ _ hi, Nat.testBit_mod_two_pow, Nat.mul_comm]
  cases i with
  | zero =>
    rw [Nat.testBit_lt_two_pow (show s / 2 < 2 ^ (31 - 0) by omega), Nat.testBit_zero]
    simp
  | succ j =>
    rw [Nat.testBit_succ (2 * rev s) j, Nat.mul_div_cancel_left _ (by decide), rev_bit _ _ (by omega), ← Nat.testBit_succ, show (31 - (j + 1)).succ = 31 - j by omega]
    simp [hi]
theorem rev_top {s : Nat} : decide (2147483648 ≤ rev s) = decide (s % 2 = 1) := by
  have h1 : (rev s).testBit 31 = s.testBit 0 := rev_bit s 31 (by decide)
  have h2 : (rev s).testBit 31 = decide (2147483648 ≤ rev s) := by
    have := rev_lt s
    rw [Nat.testBit_eq_decide_div_mod_eq]
    rw [show (2 : Nat) ^ 31 = 2147483648 by decide]
    congr 1
    apply propext
    omega
  rw [← h2, h1, Nat.testBit_zero]
/-- A step the one way is a step the other way. -/
theorem rev_stp {s b : Nat} (h : s < 2 ^ 32) (hb : b < 2) : rev (stp (s ^^^ b)) = up (rev s) b := by
  have e : (s ^^^ b) / 2 = s / 2 := by
    have := Nat.xor_div_two_pow (a := s) (b := b) (n := 1)
    rw [show (2 : Nat) ^ 1 = 2 by decide, Nat.div_eq_of_lt hb, Nat.xor_zero] at this
    exact this
  have e2 : (s ^^^ b) % 2 = s % 2 ^^^ b := by
    have := Nat.xor_mod_two_pow (a := s) (b := b) (n := 1)
    rw [show (2 : Nat) ^ 1 = 2 by decide, Nat.mod_eq_of_lt hb] at this
    exact this
  unfold stp up
  rw [rev_xor, e, rev_half h, rev_top, e2]
  congr 1
  have hc : rev 3988292384 = 79764919 := by decide +kernel
  have hz : rev 0 = 0 := by decide +kernel
  rcases Nat.mod_two_eq_zero_or_one s with hs | hs <;> rcases (show b = 0 ∨ b = 1 by omega) with rfl | rfl <;> simp [hs, hc, hz]

theorem bitIn_lt (k : Nat) : ∀ x {s : Nat}, s < 2 ^ 32 → bitIn k x s < 2 ^ 32 := by
  induction k with
  | zero => intro x s h; exact h
  | succ k ih => intro x s h; exact ih (x / 2) (stp_lt (Nat.xor_lt_two_pow h (by omega)))
theorem bitIn_snoc (k : Nat) : ∀ x s, bitIn (k + 1) x s = stp (bitIn k x s ^^^ (x / 2 ^ k) % 2) := by
  induction k with
  | zero => intro x s; simp [bitIn]
  | succ k ih =>
    intro x s
    show bitIn (k + 1) (x / 2) (stp (s ^^^ x % 2)) = stp (bitIn k (x / 2) (stp (s ^^^ x % 2)) ^^^ (x / 2 ^ (k + 1)) % 2)
    rw [ih, Nat.div_div_eq_div_mul, Nat.pow_succ, Nat.mul_comm 2]
/-- What the last loop gathers: the bits, turned round. -/
def gather : Nat → Nat → Nat
  | 0, _ => 0
  | k + 1, t => gather k t * 2 + t / 2 ^ k % 2
theorem gather_bit (t : Nat) : ∀ k, gather k t < 2 ^ k ∧ ∀ i, i < k → (gather k t).testBit i = t.testBit (k - 1 - i) := by
  intro k
  induction k with
  | zero => exact ⟨by simp [gather], fun i hi => absurd hi (by omega)⟩
  | succ k ih =>
    refine ⟨?_, fun i hi => ?_⟩
    · have := ih.1
      rw [Nat.pow_succ]
      show gather k t * 2 + t / 2 ^ k % 2 < _
      omega
    · show (gather k t * 2 + t / 2 ^ k % 2).testBit i = _
      cases i with
      | zero =>
        rw [Nat.testBit_zero, Nat.testBit_eq_decide_div_mod_eq]
        congr 1
        apply propext
        rw [show k + 1 - 1 - 0 = k by omega]
        omega
      | succ i =>
        rw [Nat.testBit_succ, show (gather k t * 2 + t / 2 ^ k % 2) / 2 = gather k t by omega, ih.2 i (by omega)]
        congr 1
        omega
theorem gather_rev (t : Nat) : gather 32 t = rev t := by
  apply eq_of_bits (gather_bit t 32).1 (rev_lt t)
  intro i hi
  rw [(gather_bit t 32).2 i hi, rev_bit t i hi]
theorem rev_rev {s : Nat} (h : s < 2 ^ 32) : rev (rev s) = s := by
  apply eq_of_bits (rev_lt _) h
  intro i hi
  rw [rev_bit _ _ hi, rev_bit _ _ (by omega), show 31 - (31 - i) = i by omega]
theorem rev_ones_sub {s : Nat} (h : s < 2 ^ 32) : rev (4294967295 - rev s) = 4294967295 - s := by
  rw [← ones_xor (rev_lt s), rev_xor, rev_rev h, show rev 4294967295 = 4294967295 by decide +kernel, ones_xor h]
end Go.Proofs.YtbiglickijmmhaaDoor

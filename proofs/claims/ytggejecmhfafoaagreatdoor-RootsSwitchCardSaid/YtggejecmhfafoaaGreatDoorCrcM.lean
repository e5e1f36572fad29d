/-
  The sum of bytes, four steps at a time, as numbers: plain mathematics, no Go. No statement of the seat is proved here.
-/
import Derived.Below
namespace Go.Proofs.YtggejecmhfafoaaGreatDoor

/-- What four steps of the division make of each number below 16. -/
def tab : List Nat := [0, 498536548, 997073096, 651767980, 1994146192, 1802195444, 1303535960, 1342533948, 3988292384, 4027552580, 3604390888, 3412177804, 2607071920, 2262029012, 2685067896, 3183342108]
def tabAt (k : Nat) : Nat := tab.getD k 0
theorem tabAt_lt (k : Nat) : tabAt k < 2 ^ 32 := by
  by_cases h : k < 16
  · have : ∀ j : Fin 16, tabAt j.val < 2 ^ 32 := by decide
    exact this ⟨k, h⟩
  · unfold tabAt tab
    rw [List.getD_eq_getElem?_getD, List.getElem?_eq_none (by simp; omega)]
    decide
/-- Four steps. -/
def nib (s : Nat) : Nat := (s / 16) ^^^ tabAt (s % 16)
theorem nib_lt {s : Nat} (h : s < 2 ^ 32) : nib s < 2 ^ 32 := Nat.xor_lt_two_pow (by omega) (tabAt_lt _)
def crcByte (s : Nat) (x : UInt8) : Nat := nib (nib (s ^^^ x.toNat))
theorem xor_byte_lt {s : Nat} (h : s < 2 ^ 32) (x : UInt8) : s ^^^ x.toNat < 2 ^ 32 := Nat.xor_lt_two_pow h (by have := x.toNat_lt; omega)
theorem crcByte_lt {s : Nat} (h : s < 2 ^ 32) (x : UInt8) : crcByte s x < 2 ^ 32 := nib_lt (nib_lt (xor_byte_lt h x))
def crcRaw (s : Nat) (l : List UInt8) : Nat := l.foldl crcByte s
theorem crcRaw_lt : ∀ (l : List UInt8) {s : Nat}, s < 2 ^ 32 → crcRaw s l < 2 ^ 32
  | [], _, h => h
  | x :: l, _, h => crcRaw_lt l (crcByte_lt h x)
theorem crcRaw_snoc (s : Nat) (l : List UInt8) (x : UInt8) : crcRaw s (l ++ [x]) = crcByte (crcRaw s l) x := by simp [crcRaw]
theorem crcRaw_append (s : Nat) (l m : List UInt8) : crcRaw s (l ++ m) = crcRaw (crcRaw s l) m := by simp [crcRaw]
theorem ones_xor {s : Nat} (h : s < 2 ^ 32) : 4294967295 ^^^ s = 4294967295 - s := by
  have h1 : (BitVec.allOnes 32 ^^^ BitVec.ofNat 32 s).toNat = (~~~ BitVec.ofNat 32 s).toNat := by rw [BitVec.not_def]
  rw [BitVec.toNat_xor, BitVec.toNat_not, BitVec.toNat_allOnes, BitVec.toNat_ofNat, Nat.mod_eq_of_lt h] at h1
  exact h1
/-- The sum of bytes. -/
def crc (l : List UInt8) : Nat := 4294967295 - crcRaw 4294967295 l
theorem crc_lt (l : List UInt8) : crc l < 2 ^ 32 := by unfold crc; omega
end Go.Proofs.YtggejecmhfafoaaGreatDoor

/-
  Hex in plain words: it tells hashes apart and keeps their order; each byte is found again. No statement of the seat is proved here.
-/
import Derived.Test.YtgdcjealhbfnaaaDoorShaM
import Derived.Lib.Bytealg
namespace Go.Proofs.YtgdcjealhbfnaaaDoor

theorem hexDigit_lt : ∀ i j : Fin 16, i < j → hexDigit i.val < hexDigit j.val := by decide +kernel
theorem hexDigit_irrefl : ∀ i : Fin 16, ¬ hexDigit i.val < hexDigit i.val := by decide +kernel
theorem hexDigit_index : ∀ i : Fin 16, Lib.indexByte hexDigits (hexDigit i.val) = (i.val : Int) := by decide +kernel
theorem index_digit (n : Nat) (h : n < 16) : Lib.indexByte hexDigits (hexDigit n) = (n : Int) := hexDigit_index ⟨n, h⟩
theorem digit_lt (m n : Nat) (h : m < n) (hn : n < 16) : hexDigit m < hexDigit n := hexDigit_lt ⟨m, by omega⟩ ⟨n, hn⟩ h
theorem digit_irrefl (n : Nat) (hn : n < 16) : ¬ hexDigit n < hexDigit n := hexDigit_irrefl ⟨n, hn⟩
theorem u8_asymm (a b : UInt8) (h : a < b) : ¬ b < a := by rw [UInt8.lt_iff_toNat_lt] at *; omega
theorem hexB_cons (a : UInt8) (l : List UInt8) : hexB (a :: l) = hexDigit (a.toNat / 16) :: hexDigit (a.toNat % 16) :: hexB l := rfl
theorem compare_hex : ∀ (g h : List UInt8), Lib.compareBytes (hexB g) (hexB h) = Lib.compareBytes g h
  | [], [] => rfl
  | [], _ :: _ => rfl
  | _ :: _, [] => rfl
  | a :: g, b :: h => by
    have ha := a.toNat_lt
    have hb := b.toNat_lt
    rw [hexB_cons, hexB_cons, Lib.compareBytes, Lib.compareBytes, Lib.compareBytes, compare_hex g h]
    have L : ∀ x y : UInt8, x < y ↔ x.toNat < y.toNat := fun x y => UInt8.lt_iff_toNat_lt
    by_cases h1 : a.toNat / 16 < b.toNat / 16
    · rw [if_pos (digit_lt _ _ h1 (by omega)), if_pos ((L _ _).2 (by omega))]
    · by_cases h2 : b.toNat / 16 < a.toNat / 16
      · rw [if_neg (u8_asymm _ _ (digit_lt _ _ h2 (by omega))), if_pos (digit_lt _ _ h2 (by omega)), if_neg (by rw [L]; omega), if_pos ((L _ _).2 (by omega))]
      · have e : a.toNat / 16 = b.toNat / 16 := by omega
        rw [e, if_neg (digit_irrefl _ (by omega)), if_neg (digit_irrefl _ (by omega))]
        by_cases h3 : a.toNat % 16 < b.toNat % 16
        · rw [if_pos (digit_lt _ _ h3 (by omega)), if_pos ((L _ _).2 (by omega))]
        · by_cases h4 : b.toNat % 16 < a.toNat % 16
          · rw [if_neg (u8_asymm _ _ (digit_lt _ _ h4 (by omega))), if_pos (digit_lt _ _ h4 (by omega)), if_neg (by rw [L]; omega), if_pos ((L _ _).2 (by omega))]
          · have e2 : a.toNat % 16 = b.toNat % 16 := by omega
            rw [e2, if_neg (digit_irrefl _ (by omega)), if_neg (digit_irrefl _ (by omega)), if_neg (by rw [L]; omega), if_neg (by rw [L]; omega)]
theorem hexB_at : ∀ (g : List UInt8) (i : Nat), i < g.length → (hexB g)[2 * i]? = some (hexDigit ((g.getD i 0).toNat / 16)) ∧ (hexB g)[2 * i + 1]? = some (hexDigit ((g.getD i 0).toNat % 16))
  | [], i, h => by simp at h
  | a :: g, 0, _ => ⟨rfl, rfl⟩
  | a :: g, i + 1, h => by
    have := hexB_at g i (by simpa using h)
    rw [hexB_cons, show 2 * (i + 1) = 2 * i + 1 + 1 by omega, show 2 * i + 1 + 1 + 1 = (2 * i + 1) + 1 + 1 by omega]
    simpa using this
end Go.Proofs.YtgdcjealhbfnaaaDoor

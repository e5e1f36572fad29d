/-
  The order of varints: plain mathematics, no Go. No statement of the seat is proved here.
-/
import Derived.Test.YtkoapldkjlfpeaaDoorVar
namespace Go.Proofs.YtkoapldkjlfpeaaDoor

theorem varint_len_mono : ∀ (b a : Nat), a ≤ b → (varint a).length ≤ (varint b).length := by
  intro b
  induction b using Nat.strongRecOn with
  | _ b ih =>
    intro a hab
    by_cases ha : a < 128
    · rw [varint_small ha]
      have := varint_ne b
      cases hv : varint b with
      | nil => exact absurd hv this
      | cons x l => simp
    · rw [varint_big ha, varint_big (show ¬ b < 128 by omega)]
      have := ih (b / 128) (by omega) (a / 128) (by omega)
      simp only [List.length_cons]
      omega
/-- Of two numbers of as many bytes the greater one has the greater last byte that is another one. -/
theorem varint_last : ∀ (b a : Nat), a < b → (varint a).length = (varint b).length →
    ∃ i, i < (varint a).length ∧ ((varint a).getD i 0).toNat < ((varint b).getD i 0).toNat ∧ ∀ j, i < j → (varint a).getD j 0 = (varint b).getD j 0 := by
  intro b
  induction b using Nat.strongRecOn with
  | _ b ih =>
    intro a hab hl
    by_cases ha : a < 128
    · by_cases hb : b < 128
      · rw [varint_small ha, varint_small hb]
        refine ⟨0, by simp, ?_, fun j hj => ?_⟩
        · simp only [List.getD_cons_zero]
          rw [toNat_ofNat_lt (by omega), toNat_ofNat_lt (by omega)]
          exact hab
        · cases j with
          | zero => omega
          | succ j => simp
      · rw [varint_small ha, varint_big hb] at hl
        have := varint_ne (b / 128)
        cases hv : varint (b / 128) with
        | nil => exact absurd hv this
        | cons x l => rw [hv] at hl; simp at hl
    · have hb : ¬ b < 128 := by omega
      rw [varint_big ha, varint_big hb] at hl ⊢
      simp only [List.length_cons] at hl
      by_cases hq : a / 128 = b / 128
      · refine ⟨0, by simp, ?_, fun j hj => ?_⟩
        · simp only [List.getD_cons_zero]
          rw [toNat_ofNat_lt (by omega), toNat_ofNat_lt (by omega)]
          omega
        · cases j with
          | zero => omega
          | succ j => simp [hq]
      · obtain ⟨i, hi, hlt, hall⟩ := ih (b / 128) (by omega) (a / 128) (by omega) (by omega)
        refine ⟨i + 1, by simp; omega, by simpa using hlt, fun j hj => ?_⟩
        cases j with
        | zero => omega
        | succ j => simpa using hall j (by omega)
/-- What is found from behind: the first other byte is the lesser number's lesser one; if there is none, the numbers are one. -/
theorem varint_found {a b k : Nat} (hab : a ≤ b) (hl : (varint a).length = (varint b).length) (hk : k < (varint a).length)
    (hall : ∀ j, k < j → (varint a).getD j 0 = (varint b).getD j 0) (hne : (varint a).getD k 0 ≠ (varint b).getD k 0) : ((varint a).getD k 0).toNat < ((varint b).getD k 0).toNat ∧ a < b := by
  have hab' : a < b := by
    rcases Nat.lt_or_ge a b with h | h
    · exact h
    · have : a = b := by omega
      subst this
      exact absurd rfl hne
  obtain ⟨i, hi, hlt, hi2⟩ := varint_last b a hab' hl
  rcases Nat.lt_trichotomy i k with h | h | h
  · exact absurd (hi2 k h) hne
  · subst h; exact ⟨hlt, hab'⟩
  · have := hall i h
    rw [this] at hlt
    omega
theorem varint_none {a b : Nat} (hab : a ≤ b) (hl : (varint a).length = (varint b).length) (hall : ∀ j, (varint a).getD j 0 = (varint b).getD j 0) : a = b := by
  rcases Nat.lt_or_ge a b with h | h
  · obtain ⟨i, hi, hlt, _⟩ := varint_last b a h hl
    rw [hall i] at hlt
    omega
  · omega
end Go.Proofs.YtkoapldkjlfpeaaDoor

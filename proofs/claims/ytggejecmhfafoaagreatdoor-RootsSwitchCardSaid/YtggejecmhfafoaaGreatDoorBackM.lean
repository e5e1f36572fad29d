/-
  What is put is got: plain mathematics on varints, no Go. No statement of the seat is proved here.
-/
import Derived.Test.YtggejecmhfafoaaGreatDoorBlob
namespace Go.Proofs.YtggejecmhfafoaaGreatDoor

theorem low_high {x : Nat} (h : x < 128) : low (UInt8.ofNat (128 + x)) = false := by
  unfold low
  rw [toNat_ofNat_lt (by omega)]
  simp
theorem low_low {x : Nat} (h : x < 128) : low (UInt8.ofNat x) = true := by
  unfold low
  rw [toNat_ofNat_lt (by omega)]
  simpa using h
theorem varint_find (n : Nat) : ∀ b : List UInt8, (varint n ++ b).findIdx? low = some ((varint n).length - 1) := by
  induction n using Nat.strongRecOn with
  | _ n ih =>
    intro b
    by_cases h : n < 128
    · rw [varint_small h]
      simp [List.findIdx?_cons, low_low h]
    · rw [varint_big h, List.cons_append, List.findIdx?_cons, low_high (by omega), ih (n / 128) (by omega) b]
      have := varint_ne (n / 128)
      cases hv : varint (n / 128) with
      | nil => exact absurd hv this
      | cons x l => simp
/-- The last byte of a varint, and how many there are. -/
theorem varint_end (n : Nat) : ((varint n).getD ((varint n).length - 1) 0).toNat = n / 128 ^ ((varint n).length - 1) ∧ (1 < (varint n).length → 128 ^ ((varint n).length - 1) ≤ n) := by
  induction n using Nat.strongRecOn with
  | _ n ih =>
    by_cases h : n < 128
    · rw [varint_small h]
      simp [Nat.mod_eq_of_lt (show n < 256 by omega)]
    · obtain ⟨h1, h2⟩ := ih (n / 128) (by omega)
      rw [varint_big h]
      have hne := varint_ne (n / 128)
      obtain ⟨m, hm⟩ : ∃ m, (varint (n / 128)).length = m + 1 := by
        cases hv : varint (n / 128) with
        | nil => exact absurd hv hne
        | cons x l => exact ⟨l.length, by simp⟩
      rw [hm] at h1 h2
      simp only [List.length_cons, hm, Nat.add_sub_cancel, List.getD_cons_succ] at h1 h2 ⊢
      refine ⟨?_, fun _ => ?_⟩
      · rw [h1, Nat.div_div_eq_div_mul, Nat.pow_succ, Nat.mul_comm]
      · rw [Nat.pow_succ]
        cases m with
        | zero => simp; omega
        | succ m =>
          have := h2 (by omega)
          omega
theorem varint_sh {n : Nat} (h : n < 2 ^ 64) : shB ((varint n).length - 1 + 1) ((varint n).getD ((varint n).length - 1) 0).toNat = true := by
  have hne := varint_ne n
  have hlen : 0 < (varint n).length := by
    cases hv : varint n with
    | nil => exact absurd hv hne
    | cons x l => simp
  obtain ⟨h1, h2⟩ := varint_end n
  rw [h1, show (varint n).length - 1 + 1 = (varint n).length by omega]
  unfold shB
  by_cases h10 : (varint n).length = 10
  · rw [if_pos h10, h10]
    have := h2 (by omega)
    rw [h10] at this
    have e : (128 : Nat) ^ (10 - 1) = 2 ^ 63 := by decide
    rw [e] at this ⊢
    rw [beq_iff_eq]
    omega
  · rw [if_neg h10]
    by_cases hone : (varint n).length = 1
    · simp [hone]
    · have h3 := h2 (by omega)
      have hp : 0 < 128 ^ ((varint n).length - 1) := Nat.pow_pos (by decide)
      have := Nat.div_pos h3 hp
      simp [this]
theorem varint_val : ∀ (n : Nat), n < 2 ^ 64 → valMod (varint n) = n := by
  intro n
  induction n using Nat.strongRecOn with
  | _ n ih =>
    intro h
    by_cases hs : n < 128
    · rw [varint_small hs]
      simp only [valMod, List.foldr_cons, List.foldr_nil]
      rw [toNat_ofNat_lt (by omega)]
      omega
    · rw [varint_big hs]
      show (valMod (varint (n / 128)) * 128 + (UInt8.ofNat (128 + n % 128)).toNat % 128) % 2 ^ 64 = n
      rw [ih (n / 128) (by omega) (by omega), toNat_ofNat_lt (by omega)]
      omega
/-- What is put is got. -/
theorem getU_put (l b : List UInt8) (p n : Nat) (hn : n < 2 ^ 64) (hp : p ≤ l.length) (hd : l.drop p = varint n ++ b) : getU l (p : Int) = (n, p + (varint n).length, 0) := by
  have hten := varint_len_ten hn
  have hne := varint_ne n
  have hlen : 0 < (varint n).length := by
    cases hv : varint n with
    | nil => exact absurd hv hne
    | cons x l => simp
  have ht : (l.drop p).take 10 = varint n ++ b.take (10 - (varint n).length) := by
    rw [hd, List.take_append, List.take_of_length_le hten]
  unfold getU
  rw [if_neg (by omega), Int.toNat_natCast, ht, varint_find]
  simp only
  have hg : (varint n ++ b.take (10 - (varint n).length)).getD ((varint n).length - 1) 0 = (varint n).getD ((varint n).length - 1) 0 := by
    simp only [List.getD_eq_getElem?_getD]
    rw [List.getElem?_append_left (by omega)]
  rw [hg, varint_sh hn, if_pos rfl, show (varint n).length - 1 + 1 = (varint n).length by omega, List.take_left, varint_val n hn]
  simp only [Prod.mk.injEq, and_true, true_and]
  omega
/-- What is cut off lacks bytes. -/
theorem getU_cut (l : List UInt8) (p n k : Nat) (hn : n < 2 ^ 64) (hp : p ≤ l.length) (hk : k < (varint n).length) (hd : l.drop p = (varint n).take k) : getU l (p : Int) = (0, 0, 11) := by
  have hten := varint_len_ten hn
  have hfull := varint_find n []
  rw [List.append_nil] at hfull
  have hnone : ((varint n).take k).findIdx? low = none := by
    rw [List.findIdx?_eq_none_iff]
    intro x hx
    obtain ⟨j, hj, rfl⟩ := List.getElem_of_mem hx
    rw [List.length_take] at hj
    obtain ⟨_, _, hlt⟩ := List.findIdx?_eq_some_iff_getElem.1 hfull
    rw [List.getElem_take]
    simpa using hlt j (by omega)
  unfold getU
  have hlk : ((varint n).take k).length = k := by rw [List.length_take]; omega
  rw [if_neg (by omega), Int.toNat_natCast, hd, List.take_of_length_le (by omega), hnone]
  simp only
  rw [if_pos (by omega)]
end Go.Proofs.YtggejecmhfafoaaGreatDoor

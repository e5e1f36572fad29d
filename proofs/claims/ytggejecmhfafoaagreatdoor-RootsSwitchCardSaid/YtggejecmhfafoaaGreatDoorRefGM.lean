/-
  What bytes say is theirs, if its varint is just these: plain mathematics, no Go. No statement of the seat is proved here.
-/
import Derived.Test.YtggejecmhfafoaaGreatDoorBackM
namespace Go.Proofs.YtggejecmhfafoaaGreatDoor

/-- What bytes say, however great it is. -/
def valN (l : List UInt8) : Nat := l.foldr (fun x n => n * 128 + x.toNat % 128) 0
theorem valN_cons (x : UInt8) (l : List UInt8) : valN (x :: l) = valN l * 128 + x.toNat % 128 := rfl
theorem valMod_cons (x : UInt8) (l : List UInt8) : valMod (x :: l) = (valMod l * 128 + x.toNat % 128) % 2 ^ 64 := rfl
theorem valMod_eq (l : List UInt8) : valMod l = valN l % 2 ^ 64 := by
  induction l with
  | nil => rfl
  | cons x l ih => rw [valMod_cons, valN_cons, ih]; omega
theorem valN_lt (l : List UInt8) : valN l < 128 ^ l.length := by
  induction l with
  | nil => simp [valN]
  | cons x l ih => rw [valN_cons, List.length_cons, Nat.pow_succ]; omega
theorem valN_snoc (t : List UInt8) (z : UInt8) : valN (t ++ [z]) = valN t + 128 ^ t.length * (z.toNat % 128) := by
  induction t with
  | nil => simp [valN]
  | cons x t ih =>
    rw [List.cons_append, valN_cons, ih, valN_cons, List.length_cons, Nat.pow_succ]
    rw [Nat.add_mul, Nat.mul_right_comm]
    omega
theorem varint_back (z : UInt8) (hz : z.toNat < 128) : ∀ t : List UInt8, (∀ x ∈ t, 128 ≤ x.toNat) → (0 < z.toNat ∨ t = []) → varint (valN (t ++ [z])) = t ++ [z] ∧ (t ≠ [] → 0 < valN (t ++ [z]))
  | [], _, _ => by
    refine ⟨?_, fun h => absurd rfl h⟩
    rw [List.nil_append, valN_cons, show valN [] = 0 from rfl, Nat.zero_mul, Nat.zero_add, Nat.mod_eq_of_lt hz, varint_small hz]
    simp
  | x :: t, hx, h0 => by
    have hz0 : 0 < z.toNat := by
      rcases h0 with h | h
      · exact h
      · cases h
    obtain ⟨h1, h2⟩ := varint_back z hz t (fun y hy => hx y (by simp [hy])) (Or.inl hz0)
    have hx1 := hx x (by simp)
    have hx2 := x.toNat_lt
    have hp : 0 < valN (t ++ [z]) := by
      cases t with
      | nil => rw [List.nil_append, valN_cons, show valN [] = 0 from rfl]; omega
      | cons y t => exact h2 (by simp)
    have e : valN (x :: t ++ [z]) = valN (t ++ [z]) * 128 + x.toNat % 128 := rfl
    refine ⟨?_, fun _ => by rw [e]; omega⟩
    rw [e, varint_big (by omega), show (valN (t ++ [z]) * 128 + x.toNat % 128) / 128 = valN (t ++ [z]) by omega, h1, show 128 + (valN (t ++ [z]) * 128 + x.toNat % 128) % 128 = x.toNat by omega]
    simp
/-- Bytes that are a number's: all but the last one from 128 on, the last one below; at most ten. -/
theorem own_iff (s : List UInt8) (t : List UInt8) (z : UInt8) (e : s = t ++ [z]) (ht : ∀ x ∈ t, 128 ≤ x.toNat) (hz : z.toNat < 128) (hl : s.length ≤ 10) :
    varint (valMod s) = s ↔ shB s.length z.toNat = true := by
  have hsl : s.length = t.length + 1 := by rw [e]; simp
  constructor
  · intro h
    have := varint_sh (valMod_lt s)
    rw [h] at this
    rw [show s.length - 1 + 1 = s.length by omega] at this
    have hlast : s.getD (s.length - 1) 0 = z := by
      rw [hsl, Nat.add_sub_cancel, e, List.getD_eq_getElem?_getD, List.getElem?_append_right (Nat.le_refl _), Nat.sub_self]
      rfl
    rw [hlast] at this
    exact this
  · intro h
    have hcond : 0 < z.toNat ∨ t = [] := by
      unfold shB at h
      split at h
      · left
        rw [beq_iff_eq] at h
        omega
      · rw [Bool.or_eq_true, decide_eq_true_eq, beq_iff_eq] at h
        rcases h with h | h
        · exact Or.inl h
        · exact Or.inr (List.eq_nil_of_length_eq_zero (by omega))
    have hb := (varint_back z hz t ht hcond).1
    rw [← e] at hb
    have hlt : valN s < 2 ^ 64 := by
      by_cases h10 : s.length = 10
      · have h9 : t.length = 9 := by omega
        have hz1 : z.toNat = 1 := by
          unfold shB at h
          rw [if_pos h10, beq_iff_eq] at h
          exact h
        have := valN_lt t
        rw [h9] at this
        rw [e, valN_snoc, h9, hz1]
        have e9 : (128 : Nat) ^ 9 = 9223372036854775808 := by decide
        rw [e9] at this ⊢
        omega
      · exact Nat.lt_of_lt_of_le (valN_lt s) (Nat.le_trans (Nat.pow_le_pow_right (by omega) (show s.length ≤ 9 by omega)) (by decide))
    rw [valMod_eq, Nat.mod_eq_of_lt hlt]
    exact hb
/-- The first i bytes and the one that is below 128. -/
theorem cut_at (r : List UInt8) (i : Nat) (h : r.findIdx? low = some i) : ∃ z : UInt8, i < r.length ∧ r.take (i + 1) = r.take i ++ [z] ∧ r.getD i 0 = z ∧ z.toNat < 128 ∧ ∀ x ∈ r.take i, 128 ≤ x.toNat := by
  obtain ⟨hi, h1, h2⟩ := List.findIdx?_eq_some_iff_getElem.1 h
  refine ⟨r[i], hi, List.take_succ_eq_append_getElem hi, by rw [List.getD_eq_getElem?_getD, List.getElem?_eq_getElem hi]; rfl, by simpa [low] using h1, fun x hx => ?_⟩
  obtain ⟨j, hj, rfl⟩ := List.getElem_of_mem hx
  have hj2 : j < i := by rw [List.length_take] at hj; omega
  have := h2 j hj2
  rw [List.getElem_take]
  simpa [low] using this
theorem getU_own (l : List UInt8) (p : Nat) (hp : p ≤ l.length) (i : Nat) (h : ((l.drop p).take 10).findIdx? low = some i) :
    (varint (valMod (((l.drop p).take 10).take (i + 1))) = ((l.drop p).take 10).take (i + 1) → getU l p = (valMod (((l.drop p).take 10).take (i + 1)), p + i + 1, 0)) ∧
    (varint (valMod (((l.drop p).take 10).take (i + 1))) ≠ ((l.drop p).take 10).take (i + 1) → getU l p = (0, 0, 10)) := by
  obtain ⟨z, hi, e, hz, hz1, ht⟩ := cut_at _ i h
  have hl : (((l.drop p).take 10).take (i + 1)).length = i + 1 := by rw [List.length_take]; omega
  have h10 : ((l.drop p).take 10).length ≤ 10 := by rw [List.length_take]; omega
  have hiff := own_iff _ _ z e ht hz1 (by rw [hl]; omega)
  rw [hl] at hiff
  have hG : getU l p = if shB (i + 1) z.toNat then (valMod (((l.drop p).take 10).take (i + 1)), p + i + 1, 0) else (0, 0, 10) := by
    unfold getU
    rw [if_neg (by omega), Int.toNat_natCast, h]
    simp only [hz]
  constructor
  · intro hv
    rw [hG, if_pos (hiff.1 hv)]
  · intro hv
    rw [hG, if_neg (fun hb => hv (hiff.2 hb))]
end Go.Proofs.YtggejecmhfafoaaGreatDoor

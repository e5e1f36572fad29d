/-
  Bags: what was put into empty slots is spent again, what was taken can be put back (mathematics). No statement of the seat is proved here.
-/
import Derived.Test.YtmallcjhccbgdaaDoorBgS
namespace Go.Proofs.YtmallcjhccbgdaaDoor
open Go.RowKit Go.Deep

section
variable {i : Nat} {st n : Int} {l : List (Nat × Int)}
theorem sumF_ge (f : Nat × Int → Int) {l : List (Nat × Int)} (h : ∀ s ∈ l, 0 ≤ f s) {s : Nat × Int} (hs : s ∈ l) : f s ≤ sumF f l := by
  induction l with
  | nil => cases hs
  | cons t l ih =>
    rw [sumF_cons]
    have h1 := h t List.mem_cons_self
    have h2 : 0 ≤ sumF f l := sumF_nonneg (fun u hu => h u (List.mem_cons_of_mem _ hu))
    rcases List.mem_cons.1 hs with rfl | hs
    · omega
    · have := ih (fun u hu => h u (List.mem_cons_of_mem _ hu)) hs
      omega
theorem none_of (hi : i ≠ 0) (hr : rgt l = true) (hc : cntL i l = 0) : ∀ s ∈ l, s.1 ≠ i := fun s hs e => by
  rw [cntL_sum hi] at hc
  have h0 : ∀ t ∈ l, 0 ≤ cnS i t := fun t ht => by
    unfold cnS
    have := (pos_of hr ht).2.1
    split <;> omega
  have h1 := sumF_ge (cnS i) h0 hs
  have h2 := rgt_at hr hs
  rw [show cnS i s = s.2 from if_pos e] at h1
  have h3 : ¬ (s.1 = 0) := by rw [e]; exact hi
  omega
/-- What is put where there is none is spent again. -/
theorem put_spent (hst : stI i = st) (hpos : 0 < st) (hr : rgt l = true) (hc : cntL i l = 0) (h1 : 1 ≤ n) (hn : n ≤ roomL i st l) :
    (PutL i l n).2 = 0 ∧ SpendE (PutL i l n).1 i n = 0 ∧ SpendL (PutL i l n).1 i n = l := by
  have hi : i ≠ 0 := fun e => by
    rw [e] at hst
    have : stI 0 = 0 := rfl
    omega
  have hP : PutL i l n = putL i st l n := by unfold PutL; rw [if_neg (by omega), if_neg (by rw [hr, hst]; simp; omega), hst]
  have hno := none_of hi hr hc
  have hleft := (put_room (n := n) hst hpos (by omega) hr).1
  have hok := PutL_ok (i := i) hr h1
  have hcn := PutL_cnt (k := i) (i := i) (m := n) hr
  have h0 : (PutL i l n).2 = 0 := by rw [hP, hleft]; omega
  rw [if_pos ⟨rfl, h1, by omega⟩, h0, hc] at hcn
  have hE : SpendE (PutL i l n).1 i n = 0 := (SpendE_iff hok.2.2.2 h1).2 (by omega)
  refine ⟨h0, hE, ?_⟩
  unfold SpendL
  rw [if_pos hE]
  have hf : putL i st l n = fillR (fun x => x == 0) i st l n := by
    unfold putL
    rw [fillR_eq, fillR_eq, fillR_full (fun s hs e => absurd e (hno s hs))]
  have hb := fill_back (l := l) (n := n) hi hpos (by omega) (fun s hs => ⟨hno s hs, (pos_of hr hs).2.1, empty_of hr s hs⟩)
  rw [hP] at h0 ⊢
  rw [hf] at h0 ⊢
  rw [h0, Int.sub_zero] at hb
  rw [hb.1]
theorem take_no {x m : Int} (he : (TakeL l x m).2.2 ≠ 0) : (TakeL l x m).1 = l := by
  by_cases hbad : rgt l = false ∨ x < 0 ∨ (l.length : Int) ≤ x
  · unfold TakeL; rw [if_pos hbad]
  · by_cases h1 : m < 1
    · unfold TakeL; rw [if_neg hbad, if_pos h1]
    · by_cases h2 : (l.getD x.toNat (0, 0)).2 < m
      · unfold TakeL; rw [if_neg hbad, if_neg h1, if_pos h2]
      · exact absurd (by unfold TakeL; rw [if_neg hbad, if_neg h1, if_neg h2]) he
/-- What was taken out of a slot can be put back. -/
theorem take_put (hr : rgt l = true) {x m : Int} (he : (TakeL l x m).2.2 = 0) :
    (TakeL l x m).2.1.2 = m ∧ 0 ≤ x ∧ x < (l.length : Int) ∧ 1 ≤ m ∧ m ≤ 16 ∧ (∀ h : x.toNat < l.length, (TakeL l x m).2.1.1 = l[x.toNat].1) ∧
    (PutL (TakeL l x m).2.1.1 (TakeL l x m).1 m).2 = 0 ∧ cntL (TakeL l x m).2.1.1 (PutL (TakeL l x m).2.1.1 (TakeL l x m).1 m).1 = cntL (TakeL l x m).2.1.1 l := by
  have hbad : ¬ (rgt l = false ∨ x < 0 ∨ (l.length : Int) ≤ x) := fun h => by
    unfold TakeL at he; rw [if_pos h] at he; simp at he
  have h1 : ¬ m < 1 := fun h => by
    unfold TakeL at he; rw [if_neg hbad, if_pos h] at he; simp at he
  have h2 : ¬ (l.getD x.toNat (0, 0)).2 < m := fun h => by
    unfold TakeL at he; rw [if_neg hbad, if_neg h1, if_pos h] at he; simp at he
  have e : TakeL l x m = (l.set x.toNat (lessS (l.getD x.toNat (0, 0)) m), ((l.getD x.toNat (0, 0)).1, m), 0) := by unfold TakeL; rw [if_neg hbad, if_neg h1, if_neg h2]
  have hx : 0 ≤ x ∧ x < (l.length : Int) := ⟨Int.not_lt.1 (fun h => hbad (.inr (.inl h))), Int.not_le.1 (fun h => hbad (.inr (.inr h)))⟩
  have hj : x.toNat < l.length := by omega
  have hgd : l.getD x.toNat (0, 0) = l[x.toNat] := by rw [List.getD_eq_getElem?_getD, List.getElem?_eq_getElem hj]; rfl
  rw [hgd] at e h2
  have hs := (pos_of hr (List.getElem_mem hj)).2
  have hs2 := rgt_at hr (List.getElem_mem hj)
  rw [e]
  dsimp only
  obtain ⟨k, hk⟩ : ∃ k, l[x.toNat].1 = k := ⟨_, rfl⟩
  rw [hk] at hs2
  have hk0 : k ≠ 0 := fun e0 => by
    have : stI 0 = 0 := rfl
    rw [e0] at hs2
    omega
  have hr' := less_rgt hr _ hj (q := m) (by omega) (by omega)
  have hst := stI_le k
  have hroom : roomL k (stI k) (l.set x.toNat (lessS l[x.toNat] m)) = roomL k (stI k) l + m := by
    unfold roomL
    rw [sumF_set _ _ _ hj]
    unfold roomS lessS
    rw [if_neg (by omega : ¬ l[x.toNat].2 = 0), if_pos hk]
    split
    · rename_i h; dsimp only; rw [if_pos rfl]; omega
    · rename_i h; dsimp only; rw [if_neg (by omega)]; omega
  have hr0 := (roomL_le (i := k) (st := stI k) rfl hr l.length (Nat.le_refl _)).1
  rw [List.take_length] at hr0
  have hP : PutL k (l.set x.toNat (lessS l[x.toNat] m)) m = putL k (stI k) (l.set x.toNat (lessS l[x.toNat] m)) m := by
    unfold PutL
    rw [if_neg h1, if_neg (by rw [hr']; simp; omega)]
  have hleft := (put_room (n := m) (rfl : stI k = stI k) (by omega) (by omega) hr').1
  have h0 : (PutL k (l.set x.toNat (lessS l[x.toNat] m)) m).2 = 0 := by rw [hP, hleft, hroom]; omega
  refine ⟨rfl, hx.1, hx.2, by omega, by omega, fun _ => hk.symm ▸ rfl, ?_, ?_⟩
  · rw [hk]; exact h0
  · rw [hk, PutL_cnt hr', if_pos ⟨rfl, by omega, by omega⟩, h0, take_cnt hk0 _ hj, if_pos hk]
    omega
end
end Go.Proofs.YtmallcjhccbgdaaDoor

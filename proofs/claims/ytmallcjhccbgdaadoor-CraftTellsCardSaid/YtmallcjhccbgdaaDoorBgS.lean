/-
  Bags: what Take, All leave; toward BagKeeps. No statement of the seat is proved here.
-/
import Derived.Test.YtmallcjhccbgdaaDoorBgR
namespace Go.Proofs.YtmallcjhccbgdaaDoor
open Go.RowKit Go.Deep

section
variable {k j n : Nat} {x m : Int} {l more : List (Nat × Int)}
theorem allF_byI (hm : By more) {cur : List (Nat × Int)} (hb : By l) (h : allF l more = some cur) : By cur := by
  induction more generalizing l with
  | nil =>
    have e : cur = l := by simpa [allF] using h.symm
    subst e
    exact hb
  | cons s more ih =>
    unfold allF at h
    split at h
    · cases h
    · exact ih (fun t ht => hm t (List.mem_cons_of_mem _ ht)) (putL_by (hm s List.mem_cons_self) hb) h
theorem AllL_byI (hb : By l) (hm : By more) : By (AllL l more).1 := by
  unfold AllL
  split
  · exact hb
  · cases h : allF l more with
    | none => exact hb
    | some cur => exact allF_byI hm hb h
/-- What Take answers of a right bag. -/
theorem TakeL_ok (hr : rgt l = true) (hb : By l) : rgt (TakeL l x m).1 = true ∧ (TakeL l x m).1.length = l.length ∧ By (TakeL l x m).1 ∧
    (∀ k, cntL k (TakeL l x m).1 = cntL k l - if k = (TakeL l x m).2.1.1 ∧ k ≠ 0 then (TakeL l x m).2.1.2 else 0) ∧ ((TakeL l x m).2.2 = 0 ↔ 0 < (TakeL l x m).2.1.2) ∧ 0 ≤ (TakeL l x m).2.1.2 ∧ (TakeL l x m).2.1.2 ≤ 16 ∧ (TakeL l x m).2.1.1 < 256 := by
  have no : ∀ e : Int, e ≠ 0 → ∀ r : List (Nat × Int) × (Nat × Int) × Int, r = (l, (0, 0), e) → rgt r.1 = true ∧ r.1.length = l.length ∧ By r.1 ∧ (∀ k, cntL k r.1 = cntL k l - if k = r.2.1.1 ∧ k ≠ 0 then r.2.1.2 else 0) ∧ (r.2.2 = 0 ↔ 0 < r.2.1.2) ∧ 0 ≤ r.2.1.2 ∧ r.2.1.2 ≤ 16 ∧ r.2.1.1 < 256 := by
    rintro e he r rfl
    refine ⟨hr, rfl, hb, fun k => ?_, ?_, by simp, by simp, by simp⟩
    · rw [if_neg (fun x => x.2 x.1), Int.sub_zero]
    · constructor
      · intro h; exact absurd h he
      · intro h; simp at h
  by_cases hbad : rgt l = false ∨ x < 0 ∨ (l.length : Int) ≤ x
  · exact no 103 (by decide) _ (by unfold TakeL; rw [if_pos hbad])
  · by_cases h1 : m < 1
    · exact no 111 (by decide) _ (by unfold TakeL; rw [if_neg hbad, if_pos h1])
    · by_cases h2 : (l.getD x.toNat (0, 0)).2 < m
      · exact no 105 (by decide) _ (by unfold TakeL; rw [if_neg hbad, if_neg h1, if_pos h2])
      · have e : TakeL l x m = (l.set x.toNat (lessS (l.getD x.toNat (0, 0)) m), ((l.getD x.toNat (0, 0)).1, m), 0) := by unfold TakeL; rw [if_neg hbad, if_neg h1, if_neg h2]
        have hx : 0 ≤ x ∧ x < (l.length : Int) := by
          refine ⟨?_, ?_⟩
          · exact Int.not_lt.1 (fun h => hbad (.inr (.inl h)))
          · exact Int.not_le.1 (fun h => hbad (.inr (.inr h)))
        have hj : x.toNat < l.length := by omega
        have hgd : l.getD x.toNat (0, 0) = l[x.toNat] := by rw [List.getD_eq_getElem?_getD, List.getElem?_eq_getElem hj]; rfl
        have hs := (pos_of hr (List.getElem_mem hj)).2
        have hs1 := hb _ (List.getElem_mem hj)
        rw [hgd] at e h2
        rw [e]
        dsimp only
        refine ⟨less_rgt hr _ hj (by omega) (by omega), by rw [List.length_set], fun s hs => ?_, fun k => ?_, by omega, by omega, by omega, hs1⟩
        · rcases List.mem_or_eq_of_mem_set hs with h | rfl
          · exact hb s h
          · exact lessS_by hs1 m
        · by_cases hk : k = 0
          · rw [if_neg (fun x => x.2 hk), Int.sub_zero, hk]
            rfl
          · rw [take_cnt hk _ hj]
            by_cases hkx : k = l[x.toNat].1
            · rw [if_pos hkx.symm, if_pos ⟨hkx, hk⟩]
            · rw [if_neg (fun x => hkx x.symm), if_neg (fun x => hkx x.1)]
theorem cntL_le (hr : rgt l = true) : 0 ≤ cntL k l ∧ cntL k l ≤ 16 * (l.length : Int) := by
  unfold cntL
  split
  · omega
  · have := cntF_le k l hr l.length (Nat.le_refl _)
    rwa [List.take_length] at this
end
end Go.Proofs.YtmallcjhccbgdaaDoor

/-
  Bags: what putting, taking do to counts; what was put into empty slots is spent again (mathematics). No statement of the seat is proved here.
-/
import Derived.Test.YtmallcjhccbgdaaDoorBgQ
namespace Go.Proofs.YtmallcjhccbgdaaDoor
open Go.RowKit Go.Deep

section
variable {i k j : Nat} {st m n : Int} {l : List (Nat × Int)}
theorem stI_zero : stI 0 = 0 := by decide
/-- How many of k a slot has. -/
def cnS (k : Nat) (s : Nat × Int) : Int := if s.1 = k then s.2 else 0
theorem cntL_sum (h : k ≠ 0) : cntL k l = sumF (cnS k) l := by
  unfold cntL
  rw [if_neg h, cntF_sum]
  rfl
theorem fill_cnt {p : Nat → Bool} (hk : k ≠ 0) (hp : ∀ s ∈ l, p s.1 = true → s.1 = i ∨ (s.1 = 0 ∧ s.2 = 0)) :
    sumF (cnS k) (fillL p i st l n).1 = sumF (cnS k) l + if k = i then n - (fillL p i st l n).2 else 0 := by
  rw [fillL_sum (cnS k) (if k = i then -1 else 0)]
  · by_cases e : k = i
    · rw [if_pos e, if_pos e]; omega
    · rw [if_neg e, if_neg e]; omega
  · rintro ⟨a, b⟩ hs ha q hq
    have h := hp (a, b) hs ha
    unfold cnS
    dsimp only at h ⊢
    by_cases e : k = i
    · subst e
      rw [if_pos rfl, if_pos rfl]
      rcases h with rfl | ⟨rfl, rfl⟩
      · rw [if_pos rfl]; omega
      · rw [if_neg (fun x => hk x.symm)]; omega
    · rw [if_neg (fun x => e x.symm), if_neg e]
      rcases h with rfl | ⟨rfl, rfl⟩
      · rw [if_neg (fun x => e x.symm)]; omega
      · rw [if_neg (fun x => hk x.symm)]; omega
theorem empty_of (hr : rgt l = true) : ∀ s ∈ l, s.1 = 0 → s.2 = 0 := fun s hs e => by
  rcases rgt_at hr hs with h | h
  · exact h.2
  · rw [e, stI_zero] at h
    omega
theorem putL_cnt (hk : k ≠ 0) (hst : stI i = st) (hpos : 0 < st) (hr : rgt l = true) : sumF (cnS k) (putL i st l n).1 = sumF (cnS k) l + if k = i then n - (putL i st l n).2 else 0 := by
  have hr1 := fill1_rgt (i := i) (st := st) (n := n) (l := l) hst (.inl hpos) hr
  unfold putL
  rw [fill_cnt hk (fun s hs h => .inr ⟨by simpa using h, empty_of hr1 s hs (by simpa using h)⟩), fill_cnt hk (fun s hs h => .inl (by simpa using h))]
  by_cases e : k = i
  · rw [if_pos e, if_pos e, if_pos e]; omega
  · rw [if_neg e, if_neg e, if_neg e]; omega
/-- Of each item there is what there was, and what was put. -/
theorem PutL_cnt (hr : rgt l = true) : cntL k (PutL i l m).1 = cntL k l + if k = i ∧ 1 ≤ m ∧ stI i ≠ 0 then m - (PutL i l m).2 else 0 := by
  by_cases hm : m < 1
  · have e : PutL i l m = (l, 0) := by unfold PutL; rw [if_pos hm]
    rw [e, if_neg (by omega), Int.add_zero]
  · by_cases hs : stI i = 0
    · have e : PutL i l m = (l, m) := by unfold PutL; rw [if_neg hm, if_pos (.inr hs)]
      rw [e, if_neg (fun x => x.2.2 hs), Int.add_zero]
    · have e : PutL i l m = putL i (stI i) l m := by unfold PutL; rw [if_neg hm, if_neg (by rw [hr]; simp [hs])]
      have hle := stI_le i
      rw [e]
      by_cases hk : k = 0
      · subst hk
        have hi : ¬ (0 = i) := fun x => hs (by rw [← x]; exact stI_zero)
        rw [if_neg (fun x => hi x.1), Int.add_zero]
        rfl
      · rw [cntL_sum hk, cntL_sum hk, putL_cnt hk rfl (by omega) hr]
        by_cases e : k = i
        · rw [if_pos e, if_pos ⟨e, by omega, hs⟩]
        · rw [if_neg e, if_neg (fun x => e x.1)]
theorem sumF_set (f : Nat × Int → Int) (l : List (Nat × Int)) (j : Nat) (hj : j < l.length) (v : Nat × Int) : sumF f (l.set j v) = sumF f l - f l[j] + f v := by
  induction l generalizing j with
  | nil => simp at hj
  | cons s l ih =>
    cases j with
    | zero => rw [List.set_cons_zero, sumF_cons, sumF_cons]; simp only [List.getElem_cons_zero]; omega
    | succ j => rw [List.set_cons_succ, sumF_cons, sumF_cons, ih j (by simpa using hj)]; simp only [List.getElem_cons_succ]; omega
theorem cnS_less (hk : k ≠ 0) (s : Nat × Int) (q : Int) : cnS k (lessS s q) = cnS k s - if s.1 = k then q else 0 := by
  obtain ⟨a, b⟩ := s
  unfold cnS lessS
  dsimp only
  by_cases e : a = k
  · subst e
    by_cases hb : b = q
    · rw [if_pos hb, if_pos rfl, if_pos rfl]
      dsimp only
      rw [if_neg (fun x => hk x.symm)]
      omega
    · rw [if_neg hb, if_pos rfl, if_pos rfl, if_pos rfl]
  · by_cases hb : b = q
    · rw [if_pos hb, if_neg e, if_neg e]
      dsimp only
      rw [if_neg (fun x => hk x.symm)]
      omega
    · rw [if_neg hb, if_neg e, if_neg e]
      omega
/-- Taken from a slot: of its item there is so much less. -/
theorem take_cnt (hk : k ≠ 0) (j : Nat) (hj : j < l.length) (q : Int) : cntL k (l.set j (lessS l[j] q)) = cntL k l - if l[j].1 = k then q else 0 := by
  rw [cntL_sum hk, cntL_sum hk, sumF_set _ _ _ hj, cnS_less hk]
  omega
/-- A right bag less what a slot has is right. -/
theorem less_rgt (hr : rgt l = true) (j : Nat) (hj : j < l.length) {q : Int} (h0 : 0 ≤ q) (hq : q ≤ l[j].2) : rgt (l.set j (lessS l[j] q)) = true := by
  refine (rgt_iff _).2 (fun s hs => ?_)
  rcases List.mem_or_eq_of_mem_set hs with h | rfl
  · exact (rgt_iff l).1 hr s h
  · have h := rgt_at hr (List.getElem_mem hj)
    generalize l[j] = v at h hq ⊢
    obtain ⟨a, b⟩ := v
    dsimp only at h hq
    unfold lessS
    split
    · decide
    · rename_i e
      exact (wrg_iff _ _).2 (by dsimp only at e ⊢; omega)
theorem spF_none (h : ∀ s ∈ l, s.1 ≠ i) : spF i l m = (l, m) := by
  induction l with
  | nil => rfl
  | cons s l ih =>
    rw [spF_cons, ih (fun t ht => h t (List.mem_cons_of_mem _ ht))]
    unfold spS
    rw [if_neg (h s List.mem_cons_self)]
/-- What was put into empty slots is spent again: the bag is as it was. -/
theorem fill_back (hi : i ≠ 0) (hst : 0 < st) (hn : 0 ≤ n) (hl : ∀ s ∈ l, s.1 ≠ i ∧ 0 ≤ s.2 ∧ (s.1 = 0 → s.2 = 0)) : spF i (fillR (fun x => x == 0) i st l n).1 (n - (fillR (fun x => x == 0) i st l n).2) = (l, 0) ∧ (∀ s ∈ (fillR (fun x => x == 0) i st l n).1, 0 ≤ s.2) ∧ 0 ≤ (fillR (fun x => x == 0) i st l n).2 ∧ (fillR (fun x => x == 0) i st l n).2 ≤ n := by
  induction l generalizing n with
  | nil =>
    refine ⟨?_, (fun s hs => by cases hs), hn, Int.le_refl _⟩
    show ([], n - n) = ([], 0)
    rw [Int.sub_self]
  | cons s l ih =>
    have hl' : ∀ s ∈ l, s.1 ≠ i ∧ 0 ≤ s.2 ∧ (s.1 = 0 → s.2 = 0) := fun s hs => hl s (List.mem_cons_of_mem _ hs)
    have hs := hl s List.mem_cons_self
    by_cases e : s.1 = 0
    · by_cases h : 0 < n
      · have ep : (fun x => x == 0) s.1 = true := by simp [e]
        obtain ⟨h1, h2, h3, h4⟩ := ih (n := n - min n st) (by omega) hl'
        rw [fillR_take s l n ep h, hs.2.2 e, Int.sub_zero, Int.zero_add]
        dsimp only
        generalize fillR (fun x => x == 0) i st l (n - min n st) = r at h1 h2 h3 h4 ⊢
        have hp := spF_parts hi (a := n - min n st - r.2) (b := min n st) (l := r.1) (by omega) (by omega) h2
        rw [h1] at hp
        dsimp only at hp
        rw [spF_none (fun s hs => (hl' s hs).1), show n - min n st - r.2 + min n st = n - r.2 by omega] at hp
        dsimp only at hp
        refine ⟨?_, fun t ht => ?_, h3, by omega⟩
        · rw [spF_cons]
          generalize spF i r.1 (n - r.2) = u at hp ⊢
          unfold spS
          dsimp only
          rw [if_pos rfl, hp.1, hp.2, Int.zero_add]
          have e1 : lessS (i, min n st) (min (min n st) (min n st)) = (0, 0) := by
            unfold lessS
            rw [if_pos (by dsimp only; omega)]
          have e2 : s = (0, 0) := Prod.ext e (hs.2.2 e)
          rw [e1, e2]
          exact Prod.ext rfl (by dsimp only; omega)
        · rcases List.mem_cons.1 ht with rfl | ht
          · dsimp only; omega
          · exact h2 t ht
      · rw [fillR_none (by omega)]
        dsimp only
        rw [Int.sub_self, spF_none (fun s hs => (hl s hs).1)]
        exact ⟨rfl, fun s hs => (hl s hs).2.1, hn, Int.le_refl _⟩
    · have ep : ¬ ((fun x => x == 0) s.1 = true) := by simpa using e
      obtain ⟨h1, h2, h3, h4⟩ := ih (n := n) hn hl'
      rw [fillR_skip s l n ep]
      dsimp only
      refine ⟨?_, fun t ht => ?_, h3, h4⟩
      · rw [spF_cons, h1]
        unfold spS
        rw [if_neg hs.1]
      · rcases List.mem_cons.1 ht with rfl | ht
        · exact hs.2.1
        · exact h2 t ht
theorem allF_cnt {more : List (Nat × Int)} (hk : k ≠ 0) (hr : rgt l = true) (hm : rgt more = true) {cur : List (Nat × Int)} (h : allF l more = some cur) : rgt cur = true ∧ sumF (cnS k) cur = sumF (cnS k) l + sumF (cnS k) more ∧ cur.length = l.length := by
  induction more generalizing l with
  | nil =>
    have e : cur = l := by simpa [allF] using h.symm
    subst e
    exact ⟨hr, (Int.add_zero _).symm, rfl⟩
  | cons s more ih =>
    have hs := pos_of hm (s := s) List.mem_cons_self
    have h1 := rgt_at hm (s := s) List.mem_cons_self
    have hm' : rgt more = true := (rgt_iff _).2 (fun t ht => (rgt_iff _).1 hm t (List.mem_cons_of_mem _ ht))
    unfold allF at h
    split at h
    · cases h
    · rename_i hle
      have hp : 0 < stI s.1 ∨ s.2 = 0 := hs.1
      have hleft := putL_left (i := s.1) (st := stI s.1) (n := s.2) (l := l) rfl hp hs.2.1 hr
      obtain ⟨q1, q2, q3⟩ := ih (putL_rgt rfl hp hr) hm' h
      refine ⟨q1, ?_, by rw [q3, putL_len]⟩
      rw [q2, sumF_cons]
      rcases hp with hp | hp
      · rw [putL_cnt hk rfl hp hr]
        unfold cnS
        by_cases e : k = s.1
        · rw [if_pos e, if_pos e.symm]; omega
        · rw [if_neg e, if_neg (fun x => e x.symm)]; omega
      · have e0 : putL s.1 (stI s.1) l s.2 = (l, 0) := by
          unfold putL
          rw [hp, fillL_none (n := 0) (by omega), fillL_none (n := 0) (by omega)]
        have e1 : cnS k s = 0 := by
          unfold cnS
          rw [hp]
          split <;> rfl
        rw [e0, e1]
        dsimp only
        omega
theorem AllL_cnt {more : List (Nat × Int)} (hr : rgt l = true) (hm : rgt more = true) : rgt (AllL l more).1 = true ∧ (AllL l more).1.length = l.length ∧ cntL k (AllL l more).1 = cntL k l + if (AllL l more).2 = 0 then cntL k more else 0 := by
  unfold AllL
  rw [if_neg (by rw [hr, hm]; simp)]
  cases h : allF l more with
  | none => exact ⟨hr, rfl, by simp⟩
  | some cur =>
    dsimp only
    by_cases hk : k = 0
    · obtain ⟨h1, _, h3⟩ := allF_cnt (k := 1) (by decide) hr hm h
      subst hk
      exact ⟨h1, h3, by simp [cntL]⟩
    · obtain ⟨h1, h2, h3⟩ := allF_cnt hk hr hm h
      refine ⟨h1, h3, ?_⟩
      rw [if_pos rfl, cntL_sum hk, cntL_sum hk, cntL_sum hk, h2]
end
end Go.Proofs.YtmallcjhccbgdaaDoor

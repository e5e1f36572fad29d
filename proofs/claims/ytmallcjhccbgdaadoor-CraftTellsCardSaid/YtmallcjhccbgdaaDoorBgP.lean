/-
  Bags: put in two parts, spent in two parts (mathematics). No statement of the seat is proved here.
-/
import Derived.Test.YtmallcjhccbgdaaDoorBgO
namespace Go.Proofs.YtmallcjhccbgdaaDoor
open Go.RowKit Go.Deep

/-- fillL, slot by slot. -/
def fillR (p : Nat → Bool) (i : Nat) (st : Int) : List (Nat × Int) → Int → List (Nat × Int) × Int
  | [], n => ([], n)
  | s :: l, n => if 0 < n ∧ p s.1 = true then ((i, s.2 + min n (st - s.2)) :: (fillR p i st l (n - min n (st - s.2))).1, (fillR p i st l (n - min n (st - s.2))).2) else (s :: (fillR p i st l n).1, (fillR p i st l n).2)
section
variable {p : Nat → Bool} {i : Nat} {st a b n : Int} {l : List (Nat × Int)}
theorem fillR_eq (l : List (Nat × Int)) (n : Int) : fillL p i st l n = fillR p i st l n := by
  suffices h : ∀ (l : List (Nat × Int)) (r : List (Nat × Int) × Int), l.foldl (fillS p i st) r = (r.1 ++ (fillR p i st l r.2).1, (fillR p i st l r.2).2) by
    unfold fillL
    rw [h]
    rfl
  intro l
  induction l with
  | nil => intro r; simp [fillR]
  | cons s l ih =>
    intro r
    rw [List.foldl_cons, ih]
    unfold fillS
    by_cases h : 0 < r.2 ∧ p s.1 = true
    · rw [if_pos h]
      simp only [fillR, if_pos h]
      simp
    · rw [if_neg h]
      simp only [fillR, if_neg h]
      simp
theorem fillR_none (h : n ≤ 0) : fillR p i st l n = (l, n) := by rw [← fillR_eq, fillL_none h]
/-- All slots of i are full. -/
def FullI (i : Nat) (st : Int) (l : List (Nat × Int)) : Prop := ∀ s ∈ l, s.1 = i → s.2 = st
theorem fillR_full (hf : FullI i st l) : fillR (fun a => a == i) i st l n = (l, n) := by
  induction l with
  | nil => rfl
  | cons s l ih =>
    have ih := ih (fun s hs => hf s (List.mem_cons_of_mem _ hs))
    unfold fillR
    by_cases h : 0 < n ∧ (fun a => a == i) s.1 = true
    · have e : s.1 = i := by simpa using h.2
      have e2 := hf s List.mem_cons_self e
      rw [if_pos h, e2, Int.sub_self, show min n 0 = 0 by have := h.1; omega, Int.sub_zero, ih, ← e, ← e2, Int.add_zero]
    · rw [if_neg h, ih]
/-- Filled in two parts the slots of i: as in one. -/
theorem fillI_parts (ha : 0 ≤ a) (hb : 0 ≤ b) (hl : ∀ s ∈ l, s.1 = i → s.2 ≤ st) :
    (fillR (fun x => x == i) i st l (a + b)).1 = (fillR (fun x => x == i) i st (fillR (fun x => x == i) i st l a).1 b).1 ∧
    (fillR (fun x => x == i) i st l (a + b)).2 = (fillR (fun x => x == i) i st l a).2 + (fillR (fun x => x == i) i st (fillR (fun x => x == i) i st l a).1 b).2 ∧
    (0 < (fillR (fun x => x == i) i st l a).2 → FullI i st (fillR (fun x => x == i) i st l a).1) := by
  induction l generalizing a b with
  | nil => exact ⟨rfl, rfl, fun _ s hs => by cases hs⟩
  | cons s l ih =>
    have hl' : ∀ s ∈ l, s.1 = i → s.2 ≤ st := fun s hs => hl s (List.mem_cons_of_mem _ hs)
    by_cases e : s.1 = i
    · have hs := hl s List.mem_cons_self e
      have ep : (s.1 == i) = true := by simp [e]
      have ei : (i == i) = true := by simp
      obtain ⟨h1, h2, h3⟩ := ih (a := a - min a (st - s.2)) (b := b - min b (st - (s.2 + min a (st - s.2)))) (by omega) (by omega) hl'
      have q1 : fillR (fun x => x == i) i st (s :: l) a = ((i, s.2 + min a (st - s.2)) :: (fillR (fun x => x == i) i st l (a - min a (st - s.2))).1, (fillR (fun x => x == i) i st l (a - min a (st - s.2))).2) := by
        conv => lhs; unfold fillR
        by_cases h : 0 < a
        · rw [if_pos ⟨h, ep⟩]
        · rw [if_neg (fun x => h x.1), show min a (st - s.2) = 0 by omega, Int.add_zero, Int.sub_zero, ← e]
      have q2 : ∀ L : List (Nat × Int), fillR (fun x => x == i) i st ((i, s.2 + min a (st - s.2)) :: L) b = ((i, s.2 + min a (st - s.2) + min b (st - (s.2 + min a (st - s.2)))) :: (fillR (fun x => x == i) i st L (b - min b (st - (s.2 + min a (st - s.2))))).1, (fillR (fun x => x == i) i st L (b - min b (st - (s.2 + min a (st - s.2))))).2) := by
        intro L
        conv => lhs; unfold fillR
        by_cases h : 0 < b
        · rw [if_pos ⟨h, ei⟩]
        · rw [if_neg (fun x => h x.1), show min b (st - (s.2 + min a (st - s.2))) = 0 by omega, Int.add_zero, Int.sub_zero]
      have q3 : fillR (fun x => x == i) i st (s :: l) (a + b) = ((i, s.2 + min (a + b) (st - s.2)) :: (fillR (fun x => x == i) i st l (a + b - min (a + b) (st - s.2))).1, (fillR (fun x => x == i) i st l (a + b - min (a + b) (st - s.2))).2) := by
        conv => lhs; unfold fillR
        by_cases h : 0 < a + b
        · rw [if_pos ⟨h, ep⟩]
        · rw [if_neg (fun x => h x.1), show min (a + b) (st - s.2) = 0 by omega, Int.add_zero, Int.sub_zero, ← e]
      have em : a + b - min (a + b) (st - s.2) = (a - min a (st - s.2)) + (b - min b (st - (s.2 + min a (st - s.2)))) := by omega
      have em2 : s.2 + min (a + b) (st - s.2) = s.2 + min a (st - s.2) + min b (st - (s.2 + min a (st - s.2))) := by omega
      rw [q1, q3]
      dsimp only
      rw [q2, em, em2]
      dsimp only
      refine ⟨by rw [h1], h2, fun h => ?_⟩
      intro t ht et
      rcases List.mem_cons.1 ht with rfl | ht
      · dsimp only
        by_cases ha2 : a ≤ st - s.2
        · rw [fillR_none (by omega)] at h
          dsimp only at h
          omega
        · omega
      · exact h3 h t ht et
    · have ep : ¬ ((s.1 == i) = true) := by simp [e]
      obtain ⟨h1, h2, h3⟩ := ih (a := a) (b := b) ha hb hl'
      have q : ∀ (L : List (Nat × Int)) (n : Int), fillR (fun x => x == i) i st (s :: L) n = (s :: (fillR (fun x => x == i) i st L n).1, (fillR (fun x => x == i) i st L n).2) := by
        intro L n
        conv => lhs; unfold fillR
        rw [if_neg (fun x => ep x.2)]
      rw [q, q]
      dsimp only
      rw [q]
      dsimp only
      refine ⟨by rw [h1], h2, fun h => ?_⟩
      intro t ht et
      rcases List.mem_cons.1 ht with rfl | ht
      · exact absurd et e
      · exact h3 h t ht et
theorem fillR_skip (s : Nat × Int) (l : List (Nat × Int)) (n : Int) (e : ¬ p s.1 = true) : fillR p i st (s :: l) n = (s :: (fillR p i st l n).1, (fillR p i st l n).2) := by
  conv => lhs; unfold fillR
  rw [if_neg (fun x => e x.2)]
theorem fillR_take (s : Nat × Int) (l : List (Nat × Int)) (n : Int) (e : p s.1 = true) (h : 0 < n) : fillR p i st (s :: l) n = ((i, s.2 + min n (st - s.2)) :: (fillR p i st l (n - min n (st - s.2))).1, (fillR p i st l (n - min n (st - s.2))).2) := by
  conv => lhs; unfold fillR
  rw [if_pos ⟨h, e⟩]
theorem fillI_cons (y : Int) (l : List (Nat × Int)) (n : Int) (hy : y ≤ st) (hn : 0 ≤ n) : fillR (fun x => x == i) i st ((i, y) :: l) n = ((i, y + min n (st - y)) :: (fillR (fun x => x == i) i st l (n - min n (st - y))).1, (fillR (fun x => x == i) i st l (n - min n (st - y))).2) := by
  by_cases h : 0 < n
  · exact fillR_take (i, y) l n (by simp) h
  · conv => lhs; unfold fillR
    rw [if_neg (fun x => h x.1), show min n (st - y) = 0 by omega, Int.add_zero, Int.sub_zero]
/-- Filled in two parts the empty slots, where the slots of i are full. -/
theorem fillE_parts (hi : i ≠ 0) (hst : 0 < st) (ha : 0 ≤ a) (hb : 0 ≤ b) (hl : ∀ s ∈ l, s.1 = 0 → s.2 = 0) (hf : FullI i st l) :
    (fillR (fun x => x == 0) i st l (a + b)).1 = (fillR (fun x => x == 0) i st (fillR (fun x => x == i) i st (fillR (fun x => x == 0) i st l a).1 b).1 (fillR (fun x => x == i) i st (fillR (fun x => x == 0) i st l a).1 b).2).1 ∧
    (fillR (fun x => x == 0) i st l (a + b)).2 = (fillR (fun x => x == 0) i st l a).2 + (fillR (fun x => x == 0) i st (fillR (fun x => x == i) i st (fillR (fun x => x == 0) i st l a).1 b).1 (fillR (fun x => x == i) i st (fillR (fun x => x == 0) i st l a).1 b).2).2 := by
  induction l generalizing a b with
  | nil => exact ⟨rfl, rfl⟩
  | cons s l ih =>
    have hl' : ∀ s ∈ l, s.1 = 0 → s.2 = 0 := fun s hs => hl s (List.mem_cons_of_mem _ hs)
    have hf' : FullI i st l := fun s hs => hf s (List.mem_cons_of_mem _ hs)
    by_cases e : s.1 = 0
    · by_cases h : 0 < a
      · have hs := hl s List.mem_cons_self e
        have ep : (fun x => x == 0) s.1 = true := by simp [e]
        have ei : ¬ ((fun x => x == 0) i = true) := by simpa using hi
        obtain ⟨h1, h2⟩ := ih (a := a - min a st) (b := b - min b (st - min a st)) (by omega) (by omega) hl' hf'
        rw [fillR_take s l (a + b) ep (by omega), fillR_take s l a ep h, hs, Int.sub_zero, Int.zero_add, Int.zero_add]
        dsimp only
        rw [fillI_cons _ _ _ (by omega) hb]
        dsimp only
        rw [fillR_skip (i, _) _ _ ei]
        dsimp only
        have em : a + b - min (a + b) st = (a - min a st) + (b - min b (st - min a st)) := by omega
        have em2 : min (a + b) st = min a st + min b (st - min a st) := by omega
        rw [em, h1, em2]
        refine ⟨rfl, h2⟩
      · have h0 : a = 0 := by omega
        subst h0
        rw [fillR_none (l := s :: l) (n := 0) (by omega)]
        dsimp only
        rw [fillR_full hf, Int.zero_add]
        dsimp only
        exact ⟨rfl, by omega⟩
    · have ep : ¬ ((fun x => x == 0) s.1 = true) := by simpa using e
      obtain ⟨h1, h2⟩ := ih (a := a) (b := b) ha hb hl' hf'
      have hI : ∀ L : List (Nat × Int), fillR (fun x => x == i) i st (s :: L) b = (s :: (fillR (fun x => x == i) i st L b).1, (fillR (fun x => x == i) i st L b).2) := by
        intro L
        by_cases e2 : s.1 = i
        · have hs := hf s List.mem_cons_self e2
          obtain ⟨x, y⟩ := s
          dsimp only at hs e2
          subst hs e2
          rw [fillI_cons _ _ _ (by omega) hb, Int.sub_self, show min b 0 = 0 by omega, Int.sub_zero, Int.add_zero]
        · exact fillR_skip s L b (by simpa using e2)
      rw [fillR_skip s l _ ep, fillR_skip s l _ ep]
      dsimp only
      rw [hI]
      dsimp only
      rw [fillR_skip s _ _ ep]
      dsimp only
      exact ⟨by rw [h1], h2⟩
/-- Put in two parts: as in one. -/
theorem putL_parts (hst : stI i = st) (hpos : 0 < st) (hr : rgt l = true) (ha : 0 ≤ a) (hb : 0 ≤ b) :
    (putL i st l (a + b)).1 = (putL i st (putL i st l a).1 b).1 ∧ (putL i st l (a + b)).2 = (putL i st l a).2 + (putL i st (putL i st l a).1 b).2 := by
  have hi : i ≠ 0 := by
    rintro rfl
    have : stI 0 = 0 := by decide
    omega
  obtain ⟨h1, h2, h3⟩ := fillI_parts (i := i) (st := st) (l := l) ha hb (fun s hs e => (p1_ok hst hr s hs (by simp [e])).2)
  have hl0 := fillL_left (p := fun x => x == i) (i := i) (st := st) (l := l) ha (p1_ok hst hr)
  have hr1 := fill1_rgt (i := i) (st := st) (n := a) (l := l) hst (.inl hpos) hr
  unfold putL
  simp only [fillR_eq] at hl0 hr1 ⊢
  generalize hR : fillR (fun x => x == i) i st l a = r at h1 h2 h3 hl0 hr1 ⊢
  have e : fillR (fun x => x == i) i st l (a + b) = ((fillR (fun x => x == i) i st r.1 b).1, r.2 + (fillR (fun x => x == i) i st r.1 b).2) := Prod.ext h1 h2
  rw [e]
  dsimp only
  by_cases h : 0 < r.2
  · have hf := h3 h
    rw [fillR_full hf]
    dsimp only
    exact fillE_parts hi hpos hl0.1 hb (fun s hs e => by
      have := rgt_at hr1 hs
      rcases this with h | h
      · exact h.2
      · rw [e] at h
        have : stI 0 = 0 := by decide
        omega) hf
  · have h0 : r.2 = 0 := by omega
    rw [h0, fillR_none (p := fun x => x == 0) (n := 0) (by omega), Int.zero_add]
    dsimp only
    exact ⟨rfl, by omega⟩
/-- Spent in two parts: as in one. -/
theorem spF_parts (hi : i ≠ 0) (ha : 0 ≤ a) (hb : 0 ≤ b) (hp : ∀ s ∈ l, 0 ≤ s.2) :
    (spF i l (a + b)).1 = (spF i (spF i l a).1 b).1 ∧ (spF i l (a + b)).2 = (spF i l a).2 + (spF i (spF i l a).1 b).2 := by
  induction l with
  | nil => exact ⟨rfl, rfl⟩
  | cons s l ih =>
    have hp' : ∀ s ∈ l, 0 ≤ s.2 := fun s hs => hp s (List.mem_cons_of_mem _ hs)
    obtain ⟨h1, h2⟩ := ih hp'
    have hs := hp s List.mem_cons_self
    have l1 := spF_left i (l := l) ha hp'
    have l2 := spF_left i (l := (spF i l a).1) hb (spF_all (Q := fun s => 0 ≤ s.2) hp' (fun s _ _ q _ hq => by
      unfold lessS
      split
      · exact Int.le_refl _
      · dsimp only; omega) ha hp')
    rw [spF_cons, spF_cons]
    generalize spF i l (a + b) = t at h1 h2 ⊢
    generalize spF i l a = r at h1 h2 l1 l2 ⊢
    by_cases e : s.1 = i
    · have er : spS i s r = (lessS s (min r.2 s.2) :: r.1, r.2 - min r.2 s.2) := by unfold spS; rw [if_pos e]
      have et : spS i s t = (lessS s (min t.2 s.2) :: t.1, t.2 - min t.2 s.2) := by unfold spS; rw [if_pos e]
      rw [er, et]
      dsimp only
      rw [spF_cons]
      generalize spF i r.1 b = u at h1 h2 l2 ⊢
      obtain ⟨x, y⟩ := s
      dsimp only at hs e ⊢
      subst e
      by_cases hy : y ≤ r.2
      · have q1 : lessS (x, y) (min r.2 y) = (0, 0) := by unfold lessS; rw [if_pos (show y = min r.2 y by omega)]
        have q2 : lessS (x, y) (min t.2 y) = (0, 0) := by unfold lessS; rw [if_pos (show y = min t.2 y by omega)]
        have q3 : spS x (0, 0) u = ((0, 0) :: u.1, u.2) := by unfold spS; rw [if_neg (fun z => hi z.symm)]
        rw [q1, q2, q3, h1]
        exact ⟨rfl, by dsimp only; omega⟩
      · have q1 : lessS (x, y) (min r.2 y) = (x, y - r.2) := by unfold lessS; rw [if_neg (show ¬ y = min r.2 y by omega)]; rw [show min r.2 y = r.2 by omega]
        have q3 : spS x (x, y - r.2) u = (lessS (x, y - r.2) (min u.2 (y - r.2)) :: u.1, u.2 - min u.2 (y - r.2)) := by unfold spS; rw [if_pos rfl]
        have q4 : lessS (x, y) (min t.2 y) = lessS (x, y - r.2) (min u.2 (y - r.2)) := by
          unfold lessS
          dsimp only
          by_cases h : y = min t.2 y
          · rw [if_pos h, if_pos (by omega)]
          · rw [if_neg h, if_neg (by omega), show y - min t.2 y = y - r.2 - min u.2 (y - r.2) by omega]
        rw [q1, q3, q4, h1]
        exact ⟨rfl, by dsimp only; omega⟩
    · have er : spS i s r = (s :: r.1, r.2) := by unfold spS; rw [if_neg e]
      have et : spS i s t = (s :: t.1, t.2) := by unfold spS; rw [if_neg e]
      rw [er, et]
      dsimp only
      rw [spF_cons]
      unfold spS
      rw [if_neg e, h1]
      exact ⟨rfl, h2⟩
theorem SpendE_iff (hr : rgt l = true) (hm : 1 ≤ a) : SpendE l i a = 0 ↔ a ≤ cntL i l := by
  unfold SpendE
  rw [if_neg (by rw [hr]; simp), if_neg (by omega)]
  split
  · simp; omega
  · simp; omega
theorem SpendL_yes (h : SpendE l i a = 0) : SpendL l i a = (spF i l a).1 := by unfold SpendL; rw [if_pos h]
/-- Spent in two parts, as Spend answers it. -/
theorem Spend_parts (hr : rgt l = true) (ha : 1 ≤ a) (hb : 1 ≤ b) :
    (SpendE l i (a + b) = 0 ↔ SpendE l i a = 0 ∧ SpendE (SpendL l i a) i b = 0) ∧ (SpendE l i (a + b) = 0 → SpendL l i (a + b) = SpendL (SpendL l i a) i b) := by
  have h1 := SpendE_iff (i := i) hr ha
  have h2 := SpendE_iff (i := i) (SpendL_rgt (i := i) (m := a) hr) hb
  have h3 := SpendE_iff (i := i) hr (show 1 ≤ a + b by omega)
  have h4 := SpendL_cnt (i := i) (m := a) hr i
  have hc : SpendE l i (a + b) = 0 ↔ SpendE l i a = 0 ∧ SpendE (SpendL l i a) i b = 0 := by
    constructor
    · intro h
      have h5 := h3.1 h
      have h6 := h1.2 (by omega)
      rw [if_pos ⟨rfl, h6⟩] at h4
      exact ⟨h6, h2.2 (by omega)⟩
    · rintro ⟨h5, h6⟩
      rw [if_pos ⟨rfl, h5⟩] at h4
      have := h2.1 h6
      exact h3.2 (by omega)
  refine ⟨hc, fun h => ?_⟩
  obtain ⟨h5, h6⟩ := hc.1 h
  have hi := (SpendL_rest h).2
  rw [SpendL_yes h6, SpendL_yes h, SpendL_yes h5]
  exact (spF_parts hi (by omega) (by omega) (fun s hs => (pos_of hr hs).2.1)).1
end
end Go.Proofs.YtmallcjhccbgdaaDoor

/-
  How much room there is (mathematics); room; the walk of BagRoom. No statement of the seat is proved here.
-/
import Derived.Test.YtmallcjhccbgdaaDoorBgI
import Derived.Deep.CutBlock
namespace Go.Proofs.YtmallcjhccbgdaaDoor
open Go.RowKit Go.Deep

def sumF (f : Nat × Int → Int) (l : List (Nat × Int)) : Int := l.foldl (fun a s => a + f s) 0
theorem sumF_from (f : Nat × Int → Int) (l : List (Nat × Int)) (a : Int) : l.foldl (fun a s => a + f s) a = a + sumF f l := by
  unfold sumF
  induction l generalizing a with
  | nil => simp
  | cons s l ih =>
    rw [List.foldl_cons, List.foldl_cons, ih (a + f s), ih (0 + f s)]
    omega
theorem sumF_cons (f : Nat × Int → Int) (s : Nat × Int) (l : List (Nat × Int)) : sumF f (s :: l) = f s + sumF f l := by
  have := sumF_from f l (0 + f s)
  unfold sumF at this ⊢
  rw [List.foldl_cons, this]
  omega
theorem sumF_snoc (f : Nat × Int → Int) (s : Nat × Int) (l : List (Nat × Int)) : sumF f (l ++ [s]) = sumF f l + f s := by
  unfold sumF
  rw [List.foldl_append]
  rfl
theorem sumF_congr {f g : Nat × Int → Int} {l : List (Nat × Int)} (h : ∀ s ∈ l, f s = g s) : sumF f l = sumF g l := by
  induction l with
  | nil => rfl
  | cons s l ih =>
    rw [sumF_cons, sumF_cons, h s List.mem_cons_self, ih (fun t ht => h t (List.mem_cons_of_mem _ ht))]
theorem sumF_nonneg {f : Nat × Int → Int} {l : List (Nat × Int)} (h : ∀ s ∈ l, 0 ≤ f s) : 0 ≤ sumF f l := by
  induction l with
  | nil => exact Int.le_refl _
  | cons s l ih =>
    rw [sumF_cons]
    have := h s List.mem_cons_self
    have := ih (fun t ht => h t (List.mem_cons_of_mem _ ht))
    omega
theorem sumF_add (f g : Nat × Int → Int) (l : List (Nat × Int)) : sumF (fun s => f s + g s) l = sumF f l + sumF g l := by
  induction l with
  | nil => rfl
  | cons s l ih =>
    rw [sumF_cons, sumF_cons, sumF_cons, ih]
    omega
section
variable {p : Nat → Bool} {i : Nat} {st n : Int} {l : List (Nat × Int)}
/-- How much of it the slots that p tells take. -/
def takes (p : Nat → Bool) (st : Int) (s : Nat × Int) : Int := if p s.1 = true then st - s.2 else 0
theorem fillL_rest (h0 : 0 ≤ n) (hp : ∀ s ∈ l, p s.1 = true → 0 ≤ s.2 ∧ s.2 ≤ st) : (fillL p i st l n).2 = max 0 (n - sumF (takes p st) l) := by
  unfold fillL
  suffices h : ∀ (l : List (Nat × Int)) (r : List (Nat × Int) × Int), (∀ s ∈ l, p s.1 = true → 0 ≤ s.2 ∧ s.2 ≤ st) → 0 ≤ r.2 → (l.foldl (fillS p i st) r).2 = max 0 (r.2 - sumF (takes p st) l) from h l ([], n) hp h0
  intro l
  induction l with
  | nil => intro r _ hr; show r.2 = max 0 (r.2 - 0); omega
  | cons s l ih =>
    intro r hp hr
    have hs := hp s List.mem_cons_self
    have h2 : 0 ≤ (fillS p i st r s).2 ∧ (fillS p i st r s).2 = max 0 (r.2 - takes p st s) := by
      unfold fillS takes
      by_cases h : p s.1 = true
      · have := hs h
        rw [if_pos h]
        split
        · dsimp only; omega
        · rename_i h3
          have : ¬ 0 < r.2 := fun h4 => h3 ⟨h4, h⟩
          dsimp only; omega
      · rw [if_neg h, if_neg (fun h3 => h h3.2)]
        dsimp only
        omega
    rw [List.foldl_cons, ih _ (fun t ht => hp t (List.mem_cons_of_mem _ ht)) h2.1, sumF_cons, h2.2]
    have h3 : 0 ≤ sumF (takes p st) l := sumF_nonneg (fun t ht => by
      unfold takes
      split
      · rename_i h
        have := hp t (List.mem_cons_of_mem _ ht) h
        omega
      · exact Int.le_refl _)
    omega
theorem fillL_sum (f : Nat × Int → Int) (k : Int) (hf : ∀ s ∈ l, p s.1 = true → ∀ m : Int, 0 < m → f (i, s.2 + min m (st - s.2)) = f s - k * min m (st - s.2)) : sumF f (fillL p i st l n).1 = sumF f l - k * (n - (fillL p i st l n).2) := by
  unfold fillL
  suffices h : ∀ (l : List (Nat × Int)) (r : List (Nat × Int) × Int), (∀ s ∈ l, p s.1 = true → ∀ m : Int, 0 < m → f (i, s.2 + min m (st - s.2)) = f s - k * min m (st - s.2)) → sumF f (l.foldl (fillS p i st) r).1 = sumF f r.1 + sumF f l - k * (r.2 - (l.foldl (fillS p i st) r).2) by
    have := h l ([], n) hf
    rw [this]
    show (0 : Int) + sumF f l - _ = _
    dsimp only
    omega
  intro l
  induction l with
  | nil => intro r _; show sumF f r.1 = sumF f r.1 + 0 - k * (r.2 - r.2); rw [Int.sub_self, Int.mul_zero]; omega
  | cons s l ih =>
    intro r hf
    have h1 := hf s List.mem_cons_self
    have h2 : sumF f (fillS p i st r s).1 = sumF f r.1 + f s - k * (r.2 - (fillS p i st r s).2) := by
      unfold fillS
      split
      · rename_i h
        dsimp only
        rw [sumF_snoc, h1 h.2 _ h.1, show r.2 - (r.2 - min r.2 (st - s.2)) = min r.2 (st - s.2) by omega]
        omega
      · dsimp only
        rw [sumF_snoc, Int.sub_self, Int.mul_zero]
        omega
    rw [List.foldl_cons, ih _ (fun t ht => hf t (List.mem_cons_of_mem _ ht)), h2, sumF_cons]
    rw [Int.mul_sub, Int.mul_sub, Int.mul_sub]
    omega
/-- How much of i a slot has room for. -/
def roomS (i : Nat) (st : Int) (s : Nat × Int) : Int := if s.2 = 0 then st else if s.1 = i then st - s.2 else 0
def roomL (i : Nat) (st : Int) (l : List (Nat × Int)) : Int := sumF (roomS i st) l
theorem room_split (hi : i ≠ 0) (hr : rgt l = true) : roomL i st l = sumF (takes (fun a => a == i) st) l + sumF (takes (fun a => a == 0) st) l := by
  unfold roomL
  rw [← sumF_add]
  refine sumF_congr (fun s hs => ?_)
  have h := rgt_at hr hs
  obtain ⟨a, b⟩ := s
  dsimp only at h
  unfold roomS takes
  simp only [beq_iff_eq]
  rcases h with ⟨rfl, rfl⟩ | h
  · rw [if_pos rfl, if_neg (fun e => hi e.symm), if_pos rfl]
    omega
  · have ha : a ≠ 0 := fun e => by
      rw [e] at h
      have : stI 0 = 0 := rfl
      omega
    rw [if_neg (by omega), if_neg ha]
    omega
theorem put_room (hst : stI i = st) (hpos : 0 < st) (h0 : 0 ≤ n) (hr : rgt l = true) : (putL i st l n).2 = max 0 (n - roomL i st l) ∧ roomL i st (putL i st l n).1 = max 0 (roomL i st l - n) := by
  have hi : i ≠ 0 := fun e => by
    rw [e] at hst
    have : stI 0 = 0 := rfl
    omega
  have hp1 := p1_ok hst hr
  have hr1 := fill1_rgt (n := n) hst (.inl hpos) hr
  have hp2 := p2_ok hst hr1
  have hl1 := fillL_left (p := fun a => a == i) (i := i) (st := st) h0 hp1
  have e1 := fillL_rest (p := fun a => a == i) (i := i) h0 hp1
  have e2 := fillL_rest (p := fun a => a == 0) (i := i) hl1.1 hp2
  have s1 := fillL_sum (p := fun a => a == i) (i := i) (st := st) (n := n) (l := l) (roomS i st) 1 (fun s hs h m hm => by
    have e : s.1 = i := by simpa using h
    have h2 := rgt_at hr hs
    have h3 := hp1 s hs h
    unfold roomS
    dsimp only
    rw [if_pos rfl, if_pos e]
    rcases h2 with h2 | h2
    · exact absurd (e ▸ h2.1) hi
    · rw [if_neg (by omega), if_neg (by omega)]
      omega)
  have t1 := fillL_sum (p := fun a => a == i) (i := i) (st := st) (n := n) (l := l) (takes (fun a => a == 0) st) 0 (fun s hs h m hm => by
    have e : s.1 = i := by simpa using h
    unfold takes
    dsimp only
    have hi0 : (i == 0) = false := by simpa using hi
    simp only [e, hi0, Bool.false_eq_true, if_false]
    omega)
  have s2 := fillL_sum (p := fun a => a == 0) (i := i) (st := st) (n := (fillL (fun a => a == i) i st l n).2) (l := (fillL (fun a => a == i) i st l n).1) (roomS i st) 1 (fun s hs h m hm => by
    have e : s.1 = 0 := by simpa using h
    have h2 := rgt_at hr1 hs
    have h3 : stI 0 = 0 := rfl
    rw [e, h3] at h2
    have h4 : s.2 = 0 := by omega
    unfold roomS
    dsimp only
    rw [h4, if_pos rfl, if_pos rfl, if_neg (by omega)]
    omega)
  have hsp := room_split (st := st) hi hr
  have g1 : 0 ≤ sumF (takes (fun a => a == 0) st) l := sumF_nonneg (fun s hs => by
    unfold takes
    split
    · rename_i h
      have := p2_ok hst hr s hs h
      omega
    · exact Int.le_refl _)
  unfold putL
  rw [e2]
  rw [e2] at s2
  rw [t1] at s2 ⊢
  unfold roomL at hsp ⊢
  rw [s2, s1, e1]
  rw [hsp]
  omega
theorem roomL_step (k : Nat) (hk : k < l.length) : roomL i st (l.take (k + 1)) = roomL i st (l.take k) + roomS i st l[k] := by
  unfold roomL
  rw [List.take_add_one, List.getElem?_eq_getElem hk]
  exact sumF_snoc _ _ _
theorem roomL_le (hst : stI i = st) (hr : rgt l = true) (k : Nat) (hk : k ≤ l.length) : 0 ≤ roomL i st (l.take k) ∧ roomL i st (l.take k) ≤ 16 * (k : Int) := by
  induction k with
  | zero => simp [roomL, sumF]
  | succ k ih =>
    have h1 := ih (by omega)
    have h2 := rgt_at hr (List.getElem_mem (show k < l.length by omega))
    have h3 := stI_le i
    rw [roomL_step k (by omega)]
    rw [hst] at h3
    unfold roomS
    split
    · omega
    · split
      · rename_i e
        rw [e, hst] at h2
        omega
      · omega
end
end Go.Proofs.YtmallcjhccbgdaaDoor

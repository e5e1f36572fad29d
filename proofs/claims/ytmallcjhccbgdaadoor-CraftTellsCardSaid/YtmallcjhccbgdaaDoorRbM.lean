/-
  The document's own bag: one of an item put, slots spent one by one (mathematics). No statement of the seat is proved here.
-/
import Derived.Test.YtmallcjhccbgdaaDoorBgU
namespace Go.Proofs.YtmallcjhccbgdaaDoor
open Go.RowKit Go.Deep

/-- The first slot that p tells, turned. -/
def firstF (p : Nat × Int → Bool) (g : Nat × Int → Nat × Int) : List (Nat × Int) → Option (List (Nat × Int))
  | [] => none
  | s :: l => if p s = true then some (g s :: l) else (firstF p g l).map (s :: ·)
theorem firstF_none {p : Nat × Int → Bool} {g : Nat × Int → Nat × Int} {l : List (Nat × Int)} (h : ∀ j (hj : j < l.length), p l[j] = false) : firstF p g l = none := by
  induction l with
  | nil => rfl
  | cons s l ih =>
    unfold firstF
    have h0 := h 0 (by simp)
    simp only [List.getElem_cons_zero] at h0
    rw [if_neg (by rw [h0]; simp), ih (fun j hj => by
      have := h (j + 1) (by simpa using hj)
      simpa using this)]
    rfl
theorem firstF_at {p : Nat × Int → Bool} {g : Nat × Int → Nat × Int} {l : List (Nat × Int)} (k : Nat) (hk : k < l.length) (h : ∀ j (hj : j < l.length), j < k → p l[j] = false) (hp : p l[k] = true) : firstF p g l = some (l.set k (g l[k])) := by
  induction l generalizing k with
  | nil => simp at hk
  | cons s l ih =>
    unfold firstF
    cases k with
    | zero =>
      simp only [List.getElem_cons_zero] at hp
      rw [if_pos hp]
      rfl
    | succ k =>
      have h0 := h 0 (by simp) (by omega)
      simp only [List.getElem_cons_zero] at h0
      rw [if_neg (by rw [h0]; simp), ih k (by simpa using hk) (fun j hj hjk => by
        have := h (j + 1) (by simpa using hj) (by omega)
        simpa using this) (by simpa using hp)]
      rfl
/-- A slot of i that is not full. -/
def notFull (i : Nat) (st : Int) (s : Nat × Int) : Bool := decide (s.1 = i) && decide (s.2 < st)
/-- One of i put, if there is room. -/
def oneL (i : Nat) (st : Int) (l : List (Nat × Int)) : Option (List (Nat × Int)) :=
  match firstF (notFull i st) (fun s => (s.1, s.2 + 1)) l with
  | some l' => some l'
  | none => firstF (fun s => s.2 == 0) (fun _ => (i, 1)) l
section
variable {i : Nat} {st n : Int} {l : List (Nat × Int)}
theorem fill_one1 (hl : ∀ s ∈ l, s.1 = i → s.2 ≤ st) : fillR (fun x => x == i) i st l 1 = match firstF (notFull i st) (fun s => (s.1, s.2 + 1)) l with
    | some l' => (l', 0)
    | none => (l, 1) := by
  induction l with
  | nil => rfl
  | cons s l ih =>
    have ih := ih (fun t ht => hl t (List.mem_cons_of_mem _ ht))
    have hs := hl s List.mem_cons_self
    by_cases h : s.1 = i
    · rw [fillR_take s l 1 (by simpa using h) (by omega)]
      by_cases hf : s.2 < st
      · have e : min (1 : Int) (st - s.2) = 1 := by omega
        rw [e]
        conv => rhs; unfold firstF
        rw [if_pos (by unfold notFull; simp [h, hf])]
        dsimp only
        rw [show (1 : Int) - 1 = 0 by omega, fillR_none (by omega), h]
      · have e : min (1 : Int) (st - s.2) = 0 := by have := hs h; omega
        rw [e]
        conv => rhs; unfold firstF
        rw [if_neg (by unfold notFull; simp [hf])]
        rw [show (1 : Int) - 0 = 1 by omega, ih]
        cases firstF (notFull i st) (fun s => (s.1, s.2 + 1)) l with
        | some l' => simp [← h]
        | none => simp [← h]
    · rw [fillR_skip s l 1 (by simpa using h), ih]
      conv => rhs; unfold firstF
      rw [if_neg (by unfold notFull; simp [h])]
      cases firstF (notFull i st) (fun s => (s.1, s.2 + 1)) l with
      | some l' => rfl
      | none => rfl
theorem fill_one2 (hst : 0 < st) (hr : rgt l = true) : fillR (fun x => x == 0) i st l 1 = match firstF (fun s => s.2 == 0) (fun _ => (i, 1)) l with
    | some l' => (l', 0)
    | none => (l, 1) := by
  have hl : ∀ s ∈ l, (s.1 = 0 ↔ s.2 = 0) ∧ (s.1 = 0 → s.2 = 0) := fun s hs => by
    have h1 := rgt_at hr hs
    have h2 : stI 0 = 0 := rfl
    refine ⟨⟨fun e => ?_, fun e => by omega⟩, fun e => ?_⟩ <;> (rw [e] at h1; omega)
  clear hr
  induction l with
  | nil => rfl
  | cons s l ih =>
    have ih := ih (fun t ht => hl t (List.mem_cons_of_mem _ ht))
    have hs := hl s List.mem_cons_self
    by_cases h : s.1 = 0
    · rw [fillR_take s l 1 (by simpa using h) (by omega)]
      have h2 := hs.2 h
      have e : min (1 : Int) (st - s.2) = 1 := by omega
      rw [e]
      conv => rhs; unfold firstF
      rw [if_pos (by simp [h2])]
      dsimp only
      rw [show (1 : Int) - 1 = 0 by omega, fillR_none (by omega), h2]
      rfl
    · rw [fillR_skip s l 1 (by simpa using h), ih]
      have h2 : ¬ s.2 = 0 := fun e => h (hs.1.2 e)
      conv => rhs; unfold firstF
      rw [if_neg (by simp [h2])]
      cases firstF (fun s => s.2 == 0) (fun _ => (i, 1)) l with
      | some l' => rfl
      | none => rfl
/-- What Put does with one. -/
theorem PutL_one (hst : stI i = st) (hpos : 0 < st) (hr : rgt l = true) : PutL i l 1 = match oneL i st l with
    | some l' => (l', 0)
    | none => (l, 1) := by
  have hP : PutL i l 1 = putL i st l 1 := by unfold PutL; rw [if_neg (by omega), if_neg (by rw [hr, hst]; simp; omega), hst]
  rw [hP]
  unfold putL oneL
  rw [fillR_eq, fillR_eq, fill_one1 (fun s hs e => by have h1 := rgt_at hr hs; rw [e, hst] at h1; omega)]
  cases firstF (notFull i st) (fun s => (s.1, s.2 + 1)) l with
  | some l' => exact fillR_none (by show (0 : Int) ≤ 0; omega)
  | none => exact fill_one2 hpos hr
/-- A step of the document's Put. -/
theorem PutL_step (hst : stI i = st) (hpos : 0 < st) (hr : rgt l = true) (hn : 1 ≤ n) {l' : List (Nat × Int)} (h : oneL i st l = some l') : rgt l' = true ∧ l'.length = l.length ∧ PutL i l n = PutL i l' (n - 1) := by
  have h1 := PutL_one hst hpos hr
  rw [h] at h1
  dsimp only at h1
  have hok := PutL_ok (i := i) (a := 1) hr (by omega)
  rw [h1] at hok
  refine ⟨hok.2.2.2, hok.2.2.1, ?_⟩
  by_cases hn1 : n = 1
  · subst hn1
    rw [h1]
    unfold PutL
    rw [if_pos (by omega)]
  · have hp := PutL_parts (i := i) (a := 1) (b := n - 1) hr (by omega) (by omega)
    rw [show 1 + (n - 1) = n by omega, h1] at hp
    exact Prod.ext hp.1 (by rw [hp.2]; show 0 + _ = _; rw [Int.zero_add])
theorem PutL_stuck (hst : stI i = st) (hpos : 0 < st) (hr : rgt l = true) (hn : 1 ≤ n) (h : oneL i st l = none) : PutL i l n = (l, n) := by
  have h1 := PutL_one hst hpos hr
  rw [h] at h1
  dsimp only at h1
  have e : ∀ m, 1 ≤ m → PutL i l m = putL i st l m := fun m hm => by unfold PutL; rw [if_neg (by omega), if_neg (by rw [hr, hst]; simp; omega), hst]
  have h2 := (put_room (n := 1) hst hpos (by omega) hr).1
  rw [← e 1 (by omega), h1] at h2
  have h0 := (roomL_le (l := l) hst hr l.length (Nat.le_refl _)).1
  rw [List.take_length] at h0
  have hroom : roomL i st l = 0 := by
    have h2 : (1 : Int) = max 0 (1 - roomL i st l) := h2
    omega
  by_cases hn1 : n = 1
  · rw [hn1, h1]
  · have hp := PutL_parts (i := i) (a := 1) (b := n - 1) hr (by omega) (by omega)
    rw [show 1 + (n - 1) = n by omega, h1] at hp
    have h3 := (put_room (n := n) hst hpos (by omega) hr).1
    rw [← e n hn, hroom] at h3
    have hok := PutL_ok (i := i) (a := n) hr hn
    have hp1 : (PutL i l n).1 = (PutL i l (n - 1)).1 := hp.1
    -- by going down
    have key : ∀ k : Nat, PutL i l ((k : Int) + 1) = (l, (k : Int) + 1) := by
      intro k
      induction k with
      | zero => simpa using h1
      | succ k ih =>
        have hp := PutL_parts (i := i) (a := 1) (b := (k : Int) + 1) hr (by omega) (by omega)
        rw [h1] at hp
        dsimp only at hp
        rw [ih] at hp
        rw [show ((k + 1 : Nat) : Int) + 1 = 1 + ((k : Int) + 1) by omega]
        exact Prod.ext hp.1 (by rw [hp.2])
    have := key (n - 1).toNat
    rw [show (((n - 1).toNat : Nat) : Int) + 1 = n by omega] at this
    exact this
/-- What is left to be spent is no less than nothing. -/
theorem spF_rest0 (h0 : 0 ≤ n) (hp : ∀ s ∈ l, 0 ≤ s.2) : 0 ≤ (spF i l n).2 ∧ (spF i l n).2 ≤ n := by
  induction l with
  | nil => exact ⟨h0, Int.le_refl _⟩
  | cons s l ih =>
    have ih := ih (fun t ht => hp t (List.mem_cons_of_mem _ ht))
    have hs := hp s List.mem_cons_self
    rw [spF_cons]
    unfold spS
    split
    · dsimp only; omega
    · exact ih
theorem spF_done (hr : rgt l = true) : spF i l 0 = (l, 0) := by
  have hp : ∀ s ∈ l, (s.1 = 0 ∧ s.2 = 0) ∨ 1 ≤ s.2 := fun s hs => by have := rgt_at hr hs; omega
  clear hr
  induction l with
  | nil => rfl
  | cons s l ih =>
    rw [spF_cons, ih (fun t ht => hp t (List.mem_cons_of_mem _ ht))]
    have hs := hp s List.mem_cons_self
    unfold spS
    split
    · have e : min (0 : Int) s.2 = 0 := by omega
      dsimp only
      rw [e]
      unfold lessS
      split
      · rename_i h
        have h0 : s = (0, 0) := Prod.ext (by omega) (by omega)
        rw [h0]
        rfl
      · rw [Int.sub_zero]; rfl
    · rfl
end
end Go.Proofs.YtmallcjhccbgdaaDoor

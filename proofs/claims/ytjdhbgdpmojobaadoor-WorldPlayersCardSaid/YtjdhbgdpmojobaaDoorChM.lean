/-
  Chunks: chests and their boxes (mathematics). No statement of the seat is proved here.
-/
import Derived.Test.YtjdhbgdpmojobaaDoorChC
import Derived.Test.YtjdhbgdpmojobaaDoorChF
namespace Go.Proofs.YtjdhbgdpmojobaaDoor
open Go.RowKit Go.Deep

/-- The chests among the cells from the k-th on. -/
def chs : Nat → List Nat → List Int
  | _, [] => []
  | k, i :: cs => if i = 9 then (k : Int) :: chs (k + 1) cs else chs (k + 1) cs
theorem chs_append (l m : List Nat) : ∀ k, chs k (l ++ m) = chs k l ++ chs (k + l.length) m := by
  induction l with
  | nil => intro k; rfl
  | cons i l ih =>
    intro k
    show (if i = 9 then (k : Int) :: chs (k + 1) (l ++ m) else chs (k + 1) (l ++ m)) = (if i = 9 then (k : Int) :: chs (k + 1) l else chs (k + 1) l) ++ chs (k + (l.length + 1)) m
    rw [ih, show k + (l.length + 1) = k + 1 + l.length by omega]
    split <;> rfl
theorem chs_mem {l : List Nat} : ∀ {k : Nat} {c : Int}, c ∈ chs k l → (k : Int) ≤ c ∧ c < (k : Int) + l.length := by
  induction l with
  | nil => intro k c h; cases h
  | cons i l ih =>
    intro k c h
    have h' : c ∈ (if i = 9 then (k : Int) :: chs (k + 1) l else chs (k + 1) l) := h
    have e : ((i :: l).length : Int) = l.length + 1 := by simp
    rw [e]
    split at h'
    · rcases List.mem_cons.1 h' with rfl | h2
      · omega
      · have := ih h2
        omega
    · have := ih h'
      omega
theorem chs_sorted (l : List Nat) : ∀ k, (chs k l).Pairwise (· < ·) := by
  induction l with
  | nil => intro k; exact List.Pairwise.nil
  | cons i l ih =>
    intro k
    show (if i = 9 then (k : Int) :: chs (k + 1) l else chs (k + 1) l).Pairwise (· < ·)
    split
    · refine List.pairwise_cons.2 ⟨fun c hc => ?_, ih _⟩
      have := chs_mem hc
      omega
    · exact ih _
theorem chs_len (l : List Nat) : ∀ k, (chs k l).length ≤ l.length := by
  induction l with
  | nil => intro k; exact Nat.le_refl _
  | cons i l ih =>
    intro k
    show (if i = 9 then (k : Int) :: chs (k + 1) l else chs (k + 1) l).length ≤ l.length + 1
    have := ih (k + 1)
    split
    · simpa using this
    · omega
theorem bxC_iff (l : List Nat) : ∀ (k : Nat) (bs : List Bp), bxC k l bs = true ↔ bs.map Prod.fst = chs k l ∧ ∀ b ∈ bs, b.2.length = 6 ∧ rgt b.2 = true := by
  induction l with
  | nil =>
    intro k bs
    rw [bxC_end]
    cases bs with
    | nil => simp [chs]
    | cons b r => simp [chs]
  | cons i l ih =>
    intro k bs
    by_cases h9 : i = 9
    · subst h9
      have e : chs k (9 :: l) = (k : Int) :: chs (k + 1) l := by show (if 9 = 9 then _ else _) = _; rw [if_pos rfl]
      rw [e]
      cases bs with
      | nil => rw [bxC_none]; simp
      | cons b r =>
        rw [bxC_some]
        have := ih (k + 1) r
        simp only [Bool.and_eq_true, beq_iff_eq, List.map_cons, List.cons.injEq, List.forall_mem_cons, this]
        constructor
        · rintro ⟨⟨h1, h2, h3⟩, h4, h5⟩; exact ⟨⟨h1, h4⟩, ⟨h2, h3⟩, h5⟩
        · rintro ⟨⟨h1, h4⟩, ⟨h2, h3⟩, h5⟩; exact ⟨⟨h1, h2, h3⟩, h4, h5⟩
    · rw [bxC_other h9, ih]
      have e : chs k (i :: l) = chs (k + 1) l := by show (if i = 9 then _ else _) = _; rw [if_neg h9]
      rw [e]
/-- The bag of a cell's box. -/
def bagAt (bs : List Bp) (c : Int) : List (Nat × Int) := ((bs.find? (fun b => b.1 == c)).map Prod.snd).getD []
theorem bagAt_mem {bs : List Bp} (hs : (bs.map Prod.fst).Pairwise (· < ·)) {b : Bp} (hb : b ∈ bs) : bagAt bs b.1 = b.2 := by
  induction bs with
  | nil => cases hb
  | cons x r ih =>
    rw [List.map_cons, List.pairwise_cons] at hs
    unfold bagAt
    rw [List.find?_cons]
    rcases List.mem_cons.1 hb with rfl | h
    · simp
    · have := hs.1 _ (List.mem_map_of_mem h)
      have e : (x.1 == b.1) = false := by rw [beq_eq_false_iff_ne]; omega
      rw [e]
      exact ih hs.2 h
theorem bs_form {bs : List Bp} (hs : (bs.map Prod.fst).Pairwise (· < ·)) : bs = (bs.map Prod.fst).map (fun c => (c, bagAt bs c)) := by
  rw [List.map_map]
  apply List.ext_getElem (by simp)
  intro j h1 h2
  rw [List.getElem_map]
  show bs[j] = (bs[j].1, bagAt bs bs[j].1)
  rw [bagAt_mem hs (List.getElem_mem h1)]
/-- Boxes of the chests among the cells, with such bags. -/
def boxes (cs : List Nat) (g : Int → List (Nat × Int)) : List Bp := (chs 0 cs).map (fun c => (c, g c))
structure Rgt (d : Ck) : Prop where
  x0 : 0 ≤ d.x
  x1 : d.x < 16
  y0 : 0 ≤ d.y
  y1 : d.y < 16
  cl : d.cs.length = 64
  cm : ∀ i ∈ d.cs, mayC i = true
  hl : d.hs.length ≤ 32
  hm : ∀ h ∈ d.hs, hpC h = true
  bc : d.bs.map Prod.fst = chs 0 d.cs
  br : ∀ b ∈ d.bs, b.2.length = 6 ∧ rgt b.2 = true
theorem rgt_iff {d : Ck} : rgtC d = true ↔ Rgt d := by
  unfold rgtC
  simp only [Bool.and_eq_true, decide_eq_true_eq, List.all_eq_true, bxC_iff]
  constructor
  · rintro ⟨⟨⟨⟨⟨a, b⟩, c, e⟩, f, g⟩, h, i⟩, j, k⟩
    exact ⟨a, b, c, e, f, g, h, i, j, k⟩
  · rintro ⟨a, b, c, e, f, g, h, i, j, k⟩
    exact ⟨⟨⟨⟨⟨a, b⟩, c, e⟩, f, g⟩, h, i⟩, j, k⟩
theorem Rgt.srt {d : Ck} (h : Rgt d) : (d.bs.map Prod.fst).Pairwise (· < ·) := by rw [h.bc]; exact chs_sorted _ _
theorem Rgt.form {d : Ck} (h : Rgt d) : d.bs = boxes d.cs (bagAt d.bs) := by
  have := bs_form h.srt
  rw [h.bc] at this
  exact this
theorem Rgt.bl {d : Ck} (h : Rgt d) : d.bs.length ≤ 64 := by
  have := congrArg List.length h.bc
  rw [List.length_map] at this
  rw [this, ← h.cl]
  exact chs_len _ _
/-- Where a number stands in a row that is parted there. -/
theorem AtB.eq {P Q : List Int} {t : Int} {k : Nat} (h : AtB (P ++ Q) t k) (hP : ∀ x ∈ P, x < t) (hQ : ∀ x ∈ Q, t ≤ x) : k = P.length := by
  obtain ⟨hk, h1, h2⟩ := h
  rw [List.length_append] at hk
  rcases Nat.lt_trichotomy k P.length with e | e | e
  · have := h2 k (by rw [List.length_append]; omega) (Nat.le_refl _)
    rw [List.getElem_append_left e] at this
    have h3 := hP _ (List.getElem_mem e)
    omega
  · exact e
  · have := h1 P.length (by rw [List.length_append]; omega) e
    rw [List.getElem_append_right (Nat.le_refl _)] at this
    have h3 := hQ _ (List.getElem_mem (by omega : P.length - P.length < Q.length))
    omega
/-- The cells parted at one of them. -/
theorem chs_at {cs : List Nat} {a : Nat} (ha : a < cs.length) : chs 0 cs = chs 0 (cs.take a) ++ ((if cs[a] = 9 then [(a : Int)] else []) ++ chs (a + 1) (cs.drop (a + 1))) := by
  have e : cs = cs.take a ++ (cs[a] :: cs.drop (a + 1)) := by rw [← List.drop_eq_getElem_cons ha, List.take_append_drop]
  conv => lhs; rw [e]
  rw [chs_append, List.length_take, Nat.min_eq_left (Nat.le_of_lt ha), Nat.zero_add]
  congr 1
  show (if cs[a] = 9 then (a : Int) :: chs (a + 1) (cs.drop (a + 1)) else chs (a + 1) (cs.drop (a + 1))) = _
  split <;> rfl
theorem chs_set {cs : List Nat} {a : Nat} (ha : a < cs.length) (i : Nat) : chs 0 (cs.set a i) = chs 0 (cs.take a) ++ ((if i = 9 then [(a : Int)] else []) ++ chs (a + 1) (cs.drop (a + 1))) := by
  have h := chs_at (cs := cs.set a i) (a := a) (by rw [List.length_set]; exact ha)
  rw [List.getElem_set_self, List.take_set, List.drop_set_of_lt (by omega)] at h
  rw [h]
  congr 2
  rw [List.set_eq_of_length_le (by rw [List.length_take]; omega)]
theorem chs_low {cs : List Nat} {a : Nat} : ∀ x ∈ chs 0 (cs.take a), x < (a : Int) := fun x hx => by
  have := (chs_mem hx).2
  rw [List.length_take] at this
  omega
theorem chs_high {cs : List Nat} {a : Nat} : ∀ x ∈ chs (a + 1) (cs.drop (a + 1)), (a : Int) < x := fun x hx => by
  have := (chs_mem hx).1
  omega
/-- Where a cell's box stands, or would stand. -/
theorem AtB.chs {cs : List Nat} {a k : Nat} (ha : a < cs.length) (h : AtB (chs 0 cs) (a : Int) k) : k = (chs 0 (cs.take a)).length := by
  rw [chs_at ha] at h
  refine h.eq chs_low (fun x hx => ?_)
  rcases List.mem_append.1 hx with h1 | h1
  · split at h1
    · simp at h1; omega
    · cases h1
  · exact Int.le_of_lt (chs_high x h1)
/-- There is a box just where there is a chest. -/
theorem chest_at {cs : List Nat} {a : Nat} (ha : a < cs.length) : (if h : (chs 0 (cs.take a)).length < (chs 0 cs).length then decide ((chs 0 cs)[(chs 0 (cs.take a)).length] = (a : Int)) else false) = decide (cs[a] = 9) := by
  have hc := chs_at ha
  generalize hP : chs 0 (cs.take a) = P at *
  by_cases h9 : cs[a] = 9
  · rw [if_pos h9] at hc
    have hl : P.length < (chs 0 cs).length := by rw [hc]; simp
    rw [dif_pos hl, decide_eq_true h9, decide_eq_true]
    simp only [hc]
    rw [List.getElem_append_right (Nat.le_refl _)]
    simp
  · rw [if_neg h9, List.nil_append] at hc
    rw [decide_eq_false h9]
    split
    · rename_i hl
      rw [decide_eq_false]
      intro e
      have h1 : (chs 0 cs)[P.length] ∈ chs (a + 1) (cs.drop (a + 1)) := by
        simp only [hc]
        rw [List.getElem_append_right (Nat.le_refl _)]
        exact List.getElem_mem _
      have := chs_high _ h1
      omega
    · rfl
end Go.Proofs.YtjdhbgdpmojobaaDoor

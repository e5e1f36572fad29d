/-
  A chunk's bytes as numbers, one behind the other: plain mathematics. No statement of the seat is proved here.
-/
import Derived.Test.YtefopgdmadgheaaDoorGtZ
import Derived.Test.YtefopgdmadgheaaDoorChT
import Derived.Test.YtefopgdmadgheaaDoorChM
namespace Go.Proofs.YtefopgdmadgheaaDoor
open Go.RowKit Go.Deep

/-! ### numbers read one behind the other -/
/-- One number read: what is told, where the next one stands, whether one has failed. -/
def nxB (l : List UInt8) (st : Nat × Bool) : Nat × (Nat × Bool) :=
  if st.2 = true ∨ (getU l (st.1 : Int)).2.2 ≠ 0 ∨ 255 < (getU l (st.1 : Int)).1 then (0, (st.1, true)) else ((getU l (st.1 : Int)).1, ((getU l (st.1 : Int)).2.1, false))
/-- The state behind so many numbers. -/
def stN (l : List UInt8) : Nat → Nat × Bool
  | 0 => (0, false)
  | i + 1 => (nxB l (stN l i)).2
/-- The i-th number. -/
def vN (l : List UInt8) (i : Nat) : Nat := (nxB l (stN l i)).1
theorem nxB_bad {l : List UInt8} {st : Nat × Bool} (h : st.2 = true ∨ (getU l (st.1 : Int)).2.2 ≠ 0 ∨ 255 < (getU l (st.1 : Int)).1) : nxB l st = (0, (st.1, true)) := if_pos h
theorem nxB_ok {l : List UInt8} {st : Nat × Bool} (h : ¬ (st.2 = true ∨ (getU l (st.1 : Int)).2.2 ≠ 0 ∨ 255 < (getU l (st.1 : Int)).1)) : nxB l st = ((getU l (st.1 : Int)).1, ((getU l (st.1 : Int)).2.1, false)) := if_neg h
theorem vN_le (l : List UInt8) (i : Nat) : vN l i ≤ 255 := by
  unfold vN
  by_cases h : (stN l i).2 = true ∨ (getU l ((stN l i).1 : Int)).2.2 ≠ 0 ∨ 255 < (getU l ((stN l i).1 : Int)).1
  · rw [nxB_bad h]; exact Nat.zero_le _
  · rw [nxB_ok h]
    show (getU l ((stN l i).1 : Int)).1 ≤ 255
    omega
theorem stN_le (l : List UInt8) (i : Nat) : (stN l i).1 ≤ l.length := by
  induction i with
  | zero => exact Nat.zero_le _
  | succ i ih =>
    unfold stN
    by_cases h : (stN l i).2 = true ∨ (getU l ((stN l i).1 : Int)).2.2 ≠ 0 ∨ 255 < (getU l ((stN l i).1 : Int)).1
    · rw [nxB_bad h]; exact ih
    · rw [nxB_ok h]; exact getU_next _ _
theorem stN_good {l : List UInt8} {i : Nat} (h : (stN l (i + 1)).2 = false) : (stN l i).2 = false ∧ getU l ((stN l i).1 : Int) = (vN l i, (stN l (i + 1)).1, 0) := by
  unfold stN at h
  by_cases hb : (stN l i).2 = true ∨ (getU l ((stN l i).1 : Int)).2.2 ≠ 0 ∨ 255 < (getU l ((stN l i).1 : Int)).1
  · rw [nxB_bad hb] at h
    cases h
  · have h1 : (stN l i).2 = false := by
      cases hq : (stN l i).2
      · rfl
      · exact absurd (.inl hq) hb
    have h2 : (getU l ((stN l i).1 : Int)).2.2 = 0 := by omega
    refine ⟨h1, ?_⟩
    have e1 : vN l i = (getU l ((stN l i).1 : Int)).1 := by unfold vN; rw [nxB_ok hb]
    have e2 : (stN l (i + 1)).1 = (getU l ((stN l i).1 : Int)).2.1 := by
      show (nxB l (stN l i)).2.1 = _
      rw [nxB_ok hb]
    rw [e1, e2, ← h2]
/-- What was read without a failure is what stands there. -/
theorem stN_tells (l : List UInt8) : ∀ T, (stN l T).2 = false → l.take (stN l T).1 = ((List.range T).map (vN l)).flatMap varint
  | 0, _ => rfl
  | T + 1, h => by
    obtain ⟨h1, h2⟩ := stN_good h
    have ih := stN_tells l T h1
    obtain ⟨hp, hq, _, hd⟩ := getU_tells l _ _ _ h2
    rw [List.range_succ, List.map_append, List.flatMap_append, ← ih]
    have e : l.take (stN l T).1 ++ varint (vN l T) ++ l.drop (stN l (T + 1)).1 = l.take (stN l (T + 1)).1 ++ l.drop (stN l (T + 1)).1 := by
      rw [List.append_assoc, ← hd, List.take_append_drop, List.take_append_drop]
    have e2 := List.append_cancel_right e
    rw [← e2]
    simp
theorem getU_end (l : List UInt8) : getU l (l.length : Int) = (0, 0, 11) := by
  unfold getU
  rw [if_neg (by omega)]
  simp
/-- Of numbers that were put one behind the other. -/
theorem stN_of (ns : List Nat) (h : ∀ n ∈ ns, n ≤ 255) : ∀ i, i ≤ ns.length → stN (ns.flatMap varint) i = (((ns.take i).flatMap varint).length, false)
  | 0, _ => rfl
  | i + 1, hi => by
    have ih := stN_of ns h i (by omega)
    have hd : (ns.flatMap varint).drop ((ns.take i).flatMap varint).length = varint ns[i] ++ (ns.drop (i + 1)).flatMap varint := by
      have e : ns.flatMap varint = (ns.take i).flatMap varint ++ (varint ns[i] ++ (ns.drop (i + 1)).flatMap varint) := by
        have e1 : ns = ns.take i ++ (ns[i] :: ns.drop (i + 1)) := by rw [← List.drop_eq_getElem_cons (by omega), List.take_append_drop]
        conv => lhs; rw [e1]
        rw [List.flatMap_append, List.flatMap_cons]
      rw [e, List.drop_left]
    have hn := h ns[i] (List.getElem_mem (by omega))
    have hp : ((ns.take i).flatMap varint).length ≤ (ns.flatMap varint).length := by have := stN_le (ns.flatMap varint) i; rw [ih] at this; exact this
    have hg := getU_put (ns.flatMap varint) _ _ ns[i] (by omega) hp hd
    show (nxB _ (stN _ i)).2 = _
    rw [ih, nxB_ok (by
      rw [hg]
      simp only [Bool.false_eq_true, ne_eq, not_true_eq_false, false_or]
      omega), hg]
    have e : (ns.take (i + 1)).flatMap varint = (ns.take i).flatMap varint ++ varint ns[i] := by
      rw [List.take_add_one, List.getElem?_eq_getElem (by omega), List.flatMap_append]
      simp
    rw [e, List.length_append]
theorem vN_of (ns : List Nat) (h : ∀ n ∈ ns, n ≤ 255) (i : Nat) (hi : i < ns.length) : vN (ns.flatMap varint) i = ns[i] := by
  have h1 := stN_of ns h (i + 1) (by omega)
  obtain ⟨_, h3⟩ := stN_good (l := ns.flatMap varint) (i := i) (by rw [h1])
  have ih := stN_of ns h i (by omega)
  rw [ih] at h3
  have hd : (ns.flatMap varint).drop ((ns.take i).flatMap varint).length = varint ns[i] ++ (ns.drop (i + 1)).flatMap varint := by
    have e : ns.flatMap varint = (ns.take i).flatMap varint ++ (varint ns[i] ++ (ns.drop (i + 1)).flatMap varint) := by
      have e1 : ns = ns.take i ++ (ns[i] :: ns.drop (i + 1)) := by rw [← List.drop_eq_getElem_cons (by omega), List.take_append_drop]
      conv => lhs; rw [e1]
      rw [List.flatMap_append, List.flatMap_cons]
    rw [e, List.drop_left]
  have hn := h ns[i] (List.getElem_mem (by omega))
  have hp : ((ns.take i).flatMap varint).length ≤ (ns.flatMap varint).length := by have := stN_le (ns.flatMap varint) i; rw [ih] at this; exact this
  have hg := getU_put (ns.flatMap varint) _ _ ns[i] (by omega) hp hd
  rw [hg] at h3
  exact (congrArg Prod.fst h3).symm
end Go.Proofs.YtefopgdmadgheaaDoor

/-
  Bags: slots filled, one after the other (mathematics); a slot of a row of the call's own written. No statement of the seat is proved here.
-/
import Derived.Test.YtefopgdmadgheaaDoorBgB
namespace Go.Proofs.YtefopgdmadgheaaDoor
open Go.RowKit Go.Deep

/-- One slot filled, if it is to be, with as much as it takes. -/
def fillS (p : Nat → Bool) (i : Nat) (st : Int) (r : List (Nat × Int) × Int) (s : Nat × Int) : List (Nat × Int) × Int :=
  if 0 < r.2 ∧ p s.1 = true then (r.1 ++ [(i, s.2 + min r.2 (st - s.2))], r.2 - min r.2 (st - s.2)) else (r.1 ++ [s], r.2)
/-- The slots that p tells filled with n of i, from the first one on; what is left. -/
def fillL (p : Nat → Bool) (i : Nat) (st : Int) (l : List (Nat × Int)) (n : Int) : List (Nat × Int) × Int := l.foldl (fillS p i st) ([], n)
section
variable {p : Nat → Bool} {i : Nat} {st n : Int} {l : List (Nat × Int)}
theorem fillS_len (r : List (Nat × Int) × Int) (s : Nat × Int) : (fillS p i st r s).1.length = r.1.length + 1 := by
  unfold fillS
  split <;> simp
theorem fillL_foldl_len (l : List (Nat × Int)) (r : List (Nat × Int) × Int) : (l.foldl (fillS p i st) r).1.length = r.1.length + l.length := by
  induction l generalizing r with
  | nil => rfl
  | cons s l ih => rw [List.foldl_cons, ih, fillS_len, List.length_cons]; omega
theorem fillL_len (l : List (Nat × Int)) (n : Int) : (fillL p i st l n).1.length = l.length := by
  unfold fillL
  rw [fillL_foldl_len]
  simp
theorem fillL_step (k : Nat) (hk : k < l.length) : fillL p i st (l.take (k + 1)) n = fillS p i st (fillL p i st (l.take k) n) l[k] := by
  unfold fillL
  rw [List.take_add_one, List.getElem?_eq_getElem hk, List.foldl_append]
  rfl
/-- What is left is no less than nothing, and no more than there was. -/
theorem fillL_left (h0 : 0 ≤ n) (hp : ∀ s ∈ l, p s.1 = true → 0 ≤ s.2 ∧ s.2 ≤ st) : 0 ≤ (fillL p i st l n).2 ∧ (fillL p i st l n).2 ≤ n := by
  unfold fillL
  suffices h : ∀ (l : List (Nat × Int)) (r : List (Nat × Int) × Int), (∀ s ∈ l, p s.1 = true → 0 ≤ s.2 ∧ s.2 ≤ st) → 0 ≤ r.2 → 0 ≤ (l.foldl (fillS p i st) r).2 ∧ (l.foldl (fillS p i st) r).2 ≤ r.2 from h l ([], n) hp h0
  intro l
  induction l with
  | nil => intro r _ hr; exact ⟨hr, by simp⟩
  | cons s l ih =>
    intro r hp hr
    rw [List.foldl_cons]
    have hs := hp s List.mem_cons_self
    have h1 : 0 ≤ (fillS p i st r s).2 ∧ (fillS p i st r s).2 ≤ r.2 := by
      unfold fillS
      split
      · rename_i h
        have := hs h.2
        dsimp only
        omega
      · exact ⟨hr, Int.le_refl _⟩
    have h2 := ih (fillS p i st r s) (fun t ht => hp t (List.mem_cons_of_mem _ ht)) h1.1
    omega
end
theorem slC_set (l : List (Nat × Int)) (j : Nat) (hj : j < l.length) (x : Nat) (y : Int) : slC (l.set j (x, y)) = ((slC l).set (j * 2) (.int .u8 (x : Int))).set (j * 2 + 1) (.int .i64 y) := by
  induction l generalizing j with
  | nil => simp at hj
  | cons s l ih =>
    have e : ∀ (t : Nat × Int) (l : List (Nat × Int)), slC (t :: l) = .int .u8 (t.1 : Int) :: .int .i64 t.2 :: slC l := fun _ _ => rfl
    cases j with
    | zero => rfl
    | succ j =>
      rw [List.set_cons_succ, e, ih j (by simpa using hj), e, show (j + 1) * 2 = j * 2 + 1 + 1 by omega]
      simp only [List.set_cons_succ]
section
variable {w : World} {A : Option Addr} {n c lo : Nat} {l : List (Nat × Int)}
/-- A slot of a row of the call's own, written. -/
theorem OwS.set (h : OwS lo w (.slice A n c) l) (j : Nat) (hj : j < l.length) : ∃ b, A = some ⟨b, 0, none⟩ ∧ lo ≤ b ∧ b < w.heap.size ∧ w.frozen? ⟨b, j * 2, none⟩ = false ∧ w.frozen? ⟨b, j * 2 + 1, none⟩ = false ∧
    w.cell? ⟨b, j * 2, none⟩ = some (.int .u8 (l[j].1 : Int)) ∧ w.cell? ⟨b, j * 2 + 1, none⟩ = some (.int .i64 l[j].2) ∧
    ∀ (x : Nat) (y : Int), OwS lo ((w.setCell ⟨b, j * 2, none⟩ (.int .u8 (x : Int))).setCell ⟨b, j * 2 + 1, none⟩ (.int .i64 y)) (.slice A n c) (l.set j (x, y)) := by
  have hr := h.rd
  rcases h.2 with ⟨hv, h0⟩ | ⟨g, cap, cur, hv, hlo, hh, hnc, hcm, hsz, htk⟩
  · omega
  · injection hv with e1 e2 e3
    subst e1 e2 e3
    obtain ⟨b, o, e, _, hc⟩ := hr.2 (by omega)
    injection e with e
    injection e with e1 e2
    subst e1 e2
    obtain ⟨c0, c1⟩ := hc j hj
    rw [Nat.zero_add] at c0 c1
    refine ⟨g, rfl, hlo, (Array.getElem?_eq_some_iff.1 hh).1, blk_free hh _, blk_free hh _, c0, c1, fun x y => ?_⟩
    refine ⟨by rw [slC_len, List.length_set], .inr ⟨g, c, _, (by rw [List.length_set]), hlo, heap_cells_set _ g (j * 2 + 1) _ _ (.int .i64 y) (heap_cells_set w g (j * 2) _ _ (.int .u8 (x : Int)) hh), by rw [List.length_set]; exact hnc, hcm, by simpa using hsz, ?_⟩⟩
    rw [Array.toList_setIfInBounds, Array.toList_setIfInBounds, List.length_set, List.take_set, List.take_set, htk, slC_set l j hj]
end
end Go.Proofs.YtefopgdmadgheaaDoor

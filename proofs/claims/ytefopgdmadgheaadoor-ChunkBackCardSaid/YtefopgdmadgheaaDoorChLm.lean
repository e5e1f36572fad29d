/-
  Heaps dropped and lifted (mathematics). No statement of the seat is proved here.
-/
import Derived.Test.YtefopgdmadgheaaDoorChX
import Derived.Test.YtefopgdmadgheaaDoorChLi
import Derived.Test.YtefopgdmadgheaaDoorChJ
namespace Go.Proofs.YtefopgdmadgheaaDoor
open Go.RowKit Go.Deep

theorem ByC.lift {d : Ck} (hb : ByC d) (c : Int) : ByC (liftL d c) := ⟨hb.b1, fun h hh => hb.b2 h ((List.mem_filter.1 hh).1), hb.b3⟩
theorem Rgt.lift {d : Ck} (r : Rgt d) (c : Int) : Rgt (liftL d c) := ⟨r.x0, r.x1, r.y0, r.y1, r.cl, r.cm, Nat.le_trans (List.length_filter_le _ _) r.hl, fun h hh => r.hm h ((List.mem_filter.1 hh).1), r.bc, r.br⟩
theorem ByC.drop {d : Ck} (hb : ByC d) (c : Int) {s : Nat × Int} (hs : s.1 < 256) : ByC (dropL d c s) := by
  unfold dropL
  split
  · refine ⟨hb.b1, fun h hh => ?_, hb.b3⟩
    rcases List.mem_append.1 hh with h1 | h1
    · exact hb.b2 h h1
    · simp at h1; subst h1; exact hs
  · exact hb
theorem Rgt.drop {d : Ck} (r : Rgt d) (c : Int) (s : Nat × Int) : Rgt (dropL d c s) := by
  unfold dropL
  split
  · rename_i h
    unfold dropE at h
    split at h
    · exact absurd h (by decide)
    · rename_i hp
      split at h
      · exact absurd h (by decide)
      · rename_i hs
        split at h
        · exact absurd h (by decide)
        · rename_i h32
          refine ⟨r.x0, r.x1, r.y0, r.y1, r.cl, r.cm, ?_, fun x hx => ?_, r.bc, r.br⟩
          · show (d.hs ++ [(c, s)]).length ≤ 32
            have := r.hl
            rw [List.length_append]
            simp
            omega
          · rcases List.mem_append.1 hx with h1 | h1
            · exact r.hm x h1
            · simp at h1
              subst h1
              unfold hpC
              simp at hp hs
              show (plcC c && someC s) = true
              rw [hp, hs]
              rfl
  · exact r
/-- Heaps of a cell, what they have. -/
def ofC (l : List Hp) (a : Int) : List (Nat × Int) := (l.filter (fun h => h.1 == a)).map Prod.snd
theorem ofC_append (l m : List Hp) (a : Int) : ofC (l ++ m) a = ofC l a ++ ofC m a := by unfold ofC; rw [List.filter_append, List.map_append]
theorem ofC_none (l : List Hp) (a : Int) : ofC (l.filter (fun h => !(h.1 == a))) a = [] := by
  unfold ofC
  rw [List.filter_filter]
  have : (fun h : Hp => (h.1 == a) && !(h.1 == a)) = fun _ => false := by funext h; cases h.1 == a <;> rfl
  rw [this]
  simp
theorem ofC_sub (l : List Hp) (a b : Int) : ofC ((l.filter (fun h => !(h.1 == a))).filter (fun h => !(h.1 == b))) a = [] := by
  rw [List.filter_filter]
  have e : (l.filter fun h => !(h.1 == b) && !(h.1 == a)) = ((l.filter fun h => !(h.1 == b)).filter fun h => !(h.1 == a)) := by rw [List.filter_filter]; congr 1; funext h; cases h.1 == a <;> cases h.1 == b <;> rfl
  rw [e]
  exact ofC_none _ _
theorem lift_lift (d : Ck) (a : Int) : liftL (liftL d a) a = liftL d a := by
  unfold liftL
  show Ck.mk d.x d.y d.cs ((d.hs.filter (fun h => !(h.1 == a))).filter (fun h => !(h.1 == a))) d.bs = _
  rw [List.filter_filter]
  congr 1
  congr 1
  funext h
  cases h.1 == a <;> rfl
/-- Where one that stays stands. -/
theorem filt_at {α : Type} (p : α → Bool) : ∀ (l : List α) (j : Nat) (hj : j < l.length), p l[j] = true → (l.filter p)[((l.take j).filter p).length]? = some l[j]
  | x :: l, 0, _, h => by
    have h' : p x = true := h
    show ((x :: l).filter p)[0]? = some x
    rw [List.filter_cons, if_pos h']
    rfl
  | x :: l, j + 1, hj, h => by
    have ih := filt_at p l j (by simpa using hj) (by simpa using h)
    have e : ((x :: l).take (j + 1)) = x :: l.take j := rfl
    rw [e, List.filter_cons, List.filter_cons]
    by_cases hp : p x = true
    · rw [if_pos hp, if_pos hp, List.length_cons, List.getElem?_cons_succ]
      exact ih
    · rw [if_neg hp, if_neg hp]
      exact ih
/-- What a call upon a new chunk leaves of it, whatever happens to elder blocks. -/
theorem OwC.elder {lo : Nat} {w w' : World} {C : Ch} {F : Nat → Prop} (h : OwC lo w C) (hf : Fr F w w') (hF : ∀ i, F i → i < lo) : OwC lo w' C := by
  have ap : ∀ {e : TypeId} {size m : Nat} {v : Value} {L : List Value}, w.ownsRow lo e size v m L → ∀ q, v.ownBlock = some q → ¬ F q := fun h' q hq e => by have h1 := (h'.lt q hq).1; have h2 := hF q e; omega
  exact ⟨own_fr h.o1 hf (ap h.o1), own_fr h.o2 hf (ap h.o2), own_fr h.o3 hf (ap h.o3), fun b hb => ⟨(h.o4 b hb).1, own_fr (h.o4 b hb).2 hf (ap (h.o4 b hb).2)⟩⟩
theorem drop_ok {d : Ck} {c : Int} {s : Nat × Int} (h : dropE d c s = 0) : dropL d c s = { d with hs := d.hs ++ [(c, s)] } := by unfold dropL; rw [if_pos h]
theorem drop_no {d : Ck} {c : Int} {s : Nat × Int} (h : ¬ dropE d c s = 0) : dropL d c s = d := by unfold dropL; rw [if_neg h]
end Go.Proofs.YtefopgdmadgheaaDoor

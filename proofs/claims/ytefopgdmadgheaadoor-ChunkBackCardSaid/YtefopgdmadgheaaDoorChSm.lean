/-
  Set: right chunks stay right; two cells are set in whatever order (mathematics). No statement of the seat is proved here.
-/
import Derived.Test.YtefopgdmadgheaaDoorChX
namespace Go.Proofs.YtefopgdmadgheaaDoor
open Go.RowKit Go.Deep

theorem rep6_r : rep6.length = 6 ∧ rgt rep6 = true := by decide +kernel
theorem rep6_by : By rep6 := fun s hs => by
  have := (List.mem_replicate.1 hs).2
  rw [this]
  decide
theorem rep6_no : rep6.any someC = false := by decide +kernel
/-- A cell set, where that is no error. -/
def putC (d : Ck) (a i : Nat) : Ck := { d with cs := d.cs.set a i, bs := boxes (d.cs.set a i) (upB d.bs (a : Int) rep6) }
theorem setL_nat (d : Ck) (a i : Nat) : setL d (a : Int) i = if setE d (a : Int) i = 0 then putC d a i else d := rfl
theorem Rgt.put {d : Ck} (r : Rgt d) (a : Nat) {i : Nat} (hi : mayC i = true) : Rgt (putC d a i) := by
  refine ⟨r.x0, r.x1, r.y0, r.y1, by show (d.cs.set a i).length = 64; rw [List.length_set]; exact r.cl, fun x hx => ?_, r.hl, r.hm, boxes_fst _ _, fun b hb => ?_⟩
  · rcases List.mem_or_eq_of_mem_set hx with h | rfl
    · exact r.cm x h
    · exact hi
  · obtain ⟨c, hc, rfl⟩ := List.mem_map.1 hb
    show (upB d.bs (a : Int) rep6 c).length = 6 ∧ rgt (upB d.bs (a : Int) rep6 c) = true
    unfold upB
    split
    · exact rep6_r
    · rename_i hne
      refine r.bag ?_
      have hr := chs_mem hc
      obtain ⟨cn, rfl⟩ := Int.eq_ofNat_of_zero_le (show 0 ≤ c by omega)
      have hl : cn < (d.cs.set a i).length := by omega
      have hl' : cn < d.cs.length := by rw [List.length_set] at hl; exact hl
      have h9 := (chs_iff hl).1 hc
      rw [List.getElem_set_ne (by omega)] at h9
      exact (chs_iff hl').2 h9
theorem setE_may {d : Ck} {a i : Nat} (h : setE d (a : Int) i = 0) : mayC i = true := by
  unfold setE at h
  split at h
  · exact absurd h (by decide)
  · split at h
    · exact absurd h (by decide)
    · rename_i h2
      simpa using h2
theorem Rgt.set {d : Ck} (r : Rgt d) (a i : Nat) : Rgt (setL d (a : Int) i) := by
  rw [setL_nat]
  split
  · rename_i h
    exact r.put a (setE_may h)
  · exact r
theorem ByC.set {d : Ck} (hb : ByC d) (a : Nat) {i : Nat} (hi : i < 256) : ByC (setL d (a : Int) i) := by
  rw [setL_nat]
  split
  · refine ⟨fun x hx => ?_, hb.b2, up_b hb _ rep6_by⟩
    rcases List.mem_or_eq_of_mem_set hx with h | rfl
    · exact hb.b1 x h
    · exact hi
  · exact hb
/-- Boxes of the same bags are the same. -/
theorem boxes_congr {cs : List Nat} {g g' : Int → List (Nat × Int)} (h : ∀ c (hc : c < cs.length), cs[c] = 9 → g (c : Int) = g' (c : Int)) : boxes cs g = boxes cs g' := by
  unfold boxes
  refine List.map_congr_left (fun c hc => ?_)
  have hr := chs_mem hc
  obtain ⟨cn, rfl⟩ := Int.eq_ofNat_of_zero_le (show 0 ≤ c by omega)
  have hl : cn < cs.length := by omega
  rw [h cn hl ((chs_iff hl).1 hc)]
/-- The bag of another chest. -/
theorem put_bag {d : Ck} {a i c : Nat} (hc : c < d.cs.length) (hne : c ≠ a) (h9 : d.cs[c] = 9) : bagAt (putC d a i).bs (c : Int) = bagAt d.bs (c : Int) := by
  have hl : c < (d.cs.set a i).length := by rw [List.length_set]; exact hc
  have h9' : (d.cs.set a i)[c] = 9 := by rw [List.getElem_set_ne (by omega)]; exact h9
  show bagAt (boxes (d.cs.set a i) (upB d.bs (a : Int) rep6)) (c : Int) = _
  rw [bagAt_boxes _ ((chs_iff hl).2 h9')]
  unfold upB
  rw [if_neg (by omega)]
theorem put_bag_self {d : Ck} {a : Nat} (ha : a < d.cs.length) : bagAt (putC d a 9).bs (a : Int) = rep6 := by
  have hl : a < (d.cs.set a 9).length := by rw [List.length_set]; exact ha
  have h9' : (d.cs.set a 9)[a] = 9 := List.getElem_set_self _
  show bagAt (boxes (d.cs.set a 9) (upB d.bs (a : Int) rep6)) (a : Int) = _
  rw [bagAt_boxes _ ((chs_iff hl).2 h9')]
  unfold upB
  rw [if_pos rfl]
theorem setE_other {d : Ck} {a b i j : Nat} (hb : b < d.cs.length) (hne : a ≠ b) : setE (setL d (a : Int) i) (b : Int) j = setE d (b : Int) j := by
  rw [setL_nat]
  split
  · have hl : b < (d.cs.set a i).length := by rw [List.length_set]; exact hb
    have e1 : hasB (putC d a i).cs (b : Int) = hasB d.cs (b : Int) := by
      show hasB (d.cs.set a i) (b : Int) = _
      rw [hasB_nat hl, hasB_nat hb, List.getElem_set_ne hne]
    have e2 : (hasB d.cs (b : Int) && (bagAt (putC d a i).bs (b : Int)).any someC) = (hasB d.cs (b : Int) && (bagAt d.bs (b : Int)).any someC) := by
      rw [hasB_nat hb]
      by_cases h9 : d.cs[b] = 9
      · rw [put_bag hb (fun e => hne e.symm) h9]
      · rw [decide_eq_false h9]; rfl
    unfold setE
    rw [e1, e2]
  · rfl
theorem put_put {d : Ck} {a b i j : Nat} (ha : a < d.cs.length) (hb : b < d.cs.length) (hne : a ≠ b) : putC (putC d a i) b j = putC (putC d b j) a i := by
  have hcs : (d.cs.set a i).set b j = (d.cs.set b j).set a i := List.set_comm _ _ hne
  have hbs : boxes ((d.cs.set a i).set b j) (upB (putC d a i).bs (b : Int) rep6) = boxes ((d.cs.set b j).set a i) (upB (putC d b j).bs (a : Int) rep6) := by
    rw [← hcs]
    refine boxes_congr (fun c hc h9 => ?_)
    have hcl : c < d.cs.length := by rw [List.length_set, List.length_set] at hc; exact hc
    unfold upB
    by_cases e1 : c = b
    · subst e1
      rw [if_pos rfl, if_neg (by omega)]
      rw [List.getElem_set_self] at h9
      subst h9
      rw [put_bag_self hcl]
    · rw [if_neg (by omega)]
      rw [List.getElem_set_ne (fun e => e1 e.symm)] at h9
      by_cases e2 : c = a
      · subst e2
        rw [if_pos rfl]
        rw [List.getElem_set_self] at h9
        subst h9
        rw [put_bag_self hcl]
      · rw [if_neg (by omega)]
        rw [List.getElem_set_ne (fun e => e2 e.symm)] at h9
        rw [put_bag hcl e2 h9, put_bag hcl e1 h9]
  show Ck.mk d.x d.y ((d.cs.set a i).set b j) d.hs _ = Ck.mk d.x d.y ((d.cs.set b j).set a i) d.hs _
  exact congr (congrArg (fun cs bs => Ck.mk d.x d.y cs d.hs bs) hcs) hbs
/-- Two cells are set in whatever order. -/
theorem set_set {d : Ck} {a b i j : Nat} (ha : a < d.cs.length) (hb : b < d.cs.length) (hne : a ≠ b) : setL (setL d (a : Int) i) (b : Int) j = setL (setL d (b : Int) j) (a : Int) i := by
  have e1 := setE_other (d := d) (i := i) (j := j) hb hne
  have e2 := setE_other (d := d) (i := j) (j := i) ha (fun e => hne e.symm)
  rw [setL_nat (setL d (a : Int) i) b j, setL_nat (setL d (b : Int) j) a i, e1, e2, setL_nat d a i, setL_nat d b j]
  by_cases h1 : setE d (a : Int) i = 0
  · by_cases h2 : setE d (b : Int) j = 0
    · rw [if_pos h2, if_pos h1, if_pos h1, if_pos h2, put_put ha hb hne]
    · rw [if_neg h2, if_pos h1, if_pos h1, if_neg h2]
  · by_cases h2 : setE d (b : Int) j = 0
    · rw [if_pos h2, if_neg h1, if_neg h1, if_pos h2]
    · rw [if_neg h2, if_neg h1, if_neg h1, if_neg h2]
/-- Set to what it is a cell that is no chest is as it was. -/
theorem set_same {d : Ck} (r : Rgt d) {a : Nat} (ha : a < d.cs.length) (h9 : d.cs[a] ≠ 9) : setE d (a : Int) d.cs[a] = 0 ∧ setL d (a : Int) d.cs[a] = d := by
  have hp : plcC (a : Int) = true := by unfold plcC; have := r.cl; simp; omega
  have hm := r.cm _ (List.getElem_mem ha)
  have e : setE d (a : Int) d.cs[a] = 0 := by
    unfold setE
    rw [hp, hm, hasB_nat ha, decide_eq_false h9]
    rfl
  refine ⟨e, ?_⟩
  rw [setL_nat, if_pos e]
  have hcs : d.cs.set a d.cs[a] = d.cs := List.set_getElem_self ha
  have hbs : boxes (d.cs.set a d.cs[a]) (upB d.bs (a : Int) rep6) = d.bs := by
    rw [hcs]
    conv => rhs; rw [r.form]
    refine boxes_congr (fun c hc hc9 => ?_)
    unfold upB
    rw [if_neg]
    intro e
    have : c = a := by omega
    subst this
    exact h9 hc9
  show Ck.mk d.x d.y (d.cs.set a d.cs[a]) d.hs (boxes (d.cs.set a d.cs[a]) (upB d.bs (a : Int) rep6)) = d
  rw [hbs, hcs]
/-- A chest set where Air was: it is empty, and may be broken again. -/
theorem set_chest {d : Ck} (r : Rgt d) {a : Nat} (ha : a < d.cs.length) (h0 : d.cs[a] = 0) : setE d (a : Int) 9 = 0 ∧ hasB (setL d (a : Int) 9).cs (a : Int) = true ∧ bagAt (setL d (a : Int) 9).bs (a : Int) = rep6 ∧ setE (setL d (a : Int) 9) (a : Int) 0 = 0 ∧ setL (setL d (a : Int) 9) (a : Int) 0 = d := by
  have hp : plcC (a : Int) = true := by unfold plcC; have := r.cl; simp; omega
  have e : setE d (a : Int) 9 = 0 := by
    unfold setE
    rw [hp, show mayC 9 = true from rfl, hasB_nat ha, decide_eq_false (by rw [h0]; decide)]
    rfl
  have eL : setL d (a : Int) 9 = putC d a 9 := by rw [setL_nat, if_pos e]
  have hl : a < (d.cs.set a 9).length := by rw [List.length_set]; exact ha
  have hh : hasB (putC d a 9).cs (a : Int) = true := by
    show hasB (d.cs.set a 9) (a : Int) = true
    rw [hasB_nat hl, List.getElem_set_self]
    rfl
  have hb := put_bag_self (d := d) ha
  rw [eL]
  have e2 : setE (putC d a 9) (a : Int) 0 = 0 := by
    unfold setE
    rw [hp, show mayC 0 = true from rfl, hh, hb, rep6_no]
    rfl
  refine ⟨e, hh, hb, e2, ?_⟩
  rw [setL_nat, if_pos e2]
  have hcs : (d.cs.set a 9).set a 0 = d.cs := by
    rw [List.set_set]
    have := List.set_getElem_self ha
    rw [h0] at this
    exact this
  have hbs : boxes ((d.cs.set a 9).set a 0) (upB (putC d a 9).bs (a : Int) rep6) = d.bs := by
    rw [hcs]
    conv => rhs; rw [r.form]
    refine boxes_congr (fun c hc hc9 => ?_)
    have hne : c ≠ a := fun e => by subst e; rw [h0] at hc9; exact absurd hc9 (by decide)
    unfold upB
    rw [if_neg (by omega), put_bag hc hne hc9]
  show Ck.mk d.x d.y ((d.cs.set a 9).set a 0) d.hs (boxes ((d.cs.set a 9).set a 0) (upB (putC d a 9).bs (a : Int) rep6)) = d
  rw [hbs, hcs]
end Go.Proofs.YtefopgdmadgheaaDoor

/-
  Fill of any box of a right chunk. No statement of the seat is proved here.
-/
import Derived.Test.YtefopgdmadgheaaDoorChJ
import Derived.Test.YtefopgdmadgheaaDoorChK
namespace Go.Proofs.YtefopgdmadgheaaDoor
open Go.RowKit Go.Deep

/-- What Fill tells. -/
def fillE (d : Ck) (cell : Int) (l : List (Nat × Int)) : Int := if hasB d.cs cell = false then 102 else if (l.length == 6 && rgt l) = false then 103 else 0
/-- The bags, one of them another one. -/
def upB (bs : List Bp) (cell : Int) (l : List (Nat × Int)) (c : Int) : List (Nat × Int) := if c = cell then l else bagAt bs c
def fillCk (d : Ck) (cell : Int) (l : List (Nat × Int)) : Ck := if fillE d cell l = 0 then { d with bs := boxes d.cs (upB d.bs cell l) } else d
theorem hasB_lt {cs : List Nat} {cell : Int} {k : Nat} (h : AtB (chs 0 cs) cell k) (hb : hasB cs cell = true) : ∃ hk : k < (chs 0 cs).length, (chs 0 cs)[k] = cell := by
  rw [← hasB_at h] at hb
  split at hb
  · rename_i hk
    exact ⟨hk, of_decide_eq_true hb⟩
  · cases hb
/-- One box filled. -/
theorem boxes_set {d : Ck} (r : Rgt d) {cell : Int} {k : Nat} (h : AtB (chs 0 d.cs) cell k) (hb : hasB d.cs cell = true) (l : List (Nat × Int)) : d.bs.set k (cell, l) = boxes d.cs (upB d.bs cell l) := by
  obtain ⟨hk, he⟩ := hasB_lt h hb
  have hl : (chs 0 d.cs).length = d.bs.length := by rw [← r.bc, List.length_map]
  apply List.ext_getElem
  · rw [List.length_set]; unfold boxes; rw [List.length_map]; omega
  · intro j h1 h2
    have hjb : j < d.bs.length := by rw [List.length_set] at h1; exact h1
    have hjc : j < (chs 0 d.cs).length := by omega
    have e : (boxes d.cs (upB d.bs cell l))[j] = ((chs 0 d.cs)[j], upB d.bs cell l (chs 0 d.cs)[j]) := List.getElem_map (fun c => (c, upB d.bs cell l c))
    rw [e, List.getElem_set]
    have hs := chs_sorted d.cs 0
    rw [List.pairwise_iff_getElem] at hs
    split
    · rename_i e2
      subst e2
      unfold upB
      rw [if_pos he, he]
    · rename_i e2
      have hne : (chs 0 d.cs)[j] ≠ cell := by
        rw [← he]
        rcases Nat.lt_or_ge j k with h3 | h3
        · have := hs j k hjc hk h3; omega
        · have := hs k j hk hjc (by omega); omega
      unfold upB
      rw [if_neg hne]
      have h5 := r.form
      have h6 : d.bs[j] = (boxes d.cs (bagAt d.bs))[j]'(by unfold boxes; rw [List.length_map]; exact hjc) := by
        congr 1
      rw [h6]
      exact List.getElem_map (fun c => (c, bagAt d.bs c))
section
variable {w w' : World} {lo : Nat} {C : Ch}
/-- A bag written into a box of the call's own. -/
theorem OwC.setb (h : OwC lo w C) {k : Nat} (hk : k < C.bs.length) (hn : C.bs.length = C.n3) : ∃ g, C.A3 = some ⟨g, 0, none⟩ ∧ lo ≤ g ∧ (∀ W, Fr No w W → W.frozen? ⟨g, k * 2 + 1, none⟩ = false ∧ ∃ u, W.cell? ⟨g, k * 2 + 1, none⟩ = some u) ∧ (∃ cur, w.heap[g]? = some (.cells cur 49 (0, 0))) ∧
    ∀ A' n c' l W, Fr No w W → l.length = n → OwS lo W (.slice A' n c') l → OwC lo (W.setCell ⟨g, k * 2 + 1, none⟩ (.slice A' n c')) ⟨C.x, C.y, C.A1, C.n1, C.c1, C.cs, C.A2, C.n2, C.c2, C.hs, C.A3, C.n3, C.c3, C.bs.set k ⟨C.bs[k].cell, A', n, c', l⟩⟩ ∧ Fr (fun i => i = g) W (W.setCell ⟨g, k * 2 + 1, none⟩ (.slice A' n c')) := by
  obtain ⟨g, hg, hlo, _, hfz, _, _, _⟩ := own_setk h.o3 (k * 2 + 1) (by omega)
  have hgb : (Value.slice C.A3 C.n3 C.c3).ownBlock = some g := by rw [hg]; rfl
  refine ⟨g, hg, hlo, fun W hW => ?_, own_type h.o3 hgb, fun A' n c' l W hW hl ho => ?_⟩
  · obtain ⟨g', hg', _, _, hfz', hu, _, _⟩ := own_setk (h.no hW).o3 (k * 2 + 1) (by omega)
    rw [hg] at hg'
    injection hg' with hg'
    injection hg' with hg'
    subst hg'
    exact ⟨hfz', hu⟩
  · have h' := h.no hW
    obtain ⟨g', hg', _, _, _, _, hset, hfr⟩ := own_setk h'.o3 (k * 2 + 1) (by omega)
    rw [hg] at hg'
    injection hg' with hg'
    injection hg' with hg'
    subst hg'
    have hf := hfr (.slice A' n c')
    have ap : ∀ {e : TypeId} {size m lo' : Nat} {v : Value} {L : List Value}, e ≠ 49 → W.ownsRow lo' e size v m L → ∀ q, v.ownBlock = some q → ¬ q = g := fun hne h1 q hq e => own_apart h1 h'.o3 hne q hq (by rw [e]; exact hgb)
    refine ⟨⟨own_fr h'.o1 hf (ap (by decide) h'.o1), own_fr h'.o2 hf (ap (by decide) h'.o2), ?_, fun b hb => ?_⟩, hf⟩
    · have := hset (.slice A' n c')
      rw [bxL_set C.bs k hk A' n c' l] at this
      exact this
    · obtain ⟨j, hj, rfl⟩ := List.getElem_of_mem hb
      have hj' : j < C.bs.length := by have : j < (C.bs.set k ⟨C.bs[k].cell, A', n, c', l⟩).length := hj; rwa [List.length_set] at this
      by_cases e : k = j
      · subst e
        have e2 : (C.bs.set k ⟨C.bs[k].cell, A', n, c', l⟩)[k]'(by rw [List.length_set]; exact hk) = ⟨C.bs[k].cell, A', n, c', l⟩ := List.getElem_set_self _
        show ((C.bs.set k ⟨C.bs[k].cell, A', n, c', l⟩)[k]'(by rw [List.length_set]; exact hk)).l.length = _ ∧ _
        rw [e2]
        exact ⟨hl, own_fr ho hf (ap (by decide) ho)⟩
      · have e2 : (C.bs.set k ⟨C.bs[k].cell, A', n, c', l⟩)[j]'(by rw [List.length_set]; exact hj') = C.bs[j] := List.getElem_set_ne e _
        show ((C.bs.set k ⟨C.bs[k].cell, A', n, c', l⟩)[j]'(by rw [List.length_set]; exact hj')).l.length = _ ∧ _
        rw [e2]
        have h6 := h'.o4 _ (List.getElem_mem hj')
        exact ⟨h6.1, own_fr h6.2 hf (ap (by decide) h6.2)⟩
set_option maxRecDepth 100000 in
set_option maxHeartbeats 3200000 in
theorem fill_any (ht : ItT w) (h : InC w C) (hr : rgtC C.ck = true) (cell : Int) {A : Option Addr} {n : Nat} {l : List (Nat × Int)} (hx : RdS w A n l) (hb : By l) (c : Nat) (hn : n ≤ 1000) : Calls Tryd.prog 14 #[C.val, .int .i64 cell, .slice A n c] w
    (CkE w (fillCk C.ck cell l) (fillE C.ck cell l)) := by
  have r := rgt_iff.1 hr
  have HOW := Lib.hid (fun W (hW : Fr No w W) => own_x (h.no hW) r)
  have HRT : Hid (∀ W, Fr No w W → Calls Tryd.prog 9 #[C.val] W fun e w' => e = .returned (.bool true) ∧ Fr No W w') := Lib.hid (fun W hW => by
    have := cright_any (ht.no hW) (h.no hW).rd h.bt h.sm h.cap
    rw [hr] at this
    exact this)
  have HBA := Lib.hid (fun W (hW : Fr No w W) => boxat_any (h.no hW) r cell)
  have HRB := Lib.hid (fun W (hW : Fr No w W) => right_any (ht.no hW) (hx.no hW) hb c (by omega) 6)
  have HFS := Lib.hid (fun W (hW : Fr No w W) => fresh_sl (w := W) (rds_rc (hx.no hW)) (slC_one _) c (show n ≤ 1000000 by omega))
  have HLN := Lib.hid hx.1
  have HST := Lib.hid (fun k (hk : AtB (chs 0 C.cs) cell k) hq => boxes_set r hk hq l)
  have HLT := Lib.hid (fun k (hk : AtB (chs 0 C.cs) cell k) hq => hasB_lt hk hq)
  have HCE := Lib.hid r.cells
  have HL3 := Lib.hid h.rd.r3.1
  have hd6 : (decide ((n : Int) = 6) && rgt l) = (l.length == 6 && rgt l) := by
    rw [hx.1]
    by_cases h : n = 6
    · subst h; rfl
    · rw [decide_eq_false (by omega), beq_eq_false_iff_ne.2 h]
  rw [hd6] at HRB
  have HEE : Hid (∀ p q, hasB C.cs cell = p → (l.length == 6 && rgt l) = q → fillE C.ck cell l = if p = false then 102 else if q = false then 103 else 0) := Lib.hid (fun p q h1 h2 => by subst h1 h2; rfl)
  have HLL : Hid (∀ x, fillE C.ck cell l = x → fillCk C.ck cell l = if x = 0 then { C.ck with bs := boxes C.ck.cs (upB C.ck.bs cell l) } else C.ck) := Lib.hid (fun x hx => by unfold fillCk; rw [hx])
  obtain ⟨E, hE⟩ : ∃ E, fillE C.ck cell l = E := ⟨_, rfl⟩
  obtain ⟨L, hL⟩ : ∃ L, fillCk C.ck cell l = L := ⟨_, rfl⟩
  have HLL2 := Lib.hid (HLL.out E hE)
  rw [hE] at HEE ⊢
  rw [hL] at HLL2 ⊢
  obtain ⟨p, hp⟩ : ∃ p, hasB C.cs cell = p := ⟨_, rfl⟩
  obtain ⟨q, hq⟩ : ∃ q, (l.length == 6 && rgt l) = q := ⟨_, rfl⟩
  have HEQ := Lib.hid (HEE.out p q hp hq)
  have HST2 : Hid (∀ k, AtB (chs 0 C.cs) cell k → p = true → C.ck.bs.set k (cell, l) = boxes C.ck.cs (upB C.ck.bs cell l) ∧ ∃ hk : k < C.bs.length, C.bs[k].cell = cell) := Lib.hid (fun k hk hpt => by
    subst hpt
    refine ⟨HST.out k hk hp, ?_⟩
    obtain ⟨h1, h2⟩ := HLT.out k hk hp
    have hlb : (chs 0 C.cs).length = C.bs.length := by rw [← HCE.out, List.length_map]
    refine ⟨by omega, ?_⟩
    have : (C.bs.map Bx.cell)[k]'(by rw [List.length_map]; omega) = C.bs[k].cell := List.getElem_map _
    rw [← this, ← h2]
    congr 1)
  rw [hp] at HBA
  rw [hq] at HRB
  obtain ⟨cq, hcq⟩ : ∃ q, chs 0 C.cs = q := ⟨_, rfl⟩
  rw [hcq] at HST2 HBA
  clear HLL HEE hE hL hp hq ht h hr r HST HLT HCE hd6 hcq hx hb
  obtain ⟨x, y, A1, n1, c1, cs, A2, n2, c2, hps, A3, n3, c3, bs⟩ := C
  dsimp only [Ch.val, Ch.ck] at *
  have hb1 := heap_alloc_new w (.cells #[.int .i64 x, .int .i64 y, .slice A1 n1 c1, .slice A2 n2 c2, .slice A3 n3 c3] 26)
  have f1 := Fr.alloc No w (.cells #[.int .i64 x, .int .i64 y, .slice A1 n1 c1, .slice A2 n2 c2, .slice A3 n3 c3] 26)
  have hb3 := heap_alloc_new (w.alloc (.cells #[.int .i64 x, .int .i64 y, .slice A1 n1 c1, .slice A2 n2 c2, .slice A3 n3 c3] 26)) (.cells #[.int .i64 0, .int .i64 0, .slice none 0 0, .slice none 0 0, .slice none 0 0] 26)
  have f3 := Fr.alloc No (w.alloc (.cells #[.int .i64 x, .int .i64 y, .slice A1 n1 c1, .slice A2 n2 c2, .slice A3 n3 c3] 26)) (.cells #[.int .i64 0, .int .i64 0, .slice none 0 0, .slice none 0 0, .slice none 0 0] 26)
  rw [World.size_alloc] at hb3
  replace hb1 := blk_no f3 hb1
  have HF := Lib.hid (f1.no_trans f3)
  clear f1 f3
  go_enter Tryd.func14, Tryd.ntmps14
  go_upto_region 1 with fail
  obtain ⟨D, hD⟩ : ∃ D, w.heap.size = D := ⟨_, rfl⟩
  rw [hD] at hb1 hb3 ⊢
  generalize (w.alloc (.cells #[.int .i64 x, .int .i64 y, .slice A1 n1 c1, .slice A2 n2 c2, .slice A3 n3 c3] 26)).alloc (.cells #[.int .i64 0, .int .i64 0, .slice none 0 0, .slice none 0 0, .slice none 0 0] 26) = w1 at *
  obtain ⟨g0, g1, g2, g3, g4⟩ := cells5 hb1
  have HB1 := Lib.hid hb1
  have HB3 := Lib.hid hb3
  clear hb1 hb3
  go_wp2_with fail
  refine (HOW.out _ HF.out).mono ?_
  rintro e w2 ⟨B1, d1, B2, d2, B3, d3, bk, rfl, hbp, ho, hf⟩
  have HB3o : Hid (w2.heap[D + 1]? = some (.cells #[.int .i64 0, .int .i64 0, .slice none 0 0, .slice none 0 0, .slice none 0 0] 26 (0, 0))) := Lib.hid (blk_no hf HB3.out)
  have HO2 := Lib.hid ho
  have HBP := Lib.hid hbp
  have HF2 := Lib.hid (HF.out.no_trans hf)
  have HF12 := Lib.hid hf
  clear g0 g1 g2 g3 g4 ho hbp hf HOW
  have hb4 := heap_alloc_new w2 (.cells #[.int .i64 x, .int .i64 y, .slice B1 n1 d1, .slice B2 n2 d2, .slice B3 n3 d3] 26)
  have f4 := Fr.alloc No w2 (.cells #[.int .i64 x, .int .i64 y, .slice B1 n1 d1, .slice B2 n2 d2, .slice B3 n3 d3] 26)
  have hb1 := blk_no (HF12.out.no_trans f4) HB1.out
  have hb3 := blk_no (HF12.out.no_trans f4) HB3.out
  have HSZ := Lib.hid (HF2.out.size)
  have HF3 := Lib.hid (HF2.out.no_trans f4)
  have HO3 := Lib.hid ((HO2.out.low HF.out.size).no f4)
  go_upto_region 2 with fail
  obtain ⟨G, hG⟩ : ∃ G, w2.heap.size = G := ⟨_, rfl⟩
  rw [hG] at hb4 ⊢
  generalize w2.alloc (.cells #[.int .i64 x, .int .i64 y, .slice B1 n1 d1, .slice B2 n2 d2, .slice B3 n3 d3] 26) = w3 at *
  clear HB1 HB3 HF12 HO2 f4
  have HB1 := Lib.hid hb1
  have HB3 := Lib.hid hb3
  have HB4 := Lib.hid hb4
  have hGR : D + 1 ≠ G := by
    have h1 := (Array.getElem?_eq_some_iff.1 HB3o.out).1
    omega
  obtain ⟨g0, g1, g2, g3, g4⟩ := cells5 hb1
  clear hb1 hb3 hb4
  go_wp2_with fail
  refine (HBA.out _ HF3.out).mono ?_
  rintro e w4 ⟨k, rfl, hk, hf⟩
  have HFa := Lib.hid hf
  have HKK := Lib.hid (HST2.out k hk)
  clear hf g0 g1 g2 g3 g4 HBA HST2 hk
  obtain ⟨g0, g1, g2, g3, g4⟩ := cells5 (blk_no HFa.out HB1.out)
  go_wp2_with fail
  refine (HRT.out _ (HF3.out.no_trans HFa.out)).mono ?_
  rintro e w5 ⟨rfl, hf⟩
  have HFb := Lib.hid (HFa.out.no_trans hf)
  clear hf HFa g0 g1 g2 g3 g4 HRT
  have HEND : Hid (∀ W x0, Fr No w3 W → L = ⟨x, y, cs, hps, bs.map Bx.bp⟩ → CkE w L x0 (.returned (.tuple #[.agg #[.int .i64 x, .int .i64 y, .slice B1 n1 d1, .slice B2 n2 d2, .slice B3 n3 d3], .int .i64 x0])) (set5 W (D + 1) (.int .i64 x) (.int .i64 y) (.slice B1 n1 d1) (.slice B2 n2 d2) (.slice B3 n3 d3))) := Lib.hid (fun W x0 hW hL => by
    refine ⟨⟨x, y, B1, n1, d1, cs, B2, n2, d2, hps, B3, n3, d3, bk⟩, rfl, ?_, ?_, ?_⟩
    · rw [hL, ← HBP.out]; rfl
    · exact ((HO3.out.no hW).at_ (blk_no hW HB3.out) (set5_fr W _ _ _ _ _ _))
    · exact (HF3.out.no_trans hW).then_new (set5_fr W _ _ _ _ _ _) (fun i hi => by have e : i = D + 1 := hi; rw [e, hD]; omega))
  cases p with
  | false =>
    have e1 : E = 102 := by rw [HEQ.out]; rfl
    have e2 : L = ⟨x, y, cs, hps, bs.map Bx.bp⟩ := by rw [HLL2.out, e1]; rfl
    obtain ⟨k0, k1, k2, k3, k4⟩ := cells5 (blk_no HFb.out HB4.out)
    obtain ⟨r0, r1, r2, r3, r4⟩ := cells5 (blk_no HFb.out HB3.out)
    obtain ⟨z0, z1, z2, z3, z4⟩ := free5 (blk_no HFb.out HB3.out)
    have HE := Lib.hid (HEND.out w5 E HFb.out e2)
    have HR := Lib.hid (set5_heap (blk_no HFb.out HB3.out) (.int .i64 x) (.int .i64 y) (.slice B1 n1 d1) (.slice B2 n2 d2) (.slice B3 n3 d3))
    subst e1
    clear HEQ HLL2 e2
    go_wp2_with fail
    refine bodyPost_ret (results_cell_tmp_rowC (p := 6) rfl _ _ (D + 1) 26 #[.int .i64 x, .int .i64 y, .slice B1 n1 d1, .slice B2 n2 d2, .slice B3 n3 d3] (0, 0) _ rfl HR.out Tryd.underlying26 rfl (by kernel_rfl)) rfl ?_
    exact HE.out
  | true =>
    go_wp2_with fail
    refine (HRB.out _ (HF3.out.no_trans HFb.out)).mono ?_
    rintro e w6 ⟨rfl, hf⟩
    have HFc := Lib.hid (HFb.out.no_trans hf)
    clear hf HFb HRB
    cases q with
    | false =>
      have e1 : E = 103 := by rw [HEQ.out]; rfl
      have e2 : L = ⟨x, y, cs, hps, bs.map Bx.bp⟩ := by rw [HLL2.out, e1]; rfl
      obtain ⟨k0, k1, k2, k3, k4⟩ := cells5 (blk_no HFc.out HB4.out)
      obtain ⟨r0, r1, r2, r3, r4⟩ := cells5 (blk_no HFc.out HB3.out)
      obtain ⟨z0, z1, z2, z3, z4⟩ := free5 (blk_no HFc.out HB3.out)
      have HE := Lib.hid (HEND.out w6 E HFc.out e2)
      have HR := Lib.hid (set5_heap (blk_no HFc.out HB3.out) (.int .i64 x) (.int .i64 y) (.slice B1 n1 d1) (.slice B2 n2 d2) (.slice B3 n3 d3))
      subst e1
      clear HEQ HLL2 e2
      go_wp2_with fail
      refine bodyPost_ret (results_cell_tmp_rowC (p := 6) rfl _ _ (D + 1) 26 #[.int .i64 x, .int .i64 y, .slice B1 n1 d1, .slice B2 n2 d2, .slice B3 n3 d3] (0, 0) _ rfl HR.out Tryd.underlying26 rfl (by kernel_rfl)) rfl ?_
      exact HE.out
    | true =>
      have e1 : E = 0 := by rw [HEQ.out]; rfl
      obtain ⟨hbe, hkb, hkc⟩ := HKK.out (by first | rfl | trivial)
      have e2 : L = ⟨x, y, cs, hps, (bs.map Bx.bp).set k (cell, l)⟩ := by rw [HLL2.out, e1, hbe]; rfl
      subst e1
      have HL1 := Lib.hid e2
      clear HEQ HLL2 e2 HEND hbe HKK
      have hlen : bk.length = n3 := by
        have e := congrArg List.length HBP.out
        rw [List.length_map, List.length_map] at e
        have := HL3.out
        omega
      have hkk : k < bk.length := by have := HL3.out; omega
      have hcell : bk[k].cell = cell := by
        have e := HBP.out
        have e1 : (bk.map Bx.bp)[k]'(by rw [List.length_map]; exact hkk) = bk[k].bp := List.getElem_map _
        have e2 : (bs.map Bx.bp)[k]'(by rw [List.length_map]; exact hkb) = bs[k].bp := List.getElem_map _
        have e3 : bk[k].bp = bs[k].bp := by rw [← e1, ← e2]; congr 1
        have e4 : bk[k].cell = bs[k].cell := congrArg Prod.fst e3
        rw [e4, hkc]
      have HO6 := Lib.hid (HO3.out.no HFc.out)
      obtain ⟨g, hg, hglo, hgz, ⟨cur, hgc⟩, hgs⟩ := HO6.out.setb hkk hlen
      dsimp only at hg hgs
      subst hg
      have HFW := Lib.hid (HF3.out.no_trans HFc.out)
      have hb4 := blk_no HFc.out HB4.out
      have hb3 := blk_no HFc.out HB3.out
      have hgG : g ≠ G := fun e => by
        rw [e, hb4] at hgc
        injection hgc with hgc
        injection hgc with _ hgc _
        exact absurd hgc (by decide)
      have hgR : g ≠ D + 1 := fun e => by
        rw [e, hb3] at hgc
        injection hgc with hgc
        injection hgc with _ hgc _
        exact absurd hgc (by decide)
      have HGZ := Lib.hid hgz
      have HB46 := Lib.hid hb4
      have HFIN : Hid (∀ A' c' W, Fr No w6 W → W.ownsRow w.heap.size 29 2 (.slice A' n c') n (slC l) →
          CkE w L 0 (.returned (.tuple #[.agg #[.int .i64 x, .int .i64 y, .slice B1 n1 d1, .slice B2 n2 d2, .slice (some ⟨g, 0, none⟩) n3 d3], .int .i64 0])) (set5 (W.setCell ⟨g, k * 2 + 1, none⟩ (.slice A' n c')) (D + 1) (.int .i64 x) (.int .i64 y) (.slice B1 n1 d1) (.slice B2 n2 d2) (.slice (some ⟨g, 0, none⟩) n3 d3)) ∧
          (set5 (W.setCell ⟨g, k * 2 + 1, none⟩ (.slice A' n c')) (D + 1) (.int .i64 x) (.int .i64 y) (.slice B1 n1 d1) (.slice B2 n2 d2) (.slice (some ⟨g, 0, none⟩) n3 d3)).heap[D + 1]? = some (.cells #[.int .i64 x, .int .i64 y, .slice B1 n1 d1, .slice B2 n2 d2, .slice (some ⟨g, 0, none⟩) n3 d3] 26 (0, 0))) := Lib.hid (fun A' c' W hW ho => by
        have ho' : OwS w.heap.size W (.slice A' n c') l := by unfold OwS; rw [HLN.out]; exact ho
        obtain ⟨h1, h2⟩ := hgs A' n c' l W hW HLN.out ho'
        have hr' := h2.blk (blk_no hW hb3) (fun e => hgR e.symm)
        refine ⟨⟨⟨x, y, B1, n1, d1, cs, B2, n2, d2, hps, some ⟨g, 0, none⟩, n3, d3, bk.set k ⟨bk[k].cell, A', n, c', l⟩⟩, rfl, ?_, h1.at_ hr' (set5_fr _ _ _ _ _ _ _), ?_⟩, set5_heap hr' _ _ _ _ _⟩
        · rw [HL1.out, ← HBP.out]
          show Ck.mk x y cs hps ((bk.set k ⟨bk[k].cell, A', n, c', l⟩).map Bx.bp) = Ck.mk x y cs hps ((bk.map Bx.bp).set k (cell, l))
          rw [List.map_set]
          show Ck.mk x y cs hps ((bk.map Bx.bp).set k (bk[k].cell, l)) = _
          rw [hcell]
        · exact ((HFW.out.no_trans hW).then_new h2 (fun i hi => by have e : i = g := hi; rw [e]; exact hglo)).then_new (set5_fr _ _ _ _ _ _ _) (fun i hi => by have e : i = D + 1 := hi; rw [e, hD]; omega))
      have HPOS : Hid (∀ W, Fr No w6 W → (∃ u, W.cell? ⟨g, k * 2 + 1, none⟩ = some u) ∧ W.frozen? ⟨g, k * 2 + 1, none⟩ = false ∧ W.heap[G]? = some (.cells #[.int .i64 x, .int .i64 y, .slice B1 n1 d1, .slice B2 n2 d2, .slice (some ⟨g, 0, none⟩) n3 d3] 26 (0, 0)) ∧ W.heap[D + 1]? = some (.cells #[.int .i64 0, .int .i64 0, .slice none 0 0, .slice none 0 0, .slice none 0 0] 26 (0, 0))) := Lib.hid (fun W hW => ⟨(hgz W hW).2, (hgz W hW).1, blk_no hW hb4, blk_no hW hb3⟩)
      have hkn : (k : Int) < (n3 : Int) := by omega
      have hk0 : (0 : Int) ≤ (k : Int) := by omega
      have hDR := Lib.hid (Fr.drew No w6)
      have HSZ6 : Hid (w.heap.size ≤ w6.heap.size) := Lib.hid HFW.out.size
      obtain ⟨_, _, g5, _⟩ := HPOS.out _ hDR.out
      have g4 := (blk_cell g5 4).trans (by simp : _ = some (.slice (some ⟨g, 0, none⟩) n3 d3))
      clear hgs hgc hgz hb3 hb4 HO6 HO3 HB1 HB3 HB4 HB46 HFc hcell hkc g5
      go_upto_region 9 with fail
      go_region_with (go_at_call 38; (refine (HFS.out _ (HFW.out.no_trans hDR.out)).mono ?_); rintro e w7 ⟨A', c', rfl, ho7, hf7⟩; have HO7 := Lib.hid ho7; have HF7 := Lib.hid (hDR.out.no_trans hf7); obtain ⟨⟨uu, q1⟩, q2, q3, q4⟩ := HPOS.out _ HF7.out; obtain ⟨k0, k1, k2, k3, k4⟩ := cells5 q3; obtain ⟨r0, r1, r2, r3, r4⟩ := cells5 q4; obtain ⟨z0, z1, z2, z3, z4⟩ := free5 q4; clear ho7 hf7 q3 q4)
      all_goals (
        have HFI := Lib.hid (HFIN.out A' c' w7 HF7.out (own_low HO7.out (HFW.out.no_trans hDR.out).size))
        go_wp2_with fail
        refine bodyPost_ret (results_cell_tmp_rowC (p := 6) rfl _ _ (D + 1) 26 #[.int .i64 x, .int .i64 y, .slice B1 n1 d1, .slice B2 n2 d2, .slice (some ⟨g, 0, none⟩) n3 d3] (0, 0) _ rfl HFI.out.2 Tryd.underlying26 rfl (by kernel_rfl)) rfl ?_
        exact HFI.out.1)
end
end Go.Proofs.YtefopgdmadgheaaDoor

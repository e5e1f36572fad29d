/-
  Where a box of a right chunk stands; Box; Same of two chunks that are the same. No statement of the seat is proved here.
-/
import Derived.Test.YtefopgdmadgheaaDoorChI
namespace Go.Proofs.YtefopgdmadgheaaDoor
open Go.RowKit Go.Deep

section
variable {w w' : World} {lo : Nat} {C : Ch}
theorem bx_cells (bs : List Bx) : bs.map Bx.cell = (bs.map Bx.bp).map Prod.fst := by rw [List.map_map]; rfl
theorem Rgt.cells (r : Rgt C.ck) : C.bs.map Bx.cell = chs 0 C.cs := by rw [bx_cells]; exact r.bc
theorem Rgt.bsort (r : Rgt C.ck) : ∀ i j (h : j < C.bs.length) (hij : i < j), C.bs[i].cell < C.bs[j].cell := fun i j h hij => by
  have hs : (C.bs.map Bx.cell).Pairwise (· < ·) := by rw [r.cells]; exact chs_sorted _ _
  rw [List.pairwise_iff_getElem] at hs
  have := hs i j (by rw [List.length_map]; omega) (by rw [List.length_map]; exact h) hij
  rw [List.getElem_map, List.getElem_map] at this
  exact this
/-- Whether there is a box of that cell. -/
def hasB (cs : List Nat) (cell : Int) : Bool := decide (0 ≤ cell ∧ cs.getD cell.toNat 0 = 9)
theorem hasB_at {cs : List Nat} {cell : Int} {k : Nat} (h : AtB (chs 0 cs) cell k) : (if h : k < (chs 0 cs).length then decide ((chs 0 cs)[k] = cell) else false) = hasB cs cell := by
  by_cases hin : 0 ≤ cell ∧ cell < cs.length
  · obtain ⟨a, rfl⟩ := Int.eq_ofNat_of_zero_le hin.1
    have ha : a < cs.length := by omega
    obtain rfl := h.chs ha
    rw [chest_at ha]
    unfold hasB
    have e : cs.getD ((a : Int).toNat) 0 = cs[a] := by
      show cs.getD a 0 = cs[a]
      rw [List.getD_eq_getElem?_getD, List.getElem?_eq_getElem ha]
      rfl
    rw [e]
    by_cases h9 : cs[a] = 9
    · rw [decide_eq_true h9, decide_eq_true ⟨by omega, h9⟩]
    · rw [decide_eq_false h9, decide_eq_false (fun x => h9 x.2)]
  · have e : hasB cs cell = false := by
      unfold hasB
      rw [decide_eq_false]
      rintro ⟨h1, h2⟩
      have : cs.length ≤ cell.toNat := by omega
      rw [List.getD_eq_getElem?_getD, List.getElem?_eq_none this] at h2
      exact absurd h2 (by decide)
    rw [e]
    split
    · rename_i hk
      rw [decide_eq_false]
      intro he
      have := chs_mem (List.getElem_mem hk)
      omega
    · rfl
theorem hasB_nat {cs : List Nat} {a : Nat} (ha : a < cs.length) : hasB cs (a : Int) = decide (cs[a] = 9) := by
  unfold hasB
  have e : cs.getD ((a : Int).toNat) 0 = cs[a] := by
    show cs.getD a 0 = cs[a]
    rw [List.getD_eq_getElem?_getD, List.getElem?_eq_getElem ha]
    rfl
  rw [e]
  by_cases h9 : cs[a] = 9
  · rw [decide_eq_true h9, decide_eq_true ⟨by omega, h9⟩]
  · rw [decide_eq_false h9, decide_eq_false (fun x => h9 x.2)]
set_option maxRecDepth 100000 in
set_option maxHeartbeats 1600000 in
/-- Where a box stands, of a right chunk. -/
theorem boxat_any (h : InC w C) (r : Rgt C.ck) (cell : Int) : Calls Tryd.prog 31 #[C.val, .int .i64 cell] w fun e w' =>
    ∃ k : Nat, e = .returned (.tuple #[.int .i64 (k : Int), .bool (hasB C.cs cell)]) ∧ AtB (chs 0 C.cs) cell k ∧ Fr No w w' := by
  obtain ⟨-, -, hn3, -⟩ := h.small r
  have HB : Hid (∀ W, Fr No w W → Calls Tryd.prog 54 #[.slice C.A3 C.n3 C.c3, .int .i64 cell, .func (.func 55) #[] #[]] W fun e w' =>
      ∃ k : Nat, e = .returned (.tuple #[.int .i64 (k : Int), .bool (hasB C.cs cell)]) ∧ AtB (chs 0 C.cs) cell k ∧ Fr No W w') := Lib.hid (fun W hW => (bsearch_any (h.rd.no hW).r3 (by omega) C.c3 cell r.bsort).mono (fun e w' ⟨k, h1, h2, h3⟩ => by
    rw [r.cells] at h2
    refine ⟨k, ?_, h2, h3⟩
    rw [h1, ← hasB_at h2]
    have hl : (chs 0 C.cs).length = C.bs.length := by rw [← r.cells, List.length_map]
    have e : (if h : k < C.bs.length then decide (C.bs[k].cell = cell) else false) = (if h : k < (chs 0 C.cs).length then decide ((chs 0 C.cs)[k] = cell) else false) := by
      by_cases hk : k < C.bs.length
      · rw [dif_pos hk, dif_pos (by omega)]
        have : (chs 0 C.cs)[k]'(by omega) = C.bs[k].cell := by
          have e := r.cells
          have : (C.bs.map Bx.cell)[k]'(by rw [List.length_map]; exact hk) = C.bs[k].cell := List.getElem_map _
          rw [← this]
          congr 1
          exact e.symm
        rw [this]
      · rw [dif_neg hk, dif_neg (by omega)]
    rw [e]))
  obtain ⟨q, hq⟩ : ∃ q, hasB C.cs cell = q := ⟨_, rfl⟩
  obtain ⟨cq, hcq⟩ : ∃ q, chs 0 C.cs = q := ⟨_, rfl⟩
  rw [hq, hcq] at HB ⊢
  clear hq hcq h r
  obtain ⟨x, y, A1, n1, c1, cs, A2, n2, c2, hps, A3, n3, c3, bs⟩ := C
  dsimp only [Ch.val] at *
  have HF0 := Lib.hid (Fr.alloc No w (.cells #[.int .i64 x, .int .i64 y, .slice A1 n1 c1, .slice A2 n2 c2, .slice A3 n3 c3] 26))
  go_enter Tryd.func31, Tryd.ntmps31
  go_wp2_with (refine (HB.out _ HF0.out).mono ?_; rintro e w2 ⟨k, rfl, hk, hf⟩; have HK := Lib.hid hk; have HF2 := Lib.hid hf; clear hk hf)
  refine bodyPost_ret (results_tmp2 rfl _ _ _) rfl ?_
  exact ⟨k, rfl, HK.out, HF0.out.no_trans HF2.out⟩
/-- What Box leaves. -/
def BoxP (w : World) (q : Bool) (ql : List (Nat × Int)) (e : Ending) (w' : World) : Prop :=
  ∃ A n c l, e = .returned (.tuple #[.slice A n c, .bool q]) ∧ l = (if q then ql else []) ∧ n = l.length ∧ OwS w.heap.size w' (.slice A n c) l ∧ Fr No w w'
set_option maxRecDepth 100000 in
set_option maxHeartbeats 1600000 in
/-- Box, of a right chunk. -/
theorem box_any (ht : ItT w) (h : InC w C) (hr : rgtC C.ck = true) (cell : Int) : Calls Tryd.prog 16 #[C.val, .int .i64 cell] w (BoxP w (hasB C.cs cell) (bagAt C.ck.bs cell)) := by
  have r := rgt_iff.1 hr
  obtain ⟨-, -, hn3, -⟩ := h.small r
  have HN6 := Lib.hid (h.small r).2.2.2
  have HBA := Lib.hid (fun W (hW : Fr No w W) => boxat_any (h.no hW) r cell)
  have HRT : Hid (∀ W, Fr No w W → Calls Tryd.prog 9 #[C.val] W fun e w' => e = .returned (.bool true) ∧ Fr No W w') := Lib.hid (fun W hW => by
    have := cright_any (ht.no hW) (h.no hW).rd h.bt h.sm h.cap
    rw [hr] at this
    exact this)
  have HX3 := Lib.hid (fun W (hW : Fr No w W) => (h.rd.no hW).r3)
  have HL3 := Lib.hid h.rd.r3.1
  have HCE := Lib.hid r.cells
  have HSR := Lib.hid r.srt
  have HAT : Hid (∀ k, AtB (chs 0 C.cs) cell k → hasB C.cs cell = true → ∃ hk : k < C.bs.length, bagAt C.ck.bs cell = C.bs[k].l) := Lib.hid (fun k hk hb => by
    rw [← hasB_at hk] at hb
    split at hb
    · rename_i hl
      have hlb : (chs 0 C.cs).length = C.bs.length := by rw [← r.cells, List.length_map]
      have hkb : k < C.bs.length := by omega
      refine ⟨hkb, ?_⟩
      have e1 : (chs 0 C.cs)[k] = C.bs[k].cell := by
        have : (C.bs.map Bx.cell)[k]'(by rw [List.length_map]; exact hkb) = C.bs[k].cell := List.getElem_map _
        rw [← this]
        congr 1
        exact r.cells.symm
      have e2 : C.bs[k].cell = cell := by rw [← e1]; exact of_decide_eq_true hb
      have := bagAt_mem r.srt (b := C.bs[k].bp) (List.mem_map_of_mem (List.getElem_mem hkb))
      rw [← e2]
      exact this
    · cases hb)
  obtain ⟨q, hq⟩ : ∃ q, hasB C.cs cell = q := ⟨_, rfl⟩
  obtain ⟨ql, hql⟩ : ∃ q, bagAt C.ck.bs cell = q := ⟨_, rfl⟩
  obtain ⟨cq, hcq⟩ : ∃ q, chs 0 C.cs = q := ⟨_, rfl⟩
  rw [hq, hql, hcq] at HAT
  rw [hq, hcq] at HBA
  rw [hq, hql]
  clear hq hql hcq ht h hr r HCE HSR
  obtain ⟨x, y, A1, n1, c1, cs, A2, n2, c2, hps, A3, n3, c3, bs⟩ := C
  dsimp only [Ch.val] at *
  have hb1 := heap_alloc_new w (.cells #[.int .i64 x, .int .i64 y, .slice A1 n1 c1, .slice A2 n2 c2, .slice A3 n3 c3] 26)
  have HF := Lib.hid (Fr.alloc No w (.cells #[.int .i64 x, .int .i64 y, .slice A1 n1 c1, .slice A2 n2 c2, .slice A3 n3 c3] 26))
  go_enter Tryd.func16, Tryd.ntmps16
  go_upto_region 1 with fail
  obtain ⟨D, hD⟩ : ∃ D, w.heap.size = D := ⟨_, rfl⟩
  rw [hD] at hb1 ⊢
  generalize w.alloc (.cells #[.int .i64 x, .int .i64 y, .slice A1 n1 c1, .slice A2 n2 c2, .slice A3 n3 c3] 26) = w1 at *
  have HB1 := Lib.hid hb1
  obtain ⟨g0, g1, g2, g3, g4⟩ := cells5 hb1
  clear hb1
  go_wp2_with fail
  refine (HBA.out _ HF.out).mono ?_
  rintro e w2 ⟨k, rfl, hk, hf⟩
  have HFa := Lib.hid hf
  have HAK := Lib.hid (HAT.out k hk)
  clear hf hk HAT HBA g0 g1 g2 g3 g4
  obtain ⟨g0, g1, g2, g3, g4⟩ := cells5 (blk_no HFa.out HB1.out)
  cases q with
  | false =>
    go_wp2_with fail
    refine bodyPost_ret (results_tmp2 rfl _ _ _) rfl ?_
    exact ⟨none, 0, 0, [], rfl, rfl, rfl, OwS.nil _ _, HF.out.no_trans HFa.out⟩
  | true =>
    obtain ⟨hkb, hbag⟩ := HAK.out rfl
    have HBG := Lib.hid hbag
    go_wp2_with fail
    refine (HRT.out _ (HF.out.no_trans HFa.out)).mono ?_
    rintro e w3 ⟨rfl, hf⟩
    have HFb := Lib.hid (HFa.out.no_trans hf)
    clear hf g0 g1 g2 g3 g4 HRT
    obtain ⟨g0, g1, g2, g3, g4⟩ := cells5 (blk_no HFb.out HB1.out)
    obtain ⟨b, o, rfl, _, hc⟩ := (HX3.out w3 (HF.out.no_trans HFb.out)).2 (by have := HL3.out; omega)
    obtain ⟨y0, y1, y2⟩ := hc k hkb
    rw [Addr.add_lit] at y1
    have HR := Lib.hid (fresh_sl (w := w3) (rds_rc y2) (slC_one _) bs[k].c (show bs[k].n ≤ 1000000 by have := HN6.out _ (List.getElem_mem hkb); omega))
    have HLK : Hid (bs[k].l.length = bs[k].n) := Lib.hid y2.1
    have hkn : (k : Int) < (n3 : Int) := by have := HL3.out; omega
    have hk0 : (0 : Int) ≤ (k : Int) := by omega
    clear hc y0 y2 hbag
    generalize bs[k].A = bA at *
    generalize bs[k].n = bn at *
    generalize bs[k].c = bcp at *
    generalize bs[k].l = bl at *
    go_wp2_with (refine HR.out.mono ?_; rintro e w4 ⟨A', c', rfl, ho, hf⟩; have HO := Lib.hid ho; have HFc := Lib.hid (HFb.out.no_trans hf); clear ho hf)
    refine bodyPost_ret (results_tmp2 rfl _ _ _) rfl ?_
    refine ⟨A', bn, c', bl, rfl, by rw [HBG.out]; rfl, HLK.out.symm, ?_, HF.out.no_trans HFc.out⟩
    have ho := HO.out
    unfold OwS
    rw [HLK.out]
    exact own_low ho (HF.out.no_trans HFb.out).size
end
end Go.Proofs.YtefopgdmadgheaaDoor

/-
  Set of any cell of a right chunk. No statement of the seat is proved here.
-/
import Derived.Test.YtefopgdmadgheaaDoorChQ
namespace Go.Proofs.YtefopgdmadgheaaDoor
open Go.RowKit Go.Deep

section
variable {w w' : World} {lo : Nat} {C : Ch}
set_option maxRecDepth 100000 in
set_option maxHeartbeats 6400000 in
theorem set_any (ht : ItT w) (h : InC w C) (hr : rgtC C.ck = true) (cell : Int) {i : Nat} (hi : i < 256) : Calls Tryd.prog 13 #[C.val, .int .i64 cell, .int .u8 (i : Int)] w
    (CkE w (setL C.ck cell i) (setE C.ck cell i)) := by
  have r := rgt_iff.1 hr
  obtain ⟨hn1, -, hn3, -⟩ := h.small r
  have HN1 := Lib.hid hn1
  clear hn1
  have HOW := Lib.hid (fun W (hW : Fr No w W) => own_x (h.no hW) r)
  have HRT : Hid (∀ W, Fr No w W → Calls Tryd.prog 9 #[C.val] W fun e w' => e = .returned (.bool true) ∧ Fr No W w') := Lib.hid (fun W hW => by
    have := cright_any (ht.no hW) (h.no hW).rd h.bt h.sm h.cap
    rw [hr] at this
    exact this)
  have HBA := Lib.hid (fun W (hW : Fr No w W) => boxat_any (h.no hW) r cell)
  have HPL := Lib.hid (fun W => isplace_any (w := W) cell)
  have HMB := Lib.hid (fun W (hW : Fr No w W) => maybe_any (ht.no hW) hi)
  have HIE := Lib.hid (fun W (hW : Fr No w W) A n c l (hx : RdS W A n l) (hb : By l) (hn : n ≤ 9223372036854775807) => isempty_any (ht.no hW) hx hb c hn)
  have HLT := Lib.hid (fun k (hk : AtB (chs 0 C.cs) cell k) hq => hasB_lt hk hq)
  have HCE := Lib.hid r.cells
  have HL3 := Lib.hid h.rd.r3.1
  have HL1 : Hid (C.cs.length = C.n1) := Lib.hid h.rd.r1.1
  have HX3 := Lib.hid (fun W (hW : Fr No w W) => (h.rd.no hW).r3)
  have HB3y := Lib.hid h.bt.b3
  have HS4 := Lib.hid h.sm.s4
  have HBM := Lib.hid (fun b (hb : b ∈ C.ck.bs) => bagAt_mem r.srt hb)
  have HPUT := Lib.hid (fun (a k : Nat) (ha : a < C.ck.cs.length) (hk : AtB (chs 0 C.ck.cs) (a : Int) k) => boxes_put r ha i hk)
  have HEE : Hid (∀ p m q b, plcC cell = p → mayC i = m → hasB C.cs cell = q → (bagAt C.ck.bs cell).any someC = b → setE C.ck cell i = if p = false then 102 else if m = false then 100 else if (q && b) = true then 104 else 0) := Lib.hid (fun p m q b h1 h2 h3 h4 => by subst h1 h2 h3 h4; rfl)
  have HLL : Hid (∀ x, setE C.ck cell i = x → setL C.ck cell i = if x = 0 then { C.ck with cs := C.ck.cs.set cell.toNat i, bs := boxes (C.ck.cs.set cell.toNat i) (upB C.ck.bs cell rep6) } else C.ck) := Lib.hid (fun x hx => by unfold setL; rw [hx])
  obtain ⟨E, hE⟩ : ∃ E, setE C.ck cell i = E := ⟨_, rfl⟩
  obtain ⟨L, hL⟩ : ∃ L, setL C.ck cell i = L := ⟨_, rfl⟩
  have HLL2 := Lib.hid (HLL.out E hE)
  rw [hE] at HEE ⊢
  rw [hL] at HLL2 ⊢
  obtain ⟨p, hp⟩ : ∃ p, plcC cell = p := ⟨_, rfl⟩
  obtain ⟨m, hm⟩ : ∃ m, mayC i = m := ⟨_, rfl⟩
  obtain ⟨q, hq⟩ : ∃ q, hasB C.cs cell = q := ⟨_, rfl⟩
  obtain ⟨b, hb⟩ : ∃ b, (bagAt C.ck.bs cell).any someC = b := ⟨_, rfl⟩
  have HEQ := Lib.hid (HEE.out p m q b hp hm hq hb)
  have HCELL : Hid (p = true → ∃ a : Nat, cell = (a : Int) ∧ a < 64) := Lib.hid (fun hpt => by
    subst hpt
    unfold plcC at hp
    simp at hp
    exact ⟨cell.toNat, by omega, by omega⟩)
  have HK : Hid (∀ k, AtB (chs 0 C.cs) cell k → k ≤ C.bs.length ∧ (q = true → ∃ hk : k < C.bs.length, (C.bs[k].l.any someC) = b)) := Lib.hid (fun k hk => by
    have hlb : (chs 0 C.cs).length = C.bs.length := by rw [← HCE.out, List.length_map]
    refine ⟨by have := hk.1; omega, fun hpt => ?_⟩
    subst hpt
    obtain ⟨h1, h2⟩ := HLT.out k hk hq
    have hkb : k < C.bs.length := by omega
    refine ⟨hkb, ?_⟩
    have e0 : (C.bs.map Bx.cell)[k]'(by rw [List.length_map]; omega) = C.bs[k].cell := List.getElem_map _
    have e1 : C.bs[k].cell = cell := by
      rw [← e0, ← h2]
      congr 1
    have := HBM.out C.bs[k].bp (List.mem_map_of_mem (List.getElem_mem hkb))
    have e2 : bagAt C.ck.bs cell = C.bs[k].l := by rw [← e1]; exact this
    rw [← hb, e2])
  rw [hp] at HPL
  rw [hm] at HMB
  rw [hq] at HBA
  have HPUT2 : Hid (∀ (a k : Nat), cell = (a : Int) → a < 64 → AtB (chs 0 C.cs) cell k → C.ck.bs.take k ++ ((if i = 9 then [(cell, rep6)] else []) ++ C.ck.bs.drop (k + if q then 1 else 0)) = boxes (C.ck.cs.set cell.toNat i) (upB C.ck.bs cell rep6)) := Lib.hid (fun a k hc ha hk => by
    subst hc
    have := HPUT.out a k (by have := r.cl; omega) hk
    have e : hasB C.ck.cs (a : Int) = q := hq
    rw [e] at this
    exact this)
  obtain ⟨cq, hcq⟩ : ∃ q, chs 0 C.cs = q := ⟨_, rfl⟩
  rw [hcq] at HK HBA HPUT2
  clear HLL HEE hE hL hp hq hm hb ht h hr r HLT HCE HBM HPUT hcq
  obtain ⟨x, y, A1, n1, c1, cs, A2, n2, c2, hps, A3, n3, c3, bs⟩ := C
  dsimp only [Ch.val, Ch.ck] at *
  have hb1 := heap_alloc_new w (.cells #[.int .i64 x, .int .i64 y, .slice A1 n1 c1, .slice A2 n2 c2, .slice A3 n3 c3] 26)
  have f1 := Fr.alloc No w (.cells #[.int .i64 x, .int .i64 y, .slice A1 n1 c1, .slice A2 n2 c2, .slice A3 n3 c3] 26)
  have hb3 := heap_alloc_new (w.alloc (.cells #[.int .i64 x, .int .i64 y, .slice A1 n1 c1, .slice A2 n2 c2, .slice A3 n3 c3] 26)) (.cells #[.int .i64 0, .int .i64 0, .slice none 0 0, .slice none 0 0, .slice none 0 0] 26)
  have f3 := Fr.alloc No (w.alloc (.cells #[.int .i64 x, .int .i64 y, .slice A1 n1 c1, .slice A2 n2 c2, .slice A3 n3 c3] 26)) (.cells #[.int .i64 0, .int .i64 0, .slice none 0 0, .slice none 0 0, .slice none 0 0] 26)
  rw [World.size_alloc] at hb3
  replace hb1 := blk_no f3 hb1
  have HF := Lib.hid (f1.no_trans f3)
  clear f1 f3
  go_enter Tryd.func13, Tryd.ntmps13
  go_upto_region 1 with fail
  obtain ⟨D, hD⟩ : ∃ D, w.heap.size = D := ⟨_, rfl⟩
  rw [hD] at hb1 hb3 ⊢
  generalize (w.alloc (.cells #[.int .i64 x, .int .i64 y, .slice A1 n1 c1, .slice A2 n2 c2, .slice A3 n3 c3] 26)).alloc (.cells #[.int .i64 0, .int .i64 0, .slice none 0 0, .slice none 0 0, .slice none 0 0] 26) = w1 at *
  obtain ⟨g0, g1, g2, g3, g4⟩ := cells5 hb1
  have HB1 := Lib.hid hb1
  have HB3 := Lib.hid hb3
  clear hb1 hb3
  go_wp2_with fail
  refine (HOW.out _ HF.out).mono ?_
  rintro e w2 ⟨B1, d1, B2, d2, B3, d3, bk, rfl, hbp, ho, hf⟩
  have HB3o : Hid (w2.heap[D + 1]? = some (.cells #[.int .i64 0, .int .i64 0, .slice none 0 0, .slice none 0 0, .slice none 0 0] 26 (0, 0))) := Lib.hid (blk_no hf HB3.out)
  have HO2 := Lib.hid ho
  have HBP := Lib.hid hbp
  have HF2 := Lib.hid (HF.out.no_trans hf)
  have HF12 := Lib.hid hf
  clear g0 g1 g2 g3 g4 ho hbp hf HOW
  have hb4 := heap_alloc_new w2 (.cells #[.int .i64 x, .int .i64 y, .slice B1 n1 d1, .slice B2 n2 d2, .slice B3 n3 d3] 26)
  have f4 := Fr.alloc No w2 (.cells #[.int .i64 x, .int .i64 y, .slice B1 n1 d1, .slice B2 n2 d2, .slice B3 n3 d3] 26)
  have hb1 := blk_no (HF12.out.no_trans f4) HB1.out
  have hb3 := blk_no (HF12.out.no_trans f4) HB3.out
  have HSZ := Lib.hid (HF2.out.size)
  have HF3 := Lib.hid (HF2.out.no_trans f4)
  have HO3 := Lib.hid ((HO2.out.low HF.out.size).no f4)
  go_upto_region 2 with fail
  obtain ⟨G, hG⟩ : ∃ G, w2.heap.size = G := ⟨_, rfl⟩
  rw [hG] at hb4 ⊢
  generalize w2.alloc (.cells #[.int .i64 x, .int .i64 y, .slice B1 n1 d1, .slice B2 n2 d2, .slice B3 n3 d3] 26) = w3 at *
  clear HB1 HB3 HF12 HO2 f4
  have HB1 := Lib.hid hb1
  have HB3 := Lib.hid hb3
  have HB4 := Lib.hid hb4
  have hGR : D + 1 ≠ G := by
    have h1 := (Array.getElem?_eq_some_iff.1 HB3o.out).1
    omega
  obtain ⟨g0, g1, g2, g3, g4⟩ := cells5 hb1
  clear hb1 hb3 hb4
  go_wp2_with fail
  refine (HBA.out _ HF3.out).mono ?_
  rintro e w4 ⟨k, rfl, hk, hf⟩
  have HFa := Lib.hid hf
  have HKK := Lib.hid (HK.out k hk)
  have HPT := Lib.hid (fun a hc ha => HPUT2.out a k hc ha hk)
  clear hf g0 g1 g2 g3 g4 HBA HK HPUT2 hk
  obtain ⟨g0, g1, g2, g3, g4⟩ := cells5 (blk_no HFa.out HB1.out)
  go_wp2_with fail
  refine (HRT.out _ (HF3.out.no_trans HFa.out)).mono ?_
  rintro e w5 ⟨rfl, hf⟩
  have HFb := Lib.hid (HFa.out.no_trans hf)
  clear hf HFa g0 g1 g2 g3 g4 HRT
  have HEND : Hid (∀ W x0, Fr No w3 W → L = ⟨x, y, cs, hps, bs.map Bx.bp⟩ → CkE w L x0 (.returned (.tuple #[.agg #[.int .i64 x, .int .i64 y, .slice B1 n1 d1, .slice B2 n2 d2, .slice B3 n3 d3], .int .i64 x0])) (set5 W (D + 1) (.int .i64 x) (.int .i64 y) (.slice B1 n1 d1) (.slice B2 n2 d2) (.slice B3 n3 d3))) := Lib.hid (fun W x0 hW hL => by
    refine ⟨⟨x, y, B1, n1, d1, cs, B2, n2, d2, hps, B3, n3, d3, bk⟩, rfl, ?_, ?_, ?_⟩
    · rw [hL, ← HBP.out]; rfl
    · exact ((HO3.out.no hW).at_ (blk_no hW HB3.out) (set5_fr W _ _ _ _ _ _))
    · exact (HF3.out.no_trans hW).then_new (set5_fr W _ _ _ _ _ _) (fun i hi => by have e : i = D + 1 := hi; rw [e, hD]; omega))
  go_wp2_with fail
  refine (HPL.out _).mono ?_
  rintro e w6 ⟨rfl, hf⟩
  have HFc := Lib.hid (HFb.out.no_trans hf)
  clear hf HFb HPL
  cases p with
  | false =>
    have e1 : E = 102 := by rw [HEQ.out]; rfl
    have e2 : L = ⟨x, y, cs, hps, bs.map Bx.bp⟩ := by rw [HLL2.out, e1]; rfl
    obtain ⟨k0, k1, k2, k3, k4⟩ := cells5 (blk_no HFc.out HB4.out)
    obtain ⟨r0, r1, r2, r3, r4⟩ := cells5 (blk_no HFc.out HB3.out)
    obtain ⟨z0, z1, z2, z3, z4⟩ := free5 (blk_no HFc.out HB3.out)
    have HE := Lib.hid (HEND.out w6 E HFc.out e2)
    have HR := Lib.hid (set5_heap (blk_no HFc.out HB3.out) (.int .i64 x) (.int .i64 y) (.slice B1 n1 d1) (.slice B2 n2 d2) (.slice B3 n3 d3))
    subst e1
    clear HEQ HLL2 e2
    go_wp2_with fail
    refine bodyPost_ret (results_cell_tmp_rowC (p := 6) rfl _ _ (D + 1) 26 #[.int .i64 x, .int .i64 y, .slice B1 n1 d1, .slice B2 n2 d2, .slice B3 n3 d3] (0, 0) _ rfl HR.out Tryd.underlying26 rfl (by kernel_rfl)) rfl ?_
    exact HE.out
  | true =>
    obtain ⟨a, rfl, ha⟩ := HCELL.out (by first | rfl | trivial)
    go_wp2_with fail
    refine (HMB.out _ (HF3.out.no_trans HFc.out)).mono ?_
    rintro e w7 ⟨rfl, hf⟩
    have HFd := Lib.hid (HFc.out.no_trans hf)
    clear hf HFc HMB
    cases m with
    | false =>
      have e1 : E = 100 := by rw [HEQ.out]; rfl
      have e2 : L = ⟨x, y, cs, hps, bs.map Bx.bp⟩ := by rw [HLL2.out, e1]; rfl
      obtain ⟨k0, k1, k2, k3, k4⟩ := cells5 (blk_no HFd.out HB4.out)
      obtain ⟨r0, r1, r2, r3, r4⟩ := cells5 (blk_no HFd.out HB3.out)
      obtain ⟨z0, z1, z2, z3, z4⟩ := free5 (blk_no HFd.out HB3.out)
      have HE := Lib.hid (HEND.out w7 E HFd.out e2)
      have HR := Lib.hid (set5_heap (blk_no HFd.out HB3.out) (.int .i64 x) (.int .i64 y) (.slice B1 n1 d1) (.slice B2 n2 d2) (.slice B3 n3 d3))
      subst e1
      clear HEQ HLL2 e2
      go_wp2_with fail
      refine bodyPost_ret (results_cell_tmp_rowC (p := 6) rfl _ _ (D + 1) 26 #[.int .i64 x, .int .i64 y, .slice B1 n1 d1, .slice B2 n2 d2, .slice B3 n3 d3] (0, 0) _ rfl HR.out Tryd.underlying26 rfl (by kernel_rfl)) rfl ?_
      exact HE.out
    | true =>
      have HPT2 := Lib.hid (HPT.out a rfl ha)
      cases q with
      | true =>
        obtain ⟨hkb, hkc⟩ := HKK.out.2 (by first | rfl | trivial)
        obtain ⟨bb, o, hA3, _, hc⟩ := (HX3.out w7 (HF3.out.no_trans HFd.out)).2 (by have := HL3.out; omega)
        subst hA3
        obtain ⟨y0, y1, y2⟩ := hc k hkb
        rw [Addr.add_lit] at y1
        have HIS := Lib.hid (HIE.out w7 (HF3.out.no_trans HFd.out) _ _ bs[k].c _ y2 (HB3y.out _ (List.mem_map_of_mem (List.getElem_mem hkb))) (HS4.out _ (List.getElem_mem hkb)))
        rw [hkc] at HIS
        have hkn : (k : Int) < (n3 : Int) := by have := HL3.out; omega
        have hk0 : (0 : Int) ≤ (k : Int) := by omega
        have g4 := (blk_cell (blk_no HFd.out HB1.out) 4).trans (by simp : _ = some (.slice (some ⟨bb, o, none⟩) n3 c3))
        clear hc y0 y2 HX3
        generalize bs[k].A = bA at *
        generalize bs[k].n = bn at *
        generalize bs[k].c = bcp at *
        go_wp2_with fail
        refine HIS.out.mono ?_
        rintro e w8 ⟨rfl, hf⟩
        have HFe := Lib.hid (HFd.out.no_trans hf)
        clear hf y1 g4 HIS HFd
        cases b with
        | true =>
          have e1 : E = 104 := by rw [HEQ.out]; rfl
          have e2 : L = ⟨x, y, cs, hps, bs.map Bx.bp⟩ := by rw [HLL2.out, e1]; rfl
          obtain ⟨k0, k1, k2, k3, k4⟩ := cells5 (blk_no HFe.out HB4.out)
          obtain ⟨r0, r1, r2, r3, r4⟩ := cells5 (blk_no HFe.out HB3.out)
          obtain ⟨z0, z1, z2, z3, z4⟩ := free5 (blk_no HFe.out HB3.out)
          have HE := Lib.hid (HEND.out w8 E HFe.out e2)
          have HR := Lib.hid (set5_heap (blk_no HFe.out HB3.out) (.int .i64 x) (.int .i64 y) (.slice B1 n1 d1) (.slice B2 n2 d2) (.slice B3 n3 d3))
          subst e1
          clear HEQ HLL2 e2
          go_wp2_with fail
          refine bodyPost_ret (results_cell_tmp_rowC (p := 6) rfl _ _ (D + 1) 26 #[.int .i64 x, .int .i64 y, .slice B1 n1 d1, .slice B2 n2 d2, .slice B3 n3 d3] (0, 0) _ rfl HR.out Tryd.underlying26 rfl (by kernel_rfl)) rfl ?_
          exact HE.out
        | false =>
          have e1 : E = 0 := by rw [HEQ.out]; rfl
          have HO8 := Lib.hid (HO3.out.no HFe.out)
          obtain ⟨g1, hg1, hg1lo, hfz, ⟨uu, huu⟩, ⟨cur1, hcur1⟩, hset⟩ := HO8.out.setc (a := a) (show a < n1 by have := HN1.out; omega) HL1.out
          dsimp only at hg1 hset
          subst hg1
          have hb4 := blk_no HFe.out HB4.out
          have hb3 := blk_no HFe.out HB3.out
          have hg1G : ¬ G = g1 := fun e => by
            rw [← e, hb4] at hcur1
            injection hcur1 with hcur1
            injection hcur1 with _ hcur1 _
            exact absurd hcur1 (by decide)
          have hg1R : ¬ D + 1 = g1 := fun e => by
            rw [← e, hb3] at hcur1
            injection hcur1 with hcur1
            injection hcur1 with _ hcur1 _
            exact absurd hcur1 (by decide)
          obtain ⟨ho9, hf9⟩ := hset i
          have HO9 := Lib.hid ho9
          have HF9 := Lib.hid ((HF3.out.no_trans HFe.out).then_new hf9 (fun j hj => by have e : j = g1 := hj; rw [e]; exact hg1lo))
          have HG9 := Lib.hid (hf9.blk hb4 hg1G)
          have HR9 := Lib.hid (hf9.blk hb3 hg1R)
          obtain ⟨k0, k1, k2, k3, k4⟩ := cells5 hb4
          have ha1 : (a : Int) < (n1 : Int) := by have := HN1.out; omega
          have ha0 : (0 : Int) ≤ (a : Int) := by omega
          clear hset ho9 hf9 hcur1 hb4 hb3 hg1G hg1R
          go_upto_region 12 with fail
          generalize w8.setCell ⟨g1, a, none⟩ (.int .u8 (i : Int)) = w9 at *
          clear k0 k1 k2 k3 k4 hfz huu HO8 HB1 HB3 HB4 HFe HO3
          obtain ⟨k0, k1, k2, k3, k4⟩ := cells5 HG9.out
          have hwk : IntKind.i64.wrap ((k : Int) + 1) = (k : Int) + 1 := by rw [IntKind.wrap_i64]; have := HL3.out; omega
          have HDEL := Lib.hid (delete_any (w := w9) HO9.out.o3 (bxL_one _) (show k < n3 by have := HL3.out; omega) (show n3 ≤ 1000 by omega))
          have HKN : Hid (k < n3) := Lib.hid (by have := HL3.out; omega)
          clear hkb hkc
          go_wp2_with fail
          refine HDEL.out.mono ?_
          rintro e w10 ⟨rfl, ho10, hf10⟩
          have HO10 : Hid (OwC w.heap.size w10 ⟨x, y, some ⟨g1, 0, none⟩, n1, d1, cs.set a i, B2, n2, d2, hps, B3, n3 - 1, d3, bk.take k ++ bk.drop (k + 1)⟩) := Lib.hid (OwC.bx3 (C := ⟨x, y, some ⟨g1, 0, none⟩, n1, d1, cs.set a i, B2, n2, d2, hps, B3, n3, d3, bk⟩) HO9.out hf10 (by rw [bxL_append, ← bxL_take, ← bxL_drop, show (k + 1) * 2 = k * 2 + 2 by omega]; exact ho10) (fun b hb => by
            left
            rcases List.mem_append.1 hb with h | h
            · exact List.mem_of_mem_take h
            · exact List.mem_of_mem_drop h))
          have HF10 := Lib.hid (HF9.out.then_new hf10 (fun j hj => (HO9.out.o3.lt j hj).1))
          have hg10 := hf10.blk HG9.out (own_not HO9.out.o3 HG9.out (by decide))
          have hr10 := hf10.blk HR9.out (own_not HO9.out.o3 HR9.out (by decide))
          clear ho10 hf10 HDEL HO9 HF9 HG9 HR9 k0 k1 k2 k3 k4
          have q4 : Fr (fun j => j = G) w10 (w10.setCell ⟨G, 4, none⟩ (.slice B3 (n3 - 1) d3)) := Fr.setCell _ _ _ rfl
          have HO11 := Lib.hid (HO10.out.at_ hg10 q4)
          have HF11 := Lib.hid (HF10.out.then_new q4 (fun j hj => by have e : j = G := hj; rw [e, ← hG]; exact HSZ.out))
          have HR11 := Lib.hid (q4.blk hr10 hGR)
          have HG11 : Hid ((w10.setCell ⟨G, 4, none⟩ (.slice B3 (n3 - 1) d3)).heap[G]? = some (.cells #[.int .i64 x, .int .i64 y, .slice (some ⟨g1, 0, none⟩) n1 d1, .slice B2 n2 d2, .slice B3 (n3 - 1) d3] 26 (0, 0))) := Lib.hid (by rw [heap_cells_set _ G 4 _ _ _ hg10]; rfl)
          obtain ⟨k0, k1, k2, k3, k4⟩ := cells5 hg10
          obtain ⟨y0, y1, y2, y3, y4⟩ := free5 hg10
          go_upto_region 14 with fail
          clear hg10 hr10 q4 k0 k1 k2 k3 k4 y0 y1 y2 y3 y4 HF10 HO10
          generalize w10.setCell ⟨G, 4, none⟩ (.slice B3 (n3 - 1) d3) = w11 at *
          obtain ⟨bl, hbl⟩ : ∃ l, bk.take k ++ bk.drop (k + 1) = l := ⟨_, rfl⟩
          obtain ⟨M, hM⟩ : ∃ M, n3 - 1 = M := ⟨_, rfl⟩
          have HBL : Hid ((bl.take k).map Bx.bp = (bs.map Bx.bp).take k ∧ (bl.drop k).map Bx.bp = (bs.map Bx.bp).drop (k + 1) ∧ k ≤ M ∧ M ≤ 1000) := Lib.hid (by
            have hlk : bk.length = n3 := by
              have e := congrArg List.length HBP.out
              rw [List.length_map, List.length_map] at e
              have := HL3.out
              omega
            have ht : (bk.take k).length = k := by rw [List.length_take]; have := HKN.out; omega
            rw [← hbl, ← HBP.out]
            refine ⟨?_, ?_, by have := HKN.out; omega, by omega⟩
            · rw [List.take_append_of_le_length (by omega), List.take_take, Nat.min_self, List.map_take]
            · rw [List.drop_append, List.drop_of_length_le (by omega), List.nil_append, ht, Nat.sub_self, List.drop_zero, List.map_drop])
          rw [hbl, hM] at HO11
          rw [hM] at HG11
          rw [hM]
          obtain ⟨k0, k1, k2, k3, k4⟩ := cells5 HG11.out
          have hE0 := e1
          subst hE0
          clear HEQ HEND
          by_cases h9 : i = 9
          · have e2 : L = ⟨x, y, cs.set a i, hps, (bl.take k).map Bx.bp ++ (((a : Int), rep6) :: (bl.drop k).map Bx.bp)⟩ := by
              rw [HLL2.out, HBL.out.1, HBL.out.2.1]
              show Ck.mk x y (cs.set a i) hps (boxes (cs.set a i) (upB (bs.map Bx.bp) (a : Int) rep6)) = _
              have hp := HPT2.out
              rw [if_pos h9] at hp
              exact congrArg (Ck.mk x y (cs.set a i) hps) hp.symm
            have HLF := Lib.hid e2
            have hi9 : ((i : Int) == 9) = true := by rw [h9]; rfl
            have HINS : Hid (∀ W b, Fr No w11 W → OwS w.heap.size W (.slice (some ⟨b, 0, none⟩) 6 6) rep6 → Calls Tryd.prog 35 #[.slice B3 M d3, .int .i64 (k : Int), .slice (some ⟨W.heap.size, 0, none⟩) 1 1] (W.alloc (.cells #[.int .i64 (a : Int), .slice (some ⟨b, 0, none⟩) 6 6] 49)) (fun e w' => ∃ A' c', e = .returned (.slice A' (M + 1) c') ∧ OwC w.heap.size w' ⟨x, y, some ⟨g1, 0, none⟩, n1, d1, cs.set a i, B2, n2, d2, hps, A', M + 1, c', bl.take k ++ (⟨(a : Int), some ⟨b, 0, none⟩, 6, 6, rep6⟩ :: bl.drop k)⟩ ∧ Fr No w w' ∧ w'.heap[G]? = some (.cells #[.int .i64 x, .int .i64 y, .slice (some ⟨g1, 0, none⟩) n1 d1, .slice B2 n2 d2, .slice B3 M d3] 26 (0, 0)) ∧ w'.heap[D + 1]? = some (.cells #[.int .i64 0, .int .i64 0, .slice none 0 0, .slice none 0 0, .slice none 0 0] 26 (0, 0)))) := Lib.hid (fun W b hW hob => by
              have hfa := Fr.alloc No W (.cells #[.int .i64 (a : Int), .slice (some ⟨b, 0, none⟩) 6 6] 49)
              have hvn := heap_alloc_new W (.cells #[.int .i64 (a : Int), .slice (some ⟨b, 0, none⟩) 6 6] 49)
              have hoW := HO11.out.no hW
              have hov := hoW.no hfa
              have hgv := blk_no (hW.no_trans hfa) HG11.out
              have hrv := blk_no (hW.no_trans hfa) HR11.out
              refine (insert_any (w := W.alloc (.cells #[.int .i64 (a : Int), .slice (some ⟨b, 0, none⟩) 6 6] 49)) hov.o3 (bxL_one _) HBL.out.2.2.1 HBL.out.2.2.2 ((HF11.out.no_trans hW).no_trans hfa).size hvn (fun e => by have := (hoW.o3.lt _ e).2; omega) rfl rfl).mono ?_
              rintro e w' ⟨A', c', rfl, ho, hf⟩
              refine ⟨A', c', rfl, ?_, ((HF11.out.no_trans hW).no_trans hfa).then_new hf (fun j hj => (hov.o3.lt j hj).1), hf.blk hgv (own_not hov.o3 hgv (by decide)), hf.blk hrv (own_not hov.o3 hrv (by decide))⟩
              refine OwC.bx3 (C := ⟨x, y, some ⟨g1, 0, none⟩, n1, d1, cs.set a i, B2, n2, d2, hps, B3, M, d3, bl⟩) hov hf (bs' := bl.take k ++ (⟨(a : Int), some ⟨b, 0, none⟩, 6, 6, rep6⟩ :: bl.drop k)) (by
                rw [bxL_append, ← bxL_take]
                show w'.ownsRow _ _ _ _ _ ((bxL bl).take (k * 2) ++ ([Value.int .i64 (a : Int), .slice (some ⟨b, 0, none⟩) 6 6] ++ bxL (bl.drop k)))
                rw [← bxL_drop]
                exact ho) (fun bb hb => ?_)
              rcases List.mem_append.1 hb with h | h
              · exact .inl (List.mem_of_mem_take h)
              · rcases List.mem_cons.1 h with rfl | h
                · exact .inr ⟨rfl, hob.no hfa⟩
                · exact .inl (List.mem_of_mem_drop h))
            have HNEW : Hid (∀ W, Fr No w11 W → Calls Tryd.prog 36 #[.int .i64 6] W fun e w' => ∃ b, e = .returned (.slice (some ⟨b, 0, none⟩) 6 6) ∧ OwS w.heap.size w' (.slice (some ⟨b, 0, none⟩) 6 6) rep6 ∧ Fr No W w') := Lib.hid (fun W hW => new6_any.mono (fun e w' ⟨b, h1, h2, h3⟩ => ⟨b, h1, own_low h2 ((HF11.out.no_trans hW).size), h3⟩))
            have HFIN : Hid (∀ A' c' b W, OwC w.heap.size W ⟨x, y, some ⟨g1, 0, none⟩, n1, d1, cs.set a i, B2, n2, d2, hps, A', M + 1, c', bl.take k ++ (⟨(a : Int), some ⟨b, 0, none⟩, 6, 6, rep6⟩ :: bl.drop k)⟩ → Fr No w W → W.heap[G]? = some (.cells #[.int .i64 x, .int .i64 y, .slice (some ⟨g1, 0, none⟩) n1 d1, .slice B2 n2 d2, .slice B3 M d3] 26 (0, 0)) → W.heap[D + 1]? = some (.cells #[.int .i64 0, .int .i64 0, .slice none 0 0, .slice none 0 0, .slice none 0 0] 26 (0, 0)) →
                CkE w L 0 (.returned (.tuple #[.agg #[.int .i64 x, .int .i64 y, .slice (some ⟨g1, 0, none⟩) n1 d1, .slice B2 n2 d2, .slice A' (M + 1) c'], .int .i64 0])) (set5 (W.setCell ⟨G, 4, none⟩ (.slice A' (M + 1) c')) (D + 1) (.int .i64 x) (.int .i64 y) (.slice (some ⟨g1, 0, none⟩) n1 d1) (.slice B2 n2 d2) (.slice A' (M + 1) c')) ∧
                (set5 (W.setCell ⟨G, 4, none⟩ (.slice A' (M + 1) c')) (D + 1) (.int .i64 x) (.int .i64 y) (.slice (some ⟨g1, 0, none⟩) n1 d1) (.slice B2 n2 d2) (.slice A' (M + 1) c')).heap[D + 1]? = some (.cells #[.int .i64 x, .int .i64 y, .slice (some ⟨g1, 0, none⟩) n1 d1, .slice B2 n2 d2, .slice A' (M + 1) c'] 26 (0, 0))) := Lib.hid (fun A' c' b W ho hf hg hr => by
              have q : Fr (fun j => j = G) W (W.setCell ⟨G, 4, none⟩ (.slice A' (M + 1) c')) := Fr.setCell _ _ _ rfl
              exact fin_c (Cf := ⟨x, y, some ⟨g1, 0, none⟩, n1, d1, cs.set a i, B2, n2, d2, hps, A', M + 1, c', bl.take k ++ (⟨(a : Int), some ⟨b, 0, none⟩, 6, 6, rep6⟩ :: bl.drop k)⟩) (ho.at_ hg q) (q.blk hr hGR) (hf.then_new q (fun j hj => by have e : j = G := hj; rw [e, ← hG]; exact HSZ.out)) (by rw [hD]; omega) (by rw [HLF.out]; show Ck.mk x y (cs.set a i) hps ((bl.take k ++ (⟨(a : Int), some ⟨b, 0, none⟩, 6, 6, rep6⟩ :: bl.drop k)).map Bx.bp) = _; rw [List.map_append]; rfl) 0)
            clear h9 e2 HLL2 HPT2 HPT
            go_upto_region 15 with fail
            have HDR := Lib.hid (Fr.drew No w11)
            have HKG : Hid (∀ W, Fr No w11 W → W.cell? ⟨G, 4, none⟩ = some (.slice B3 M d3)) := Lib.hid (fun W hW => (blk_cell (blk_no hW HG11.out) 4).trans (by simp))
            have kd4 := HKG.out _ HDR.out
            clear k0 k1 k2 k3
            go_region_with (first
              | (go_at_call 36; refine (HNEW.out _ HDR.out).mono ?_; rintro e w12 ⟨b, rfl, ho, hf⟩; have HO12 := Lib.hid ho; have HF12 := Lib.hid (HDR.out.no_trans hf); have ke4 := HKG.out _ HF12.out; have kf4 := HKG.out _ (HF12.out.no_trans (Fr.alloc No w12 (.cells #[.int .i64 (a : Int), .slice (some ⟨b, 0, none⟩) 6 6] 49))); clear ho hf)
              | (go_at_call 35; refine (HINS.out _ _ HF12.out HO12.out).mono ?_; rintro e w13 ⟨A', c', rfl, ho, hf, hg, hr⟩; have HFI := Lib.hid (HFIN.out A' c' b w13 ho hf hg hr); obtain ⟨k0, k1, k2, k3, k4⟩ := cells5 hg; obtain ⟨r0, r1, r2, r3, r4⟩ := cells5 hr; obtain ⟨z0, z1, z2, z3, z4⟩ := free5 hr; obtain ⟨y0, y1, y2, y3, y4⟩ := free5 hg; clear ho hf hg hr))
            all_goals (
              go_wp2_with fail
              refine bodyPost_ret (results_cell_tmp_rowC (p := 6) rfl _ _ (D + 1) 26 #[.int .i64 x, .int .i64 y, .slice (some ⟨g1, 0, none⟩) n1 d1, .slice B2 n2 d2, .slice A' (M + 1) c'] (0, 0) _ rfl HFI.out.2 Tryd.underlying26 rfl (by kernel_rfl)) rfl ?_
              exact HFI.out.1)
          · have e2 : L = ⟨x, y, cs.set a i, hps, bl.map Bx.bp⟩ := by
              rw [HLL2.out]
              show Ck.mk x y (cs.set a i) hps (boxes (cs.set a i) (upB (bs.map Bx.bp) (a : Int) rep6)) = _
              have hp := HPT2.out
              rw [if_neg h9] at hp
              have e3 : bl.map Bx.bp = (bs.map Bx.bp).take k ++ ([] ++ (bs.map Bx.bp).drop (k + 1)) := by
                rw [← HBL.out.1, List.nil_append, ← HBL.out.2.1, ← List.map_append, List.take_append_drop]
              rw [e3]
              exact congrArg (Ck.mk x y (cs.set a i) hps) hp.symm
            have hi9 : ((i : Int) == 9) = false := by rw [beq_eq_false_iff_ne]; omega
            have HFI := Lib.hid (fin_c (Cf := ⟨x, y, some ⟨g1, 0, none⟩, n1, d1, cs.set a i, B2, n2, d2, hps, B3, M, d3, bl⟩) HO11.out HR11.out HF11.out (by rw [hD]; omega) e2.symm 0)
            obtain ⟨r0, r1, r2, r3, r4⟩ := cells5 HR11.out
            obtain ⟨z0, z1, z2, z3, z4⟩ := free5 HR11.out
            clear h9 e2 HLL2 HPT2 HPT
            go_wp2_with fail
            refine bodyPost_ret (results_cell_tmp_rowC (p := 6) rfl _ _ (D + 1) 26 #[.int .i64 x, .int .i64 y, .slice (some ⟨g1, 0, none⟩) n1 d1, .slice B2 n2 d2, .slice B3 M d3] (0, 0) _ rfl HFI.out.2 Tryd.underlying26 rfl (by kernel_rfl)) rfl ?_
            exact HFI.out.1
      | false =>
        have e1 : E = 0 := by rw [HEQ.out]; rfl
        have HO8 := Lib.hid (HO3.out.no HFd.out)
        obtain ⟨g1, hg1, hg1lo, hfz, ⟨uu, huu⟩, ⟨cur1, hcur1⟩, hset⟩ := HO8.out.setc (a := a) (show a < n1 by have := HN1.out; omega) HL1.out
        dsimp only at hg1 hset
        subst hg1
        have hb4 := blk_no HFd.out HB4.out
        have hb3 := blk_no HFd.out HB3.out
        have hg1G : ¬ G = g1 := fun e => by
          rw [← e, hb4] at hcur1
          injection hcur1 with hcur1
          injection hcur1 with _ hcur1 _
          exact absurd hcur1 (by decide)
        have hg1R : ¬ D + 1 = g1 := fun e => by
          rw [← e, hb3] at hcur1
          injection hcur1 with hcur1
          injection hcur1 with _ hcur1 _
          exact absurd hcur1 (by decide)
        obtain ⟨ho9, hf9⟩ := hset i
        have HO9 := Lib.hid ho9
        have HF9 := Lib.hid ((HF3.out.no_trans HFd.out).then_new hf9 (fun j hj => by have e : j = g1 := hj; rw [e]; exact hg1lo))
        have HG9 := Lib.hid (hf9.blk hb4 hg1G)
        have HR9 := Lib.hid (hf9.blk hb3 hg1R)
        obtain ⟨k0, k1, k2, k3, k4⟩ := cells5 hb4
        have ha1 : (a : Int) < (n1 : Int) := by have := HN1.out; omega
        have ha0 : (0 : Int) ≤ (a : Int) := by omega
        clear hset ho9 hf9 hcur1 hb4 hb3 hg1G hg1R
        go_upto_region 12 with fail
        generalize w7.setCell ⟨g1, a, none⟩ (.int .u8 (i : Int)) = w9 at *
        clear k0 k1 k2 k3 k4 hfz huu HO8 HB1 HB3 HB4 HFd HO3
        obtain ⟨k0, k1, k2, k3, k4⟩ := cells5 HG9.out
        have HO11 := HO9
        have HF11 := HF9
        have HG11 := HG9
        have HR11 := HR9
        clear HO9 HF9 HG9 HR9
        go_upto_region 14 with fail
        clear k0 k1 k2 k3 k4
        obtain ⟨bl, hbl⟩ : ∃ l, l = bk := ⟨_, rfl⟩
        obtain ⟨M, hM⟩ : ∃ M, M = n3 := ⟨_, rfl⟩
        have HBL : Hid ((bl.take k).map Bx.bp = (bs.map Bx.bp).take k ∧ (bl.drop k).map Bx.bp = (bs.map Bx.bp).drop (k + 0) ∧ k ≤ M ∧ M ≤ 1000) := Lib.hid (by
          rw [hbl, hM, ← HBP.out]
          refine ⟨by rw [List.map_take], by rw [List.map_drop, Nat.add_zero], by have := HL3.out; have := HKK.out.1; omega, by omega⟩)
        subst hbl hM
        obtain ⟨w11, hw11⟩ : ∃ W, W = w9 := ⟨_, rfl⟩
        subst hw11
        obtain ⟨k0, k1, k2, k3, k4⟩ := cells5 HG11.out
        have hE0 := e1
        subst hE0
        clear HEQ HEND
        by_cases h9 : i = 9
        · have e2 : L = ⟨x, y, cs.set a i, hps, (bl.take k).map Bx.bp ++ (((a : Int), rep6) :: (bl.drop k).map Bx.bp)⟩ := by
            rw [HLL2.out, HBL.out.1, HBL.out.2.1]
            show Ck.mk x y (cs.set a i) hps (boxes (cs.set a i) (upB (bs.map Bx.bp) (a : Int) rep6)) = _
            have hp := HPT2.out
            rw [if_pos h9] at hp
            exact congrArg (Ck.mk x y (cs.set a i) hps) hp.symm
          have HLF := Lib.hid e2
          have hi9 : ((i : Int) == 9) = true := by rw [h9]; rfl
          have HINS : Hid (∀ W b, Fr No w11 W → OwS w.heap.size W (.slice (some ⟨b, 0, none⟩) 6 6) rep6 → Calls Tryd.prog 35 #[.slice B3 M d3, .int .i64 (k : Int), .slice (some ⟨W.heap.size, 0, none⟩) 1 1] (W.alloc (.cells #[.int .i64 (a : Int), .slice (some ⟨b, 0, none⟩) 6 6] 49)) (fun e w' => ∃ A' c', e = .returned (.slice A' (M + 1) c') ∧ OwC w.heap.size w' ⟨x, y, some ⟨g1, 0, none⟩, n1, d1, cs.set a i, B2, n2, d2, hps, A', M + 1, c', bl.take k ++ (⟨(a : Int), some ⟨b, 0, none⟩, 6, 6, rep6⟩ :: bl.drop k)⟩ ∧ Fr No w w' ∧ w'.heap[G]? = some (.cells #[.int .i64 x, .int .i64 y, .slice (some ⟨g1, 0, none⟩) n1 d1, .slice B2 n2 d2, .slice B3 M d3] 26 (0, 0)) ∧ w'.heap[D + 1]? = some (.cells #[.int .i64 0, .int .i64 0, .slice none 0 0, .slice none 0 0, .slice none 0 0] 26 (0, 0)))) := Lib.hid (fun W b hW hob => by
            have hfa := Fr.alloc No W (.cells #[.int .i64 (a : Int), .slice (some ⟨b, 0, none⟩) 6 6] 49)
            have hvn := heap_alloc_new W (.cells #[.int .i64 (a : Int), .slice (some ⟨b, 0, none⟩) 6 6] 49)
            have hoW := HO11.out.no hW
            have hov := hoW.no hfa
            have hgv := blk_no (hW.no_trans hfa) HG11.out
            have hrv := blk_no (hW.no_trans hfa) HR11.out
            refine (insert_any (w := W.alloc (.cells #[.int .i64 (a : Int), .slice (some ⟨b, 0, none⟩) 6 6] 49)) hov.o3 (bxL_one _) HBL.out.2.2.1 HBL.out.2.2.2 ((HF11.out.no_trans hW).no_trans hfa).size hvn (fun e => by have := (hoW.o3.lt _ e).2; omega) rfl rfl).mono ?_
            rintro e w' ⟨A', c', rfl, ho, hf⟩
            refine ⟨A', c', rfl, ?_, ((HF11.out.no_trans hW).no_trans hfa).then_new hf (fun j hj => (hov.o3.lt j hj).1), hf.blk hgv (own_not hov.o3 hgv (by decide)), hf.blk hrv (own_not hov.o3 hrv (by decide))⟩
            refine OwC.bx3 (C := ⟨x, y, some ⟨g1, 0, none⟩, n1, d1, cs.set a i, B2, n2, d2, hps, B3, M, d3, bl⟩) hov hf (bs' := bl.take k ++ (⟨(a : Int), some ⟨b, 0, none⟩, 6, 6, rep6⟩ :: bl.drop k)) (by
              rw [bxL_append, ← bxL_take]
              show w'.ownsRow _ _ _ _ _ ((bxL bl).take (k * 2) ++ ([Value.int .i64 (a : Int), .slice (some ⟨b, 0, none⟩) 6 6] ++ bxL (bl.drop k)))
              rw [← bxL_drop]
              exact ho) (fun bb hb => ?_)
            rcases List.mem_append.1 hb with h | h
            · exact .inl (List.mem_of_mem_take h)
            · rcases List.mem_cons.1 h with rfl | h
              · exact .inr ⟨rfl, hob.no hfa⟩
              · exact .inl (List.mem_of_mem_drop h))
          have HNEW : Hid (∀ W, Fr No w11 W → Calls Tryd.prog 36 #[.int .i64 6] W fun e w' => ∃ b, e = .returned (.slice (some ⟨b, 0, none⟩) 6 6) ∧ OwS w.heap.size w' (.slice (some ⟨b, 0, none⟩) 6 6) rep6 ∧ Fr No W w') := Lib.hid (fun W hW => new6_any.mono (fun e w' ⟨b, h1, h2, h3⟩ => ⟨b, h1, own_low h2 ((HF11.out.no_trans hW).size), h3⟩))
          have HFIN : Hid (∀ A' c' b W, OwC w.heap.size W ⟨x, y, some ⟨g1, 0, none⟩, n1, d1, cs.set a i, B2, n2, d2, hps, A', M + 1, c', bl.take k ++ (⟨(a : Int), some ⟨b, 0, none⟩, 6, 6, rep6⟩ :: bl.drop k)⟩ → Fr No w W → W.heap[G]? = some (.cells #[.int .i64 x, .int .i64 y, .slice (some ⟨g1, 0, none⟩) n1 d1, .slice B2 n2 d2, .slice B3 M d3] 26 (0, 0)) → W.heap[D + 1]? = some (.cells #[.int .i64 0, .int .i64 0, .slice none 0 0, .slice none 0 0, .slice none 0 0] 26 (0, 0)) →
              CkE w L 0 (.returned (.tuple #[.agg #[.int .i64 x, .int .i64 y, .slice (some ⟨g1, 0, none⟩) n1 d1, .slice B2 n2 d2, .slice A' (M + 1) c'], .int .i64 0])) (set5 (W.setCell ⟨G, 4, none⟩ (.slice A' (M + 1) c')) (D + 1) (.int .i64 x) (.int .i64 y) (.slice (some ⟨g1, 0, none⟩) n1 d1) (.slice B2 n2 d2) (.slice A' (M + 1) c')) ∧
              (set5 (W.setCell ⟨G, 4, none⟩ (.slice A' (M + 1) c')) (D + 1) (.int .i64 x) (.int .i64 y) (.slice (some ⟨g1, 0, none⟩) n1 d1) (.slice B2 n2 d2) (.slice A' (M + 1) c')).heap[D + 1]? = some (.cells #[.int .i64 x, .int .i64 y, .slice (some ⟨g1, 0, none⟩) n1 d1, .slice B2 n2 d2, .slice A' (M + 1) c'] 26 (0, 0))) := Lib.hid (fun A' c' b W ho hf hg hr => by
            have q : Fr (fun j => j = G) W (W.setCell ⟨G, 4, none⟩ (.slice A' (M + 1) c')) := Fr.setCell _ _ _ rfl
            exact fin_c (Cf := ⟨x, y, some ⟨g1, 0, none⟩, n1, d1, cs.set a i, B2, n2, d2, hps, A', M + 1, c', bl.take k ++ (⟨(a : Int), some ⟨b, 0, none⟩, 6, 6, rep6⟩ :: bl.drop k)⟩) (ho.at_ hg q) (q.blk hr hGR) (hf.then_new q (fun j hj => by have e : j = G := hj; rw [e, ← hG]; exact HSZ.out)) (by rw [hD]; omega) (by rw [HLF.out]; show Ck.mk x y (cs.set a i) hps ((bl.take k ++ (⟨(a : Int), some ⟨b, 0, none⟩, 6, 6, rep6⟩ :: bl.drop k)).map Bx.bp) = _; rw [List.map_append]; rfl) 0)
          clear h9 e2 HLL2 HPT2 HPT
          go_upto_region 15 with fail
          have HDR := Lib.hid (Fr.drew No w11)
          have HKG : Hid (∀ W, Fr No w11 W → W.cell? ⟨G, 4, none⟩ = some (.slice B3 M d3)) := Lib.hid (fun W hW => (blk_cell (blk_no hW HG11.out) 4).trans (by simp))
          have kd4 := HKG.out _ HDR.out
          clear k0 k1 k2 k3
          go_region_with (first
            | (go_at_call 36; refine (HNEW.out _ HDR.out).mono ?_; rintro e w12 ⟨b, rfl, ho, hf⟩; have HO12 := Lib.hid ho; have HF12 := Lib.hid (HDR.out.no_trans hf); have ke4 := HKG.out _ HF12.out; have kf4 := HKG.out _ (HF12.out.no_trans (Fr.alloc No w12 (.cells #[.int .i64 (a : Int), .slice (some ⟨b, 0, none⟩) 6 6] 49))); clear ho hf)
            | (go_at_call 35; refine (HINS.out _ _ HF12.out HO12.out).mono ?_; rintro e w13 ⟨A', c', rfl, ho, hf, hg, hr⟩; have HFI := Lib.hid (HFIN.out A' c' b w13 ho hf hg hr); obtain ⟨k0, k1, k2, k3, k4⟩ := cells5 hg; obtain ⟨r0, r1, r2, r3, r4⟩ := cells5 hr; obtain ⟨z0, z1, z2, z3, z4⟩ := free5 hr; obtain ⟨y0, y1, y2, y3, y4⟩ := free5 hg; clear ho hf hg hr))
          all_goals (
            go_wp2_with fail
            refine bodyPost_ret (results_cell_tmp_rowC (p := 6) rfl _ _ (D + 1) 26 #[.int .i64 x, .int .i64 y, .slice (some ⟨g1, 0, none⟩) n1 d1, .slice B2 n2 d2, .slice A' (M + 1) c'] (0, 0) _ rfl HFI.out.2 Tryd.underlying26 rfl (by kernel_rfl)) rfl ?_
            exact HFI.out.1)
        · have e2 : L = ⟨x, y, cs.set a i, hps, bl.map Bx.bp⟩ := by
            rw [HLL2.out]
            show Ck.mk x y (cs.set a i) hps (boxes (cs.set a i) (upB (bs.map Bx.bp) (a : Int) rep6)) = _
            have hp := HPT2.out
            rw [if_neg h9] at hp
            have e3 : bl.map Bx.bp = (bs.map Bx.bp).take k ++ ([] ++ (bs.map Bx.bp).drop (k + 0)) := by
              rw [← HBL.out.1, List.nil_append, ← HBL.out.2.1, ← List.map_append, List.take_append_drop]
            rw [e3]
            exact congrArg (Ck.mk x y (cs.set a i) hps) hp.symm
          have hi9 : ((i : Int) == 9) = false := by rw [beq_eq_false_iff_ne]; omega
          have HFI := Lib.hid (fin_c (Cf := ⟨x, y, some ⟨g1, 0, none⟩, n1, d1, cs.set a i, B2, n2, d2, hps, B3, M, d3, bl⟩) HO11.out HR11.out HF11.out (by rw [hD]; omega) e2.symm 0)
          obtain ⟨r0, r1, r2, r3, r4⟩ := cells5 HR11.out
          obtain ⟨z0, z1, z2, z3, z4⟩ := free5 HR11.out
          clear h9 e2 HLL2 HPT2 HPT
          go_wp2_with fail
          refine bodyPost_ret (results_cell_tmp_rowC (p := 6) rfl _ _ (D + 1) 26 #[.int .i64 x, .int .i64 y, .slice (some ⟨g1, 0, none⟩) n1 d1, .slice B2 n2 d2, .slice B3 M d3] (0, 0) _ rfl HFI.out.2 Tryd.underlying26 rfl (by kernel_rfl)) rfl ?_
          exact HFI.out.1
end
end Go.Proofs.YtefopgdmadgheaaDoor

/-
  Drop of any heap on a right chunk. No statement of the seat is proved here.
-/
import Derived.Test.YtefopgdmadgheaaDoorChI
namespace Go.Proofs.YtefopgdmadgheaaDoor
open Go.RowKit Go.Deep

/-- What Drop tells. -/
def dropE (d : Ck) (cell : Int) (s : Nat × Int) : Int := if plcC cell = false then 102 else if someC s = false then 111 else if d.hs.length = 32 then 104 else 0
def dropL (d : Ck) (cell : Int) (s : Nat × Int) : Ck := if dropE d cell s = 0 then { d with hs := d.hs ++ [(cell, s)] } else d
section
variable {w w' : World} {lo : Nat} {C : Ch}
/-- What a call leaves that answers a chunk and a number. -/
def CkE (w : World) (d : Ck) (x : Int) (e : Ending) (w' : World) : Prop := ∃ D : Ch, e = .returned (.tuple #[D.val, .int .i64 x]) ∧ D.ck = d ∧ OwC w.heap.size w' D ∧ Fr No w w'
set_option maxRecDepth 100000 in
set_option maxHeartbeats 3200000 in
theorem drop_any (ht : ItT w) (h : InC w C) (hr : rgtC C.ck = true) (cell : Int) {s : Nat} (hs : s < 256) (m : Int) : Calls Tryd.prog 11 #[C.val, .int .i64 cell, .agg #[.int .u8 (s : Int), .int .i64 m]] w
    (CkE w (dropL C.ck cell (s, m)) (dropE C.ck cell (s, m))) := by
  have r := rgt_iff.1 hr
  obtain ⟨-, hn2, -, -⟩ := h.small r
  have HOW := Lib.hid (fun W (hW : Fr No w W) => own_x (h.no hW) r)
  have HRT : Hid (∀ W, Fr No w W → Calls Tryd.prog 9 #[C.val] W fun e w' => e = .returned (.bool true) ∧ Fr No W w') := Lib.hid (fun W hW => by
    have := cright_any (ht.no hW) (h.no hW).rd h.bt h.sm h.cap
    rw [hr] at this
    exact this)
  have HPL := Lib.hid (fun W => isplace_any (w := W) cell)
  have HSM := Lib.hid (fun W (hW : Fr No w W) => issome_any (ht.no hW) hs m)
  have HL2 : Hid (C.hs.length = C.n2) := Lib.hid h.rd.r2.1
  have HEE : Hid (∀ p q, plcC cell = p → someC (s, m) = q → dropE C.ck cell (s, m) = if p = false then 102 else if q = false then 111 else if C.n2 = 32 then 104 else 0) := Lib.hid (fun p q h1 h2 => by subst h1 h2; unfold dropE; rw [show C.ck.hs.length = C.n2 from h.rd.r2.1])
  have HLL : Hid (∀ x, dropE C.ck cell (s, m) = x → dropL C.ck cell (s, m) = if x = 0 then { C.ck with hs := C.ck.hs ++ [(cell, (s, m))] } else C.ck) := Lib.hid (fun x hx => by unfold dropL; rw [hx])
  obtain ⟨E, hE⟩ : ∃ E, dropE C.ck cell (s, m) = E := ⟨_, rfl⟩
  obtain ⟨L, hL⟩ : ∃ L, dropL C.ck cell (s, m) = L := ⟨_, rfl⟩
  have HLL2 := Lib.hid (HLL.out E hE)
  rw [hE] at HEE ⊢
  rw [hL] at HLL2 ⊢
  obtain ⟨p, hp⟩ : ∃ p, plcC cell = p := ⟨_, rfl⟩
  obtain ⟨q, hq⟩ : ∃ q, someC (s, m) = q := ⟨_, rfl⟩
  have HEQ := Lib.hid (HEE.out p q hp hq)
  rw [hp] at HPL
  rw [hq] at HSM
  clear HLL HEE hE hL hp hq ht h hr r
  obtain ⟨x, y, A1, n1, c1, cs, A2, n2, c2, hps, A3, n3, c3, bs⟩ := C
  dsimp only [Ch.val, Ch.ck] at *
  -- the three blocks of the call's own variables
  have hb1 := heap_alloc_new w (.cells #[.int .i64 x, .int .i64 y, .slice A1 n1 c1, .slice A2 n2 c2, .slice A3 n3 c3] 26)
  have f1 := Fr.alloc No w (.cells #[.int .i64 x, .int .i64 y, .slice A1 n1 c1, .slice A2 n2 c2, .slice A3 n3 c3] 26)
  have hb2 := heap_alloc_new (w.alloc (.cells #[.int .i64 x, .int .i64 y, .slice A1 n1 c1, .slice A2 n2 c2, .slice A3 n3 c3] 26)) (.cells #[.int .u8 (s : Int), .int .i64 m] 29)
  have f2 := Fr.alloc No (w.alloc (.cells #[.int .i64 x, .int .i64 y, .slice A1 n1 c1, .slice A2 n2 c2, .slice A3 n3 c3] 26)) (.cells #[.int .u8 (s : Int), .int .i64 m] 29)
  have hb3 := heap_alloc_new ((w.alloc (.cells #[.int .i64 x, .int .i64 y, .slice A1 n1 c1, .slice A2 n2 c2, .slice A3 n3 c3] 26)).alloc (.cells #[.int .u8 (s : Int), .int .i64 m] 29)) (.cells #[.int .i64 0, .int .i64 0, .slice none 0 0, .slice none 0 0, .slice none 0 0] 26)
  have f3 := Fr.alloc No ((w.alloc (.cells #[.int .i64 x, .int .i64 y, .slice A1 n1 c1, .slice A2 n2 c2, .slice A3 n3 c3] 26)).alloc (.cells #[.int .u8 (s : Int), .int .i64 m] 29)) (.cells #[.int .i64 0, .int .i64 0, .slice none 0 0, .slice none 0 0, .slice none 0 0] 26)
  rw [World.size_alloc] at hb2
  rw [World.size_alloc, World.size_alloc] at hb3
  replace hb2 := blk_no f3 hb2
  replace hb1 := blk_no (f2.no_trans f3) hb1
  have HF := Lib.hid (f1.no_trans (f2.no_trans f3))
  clear f1 f2 f3
  go_enter Tryd.func11, Tryd.ntmps11
  go_upto_region 1 with fail
  obtain ⟨D, hD⟩ : ∃ D, w.heap.size = D := ⟨_, rfl⟩
  rw [hD] at hb1 hb2 hb3 ⊢
  generalize ((w.alloc (.cells #[.int .i64 x, .int .i64 y, .slice A1 n1 c1, .slice A2 n2 c2, .slice A3 n3 c3] 26)).alloc (.cells #[.int .u8 (s : Int), .int .i64 m] 29)).alloc (.cells #[.int .i64 0, .int .i64 0, .slice none 0 0, .slice none 0 0, .slice none 0 0] 26) = w1 at *
  obtain ⟨g0, g1, g2, g3, g4⟩ := cells5 hb1
  have HB1 := Lib.hid hb1
  have HB2 := Lib.hid hb2
  have HB3 := Lib.hid hb3
  clear hb1 hb2 hb3
  go_wp2_with fail
  refine (HOW.out _ HF.out).mono ?_
  rintro e w2 ⟨B1, d1, B2, d2, B3, d3, bk, rfl, hbp, ho, hf⟩
  have HB3o : Hid (w2.heap[D + 1 + 1]? = some (.cells #[.int .i64 0, .int .i64 0, .slice none 0 0, .slice none 0 0, .slice none 0 0] 26 (0, 0))) := Lib.hid (blk_no hf HB3.out)
  have HO2 := Lib.hid ho
  have HBP := Lib.hid hbp
  have HF2 := Lib.hid (HF.out.no_trans hf)
  have HF12 := Lib.hid hf
  clear g0 g1 g2 g3 g4 ho hbp hf HOW
  have hb4 := heap_alloc_new w2 (.cells #[.int .i64 x, .int .i64 y, .slice B1 n1 d1, .slice B2 n2 d2, .slice B3 n3 d3] 26)
  have f4 := Fr.alloc No w2 (.cells #[.int .i64 x, .int .i64 y, .slice B1 n1 d1, .slice B2 n2 d2, .slice B3 n3 d3] 26)
  have hb1 := blk_no (HF12.out.no_trans f4) HB1.out
  have hb2 := blk_no (HF12.out.no_trans f4) HB2.out
  have hb3 := blk_no (HF12.out.no_trans f4) HB3.out
  have HSZ := Lib.hid (HF2.out.size)
  have HF3 := Lib.hid (HF2.out.no_trans f4)
  have HO3 := Lib.hid (HO2.out.no f4)
  go_upto_region 2 with fail
  obtain ⟨G, hG⟩ : ∃ G, w2.heap.size = G := ⟨_, rfl⟩
  rw [hG] at hb4 ⊢
  generalize w2.alloc (.cells #[.int .i64 x, .int .i64 y, .slice B1 n1 d1, .slice B2 n2 d2, .slice B3 n3 d3] 26) = w3 at *
  clear HB1 HB2 HB3 HF12 HO2 f4
  have HB1 := Lib.hid hb1
  have HB2 := Lib.hid hb2
  have HB3 := Lib.hid hb3
  have HB4 := Lib.hid hb4
  obtain ⟨g0, g1, g2, g3, g4⟩ := cells5 hb1
  clear hb1 hb2 hb3 hb4
  go_wp2_with fail
  refine (HRT.out _ HF3.out).mono ?_
  rintro e w4 ⟨rfl, hf⟩
  have HFa := Lib.hid hf
  clear hf g0 g1 g2 g3 g4
  go_wp2_with fail
  refine (HPL.out _).mono ?_
  rintro e w5 ⟨rfl, hf⟩
  have HFb := Lib.hid (HFa.out.no_trans hf)
  clear hf HFa
  -- what each end wants
  have HEND : Hid (∀ W x0, Fr No w3 W → L = ⟨x, y, cs, hps, bs.map Bx.bp⟩ → CkE w L x0 (.returned (.tuple #[.agg #[.int .i64 x, .int .i64 y, .slice B1 n1 d1, .slice B2 n2 d2, .slice B3 n3 d3], .int .i64 x0])) (set5 W (D + 1 + 1) (.int .i64 x) (.int .i64 y) (.slice B1 n1 d1) (.slice B2 n2 d2) (.slice B3 n3 d3))) := Lib.hid (fun W x0 hW hL => by
    refine ⟨⟨x, y, B1, n1, d1, cs, B2, n2, d2, hps, B3, n3, d3, bk⟩, rfl, ?_, ?_, ?_⟩
    · rw [hL, ← HBP.out]; rfl
    · exact (((HO3.out.low HF.out.size).no hW).at_ (blk_no hW HB3.out) (set5_fr W _ _ _ _ _ _))
    · exact (HF3.out.no_trans hW).then_new (set5_fr W _ _ _ _ _ _) (fun i hi => by have e : i = D + 1 + 1 := hi; rw [e, hD]; omega))
  cases p with
  | false =>
    have e1 : E = 102 := by rw [HEQ.out]; rfl
    have e2 : L = ⟨x, y, cs, hps, bs.map Bx.bp⟩ := by rw [HLL2.out, e1]; rfl
    obtain ⟨k0, k1, k2, k3, k4⟩ := cells5 (blk_no HFb.out HB4.out)
    obtain ⟨r0, r1, r2, r3, r4⟩ := cells5 (blk_no HFb.out HB3.out)
    obtain ⟨z0, z1, z2, z3, z4⟩ := free5 (blk_no HFb.out HB3.out)
    have HE := Lib.hid (HEND.out w5 E HFb.out e2)
    have HR := Lib.hid (set5_heap (blk_no HFb.out HB3.out) (.int .i64 x) (.int .i64 y) (.slice B1 n1 d1) (.slice B2 n2 d2) (.slice B3 n3 d3))
    subst e1
    clear HEQ HLL2 e2
    go_wp2_with fail
    refine bodyPost_ret (results_cell_tmp_rowC (p := 6) rfl _ _ (D + 1 + 1) 26 #[.int .i64 x, .int .i64 y, .slice B1 n1 d1, .slice B2 n2 d2, .slice B3 n3 d3] (0, 0) _ rfl HR.out Tryd.underlying26 rfl (by kernel_rfl)) rfl ?_
    exact HE.out
  | true =>
    have s0 := (blk_cell (blk_no HFb.out HB2.out) 0).trans (by simp : _ = some (.int .u8 (s : Int)))
    have s1 := (blk_cell (blk_no HFb.out HB2.out) 1).trans (by simp : _ = some (.int .i64 m))
    go_wp2_with fail
    refine (HSM.out _ (HF3.out.no_trans HFb.out)).mono ?_
    rintro e w6 ⟨rfl, hf⟩
    have HFc := Lib.hid (HFb.out.no_trans hf)
    clear hf HFb s0 s1
    cases q with
    | false =>
      have e1 : E = 111 := by rw [HEQ.out]; rfl
      have e2 : L = ⟨x, y, cs, hps, bs.map Bx.bp⟩ := by rw [HLL2.out, e1]; rfl
      obtain ⟨k0, k1, k2, k3, k4⟩ := cells5 (blk_no HFc.out HB4.out)
      obtain ⟨r0, r1, r2, r3, r4⟩ := cells5 (blk_no HFc.out HB3.out)
      obtain ⟨z0, z1, z2, z3, z4⟩ := free5 (blk_no HFc.out HB3.out)
      have HE := Lib.hid (HEND.out w6 E HFc.out e2)
      have HR := Lib.hid (set5_heap (blk_no HFc.out HB3.out) (.int .i64 x) (.int .i64 y) (.slice B1 n1 d1) (.slice B2 n2 d2) (.slice B3 n3 d3))
      subst e1
      clear HEQ HLL2 e2
      go_wp2_with fail
      refine bodyPost_ret (results_cell_tmp_rowC (p := 6) rfl _ _ (D + 1 + 1) 26 #[.int .i64 x, .int .i64 y, .slice B1 n1 d1, .slice B2 n2 d2, .slice B3 n3 d3] (0, 0) _ rfl HR.out Tryd.underlying26 rfl (by kernel_rfl)) rfl ?_
      exact HE.out
    | true =>
      have g3 := (blk_cell (blk_no HFc.out HB1.out) 3).trans (by simp : _ = some (.slice A2 n2 c2))
      by_cases h32 : n2 = 32
      · have h32' : ((n2 : Int) == 32) = true := by rw [h32]; rfl
        have e1 : E = 104 := by rw [HEQ.out]; rw [if_neg (by decide), if_neg (by decide), if_pos h32]
        clear h32
        have e2 : L = ⟨x, y, cs, hps, bs.map Bx.bp⟩ := by rw [HLL2.out, e1]; rfl
        obtain ⟨k0, k1, k2, k3, k4⟩ := cells5 (blk_no HFc.out HB4.out)
        obtain ⟨r0, r1, r2, r3, r4⟩ := cells5 (blk_no HFc.out HB3.out)
        obtain ⟨z0, z1, z2, z3, z4⟩ := free5 (blk_no HFc.out HB3.out)
        have HE := Lib.hid (HEND.out w6 E HFc.out e2)
        have HR := Lib.hid (set5_heap (blk_no HFc.out HB3.out) (.int .i64 x) (.int .i64 y) (.slice B1 n1 d1) (.slice B2 n2 d2) (.slice B3 n3 d3))
        subst e1
        clear HEQ HLL2 e2
        go_wp2_with fail
        refine bodyPost_ret (results_cell_tmp_rowC (p := 6) rfl _ _ (D + 1 + 1) 26 #[.int .i64 x, .int .i64 y, .slice B1 n1 d1, .slice B2 n2 d2, .slice B3 n3 d3] (0, 0) _ rfl HR.out Tryd.underlying26 rfl (by kernel_rfl)) rfl ?_
        exact HE.out
      · have h32' : ((n2 : Int) == 32) = false := by rw [beq_eq_false_iff_ne]; omega
        have e1 : E = 0 := by rw [HEQ.out]; rw [if_neg (by decide), if_neg (by decide), if_neg h32]
        have e2 : L = ⟨x, y, cs, hps ++ [(cell, s, m)], bs.map Bx.bp⟩ := by rw [HLL2.out, e1]; rfl
        obtain ⟨k0, k1, k2, k3, k4⟩ := cells5 (blk_no HFc.out HB4.out)
        have s0 := (blk_cell (blk_no HFc.out HB2.out) 0).trans (by simp : _ = some (.int .u8 (s : Int)))
        have s1 := (blk_cell (blk_no HFc.out HB2.out) 1).trans (by simp : _ = some (.int .i64 m))
        subst e1
        have HL1 : Hid (L = ⟨x, y, cs, hps ++ [(cell, s, m)], bs.map Bx.bp⟩) := Lib.hid e2
        clear HEQ HLL2 HEND e2
        have HO6 := Lib.hid ((HO3.out.low HF.out.size).no HFc.out)
        have HSZ6 : Hid (w.heap.size ≤ w6.heap.size) := Lib.hid ((HF3.out.no_trans HFc.out).size)
        have HFW := Lib.hid (HF3.out.no_trans HFc.out)
        have HB46 := Lib.hid (blk_no HFc.out HB4.out)
        have HB36 := Lib.hid (blk_no HFc.out HB3.out)
        have HN2 : Hid (n2 ≤ 100000) := Lib.hid (by omega)
        have hGR : (D + 1 + 1) ≠ G := by
          have h1 := (Array.getElem?_eq_some_iff.1 HB3o.out).1
          omega
        have HST : Hid (∀ A' c' w7, w7.ownsRow w.heap.size 63 3 (.slice A' (n2 + 1) c') (n2 + 1) (hpL hps ++ [.int .i64 cell, .int .u8 (s : Int), .int .i64 m]) → Fr (fun k => (Value.slice B2 n2 d2).ownBlock = some k) w6 w7 →
            OwC w.heap.size w7 ⟨x, y, B1, n1, d1, cs, A', n2 + 1, c', hps ++ [(cell, s, m)], B3, n3, d3, bk⟩ ∧ Fr No w w7 ∧ w7.heap[G]? = some (.cells #[.int .i64 x, .int .i64 y, .slice B1 n1 d1, .slice B2 n2 d2, .slice B3 n3 d3] 26 (0, 0)) ∧ w7.heap[D + 1 + 1]? = some (.cells #[.int .i64 0, .int .i64 0, .slice none 0 0, .slice none 0 0, .slice none 0 0] 26 (0, 0))) := Lib.hid (fun A' c' w7 ho7 hf7 => by
          refine ⟨OwC.app2 (C := ⟨x, y, B1, n1, d1, cs, B2, n2, d2, hps, B3, n3, d3, bk⟩) HO6.out hf7 (by rw [hpL_append]; exact ho7), HFW.out.then_new hf7 (fun i hi => (HO6.out.o2.lt i hi).1), hf7.blk HB46.out (own_not HO6.out.o2 HB46.out (by decide)), hf7.blk HB36.out (own_not HO6.out.o2 HB36.out (by decide))⟩)
        have HFIN : Hid (∀ A' c' w7, OwC w.heap.size w7 ⟨x, y, B1, n1, d1, cs, A', n2 + 1, c', hps ++ [(cell, s, m)], B3, n3, d3, bk⟩ → Fr No w w7 → w7.heap[G]? = some (.cells #[.int .i64 x, .int .i64 y, .slice B1 n1 d1, .slice B2 n2 d2, .slice B3 n3 d3] 26 (0, 0)) → w7.heap[D + 1 + 1]? = some (.cells #[.int .i64 0, .int .i64 0, .slice none 0 0, .slice none 0 0, .slice none 0 0] 26 (0, 0)) →
            CkE w L 0 (.returned (.tuple #[.agg #[.int .i64 x, .int .i64 y, .slice B1 n1 d1, .slice A' (n2 + 1) c', .slice B3 n3 d3], .int .i64 0])) (set5 (w7.setCell ⟨G, 3, none⟩ (.slice A' (n2 + 1) c')) (D + 1 + 1) (.int .i64 x) (.int .i64 y) (.slice B1 n1 d1) (.slice A' (n2 + 1) c') (.slice B3 n3 d3)) ∧
            (set5 (w7.setCell ⟨G, 3, none⟩ (.slice A' (n2 + 1) c')) (D + 1 + 1) (.int .i64 x) (.int .i64 y) (.slice B1 n1 d1) (.slice A' (n2 + 1) c') (.slice B3 n3 d3)).heap[D + 1 + 1]? = some (.cells #[.int .i64 x, .int .i64 y, .slice B1 n1 d1, .slice A' (n2 + 1) c', .slice B3 n3 d3] 26 (0, 0))) := Lib.hid (fun A' c' w7 ho hf hg hr => by
          have q : Fr (fun i => i = G) w7 (w7.setCell ⟨G, 3, none⟩ (.slice A' (n2 + 1) c')) := Fr.setCell _ _ _ rfl
          have hr' := q.blk hr hGR
          refine ⟨⟨⟨x, y, B1, n1, d1, cs, A', n2 + 1, c', hps ++ [(cell, s, m)], B3, n3, d3, bk⟩, rfl, ?_, (ho.at_ hg q).at_ hr' (set5_fr _ _ _ _ _ _ _), ?_⟩, set5_heap hr' _ _ _ _ _⟩
          · rw [HL1.out, ← HBP.out]; rfl
          · exact (hf.then_new q (fun i hi => by have e : i = G := hi; rw [e, ← hG]; exact HSZ.out)).then_new (set5_fr _ _ _ _ _ _ _) (fun i hi => by have e : i = D + 1 + 1 := hi; rw [e, hD]; omega))
        clear HB1 HB2 HB3 HB4 HFc HF3 HO3 HRT HPL HB36 HB46 HFW
        go_wp2_with (at_builtin; refine wpList_append_h1 (lo := w.heap.size) w6 rfl (.tmp 33) (.tmp 37) rfl rfl HO6.out.o2 cell m s rfl rfl HN2.out HSZ6.out ?_; intro A' c' w7 ho7 hf7; obtain ⟨ho8, hf8, hg8, hr8⟩ := HST.out A' c' w7 ho7 hf7; have HFI := Lib.hid (HFIN.out A' c' w7 ho8 hf8 hg8 hr8); obtain ⟨k0, k1, k2, k3, k4⟩ := cells5 hg8; obtain ⟨r0, r1, r2, r3, r4⟩ := cells5 hr8; obtain ⟨z0, z1, z2, z3, z4⟩ := free5 hr8; obtain ⟨y0, y1, y2, y3, y4⟩ := free5 hg8; clear ho7 hf7 ho8 hf8 hg8 hr8)
        refine bodyPost_ret (results_cell_tmp_rowC (p := 6) rfl _ _ (D + 1 + 1) 26 #[.int .i64 x, .int .i64 y, .slice B1 n1 d1, .slice A' (n2 + 1) c', .slice B3 n3 d3] (0, 0) _ rfl HFI.out.2 Tryd.underlying26 rfl (by kernel_rfl)) rfl ?_
        exact HFI.out.1
end
end Go.Proofs.YtefopgdmadgheaaDoor

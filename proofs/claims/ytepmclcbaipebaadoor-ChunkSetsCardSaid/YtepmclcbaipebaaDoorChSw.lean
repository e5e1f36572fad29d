/-
  The walk of ChunkSets. No statement of the seat is proved here.
-/
import Derived.Test.YtepmclcbaipebaaDoorChSm
import Derived.Test.YtepmclcbaipebaaDoorChZ
namespace Go.Proofs.YtepmclcbaipebaaDoor
open Go.RowKit Go.Deep

theorem cap_own {lo : Nat} {w : World} {C : Ch} (h : OwC lo w C) (r : Rgt C.ck) (hb : ByC C.ck) : InC w C ∧ C.n1 ≤ 100000 ∧ C.n2 ≤ 100000 ∧ C.n3 ≤ 100000 ∧ ∀ b ∈ C.bs, b.l.length ≤ 100000 := by
  have hi := h.inC hb
  obtain ⟨h1, h2, h3, _⟩ := hi.small r
  refine ⟨hi, by omega, by omega, by omega, fun b hb => ?_⟩
  have := (r.br b.bp (List.mem_map_of_mem hb)).1
  have e : b.bp.2 = b.l := rfl
  rw [e] at this
  omega
section
variable {w w' : World} {lo : Nat} {C : Ch}
theorem chawake_w3 (ht : ItT w) : ∀ W, Fr No w W → Calls Tryd.prog 9 #[] W fun e w' => e = .returned (.bool true) ∧ Fr No w w' :=
  fun _ hW => (chawake_any (ht.no hW)).mono (fun _ _ ⟨h1, h2⟩ => ⟨h1, hW.no_trans h2⟩)
set_option maxRecDepth 100000 in
set_option maxHeartbeats 60000000 in
theorem sets_walk (ht : ItT w) (h : InC w C) (x0 x1 : Int) (i0 i1 : Nat) (hi0 : i0 < 256) (hi1 : i1 < 256) : Calls Tryd.prog 5 #[C.val, .agg #[.int .i64 x0, .int .i64 x1], .agg #[.int .u8 (i0 : Int), .int .u8 (i1 : Int)]] w fun e w' => e = .returned (.bool true) ∧ Below w.heap.size w w' := by
  have HA := Lib.hid (chawake_w3 ht)
  have HGR := Lib.hid (fun W (hW : Fr No w W) => great_any (h.no hW).rd h.sm)
  have HRI := Lib.hid (fun W (hW : Fr No w W) => cright_any (ht.no hW) (h.no hW).rd h.bt h.sm h.cap)
  obtain ⟨q, hq⟩ : ∃ q, rgtC C.ck = q := ⟨_, rfl⟩
  rw [hq] at HRI
  have HCE := Lib.hid (fun W => cells_any (w := W) x0 x1)
  obtain ⟨a, ha, hal⟩ : ∃ a, pick x0 64 = a ∧ a < 64 := ⟨_, rfl, pick_lt x0 (by omega)⟩
  obtain ⟨b, hbb, hbl⟩ : ∃ b, pick x1 64 = b ∧ b < 64 := ⟨_, rfl, pick_lt x1 (by omega)⟩
  rw [ha, hbb] at HCE
  have HIN := Lib.hid h
  have HIW := Lib.hid (fun W (hW : Fr No w W) => h.no hW)
  have HR : Hid (q = true → Rgt C.ck) := Lib.hid (fun hqt => rgt_iff.1 (by rw [hq]; exact hqt))
  have HSET : Hid (∀ W (C' : Ch) (n i : Nat), Fr No w W → InC W C' → Rgt C'.ck → i < 256 → Calls Tryd.prog 17 #[C'.val, .int .i64 (n : Int), .int .u8 (i : Int)] W (CkE W (setL C'.ck (n : Int) i) (setE C'.ck (n : Int) i))) := Lib.hid (fun W C' n i hW hin r hi => set_any (ht.no hW) hin (rgt_iff.2 r) (n : Int) hi)
  have HBOX : Hid (∀ W (C' : Ch) (n : Nat), Fr No w W → InC W C' → Rgt C'.ck → Calls Tryd.prog 21 #[C'.val, .int .i64 (n : Int)] W (BoxP W (hasB C'.cs (n : Int)) (bagAt C'.ck.bs (n : Int)))) := Lib.hid (fun W C' n hW hin r => box_any (ht.no hW) hin (rgt_iff.2 r) (n : Int))
  clear ht h hq ha hbb
  obtain ⟨x, y, A1, n1, c1, cs, A2, n2, c2, hps, A3, n3, c3, bs⟩ := C
  dsimp only [Ch.val] at HGR HRI ⊢
  have hb0 := heap_alloc_new w (.cells #[.int .i64 x, .int .i64 y, .slice A1 n1 c1, .slice A2 n2 c2, .slice A3 n3 c3] 26)
  have f0 := Fr.alloc No w (.cells #[.int .i64 x, .int .i64 y, .slice A1 n1 c1, .slice A2 n2 c2, .slice A3 n3 c3] 26)
  have hb1 := heap_alloc_new (w.alloc (.cells #[.int .i64 x, .int .i64 y, .slice A1 n1 c1, .slice A2 n2 c2, .slice A3 n3 c3] 26)) (.cells #[.int .i64 x0, .int .i64 x1] 51)
  have f1 := Fr.alloc No (w.alloc (.cells #[.int .i64 x, .int .i64 y, .slice A1 n1 c1, .slice A2 n2 c2, .slice A3 n3 c3] 26)) (.cells #[.int .i64 x0, .int .i64 x1] 51)
  have hb2 := heap_alloc_new ((w.alloc (.cells #[.int .i64 x, .int .i64 y, .slice A1 n1 c1, .slice A2 n2 c2, .slice A3 n3 c3] 26)).alloc (.cells #[.int .i64 x0, .int .i64 x1] 51)) (.cells #[.int .u8 (i0 : Int), .int .u8 (i1 : Int)] 58)
  have f2 := Fr.alloc No ((w.alloc (.cells #[.int .i64 x, .int .i64 y, .slice A1 n1 c1, .slice A2 n2 c2, .slice A3 n3 c3] 26)).alloc (.cells #[.int .i64 x0, .int .i64 x1] 51)) (.cells #[.int .u8 (i0 : Int), .int .u8 (i1 : Int)] 58)
  rw [World.size_alloc] at hb1
  rw [World.size_alloc, World.size_alloc] at hb2
  replace hb1 := blk_no f2 hb1
  replace hb0 := blk_no (f1.no_trans f2) hb0
  have HF := Lib.hid (f0.no_trans (f1.no_trans f2))
  clear f0 f1 f2
  go_enter Tryd.func5, Tryd.ntmps5
  go_upto_region 1 with fail
  obtain ⟨D, hD⟩ : ∃ D, w.heap.size = D := ⟨_, rfl⟩
  rw [hD] at hb0 hb1 hb2 ⊢
  have HSW := Lib.hid hD
  clear hD
  generalize ((w.alloc (.cells #[.int .i64 x, .int .i64 y, .slice A1 n1 c1, .slice A2 n2 c2, .slice A3 n3 c3] 26)).alloc (.cells #[.int .i64 x0, .int .i64 x1] 51)).alloc (.cells #[.int .u8 (i0 : Int), .int .u8 (i1 : Int)] 58) = w1 at *
  have HB0 := Lib.hid hb0
  have HB1 := Lib.hid hb1
  have HB2 := Lib.hid hb2
  obtain ⟨g0, g1, g2, g3, g4⟩ := cells5 hb0
  clear hb0 hb1 hb2
  go_wp2_with fail
  refine (HGR.out _ HF.out).mono ?_
  rintro e w2 ⟨g, rfl, hf⟩
  have HF2 := Lib.hid (HF.out.no_trans hf)
  have HFa := Lib.hid hf
  clear hf g0 g1 g2 g3 g4 HGR
  cases g with
  | true =>
    go_wp2_with fail
    refine (HA.out _ HF2.out).mono ?_
    rintro e w3 ⟨rfl, hf⟩
    go_wp2_with fail
    go_ret
    exact ⟨rfl, hf.noBelow⟩
  | false =>
  obtain ⟨g0, g1, g2, g3, g4⟩ := cells5 (blk_no HFa.out HB0.out)
  go_wp2_with fail
  refine (HRI.out _ HF2.out).mono ?_
  rintro e w3 ⟨rfl, hf⟩
  have HF3 := Lib.hid (HF2.out.no_trans hf)
  have HFb := Lib.hid (HFa.out.no_trans hf)
  clear hf g0 g1 g2 g3 g4 HRI HFa HF2
  cases q with
  | false =>
    go_wp2_with fail
    refine (HA.out _ HF3.out).mono ?_
    rintro e w4 ⟨rfl, hf⟩
    go_wp2_with fail
    go_ret
    exact ⟨rfl, hf.noBelow⟩
  | true =>
  have HR2 := Lib.hid (HR.out rfl)
  have HCL : Hid (cs.length = 64) := Lib.hid HR2.out.cl
  have HN1 : Hid (n1 = 64) := Lib.hid (HIN.out.small HR2.out).1
  obtain ⟨bA, o, hA1, hca⟩ : ∃ bA o, A1 = some ⟨bA, o, none⟩ ∧ ∀ (W : World), Fr No w W → ∀ j (hj : j < cs.length), W.cell? ⟨bA, o + j, none⟩ = some (.int .u8 (cs[j] : Int)) := by
    obtain ⟨bA, o, hA, hlt, hc⟩ := HIN.out.rd.r1.2 (show 0 < n1 by have := HN1.out; omega)
    refine ⟨bA, o, hA, fun W hW j hj => ?_⟩
    have := hc j hj
    rw [Nat.mul_one] at this
    exact (cell_no hW hlt _).trans this
  subst hA1
  have HCA := Lib.hid hca
  clear hca
  have hac : a < cs.length := by have := HCL.out; omega
  have hbc : b < cs.length := by have := HCL.out; omega
  have HFc := HF3
  have T0 := HFb
  clear HF3 HFb HF
  -- what the values are
  obtain ⟨dd, hdd⟩ : ∃ d : Ck, Ch.ck ⟨x, y, some ⟨bA, o, none⟩, n1, c1, cs, A2, n2, c2, hps, A3, n3, c3, bs⟩ = d := ⟨_, rfl⟩
  have HD := Lib.hid hdd
  have HDcs : Hid (dd.cs = cs) := Lib.hid (by rw [← hdd]; rfl)
  have HRd : Hid (Rgt dd) := Lib.hid (by rw [← hdd]; exact HR2.out)
  have HBd : Hid (ByC dd) := Lib.hid (by rw [← hdd]; exact HIN.out.bt)
  clear hdd
  obtain ⟨ea, hea⟩ : ∃ e, setE dd (a : Int) i0 = e := ⟨_, rfl⟩
  obtain ⟨eb, heb⟩ : ∃ e, setE dd (b : Int) i1 = e := ⟨_, rfl⟩
  obtain ⟨fb, hfb⟩ : ∃ e, setE (setL dd (a : Int) i0) (b : Int) i1 = e := ⟨_, rfl⟩
  obtain ⟨fa, hfa0⟩ : ∃ e, setE (setL dd (b : Int) i1) (a : Int) i0 = e := ⟨_, rfl⟩
  have HEA := Lib.hid hea
  have HEB := Lib.hid heb
  have HFB := Lib.hid hfb
  have HFA := Lib.hid hfa0
  have HEQ : Hid (a ≠ b → fb = eb ∧ fa = ea ∧ setL (setL dd (a : Int) i0) (b : Int) i1 = setL (setL dd (b : Int) i1) (a : Int) i0) := Lib.hid (fun hne => by
    have h1 : a < dd.cs.length := by rw [HDcs.out]; exact hac
    have h2 : b < dd.cs.length := by rw [HDcs.out]; exact hbc
    exact ⟨by rw [← hfb, ← heb]; exact setE_other h2 hne, by rw [← hfa0, ← hea]; exact setE_other h1 (fun e => hne e.symm), set_set h1 h2 hne⟩)
  clear hea heb hfb hfa0
  have e0 := (blk_cell (blk_no T0.out HB1.out) 0).trans (by simp : _ = some (.int .i64 x0))
  have e1 := (blk_cell (blk_no T0.out HB1.out) 1).trans (by simp : _ = some (.int .i64 x1))
  go_wp2_with fail
  refine (HCE.out _).mono ?_
  rintro e wc0 ⟨rfl, hf⟩
  have HFn := Lib.hid (HFc.out.no_trans hf)
  clear HFc
  have HFc := HFn
  clear HFn
  have T0n := Lib.hid (T0.out.no_trans hf)
  clear T0
  have T0 := T0n
  clear T0n
  clear hf e0 e1 HCE
  obtain ⟨g0, g1, g2, g3, g4⟩ := cells5 (blk_no T0.out HB0.out)
  have u0 := (blk_cell (blk_no T0.out HB2.out) 0).trans (by simp : _ = some (.int .u8 (i0 : Int)))
  have u1 := (blk_cell (blk_no T0.out HB2.out) 1).trans (by simp : _ = some (.int .u8 (i1 : Int)))
  have HS := Lib.hid (HSET.out _ ⟨x, y, some ⟨bA, o, none⟩, n1, c1, cs, A2, n2, c2, hps, A3, n3, c3, bs⟩ a i0 HFc.out (HIW.out _ HFc.out) HR2.out (by omega))
  rw [HD.out, HEA.out] at HS
  go_wp2_with fail
  refine HS.out.mono ?_
  rintro e wR ⟨⟨xP, yP, A1P, n1P, c1P, csP, A2P, n2P, c2P, hsP, A3P, n3P, c3P, bsP⟩, rfl, hc, ho, hf⟩
  have hfa := Fr.alloc No wR (.cells #[.int .i64 xP, .int .i64 yP, .slice A1P n1P c1P, .slice A2P n2P c2P, .slice A3P n3P c3P] 26)
  have hbX := heap_alloc_new wR (.cells #[.int .i64 xP, .int .i64 yP, .slice A1P n1P c1P, .slice A2P n2P c2P, .slice A3P n3P c3P] 26)
  have HOP0 := Lib.hid ((ho.low HFc.out.size).no hfa)
  have HCP := Lib.hid hc
  have hff := hf.no_trans hfa
  have HFn := Lib.hid (HFc.out.no_trans hff)
  clear HFc
  have HFc := HFn
  clear HFn
  have T0n := Lib.hid (T0.out.no_trans hff)
  clear T0
  have T0 := T0n
  clear T0n
  clear hf hfa hff hc ho g0 g1 g2 g3 g4 u0 u1 HS
  dsimp only [Ch.val]
  go_upto_region 5 with fail
  obtain ⟨XP, hX⟩ : ∃ X, wR.heap.size = X := ⟨_, rfl⟩
  rw [hX] at hbX ⊢
  clear hX
  generalize wR.alloc (.cells #[.int .i64 xP, .int .i64 yP, .slice A1P n1P c1P, .slice A2P n2P c2P, .slice A3P n3P c3P] 26) = wP at *
  have HBP : Hid (∀ W, Fr No wP W → W.heap[XP]? = some (.cells #[.int .i64 xP, .int .i64 yP, .slice A1P n1P c1P, .slice A2P n2P c2P, .slice A3P n3P c3P] 26 (0, 0))) := Lib.hid (fun W hW => blk_no hW hbX)
  have HOP : Hid (∀ W, Fr No wP W → OwC w.heap.size W ⟨xP, yP, A1P, n1P, c1P, csP, A2P, n2P, c2P, hsP, A3P, n3P, c3P, bsP⟩) := Lib.hid (fun W hW => HOP0.out.no hW)
  have TP : Hid (Fr No wP wP) := Lib.hid (Fr.refl _ _)
  clear hbX HOP0
  have HRRP : Hid (Rgt (Ch.ck ⟨xP, yP, A1P, n1P, c1P, csP, A2P, n2P, c2P, hsP, A3P, n3P, c3P, bsP⟩)) := Lib.hid (by rw [HCP.out]; exact HRd.out.set a i0)
  have HBBP : Hid (ByC (Ch.ck ⟨xP, yP, A1P, n1P, c1P, csP, A2P, n2P, c2P, hsP, A3P, n3P, c3P, bsP⟩)) := Lib.hid (by rw [HCP.out]; exact HBd.out.set a hi0)
  obtain ⟨p0, p1, p2, p3, p4⟩ := cells5 (HBP.out _ TP.out)
  have u0 := (blk_cell (blk_no T0.out HB2.out) 0).trans (by simp : _ = some (.int .u8 (i0 : Int)))
  have u1 := (blk_cell (blk_no T0.out HB2.out) 1).trans (by simp : _ = some (.int .u8 (i1 : Int)))
  have HS := Lib.hid (HSET.out _ ⟨xP, yP, A1P, n1P, c1P, csP, A2P, n2P, c2P, hsP, A3P, n3P, c3P, bsP⟩ b i1 HFc.out (cap_own (HOP.out _ TP.out) (HRRP.out) (HBBP.out)).1 HRRP.out (by omega))
  rw [HCP.out, HFB.out] at HS
  go_wp2_with fail
  refine HS.out.mono ?_
  rintro e wR ⟨⟨xQ, yQ, A1Q, n1Q, c1Q, csQ, A2Q, n2Q, c2Q, hsQ, A3Q, n3Q, c3Q, bsQ⟩, rfl, hc, ho, hf⟩
  have hfa := Fr.alloc No wR (.cells #[.int .i64 xQ, .int .i64 yQ, .slice A1Q n1Q c1Q, .slice A2Q n2Q c2Q, .slice A3Q n3Q c3Q] 26)
  have hbX := heap_alloc_new wR (.cells #[.int .i64 xQ, .int .i64 yQ, .slice A1Q n1Q c1Q, .slice A2Q n2Q c2Q, .slice A3Q n3Q c3Q] 26)
  have HOQ0 := Lib.hid ((ho.low HFc.out.size).no hfa)
  have HCQ := Lib.hid hc
  have hff := hf.no_trans hfa
  have HFn := Lib.hid (HFc.out.no_trans hff)
  clear HFc
  have HFc := HFn
  clear HFn
  have T0n := Lib.hid (T0.out.no_trans hff)
  clear T0
  have T0 := T0n
  clear T0n
  have TPn := Lib.hid (TP.out.no_trans hff)
  clear TP
  have TP := TPn
  clear TPn
  clear hf hfa hff hc ho p0 p1 p2 p3 p4 u0 u1 HS
  dsimp only [Ch.val]
  go_upto_region 6 with fail
  obtain ⟨XQ, hX⟩ : ∃ X, wR.heap.size = X := ⟨_, rfl⟩
  rw [hX] at hbX ⊢
  clear hX
  generalize wR.alloc (.cells #[.int .i64 xQ, .int .i64 yQ, .slice A1Q n1Q c1Q, .slice A2Q n2Q c2Q, .slice A3Q n3Q c3Q] 26) = wQ at *
  have HBQ : Hid (∀ W, Fr No wQ W → W.heap[XQ]? = some (.cells #[.int .i64 xQ, .int .i64 yQ, .slice A1Q n1Q c1Q, .slice A2Q n2Q c2Q, .slice A3Q n3Q c3Q] 26 (0, 0))) := Lib.hid (fun W hW => blk_no hW hbX)
  have HOQ : Hid (∀ W, Fr No wQ W → OwC w.heap.size W ⟨xQ, yQ, A1Q, n1Q, c1Q, csQ, A2Q, n2Q, c2Q, hsQ, A3Q, n3Q, c3Q, bsQ⟩) := Lib.hid (fun W hW => HOQ0.out.no hW)
  have TQ : Hid (Fr No wQ wQ) := Lib.hid (Fr.refl _ _)
  clear hbX HOQ0
  have HRRQ : Hid (Rgt (Ch.ck ⟨xQ, yQ, A1Q, n1Q, c1Q, csQ, A2Q, n2Q, c2Q, hsQ, A3Q, n3Q, c3Q, bsQ⟩)) := Lib.hid (by rw [HCQ.out]; exact (HRd.out.set a i0).set b i1)
  have HBBQ : Hid (ByC (Ch.ck ⟨xQ, yQ, A1Q, n1Q, c1Q, csQ, A2Q, n2Q, c2Q, hsQ, A3Q, n3Q, c3Q, bsQ⟩)) := Lib.hid (by rw [HCQ.out]; exact (HBd.out.set a hi0).set b hi1)
  obtain ⟨g0, g1, g2, g3, g4⟩ := cells5 (blk_no T0.out HB0.out)
  have u0 := (blk_cell (blk_no T0.out HB2.out) 0).trans (by simp : _ = some (.int .u8 (i0 : Int)))
  have u1 := (blk_cell (blk_no T0.out HB2.out) 1).trans (by simp : _ = some (.int .u8 (i1 : Int)))
  have HS := Lib.hid (HSET.out _ ⟨x, y, some ⟨bA, o, none⟩, n1, c1, cs, A2, n2, c2, hps, A3, n3, c3, bs⟩ b i1 HFc.out (HIW.out _ HFc.out) HR2.out (by omega))
  rw [HD.out, HEB.out] at HS
  go_wp2_with fail
  refine HS.out.mono ?_
  rintro e wR ⟨⟨xR, yR, A1R, n1R, c1R, csR, A2R, n2R, c2R, hsR, A3R, n3R, c3R, bsR⟩, rfl, hc, ho, hf⟩
  have hfa := Fr.alloc No wR (.cells #[.int .i64 xR, .int .i64 yR, .slice A1R n1R c1R, .slice A2R n2R c2R, .slice A3R n3R c3R] 26)
  have hbX := heap_alloc_new wR (.cells #[.int .i64 xR, .int .i64 yR, .slice A1R n1R c1R, .slice A2R n2R c2R, .slice A3R n3R c3R] 26)
  have HOR0 := Lib.hid ((ho.low HFc.out.size).no hfa)
  have HCR := Lib.hid hc
  have hff := hf.no_trans hfa
  have HFn := Lib.hid (HFc.out.no_trans hff)
  clear HFc
  have HFc := HFn
  clear HFn
  have T0n := Lib.hid (T0.out.no_trans hff)
  clear T0
  have T0 := T0n
  clear T0n
  have TPn := Lib.hid (TP.out.no_trans hff)
  clear TP
  have TP := TPn
  clear TPn
  have TQn := Lib.hid (TQ.out.no_trans hff)
  clear TQ
  have TQ := TQn
  clear TQn
  clear hf hfa hff hc ho g0 g1 g2 g3 g4 u0 u1 HS
  dsimp only [Ch.val]
  go_upto_region 7 with fail
  obtain ⟨XR, hX⟩ : ∃ X, wR.heap.size = X := ⟨_, rfl⟩
  rw [hX] at hbX ⊢
  clear hX
  generalize wR.alloc (.cells #[.int .i64 xR, .int .i64 yR, .slice A1R n1R c1R, .slice A2R n2R c2R, .slice A3R n3R c3R] 26) = wR at *
  have HBR : Hid (∀ W, Fr No wR W → W.heap[XR]? = some (.cells #[.int .i64 xR, .int .i64 yR, .slice A1R n1R c1R, .slice A2R n2R c2R, .slice A3R n3R c3R] 26 (0, 0))) := Lib.hid (fun W hW => blk_no hW hbX)
  have HOR : Hid (∀ W, Fr No wR W → OwC w.heap.size W ⟨xR, yR, A1R, n1R, c1R, csR, A2R, n2R, c2R, hsR, A3R, n3R, c3R, bsR⟩) := Lib.hid (fun W hW => HOR0.out.no hW)
  have TR : Hid (Fr No wR wR) := Lib.hid (Fr.refl _ _)
  clear hbX HOR0
  have HRRR : Hid (Rgt (Ch.ck ⟨xR, yR, A1R, n1R, c1R, csR, A2R, n2R, c2R, hsR, A3R, n3R, c3R, bsR⟩)) := Lib.hid (by rw [HCR.out]; exact HRd.out.set b i1)
  have HBBR : Hid (ByC (Ch.ck ⟨xR, yR, A1R, n1R, c1R, csR, A2R, n2R, c2R, hsR, A3R, n3R, c3R, bsR⟩)) := Lib.hid (by rw [HCR.out]; exact HBd.out.set b hi1)
  obtain ⟨p0, p1, p2, p3, p4⟩ := cells5 (HBR.out _ TR.out)
  have u0 := (blk_cell (blk_no T0.out HB2.out) 0).trans (by simp : _ = some (.int .u8 (i0 : Int)))
  have u1 := (blk_cell (blk_no T0.out HB2.out) 1).trans (by simp : _ = some (.int .u8 (i1 : Int)))
  have HS := Lib.hid (HSET.out _ ⟨xR, yR, A1R, n1R, c1R, csR, A2R, n2R, c2R, hsR, A3R, n3R, c3R, bsR⟩ a i0 HFc.out (cap_own (HOR.out _ TR.out) (HRRR.out) (HBBR.out)).1 HRRR.out (by omega))
  rw [HCR.out, HFA.out] at HS
  go_wp2_with fail
  refine HS.out.mono ?_
  rintro e wR ⟨⟨xS, yS, A1S, n1S, c1S, csS, A2S, n2S, c2S, hsS, A3S, n3S, c3S, bsS⟩, rfl, hc, ho, hf⟩
  have hfa := Fr.alloc No wR (.cells #[.int .i64 xS, .int .i64 yS, .slice A1S n1S c1S, .slice A2S n2S c2S, .slice A3S n3S c3S] 26)
  have hbX := heap_alloc_new wR (.cells #[.int .i64 xS, .int .i64 yS, .slice A1S n1S c1S, .slice A2S n2S c2S, .slice A3S n3S c3S] 26)
  have HOS0 := Lib.hid ((ho.low HFc.out.size).no hfa)
  have HCS := Lib.hid hc
  have hff := hf.no_trans hfa
  have HFn := Lib.hid (HFc.out.no_trans hff)
  clear HFc
  have HFc := HFn
  clear HFn
  have T0n := Lib.hid (T0.out.no_trans hff)
  clear T0
  have T0 := T0n
  clear T0n
  have TPn := Lib.hid (TP.out.no_trans hff)
  clear TP
  have TP := TPn
  clear TPn
  have TQn := Lib.hid (TQ.out.no_trans hff)
  clear TQ
  have TQ := TQn
  clear TQn
  have TRn := Lib.hid (TR.out.no_trans hff)
  clear TR
  have TR := TRn
  clear TRn
  clear hf hfa hff hc ho p0 p1 p2 p3 p4 u0 u1 HS
  dsimp only [Ch.val]
  go_upto_region 8 with fail
  obtain ⟨XS, hX⟩ : ∃ X, wR.heap.size = X := ⟨_, rfl⟩
  rw [hX] at hbX ⊢
  clear hX
  generalize wR.alloc (.cells #[.int .i64 xS, .int .i64 yS, .slice A1S n1S c1S, .slice A2S n2S c2S, .slice A3S n3S c3S] 26) = wS at *
  have HBS : Hid (∀ W, Fr No wS W → W.heap[XS]? = some (.cells #[.int .i64 xS, .int .i64 yS, .slice A1S n1S c1S, .slice A2S n2S c2S, .slice A3S n3S c3S] 26 (0, 0))) := Lib.hid (fun W hW => blk_no hW hbX)
  have HOS : Hid (∀ W, Fr No wS W → OwC w.heap.size W ⟨xS, yS, A1S, n1S, c1S, csS, A2S, n2S, c2S, hsS, A3S, n3S, c3S, bsS⟩) := Lib.hid (fun W hW => HOS0.out.no hW)
  have TS : Hid (Fr No wS wS) := Lib.hid (Fr.refl _ _)
  clear hbX HOS0
  have HRRS : Hid (Rgt (Ch.ck ⟨xS, yS, A1S, n1S, c1S, csS, A2S, n2S, c2S, hsS, A3S, n3S, c3S, bsS⟩)) := Lib.hid (by rw [HCS.out]; exact (HRd.out.set b i1).set a i0)
  have HBBS : Hid (ByC (Ch.ck ⟨xS, yS, A1S, n1S, c1S, csS, A2S, n2S, c2S, hsS, A3S, n3S, c3S, bsS⟩)) := Lib.hid (by rw [HCS.out]; exact (HBd.out.set b hi1).set a hi0)
  go_cut [88] from 70 to 88 (fun v88 wx => v88 = .bool false ∧ Fr No wS wx)
  case first =>
    by_cases hab : a = b
    · have eab : ((a : Int) == (b : Int)) = true := by simp [hab]
      go_wp2_with fail
      go_meet
      exact ⟨rfl, Fr.refl _ _⟩
    · have eab : ((a : Int) == (b : Int)) = false := by rw [beq_eq_false_iff_ne]; omega
      have eab2 : ¬ a = b := hab
      have eab3 : ¬ (a : Int) = (b : Int) := by omega
      obtain ⟨h1, h2, h3⟩ := HEQ.out hab
      subst h1 h2
      have nea : (fa == fa) = true := by simp
      have neb : (fb == fb) = true := by simp
      have nea2 : (fa != fa) = false := by simp
      have neb2 : (fb != fb) = false := by simp
      obtain ⟨hq1, hq2, hq3, hq4, hq5⟩ := cap_own (HOQ.out _ TQ.out) HRRQ.out HBBQ.out
      obtain ⟨hs1, -, -, -, -⟩ := cap_own (HOS.out _ TS.out) HRRS.out HBBS.out
      have HSM := Lib.hid (chsame_yes hq1.rd hs1.rd (by rw [HCQ.out, HCS.out, h3]) hq2 hq3 hq4 hq5)
      dsimp only [Ch.val] at HSM
      obtain ⟨p0, p1, p2, p3, p4⟩ := cells5 (HBQ.out _ TQ.out)
      obtain ⟨s0, s1, s2, s3, s4⟩ := cells5 (HBS.out _ TS.out)
      clear hq1 hq2 hq3 hq4 hq5 hs1 h3
      go_wp2_with (refine HSM.out.mono ?_; rintro e wx ⟨rfl, hf⟩; have HFX := Lib.hid hf; clear hf)
      go_meet
      exact ⟨rfl, HFX.out⟩
  case rest =>
  obtain ⟨rfl, hfx⟩ := hcut
  have HFn := Lib.hid (HFc.out.no_trans hfx)
  clear HFc
  have HFc := HFn
  clear HFn
  have T0n := Lib.hid (T0.out.no_trans hfx)
  clear T0
  have T0 := T0n
  clear T0n
  have TPn := Lib.hid (TP.out.no_trans hfx)
  clear TP
  have TP := TPn
  clear TPn
  have TQn := Lib.hid (TQ.out.no_trans hfx)
  clear TQ
  have TQ := TQn
  clear TQn
  have TRn := Lib.hid (TR.out.no_trans hfx)
  clear TR
  have TR := TRn
  clear TRn
  have TSn := Lib.hid (TS.out.no_trans hfx)
  clear TS
  have TS := TSn
  clear TSn
  clear hfx HEQ HEA HEB HFA HFB
  clear HBP HOP TP HCP HRRP HBBP HBQ HOQ TQ HCQ HRRQ HBBQ HBR HOR TR HCR HRRR HBBR HBS HOS TS HCS HRRS HBBS
  have HX0 : Hid (cs[a] < 256) := Lib.hid (by have := HBd.out.b1 cs[a] (by rw [HDcs.out]; exact List.getElem_mem hac); exact this)
  have HDa : Hid (∀ hh : a < dd.cs.length, dd.cs[a] = cs[a]) := Lib.hid (fun hh => by congr 1)
  have hac2 : a < dd.cs.length := by rw [HDcs.out]; exact hac
  have HSAME : Hid (cs[a] ≠ 9 → setE dd (a : Int) cs[a] = 0 ∧ setL dd (a : Int) cs[a] = dd) := Lib.hid (fun h9 => by
    have := set_same HRd.out hac2 (by rw [HDa.out hac2]; exact h9)
    rw [HDa.out hac2] at this
    exact this)
  have HCHE : Hid (cs[a] = 0 → setE dd (a : Int) 9 = 0 ∧ hasB (setL dd (a : Int) 9).cs (a : Int) = true ∧ bagAt (setL dd (a : Int) 9).bs (a : Int) = rep6 ∧ setE (setL dd (a : Int) 9) (a : Int) 0 = 0 ∧ setL (setL dd (a : Int) 9) (a : Int) 0 = dd) := Lib.hid (fun h0 => set_chest HRd.out hac2 (by rw [HDa.out hac2]; exact h0))
  clear hac2
  have HCAa : Hid (∀ W, Fr No w W → W.cell? ⟨bA, o + a, none⟩ = some (.int .u8 (cs[a] : Int))) := Lib.hid (fun W hW => HCA.out W hW a hac)
  have HSC : Hid (∀ W, Fr No w W → Calls Tryd.prog 17 #[.agg #[.int .i64 x, .int .i64 y, .slice (some ⟨bA, o, none⟩) n1 c1, .slice A2 n2 c2, .slice A3 n3 c3], .int .i64 (a : Int), .int .u8 (cs[a] : Int)] W (CkE W (setL dd (a : Int) cs[a]) (setE dd (a : Int) cs[a]))) := Lib.hid (fun W hW => by
    have := HSET.out W ⟨x, y, some ⟨bA, o, none⟩, n1, c1, cs, A2, n2, c2, hps, A3, n3, c3, bs⟩ a cs[a] hW (HIW.out _ hW) HR2.out HX0.out
    rw [HD.out] at this
    exact this)
  have ha1i : (a : Int) < (n1 : Int) := by have := HN1.out; omega
  have ha0i : (0 : Int) ≤ (a : Int) := by omega
  obtain ⟨ca, hcaa⟩ : ∃ ca, cs[a] = ca := ⟨_, rfl⟩
  rw [hcaa] at HX0 HSAME HCHE HCAa HSC
  clear hcaa HCA HDa
  -- region 10
  obtain ⟨wk, hwk⟩ : ∃ W, W = wc := ⟨_, rfl⟩
  subst hwk
  go_upto_region 10 with fail
  go_cut [17, 18] from 89 to 99 (fun v17 v18 wx => ∃ (X : Nat) (E' : Ch), v17 = .pointer (some ⟨X, 0, none⟩) ∧ v18 = .int .i64 (setE dd (a : Int) ca) ∧ E'.ck = setL dd (a : Int) ca ∧ wx.heap[X]? = some (.cells #[.int .i64 E'.x, .int .i64 E'.y, .slice E'.A1 E'.n1 E'.c1, .slice E'.A2 E'.n2 E'.c2, .slice E'.A3 E'.n3 E'.c3] 26 (0, 0)) ∧ OwC w.heap.size wx E' ∧ Fr No wk wx)
  case first =>
    have HDR := Lib.hid (Fr.drew No wk)
    have HFd := Lib.hid (HFc.out.no_trans HDR.out)
    have HDA := Lib.hid ((Fr.alloc No wk (.cells #[.int .i64 0, .int .i64 0, .slice none 0 0, .slice none 0 0, .slice none 0 0] 26)).no_trans (Fr.drew No _))
    have HFe := Lib.hid (HFc.out.no_trans HDA.out)
    have hbz := heap_alloc_new wk (.cells #[.int .i64 0, .int .i64 0, .slice none 0 0, .slice none 0 0, .slice none 0 0] 26)
    obtain ⟨g0, g1, g2, g3, g4⟩ := cells5 (blk_no (T0.out.no_trans HDR.out) HB0.out)
    obtain ⟨d0, d1, d2, d3, d4⟩ := cells5 (blk_no (T0.out.no_trans HDA.out) HB0.out)
    have m0 := HCAa.out _ HFd.out
    have m1 := HCAa.out _ HFe.out
    have HBZ : Hid (∀ W, Fr No (wk.alloc (.cells #[.int .i64 0, .int .i64 0, .slice none 0 0, .slice none 0 0, .slice none 0 0] 26)).drew W → W.heap[wk.heap.size]? = some (.cells #[.int .i64 0, .int .i64 0, .slice none 0 0, .slice none 0 0, .slice none 0 0] 26 (0, 0))) := Lib.hid (fun W hW => blk_no hW hbz)
    clear hbz
    go_region_with (first
      | (go_at_call 17; refine (HSC.out _ HFd.out).mono ?_; rintro e wR ⟨⟨xU, yU, A1U, n1U, c1U, csU, A2U, n2U, c2U, hsU, A3U, n3U, c3U, bsU⟩, rfl, hc, ho, hf⟩; have HCU := Lib.hid hc; have HOU := Lib.hid (ho.low HFd.out.size); have HFU := Lib.hid (HDR.out.no_trans hf); have h1 := heap_alloc_new wR (.cells #[.int .i64 xU, .int .i64 yU, .slice A1U n1U c1U, .slice A2U n2U c2U, .slice A3U n3U c3U] 26); have h2 := HOU.out.no (Fr.alloc No wR (.cells #[.int .i64 xU, .int .i64 yU, .slice A1U n1U c1U, .slice A2U n2U c2U, .slice A3U n3U c3U] 26)); have h3 := HFU.out.no_trans (Fr.alloc No wR (.cells #[.int .i64 xU, .int .i64 yU, .slice A1U n1U c1U, .slice A2U n2U c2U, .slice A3U n3U c3U] 26)); have HQ := Lib.hid (And.intro h1 (And.intro h2 h3)); have k1 := set5_heap (heap_alloc_new wR (.cells #[.int .i64 0, .int .i64 0, .slice none 0 0, .slice none 0 0, .slice none 0 0] 26)) (.int .i64 xU) (.int .i64 yU) (.slice A1U n1U c1U) (.slice A2U n2U c2U) (.slice A3U n3U c3U); have k2 := (HOU.out.no (Fr.alloc No wR (.cells #[.int .i64 0, .int .i64 0, .slice none 0 0, .slice none 0 0, .slice none 0 0] 26))).at_ (heap_alloc_new wR (.cells #[.int .i64 0, .int .i64 0, .slice none 0 0, .slice none 0 0, .slice none 0 0] 26)) (set5_fr _ _ (.int .i64 xU) (.int .i64 yU) (.slice A1U n1U c1U) (.slice A2U n2U c2U) (.slice A3U n3U c3U)); have k3 := (HFU.out.no_trans (Fr.alloc No wR (.cells #[.int .i64 0, .int .i64 0, .slice none 0 0, .slice none 0 0, .slice none 0 0] 26))).then_new (set5_fr _ wR.heap.size (.int .i64 xU) (.int .i64 yU) (.slice A1U n1U c1U) (.slice A2U n2U c2U) (.slice A3U n3U c3U)) (fun i hi => by have e : i = wR.heap.size := hi; have := HFU.out.size; omega); simp only [set5] at k1 k2 k3; have HP := Lib.hid (And.intro k1 (And.intro k2 k3)); clear hc ho hf h1 h2 h3 k1 k2 k3; dsimp only [Ch.val])
      | (go_at_call 17; refine (HSC.out _ HFe.out).mono ?_; rintro e wR ⟨⟨xU, yU, A1U, n1U, c1U, csU, A2U, n2U, c2U, hsU, A3U, n3U, c3U, bsU⟩, rfl, hc, ho, hf⟩; have HCU := Lib.hid hc; have HOU := Lib.hid (ho.low HFe.out.size); have HFU := Lib.hid (HDA.out.no_trans hf); have HZR := Lib.hid (HBZ.out _ hf); obtain ⟨r0, r1, r2, r3, r4⟩ := cells5 HZR.out; obtain ⟨z0, z1, z2, z3, z4⟩ := free5 HZR.out; have k1 := set5_heap HZR.out (.int .i64 xU) (.int .i64 yU) (.slice A1U n1U c1U) (.slice A2U n2U c2U) (.slice A3U n3U c3U); have k2 := HOU.out.at_ HZR.out (set5_fr wR wk.heap.size (.int .i64 xU) (.int .i64 yU) (.slice A1U n1U c1U) (.slice A2U n2U c2U) (.slice A3U n3U c3U)); have k3 := HFU.out.then_new (set5_fr wR wk.heap.size (.int .i64 xU) (.int .i64 yU) (.slice A1U n1U c1U) (.slice A2U n2U c2U) (.slice A3U n3U c3U)) (fun i hi => by have e : i = wk.heap.size := hi; omega); simp only [set5] at k1 k2 k3; have HP := Lib.hid (And.intro k1 (And.intro k2 k3)); clear hc ho hf k1 k2 k3; dsimp only [Ch.val]))
    all_goals (
      go_wp2_with fail
      go_meet
      first
        | with_reducible exact ⟨_, ⟨xU, yU, A1U, n1U, c1U, csU, A2U, n2U, c2U, hsU, A3U, n3U, c3U, bsU⟩, rfl, rfl, HCU.out, HP.out.1, HP.out.2.1, HP.out.2.2⟩
        | with_reducible exact ⟨_, ⟨xU, yU, A1U, n1U, c1U, csU, A2U, n2U, c2U, hsU, A3U, n3U, c3U, bsU⟩, rfl, rfl, HCU.out, HQ.out.1, HQ.out.2.1, HQ.out.2.2⟩)
  case rest =>
  obtain ⟨X, ⟨xU, yU, A1U, n1U, c1U, csU, A2U, n2U, c2U, hsU, A3U, n3U, c3U, bsU⟩, rfl, rfl, hcU, hbU, hoU, hfx⟩ := hcut
  dsimp only at hbU
  have HCU := Lib.hid hcU
  have HBU := Lib.hid hbU
  have HOU := Lib.hid hoU
  have HFn := Lib.hid (HFc.out.no_trans hfx)
  clear HFc
  have HFc := HFn
  clear HFn
  have T0n := Lib.hid (T0.out.no_trans hfx)
  clear T0
  have T0 := T0n
  clear T0n
  clear hfx hcU hbU hoU
  obtain ⟨eS, heS⟩ : ∃ e, setE dd (a : Int) ca = e := ⟨_, rfl⟩
  have HES := Lib.hid heS
  rw [heS]
  clear heS
  obtain ⟨wm, hwm⟩ : ∃ W, W = wc := ⟨_, rfl⟩
  subst hwm
  go_upto_region 11 with fail
  go_cut [115] from 100 to 115 (fun v115 wx => v115 = .bool false ∧ Fr No wm wx)
  case first =>
    obtain ⟨g0, g1, g2, g3, g4⟩ := cells5 (blk_no T0.out HB0.out)
    have m0 := HCAa.out _ HFc.out
    by_cases h9 : ca = 9
    · have e9 : ((ca : Int) == 9) = true := by rw [h9]; rfl
      have e9b : ((ca : Int) != 9) = false := by rw [h9]; rfl
      have e9c : (ca : Int) = 9 := by omega
      clear h9
      go_wp2_with fail
      go_meet
      exact ⟨rfl, Fr.refl _ _⟩
    · have e9 : ((ca : Int) == 9) = false := by rw [beq_eq_false_iff_ne]; omega
      have e9b : ((ca : Int) != 9) = true := by simp [bne, e9]
      have e9c : ¬ (ca : Int) = 9 := by omega
      obtain ⟨h1, h2⟩ := HSAME.out h9
      rw [HES.out] at h1
      subst h1
      have hcu : Ch.ck ⟨xU, yU, A1U, n1U, c1U, csU, A2U, n2U, c2U, hsU, A3U, n3U, c3U, bsU⟩ = dd := by rw [HCU.out, h2]
      obtain ⟨hq1, hq2, hq3, hq4, hq5⟩ := cap_own HOU.out (by rw [hcu]; exact HRd.out) (by rw [hcu]; exact HBd.out)
      have HSM := Lib.hid (chsame_yes hq1.rd (HIW.out _ HFc.out).rd (by rw [hcu, HD.out]) hq2 hq3 hq4 hq5)
      dsimp only [Ch.val] at HSM
      obtain ⟨p0, p1, p2, p3, p4⟩ := cells5 HBU.out
      clear hq1 hq2 hq3 hq4 hq5 h2 hcu h9
      go_wp2_with (refine HSM.out.mono ?_; rintro e wx ⟨rfl, hf⟩; have HFX := Lib.hid hf; clear hf)
      go_meet
      exact ⟨rfl, HFX.out⟩
  case rest =>
  obtain ⟨rfl, hfx⟩ := hcut
  have HFn := Lib.hid (HFc.out.no_trans hfx)
  clear HFc
  have HFc := HFn
  clear HFn
  have T0n := Lib.hid (T0.out.no_trans hfx)
  clear T0
  have T0 := T0n
  clear T0n
  clear hfx HES HCU HBU HOU HSAME HSC
  obtain ⟨g0, g1, g2, g3, g4⟩ := cells5 (blk_no T0.out HB0.out)
  have m0 := HCAa.out _ HFc.out
  by_cases h0 : ca = 0
  case neg =>
    have e00 : ((ca : Int) == 0) = false := by rw [beq_eq_false_iff_ne]; omega
    have e00b : ((ca : Int) != 0) = true := by simp [bne, e00]
    have e00c : ¬ (ca : Int) = 0 := by omega
    go_wp2_with fail
    refine (HA.out _ HFc.out).mono ?_
    rintro e w9 ⟨rfl, hf⟩
    go_wp2_with fail
    go_ret
    exact ⟨rfl, hf.noBelow⟩
  case pos =>
  have e00 : ((ca : Int) == 0) = true := by rw [h0]; rfl
  have e00b : ((ca : Int) != 0) = false := by rw [h0]; rfl
  have e00c : (ca : Int) = 0 := by omega
  have HCH := Lib.hid (HCHE.out h0)
  clear h0
  go_upto_region 15 with fail
  clear g0 g1 g2 g3 g4 m0 e00 e00b e00c HCHE HCAa
  have HNE : Hid (setE dd (a : Int) 9 = 0) := Lib.hid HCH.out.1
  have HNA : Hid (setE (setL dd (a : Int) 9) (a : Int) 0 = 0) := Lib.hid HCH.out.2.2.2.1
  obtain ⟨g0, g1, g2, g3, g4⟩ := cells5 (blk_no T0.out HB0.out)
  have u0 := (blk_cell (blk_no T0.out HB2.out) 0).trans (by simp : _ = some (.int .u8 (i0 : Int)))
  have u1 := (blk_cell (blk_no T0.out HB2.out) 1).trans (by simp : _ = some (.int .u8 (i1 : Int)))
  have HS : Hid (Calls Tryd.prog 17 #[.agg #[.int .i64 x, .int .i64 y, .slice (some ⟨bA, o, none⟩) n1 c1, .slice A2 n2 c2, .slice A3 n3 c3], .int .i64 (a : Int), .int .u8 9] _ (CkE _ (setL (Ch.ck ⟨x, y, some ⟨bA, o, none⟩, n1, c1, cs, A2, n2, c2, hps, A3, n3, c3, bs⟩) (a : Int) 9) (setE (Ch.ck ⟨x, y, some ⟨bA, o, none⟩, n1, c1, cs, A2, n2, c2, hps, A3, n3, c3, bs⟩) (a : Int) 9))) := Lib.hid (HSET.out _ ⟨x, y, some ⟨bA, o, none⟩, n1, c1, cs, A2, n2, c2, hps, A3, n3, c3, bs⟩ a 9 HFc.out (HIW.out _ HFc.out) HR2.out (by omega))
  rw [HD.out, HNE.out] at HS
  go_wp2_with fail
  refine HS.out.mono ?_
  rintro e wR ⟨⟨xV, yV, A1V, n1V, c1V, csV, A2V, n2V, c2V, hsV, A3V, n3V, c3V, bsV⟩, rfl, hc, ho, hf⟩
  have hfa := Fr.alloc No wR (.cells #[.int .i64 xV, .int .i64 yV, .slice A1V n1V c1V, .slice A2V n2V c2V, .slice A3V n3V c3V] 26)
  have hbX := heap_alloc_new wR (.cells #[.int .i64 xV, .int .i64 yV, .slice A1V n1V c1V, .slice A2V n2V c2V, .slice A3V n3V c3V] 26)
  have HOV0 := Lib.hid ((ho.low HFc.out.size).no hfa)
  have HCV := Lib.hid hc
  have hff := hf.no_trans hfa
  have HFn := Lib.hid (HFc.out.no_trans hff)
  clear HFc
  have HFc := HFn
  clear HFn
  have T0n := Lib.hid (T0.out.no_trans hff)
  clear T0
  have T0 := T0n
  clear T0n
  clear hf hfa hff hc ho g0 g1 g2 g3 g4 u0 u1 HS
  dsimp only [Ch.val]
  go_upto_region 16 with fail
  obtain ⟨XV, hX⟩ : ∃ X, wR.heap.size = X := ⟨_, rfl⟩
  rw [hX] at hbX ⊢
  clear hX
  generalize wR.alloc (.cells #[.int .i64 xV, .int .i64 yV, .slice A1V n1V c1V, .slice A2V n2V c2V, .slice A3V n3V c3V] 26) = wV at *
  have HBV : Hid (∀ W, Fr No wV W → W.heap[XV]? = some (.cells #[.int .i64 xV, .int .i64 yV, .slice A1V n1V c1V, .slice A2V n2V c2V, .slice A3V n3V c3V] 26 (0, 0))) := Lib.hid (fun W hW => blk_no hW hbX)
  have HOV : Hid (∀ W, Fr No wV W → OwC w.heap.size W ⟨xV, yV, A1V, n1V, c1V, csV, A2V, n2V, c2V, hsV, A3V, n3V, c3V, bsV⟩) := Lib.hid (fun W hW => HOV0.out.no hW)
  have TV : Hid (Fr No wV wV) := Lib.hid (Fr.refl _ _)
  clear hbX HOV0
  have HRRV : Hid (Rgt (Ch.ck ⟨xV, yV, A1V, n1V, c1V, csV, A2V, n2V, c2V, hsV, A3V, n3V, c3V, bsV⟩)) := Lib.hid (by rw [HCV.out]; exact HRd.out.set a 9)
  have HBBV : Hid (ByC (Ch.ck ⟨xV, yV, A1V, n1V, c1V, csV, A2V, n2V, c2V, hsV, A3V, n3V, c3V, bsV⟩)) := Lib.hid (by rw [HCV.out]; exact HBd.out.set a (show 9 < 256 by omega))
  obtain ⟨p0, p1, p2, p3, p4⟩ := cells5 (HBV.out _ TV.out)
  have HBX := Lib.hid (HBOX.out _ ⟨xV, yV, A1V, n1V, c1V, csV, A2V, n2V, c2V, hsV, A3V, n3V, c3V, bsV⟩ a HFc.out (cap_own (HOV.out _ TV.out) HRRV.out HBBV.out).1 HRRV.out)
  have hcsV : csV = (setL dd (a : Int) 9).cs := by have := HCV.out; exact congrArg Ck.cs this
  rw [HCV.out, HCH.out.2.2.1, show hasB (Ch.cs ⟨xV, yV, A1V, n1V, c1V, csV, A2V, n2V, c2V, hsV, A3V, n3V, c3V, bsV⟩) (a : Int) = true by show hasB csV (a : Int) = true; rw [hcsV]; exact HCH.out.2.1] at HBX
  clear hcsV
  go_wp2_with fail
  refine HBX.out.mono ?_
  rintro e wB ⟨Ab, nb, cb, lb, rfl, hlb, hnb, hob, hf⟩
  rw [if_pos rfl] at hlb
  subst hlb
  obtain rfl : nb = 6 := hnb
  have HOB : Hid (∀ W, Fr No wB W → RdS W Ab 6 rep6) := Lib.hid (fun W hW => (OwS.no hob hW).rd)
  have TB : Hid (Fr No wB wB) := Lib.hid (Fr.refl _ _)
  have HFn := Lib.hid (HFc.out.no_trans hf)
  clear HFc
  have HFc := HFn
  clear HFn
  have T0n := Lib.hid (T0.out.no_trans hf)
  clear T0
  have T0 := T0n
  clear T0n
  have TVn := Lib.hid (TV.out.no_trans hf)
  clear TV
  have TV := TVn
  clear TVn
  clear hf hob p0 p1 p2 p3 p4 HBX
  obtain ⟨p0, p1, p2, p3, p4⟩ := cells5 (HBV.out _ TV.out)
  have u0 := (blk_cell (blk_no T0.out HB2.out) 0).trans (by simp : _ = some (.int .u8 (i0 : Int)))
  have u1 := (blk_cell (blk_no T0.out HB2.out) 1).trans (by simp : _ = some (.int .u8 (i1 : Int)))
  have HS : Hid (Calls Tryd.prog 17 #[.agg #[.int .i64 xV, .int .i64 yV, .slice A1V n1V c1V, .slice A2V n2V c2V, .slice A3V n3V c3V], .int .i64 (a : Int), .int .u8 0] _ (CkE _ (setL (Ch.ck ⟨xV, yV, A1V, n1V, c1V, csV, A2V, n2V, c2V, hsV, A3V, n3V, c3V, bsV⟩) (a : Int) 0) (setE (Ch.ck ⟨xV, yV, A1V, n1V, c1V, csV, A2V, n2V, c2V, hsV, A3V, n3V, c3V, bsV⟩) (a : Int) 0))) := Lib.hid (HSET.out _ ⟨xV, yV, A1V, n1V, c1V, csV, A2V, n2V, c2V, hsV, A3V, n3V, c3V, bsV⟩ a 0 HFc.out (cap_own (HOV.out _ TV.out) (HRRV.out) (HBBV.out)).1 HRRV.out (by omega))
  rw [HCV.out, HNA.out] at HS
  go_wp2_with fail
  refine HS.out.mono ?_
  rintro e wR ⟨⟨xW, yW, A1W, n1W, c1W, csW, A2W, n2W, c2W, hsW, A3W, n3W, c3W, bsW⟩, rfl, hc, ho, hf⟩
  have hfa := Fr.alloc No wR (.cells #[.int .i64 xW, .int .i64 yW, .slice A1W n1W c1W, .slice A2W n2W c2W, .slice A3W n3W c3W] 26)
  have hbX := heap_alloc_new wR (.cells #[.int .i64 xW, .int .i64 yW, .slice A1W n1W c1W, .slice A2W n2W c2W, .slice A3W n3W c3W] 26)
  have HOW0 := Lib.hid ((ho.low HFc.out.size).no hfa)
  have HCW := Lib.hid hc
  have hff := hf.no_trans hfa
  have HFn := Lib.hid (HFc.out.no_trans hff)
  clear HFc
  have HFc := HFn
  clear HFn
  have T0n := Lib.hid (T0.out.no_trans hff)
  clear T0
  have T0 := T0n
  clear T0n
  have TVn := Lib.hid (TV.out.no_trans hff)
  clear TV
  have TV := TVn
  clear TVn
  have TBn := Lib.hid (TB.out.no_trans hff)
  clear TB
  have TB := TBn
  clear TBn
  clear hf hfa hff hc ho p0 p1 p2 p3 p4 u0 u1 HS
  dsimp only [Ch.val]
  go_upto_region 18 with fail
  obtain ⟨XW, hX⟩ : ∃ X, wR.heap.size = X := ⟨_, rfl⟩
  rw [hX] at hbX ⊢
  clear hX
  generalize wR.alloc (.cells #[.int .i64 xW, .int .i64 yW, .slice A1W n1W c1W, .slice A2W n2W c2W, .slice A3W n3W c3W] 26) = wW at *
  have HBW : Hid (∀ W, Fr No wW W → W.heap[XW]? = some (.cells #[.int .i64 xW, .int .i64 yW, .slice A1W n1W c1W, .slice A2W n2W c2W, .slice A3W n3W c3W] 26 (0, 0))) := Lib.hid (fun W hW => blk_no hW hbX)
  have HOW : Hid (∀ W, Fr No wW W → OwC w.heap.size W ⟨xW, yW, A1W, n1W, c1W, csW, A2W, n2W, c2W, hsW, A3W, n3W, c3W, bsW⟩) := Lib.hid (fun W hW => HOW0.out.no hW)
  have TW : Hid (Fr No wW wW) := Lib.hid (Fr.refl _ _)
  clear hbX HOW0
  have hcw : Ch.ck ⟨xW, yW, A1W, n1W, c1W, csW, A2W, n2W, c2W, hsW, A3W, n3W, c3W, bsW⟩ = dd := by rw [HCW.out]; exact HCH.out.2.2.2.2
  obtain ⟨hq1, hq2, hq3, hq4, hq5⟩ := cap_own (HOW.out _ TW.out) (by rw [hcw]; exact HRd.out) (by rw [hcw]; exact HBd.out)
  have HSM : Hid (∀ W, Fr No wW W → Calls Tryd.prog 14 #[.agg #[.int .i64 xW, .int .i64 yW, .slice A1W n1W c1W, .slice A2W n2W c2W, .slice A3W n3W c3W], .agg #[.int .i64 x, .int .i64 y, .slice (some ⟨bA, o, none⟩) n1 c1, .slice A2 n2 c2, .slice A3 n3 c3]] W fun e w' => e = .returned (.bool true) ∧ Fr No W w') := Lib.hid (fun W hW => chsame_yes (C := ⟨xW, yW, A1W, n1W, c1W, csW, A2W, n2W, c2W, hsW, A3W, n3W, c3W, bsW⟩) (E := ⟨x, y, some ⟨bA, o, none⟩, n1, c1, cs, A2, n2, c2, hps, A3, n3, c3, bs⟩) ((HOW.out W hW).rd) (HIW.out W (HFc.out.no_trans hW)).rd (by rw [hcw, HD.out]) hq2 hq3 hq4 hq5)
  have HK : Hid (∀ W, Fr No wW W → W.heap[XW]? = some (.cells #[.int .i64 xW, .int .i64 yW, .slice A1W n1W c1W, .slice A2W n2W c2W, .slice A3W n3W c3W] 26 (0, 0)) ∧ W.heap[D]? = some (.cells #[.int .i64 x, .int .i64 y, .slice (some ⟨bA, o, none⟩) n1 c1, .slice A2 n2 c2, .slice A3 n3 c3] 26 (0, 0))) := Lib.hid (fun W hW => ⟨HBW.out W hW, blk_no (T0.out.no_trans hW) HB0.out⟩)
  have HNW := Lib.hid (fun W => new6_any (w := W))
  clear hcw hq1 hq2 hq3 hq4 hq5
  go_wp2_with (first
    | (go_at_call 22; refine (HNW.out _).mono ?_; rintro e wN ⟨bn, rfl, hon, hf⟩; have HN6 := Lib.hid hon; have HFN := Lib.hid hf; have HSS := Lib.hid (same_yes (HOB.out _ (TB.out.no_trans hf)) (OwS.rd hon) cb 6 (by omega)); clear hon hf)
    | (go_at_call 20; refine HSS.out.mono ?_; rintro e wM ⟨rfl, hf⟩; have HFM := Lib.hid (HFN.out.no_trans hf); obtain ⟨hx, hd⟩ := HK.out _ HFM.out; obtain ⟨p0, p1, p2, p3, p4⟩ := cells5 hx; obtain ⟨g0, g1, g2, g3, g4⟩ := cells5 hd; clear hf hx hd)
    | (go_at_call 14; refine (HSM.out _ HFM.out).mono ?_; rintro e wL ⟨rfl, hf⟩; have HFL := Lib.hid (HFc.out.no_trans (HFM.out.no_trans hf)); clear hf)
    | (go_at_call 9; refine (HA.out _ HFL.out).mono ?_; rintro e wZ ⟨rfl, hf⟩; have HFZ := Lib.hid hf; clear hf))
  go_ret
  exact ⟨rfl, HFZ.out.noBelow⟩
end
end Go.Proofs.YtepmclcbaipebaaDoor

/-
  The walk of ChunkBoxes. No statement of the seat is proved here.
-/
import Derived.Test.YtepmclcbaipebaaDoorChX
import Derived.Deep.CutBlock
namespace Go.Proofs.YtepmclcbaipebaaDoor
open Go.RowKit Go.Deep

section
variable {w w' : World} {lo : Nat} {C : Ch}
theorem chawake_w2 (ht : ItT w) : ∀ W, Fr No w W → Calls Tryd.prog 9 #[] W fun e w' => e = .returned (.bool true) ∧ Fr No w w' :=
  fun _ hW => (chawake_any (ht.no hW)).mono (fun _ _ ⟨h1, h2⟩ => ⟨h1, hW.no_trans h2⟩)
set_option maxRecDepth 100000 in
set_option maxHeartbeats 6400000 in
theorem boxes_walk (ht : ItT w) (h : InC w C) (x0 x1 : Int) {A : Option Addr} {n : Nat} {l : List (Nat × Int)} (hx : RdS w A n l) (hb : By l) (c : Nat) : Calls Tryd.prog 6 #[C.val, .agg #[.int .i64 x0, .int .i64 x1], .slice A n c] w fun e w' => e = .returned (.bool true) ∧ Below w.heap.size w w' := by
  have HA := Lib.hid (chawake_w2 ht)
  have HGR := Lib.hid (fun W (hW : Fr No w W) => great_any (h.no hW).rd h.sm)
  have HRI := Lib.hid (fun W (hW : Fr No w W) => cright_any (ht.no hW) (h.no hW).rd h.bt h.sm h.cap)
  obtain ⟨q, hq⟩ : ∃ q, rgtC C.ck = q := ⟨_, rfl⟩
  rw [hq] at HRI
  have HCE := Lib.hid (fun W => cells_any (w := W) x0 x1)
  obtain ⟨a, ha, hal⟩ : ∃ a, pick x0 64 = a ∧ a < 64 := ⟨_, rfl, pick_lt x0 (by omega)⟩
  obtain ⟨b, hbb, hbl⟩ : ∃ b, pick x1 64 = b ∧ b < 64 := ⟨_, rfl, pick_lt x1 (by omega)⟩
  rw [ha, hbb] at HCE
  have HIN := Lib.hid h
  have HLX := Lib.hid hx.1
  have HX := Lib.hid (fun W (hW : Fr No w W) => hx.no hW)
  have HBX : Hid (q = true → ∀ W, Fr No w W → Calls Tryd.prog 21 #[C.val, .int .i64 (b : Int)] W (BoxP W (hasB C.cs (b : Int)) (bagAt C.ck.bs (b : Int)))) := Lib.hid (fun hqt W hW => box_any (ht.no hW) (h.no hW) (by rw [hq]; exact hqt) (b : Int))
  have HFL : Hid (q = true → n ≤ 300 → ∀ W, Fr No w W → Calls Tryd.prog 18 #[C.val, .int .i64 (a : Int), .slice A n c] W (CkE W (fillCk C.ck (a : Int) l) (fillE C.ck (a : Int) l))) := Lib.hid (fun hqt hn W hW => fill_any (ht.no hW) (h.no hW) (by rw [hq]; exact hqt) (a : Int) (hx.no hW) hb c (by omega))
  have HB2 : Hid (q = true → ∀ W Dd, Fr No w W → Dd.ck = fillCk C.ck (a : Int) l → OwC w.heap.size W Dd → Calls Tryd.prog 21 #[Dd.val, .int .i64 (b : Int)] W (BoxP W (hasB C.cs (b : Int)) (bagAt (fillCk C.ck (a : Int) l).bs (b : Int)))) := Lib.hid (fun hqt W Dd hW hc ho => by
    have r := rgt_iff.1 (by rw [hq]; exact hqt)
    have := box_any (ht.no hW) (ho.inC (by rw [hc]; exact fill_b h.bt hb)) (by rw [hc]; exact rgt_iff.2 (fill_r r)) (b : Int)
    have e : hasB Dd.cs (b : Int) = hasB C.cs (b : Int) := by
      have e1 : Dd.cs = (fillCk C.ck (a : Int) l).cs := congrArg Ck.cs hc
      rw [e1]
      exact (fill_box (d := C.ck) (a := a) (b := b) (by have := r.cl; omega) l).1
    rw [hc, e] at this
    exact this)
  have HFB : Hid (q = true → ∀ (hbc : b < C.ck.cs.length), (if hasB C.cs (b : Int) then bagAt (fillCk C.ck (a : Int) l).bs (b : Int) else []) = (if a = b ∧ fillE C.ck (a : Int) l = 0 then l else if hasB C.cs (b : Int) then bagAt C.ck.bs (b : Int) else [])) := Lib.hid (fun _ hbc => (fill_box (d := C.ck) hbc l).2)
  have HRB := Lib.hid (fun W (hW : Fr No w W) (hn : n ≤ 300) => right_any (ht.no hW) (hx.no hW) hb c (by omega) 6)
  have hd6 : (decide ((n : Int) = 6) && rgt l) = (l.length == 6 && rgt l) := by
    rw [hx.1]
    by_cases h : n = 6
    · subst h; rfl
    · rw [decide_eq_false (by omega), beq_eq_false_iff_ne.2 h]
  rw [hd6] at HRB
  have HR : Hid (q = true → Rgt C.ck) := Lib.hid (fun hqt => rgt_iff.1 (by rw [hq]; exact hqt))
  clear ht h hx hb hq ha hbb hd6
  obtain ⟨x, y, A1, n1, c1, cs, A2, n2, c2, hps, A3, n3, c3, bs⟩ := C
  dsimp only [Ch.val] at *
  have hb0 := heap_alloc_new w (.cells #[.int .i64 x, .int .i64 y, .slice A1 n1 c1, .slice A2 n2 c2, .slice A3 n3 c3] 26)
  have f0 := Fr.alloc No w (.cells #[.int .i64 x, .int .i64 y, .slice A1 n1 c1, .slice A2 n2 c2, .slice A3 n3 c3] 26)
  have hb1 := heap_alloc_new (w.alloc (.cells #[.int .i64 x, .int .i64 y, .slice A1 n1 c1, .slice A2 n2 c2, .slice A3 n3 c3] 26)) (.cells #[.int .i64 x0, .int .i64 x1] 51)
  have f1 := Fr.alloc No (w.alloc (.cells #[.int .i64 x, .int .i64 y, .slice A1 n1 c1, .slice A2 n2 c2, .slice A3 n3 c3] 26)) (.cells #[.int .i64 x0, .int .i64 x1] 51)
  rw [World.size_alloc] at hb1
  replace hb0 := blk_no f1 hb0
  have HF := Lib.hid (f0.no_trans f1)
  clear f0 f1
  go_enter Tryd.func6, Tryd.ntmps6
  go_upto_region 1 with fail
  obtain ⟨D, hD⟩ : ∃ D, w.heap.size = D := ⟨_, rfl⟩
  rw [hD] at hb0 hb1 ⊢
  have HSW := Lib.hid hD
  clear hD
  generalize (w.alloc (.cells #[.int .i64 x, .int .i64 y, .slice A1 n1 c1, .slice A2 n2 c2, .slice A3 n3 c3] 26)).alloc (.cells #[.int .i64 x0, .int .i64 x1] 51) = w1 at *
  have HB0 := Lib.hid hb0
  have HB1 := Lib.hid hb1
  obtain ⟨g0, g1, g2, g3, g4⟩ := cells5 hb0
  clear hb0 hb1
  go_wp2_with fail
  refine (HGR.out _ HF.out).mono ?_
  rintro e w2 ⟨g, rfl, hf⟩
  have HF2 := Lib.hid (HF.out.no_trans hf)
  have HFa := Lib.hid hf
  clear hf g0 g1 g2 g3 g4 HGR
  cases g with
  | true =>
    go_wp2_with fail
    refine (HA.out _ HF2.out).mono ?_
    rintro e w3 ⟨rfl, hf⟩
    go_wp2_with fail
    go_ret
    exact ⟨rfl, hf.noBelow⟩
  | false =>
  obtain ⟨g0, g1, g2, g3, g4⟩ := cells5 (blk_no HFa.out HB0.out)
  go_wp2_with fail
  refine (HRI.out _ HF2.out).mono ?_
  rintro e w3 ⟨rfl, hf⟩
  have HF3 := Lib.hid (HF2.out.no_trans hf)
  have HFb := Lib.hid (HFa.out.no_trans hf)
  clear hf g0 g1 g2 g3 g4 HRI HFa HF2
  cases q with
  | false =>
    go_wp2_with fail
    refine (HA.out _ HF3.out).mono ?_
    rintro e w4 ⟨rfl, hf⟩
    go_wp2_with fail
    go_ret
    exact ⟨rfl, hf.noBelow⟩
  | true =>
  by_cases hl : 300 < n
  · have hl' : (300 : Int) < ((n : Nat) : Int) := by omega
    go_wp2_with fail
    refine (HA.out _ HF3.out).mono ?_
    rintro e w4 ⟨rfl, hf⟩
    go_wp2_with fail
    go_ret
    exact ⟨rfl, hf.noBelow⟩
  have hl' : ¬ (300 : Int) < ((n : Nat) : Int) := by omega
  have HR2 := Lib.hid (HR.out rfl)
  have HBX2 := Lib.hid (HBX.out rfl)
  have HFL2 := Lib.hid (HFL.out rfl (by omega))
  have HB22 := Lib.hid (HB2.out rfl)
  have HN1 : Hid (n1 = 64) := Lib.hid (HIN.out.small HR2.out).1
  have HCL : Hid (cs.length = 64) := Lib.hid HR2.out.cl
  have hac : a < cs.length := by have := HCL.out; omega
  have hbc : b < cs.length := by have := HCL.out; omega
  have HFB2 := Lib.hid (HFB.out rfl (show b < cs.length from hbc))
  have HRB2 := Lib.hid (fun W hW => HRB.out W hW (by omega))
  obtain ⟨bA, o, hA1, hca⟩ : ∃ bA o, A1 = some ⟨bA, o, none⟩ ∧ ∀ (W : World), Fr No w W → ∀ j (hj : j < cs.length), W.cell? ⟨bA, o + j, none⟩ = some (.int .u8 (cs[j] : Int)) := by
    obtain ⟨bA, o, hA, hlt, hc⟩ := HIN.out.rd.r1.2 (show 0 < n1 by have := HN1.out; omega)
    refine ⟨bA, o, hA, fun W hW j hj => ?_⟩
    have := hc j hj
    rw [Nat.mul_one] at this
    exact (cell_no hW hlt _).trans this
  subst hA1
  have HCA := Lib.hid hca
  clear hca
  have e0 := (blk_cell (blk_no HFb.out HB1.out) 0).trans (by simp : _ = some (.int .i64 x0))
  have e1 := (blk_cell (blk_no HFb.out HB1.out) 1).trans (by simp : _ = some (.int .i64 x1))
  go_wp2_with fail
  refine (HCE.out _).mono ?_
  rintro e w4 ⟨rfl, hf⟩
  have HF4 := Lib.hid (HF3.out.no_trans hf)
  have HFc := Lib.hid (HFb.out.no_trans hf)
  clear hf e0 e1 HF3 HFb HCE
  obtain ⟨g0, g1, g2, g3, g4⟩ := cells5 (blk_no HFc.out HB0.out)
  go_wp2_with fail
  refine (HBX2.out _ HF4.out).mono ?_
  rintro e w4b ⟨Aw, nw, cw, lw, rfl, hlw, hnw, how, hf⟩
  have HW4 := Lib.hid how
  have HF5 := Lib.hid (HF4.out.no_trans hf)
  have HFd := Lib.hid (HFc.out.no_trans hf)
  clear hf how g0 g1 g2 g3 g4 HF4 HFc
  subst hnw
  have hlw6 : lw.length ≤ 6 := by
    rw [hlw]
    split
    · exact bagAt_nil (fun l => l.length ≤ 6) (by decide) (fun b hb => Nat.le_of_eq (HR2.out.br b hb).1) _
    · exact Nat.zero_le _
  obtain ⟨g0, g1, g2, g3, g4⟩ := cells5 (blk_no HFd.out HB0.out)
  have m0 := HCA.out _ HF5.out b hbc
  obtain ⟨qb, hqb⟩ : ∃ qb, hasB cs (b : Int) = qb := ⟨_, rfl⟩
  have eqb : ((cs[b] : Int) == 9) = qb := by
    rw [← hqb, hasB_nat hbc]
    by_cases h9 : cs[b] = 9
    · rw [h9]; rfl
    · rw [decide_eq_false h9, beq_eq_false_iff_ne]; omega
  have hb1i : (b : Int) < (n1 : Int) := by have := HN1.out; omega
  have ha1i : (a : Int) < (n1 : Int) := by have := HN1.out; omega
  have hb0i : (0 : Int) ≤ (b : Int) := by omega
  have ha0i : (0 : Int) ≤ (a : Int) := by omega
  rw [hqb] at HFB2 hlw HB22 ⊢
  have HLW := Lib.hid hlw
  clear hqb hlw
  go_upto_region 5 with fail
  go_cut [46] from 39 to 46 (fun v46 wx => v46 = .bool false ∧ wx = w4b)
  case first =>
    cases qb with
    | true =>
      go_wp2_with fail
      go_meet
      exact ⟨rfl, rfl⟩
    | false =>
      go_wp2_with fail
      go_meet
      exact ⟨rfl, rfl⟩
  case rest =>
  obtain ⟨rfl, rfl⟩ := hcut
  clear m0 eqb
  go_wp2_with fail
  refine (HFL2.out _ HF5.out).mono ?_
  rintro e w5 ⟨⟨x', y', A1', n1', c1', cs', A2', n2', c2', hps', A3', n3', c3', bs'⟩, rfl, hc5, ho5, hf5⟩
  have HC5 := Lib.hid hc5
  have hfa := Fr.alloc No w5 (.cells #[.int .i64 x', .int .i64 y', .slice A1' n1' c1', .slice A2' n2' c2', .slice A3' n3' c3'] 26)
  have hbX := heap_alloc_new w5 (.cells #[.int .i64 x', .int .i64 y', .slice A1' n1' c1', .slice A2' n2' c2', .slice A3' n3' c3'] 26)
  have HO6 := Lib.hid ((ho5.low HF5.out.size).no hfa)
  have HF6 := Lib.hid ((HF5.out.no_trans hf5).no_trans hfa)
  have HFe := Lib.hid ((HFd.out.no_trans hf5).no_trans hfa)
  have HT46 := Lib.hid (hf5.no_trans hfa)
  clear ho5 hc5 hf5 hfa g0 g1 g2 g3 g4 HF5
  dsimp only [Ch.val]
  go_upto_region 8 with fail
  obtain ⟨X, hX⟩ : ∃ X, w5.heap.size = X := ⟨_, rfl⟩
  rw [hX] at hbX ⊢
  generalize w5.alloc (.cells #[.int .i64 x', .int .i64 y', .slice A1' n1' c1', .slice A2' n2' c2', .slice A3' n3' c3'] 26) = w6 at *
  clear hX
  have HB7 := Lib.hid hbX
  clear hbX
  obtain ⟨g0, g1, g2, g3, g4⟩ := cells5 (blk_no HFe.out HB0.out)
  have m0 := HCA.out _ HF6.out a hac
  by_cases h9 : cs[a] = 9
  · have eqa : ((cs[a] : Int) == 9) = true := by rw [h9]; rfl
    have hha : hasB cs (a : Int) = true := by rw [hasB_nat hac, decide_eq_true h9]
    cases hr : (l.length == 6 && rgt l) with
    | true =>
      rw [hr] at HRB2
      have e1 : fillE (Ch.ck ⟨x, y, some ⟨bA, o, none⟩, n1, c1, cs, A2, n2, c2, hps, A3, n3, c3, bs⟩) (a : Int) l = 0 := by
        unfold fillE
        rw [show hasB (Ch.ck ⟨x, y, some ⟨bA, o, none⟩, n1, c1, cs, A2, n2, c2, hps, A3, n3, c3, bs⟩).cs (a : Int) = true from hha, hr]
        rfl
      rw [e1] at HFB2 ⊢
      clear h9 hha hr e1
      go_wp2_with fail
      refine (HRB2.out _ HF6.out).mono ?_
      rintro e w7 ⟨rfl, hf⟩
      have HF7 := Lib.hid (HF6.out.no_trans hf)
      have HT7 := Lib.hid hf
      clear hf g0 g1 g2 g3 g4 m0 HRB2
      by_cases hab : a = b
      · subst hab
        obtain ⟨k0, k1, k2, k3, k4⟩ := cells5 (blk_no HT7.out HB7.out)
        go_wp2_with fail
        refine (HB22.out _ ⟨x', y', A1', n1', c1', cs', A2', n2', c2', hps', A3', n3', c3', bs'⟩ HF7.out HC5.out (HO6.out.no HT7.out)).mono ?_
        rintro e w8 ⟨Ag, ng, cg, lg, rfl, hlg, hng, hog, hf⟩
        have HF8 := Lib.hid (HF7.out.no_trans hf)
        have HT8 := Lib.hid (HT7.out.no_trans hf)
        rw [HFB2.out] at hlg
        rw [if_pos ⟨by first | rfl | trivial, by first | rfl | trivial⟩] at hlg
        subst hlg hng
        have hxl : RdS w8 A lg.length lg := by have h1 := HX.out _ HF8.out; rw [← HLX.out] at h1; exact h1
        have hnl := HLX.out
        have HS := Lib.hid (same_yes (hog.rd) hxl cg c (by omega))
        have hnl2 : (Value.slice A n c) = .slice A lg.length c := by rw [hnl]
        have eab : ((a : Int) == (a : Int)) = true := by simp
        rw [hnl] at HS
        clear hf hog k0 k1 k2 k3 k4
        go_wp2_with (first
          | (go_at_call 20; refine HS.out.mono ?_; rintro e w9 ⟨rfl, hf⟩; have HF9 := Lib.hid (HF8.out.no_trans hf); clear hf)
          | (go_at_call 9; refine (HA.out _ HF9.out).mono ?_; rintro e w10 ⟨rfl, hf⟩; have HF10 := Lib.hid hf; clear hf))
        all_goals (go_ret; exact ⟨rfl, HF10.out.noBelow⟩)
      · obtain ⟨k0, k1, k2, k3, k4⟩ := cells5 (blk_no HT7.out HB7.out)
        go_wp2_with fail
        refine (HB22.out _ ⟨x', y', A1', n1', c1', cs', A2', n2', c2', hps', A3', n3', c3', bs'⟩ HF7.out HC5.out (HO6.out.no HT7.out)).mono ?_
        rintro e w8 ⟨Ag, ng, cg, lg, rfl, hlg, hng, hog, hf⟩
        have HF8 := Lib.hid (HF7.out.no_trans hf)
        have HT8 := Lib.hid (HT7.out.no_trans hf)
        rw [HFB2.out] at hlg
        rw [if_neg (fun h => hab h.1)] at hlg
        rw [← HLW.out] at hlg
        subst hlg hng
        have hW8 := HW4.out.no (HT46.out.no_trans HT8.out)
        have HS := Lib.hid (same_yes (hog.rd) hW8.rd cg cw (by omega))
        have eab : ((a : Int) == (b : Int)) = false := by rw [beq_eq_false_iff_ne]; omega
        clear hf hog k0 k1 k2 k3 k4
        go_wp2_with (first
          | (go_at_call 20; refine HS.out.mono ?_; rintro e w9 ⟨rfl, hf⟩; have HF9 := Lib.hid (HF8.out.no_trans hf); clear hf)
          | (go_at_call 9; refine (HA.out _ HF9.out).mono ?_; rintro e w10 ⟨rfl, hf⟩; have HF10 := Lib.hid hf; clear hf))
        all_goals (go_ret; exact ⟨rfl, HF10.out.noBelow⟩)
    | false =>
      rw [hr] at HRB2
      have e1 : fillE (Ch.ck ⟨x, y, some ⟨bA, o, none⟩, n1, c1, cs, A2, n2, c2, hps, A3, n3, c3, bs⟩) (a : Int) l = 103 := by
        unfold fillE
        rw [show hasB (Ch.ck ⟨x, y, some ⟨bA, o, none⟩, n1, c1, cs, A2, n2, c2, hps, A3, n3, c3, bs⟩).cs (a : Int) = true from hha, hr]
        rfl
      rw [e1] at HFB2 ⊢
      clear h9 hha hr e1
      go_wp2_with fail
      refine (HRB2.out _ HF6.out).mono ?_
      rintro e w7 ⟨rfl, hf⟩
      have HF7 := Lib.hid (HF6.out.no_trans hf)
      have HT7 := Lib.hid hf
      clear hf g0 g1 g2 g3 g4 m0 HRB2
      obtain ⟨k0, k1, k2, k3, k4⟩ := cells5 (blk_no HT7.out HB7.out)
      go_wp2_with fail
      refine (HB22.out _ ⟨x', y', A1', n1', c1', cs', A2', n2', c2', hps', A3', n3', c3', bs'⟩ HF7.out HC5.out (HO6.out.no HT7.out)).mono ?_
      rintro e w8 ⟨Ag, ng, cg, lg, rfl, hlg, hng, hog, hf⟩
      have HF8 := Lib.hid (HF7.out.no_trans hf)
      have HT8 := Lib.hid (HT7.out.no_trans hf)
      rw [HFB2.out] at hlg
      rw [if_neg (fun h => absurd h.2 (by decide))] at hlg
      rw [← HLW.out] at hlg
      subst hlg hng
      have hW8 := HW4.out.no (HT46.out.no_trans HT8.out)
      have HS := Lib.hid (same_yes (hog.rd) hW8.rd cg cw (by omega))
      clear hf hog k0 k1 k2 k3 k4
      go_wp2_with (first
        | (go_at_call 20; refine HS.out.mono ?_; rintro e w9 ⟨rfl, hf⟩; have HF9 := Lib.hid (HF8.out.no_trans hf); clear hf)
        | (go_at_call 9; refine (HA.out _ HF9.out).mono ?_; rintro e w10 ⟨rfl, hf⟩; have HF10 := Lib.hid hf; clear hf))
      all_goals (go_ret; exact ⟨rfl, HF10.out.noBelow⟩)
  · have eqa : ((cs[a] : Int) == 9) = false := by rw [beq_eq_false_iff_ne]; omega
    have hha : hasB cs (a : Int) = false := by rw [hasB_nat hac, decide_eq_false h9]
    have e1 : fillE (Ch.ck ⟨x, y, some ⟨bA, o, none⟩, n1, c1, cs, A2, n2, c2, hps, A3, n3, c3, bs⟩) (a : Int) l = 102 := by
      unfold fillE
      rw [show hasB (Ch.ck ⟨x, y, some ⟨bA, o, none⟩, n1, c1, cs, A2, n2, c2, hps, A3, n3, c3, bs⟩).cs (a : Int) = false from hha]
      rfl
    rw [e1] at HFB2 ⊢
    clear h9 hha e1
    have HF7 := HF6
    have HT7 : Hid (Fr No w6 w6) := Lib.hid (Fr.refl _ _)
    obtain ⟨k0, k1, k2, k3, k4⟩ := cells5 (blk_no HT7.out HB7.out)
    go_wp2_with fail
    refine (HB22.out _ ⟨x', y', A1', n1', c1', cs', A2', n2', c2', hps', A3', n3', c3', bs'⟩ HF7.out HC5.out (HO6.out.no HT7.out)).mono ?_
    rintro e w8 ⟨Ag, ng, cg, lg, rfl, hlg, hng, hog, hf⟩
    have HF8 := Lib.hid (HF7.out.no_trans hf)
    have HT8 := Lib.hid (HT7.out.no_trans hf)
    rw [HFB2.out] at hlg
    rw [if_neg (fun h => absurd h.2 (by decide))] at hlg
    rw [← HLW.out] at hlg
    subst hlg hng
    have hW8 := HW4.out.no (HT46.out.no_trans HT8.out)
    have HS := Lib.hid (same_yes (hog.rd) hW8.rd cg cw (by omega))
    clear hf hog k0 k1 k2 k3 k4
    go_wp2_with (first
      | (go_at_call 20; refine HS.out.mono ?_; rintro e w9 ⟨rfl, hf⟩; have HF9 := Lib.hid (HF8.out.no_trans hf); clear hf)
      | (go_at_call 9; refine (HA.out _ HF9.out).mono ?_; rintro e w10 ⟨rfl, hf⟩; have HF10 := Lib.hid hf; clear hf))
    all_goals (go_ret; exact ⟨rfl, HF10.out.noBelow⟩)
end
end Go.Proofs.YtepmclcbaipebaaDoor

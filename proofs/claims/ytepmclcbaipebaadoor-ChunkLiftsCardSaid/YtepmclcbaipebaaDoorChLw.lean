/-
  The walk of ChunkLifts. No statement of the seat is proved here.
-/
import Derived.Test.YtepmclcbaipebaaDoorChLm
import Derived.Test.YtepmclcbaipebaaDoorChZ
namespace Go.Proofs.YtepmclcbaipebaaDoor
open Go.RowKit Go.Deep

theorem cap_ownL {lo : Nat} {w : World} {C : Ch} (h : OwC lo w C) (r : Rgt C.ck) (hb : ByC C.ck) : InC w C ∧ C.n1 ≤ 100000 ∧ C.n2 ≤ 100000 ∧ C.n3 ≤ 100000 ∧ ∀ b ∈ C.bs, b.l.length ≤ 100000 := by
  have hi := h.inC hb
  obtain ⟨h1, h2, h3, _⟩ := hi.small r
  refine ⟨hi, by omega, by omega, by omega, fun b hb => ?_⟩
  have := (r.br b.bp (List.mem_map_of_mem hb)).1
  have e : b.bp.2 = b.l := rfl
  rw [e] at this
  omega
section
variable {w w' : World} {lo : Nat} {C : Ch}
theorem chawake_w4 (ht : ItT w) : ∀ W, Fr No w W → Calls Tryd.prog 9 #[] W fun e w' => e = .returned (.bool true) ∧ Fr No w w' :=
  fun _ hW => (chawake_any (ht.no hW)).mono (fun _ _ ⟨h1, h2⟩ => ⟨h1, hW.no_trans h2⟩)
set_option maxRecDepth 100000 in
set_option maxHeartbeats 12800000 in
theorem lifts_walk (ht : ItT w) (h : InC w C) (x0 x1 : Int) {A : Option Addr} {n : Nat} {l : List (Nat × Int)} (hx : RdS w A n l) (hby : By l) (c : Nat) : Calls Tryd.prog 4 #[C.val, .agg #[.int .i64 x0, .int .i64 x1], .slice A n c] w fun e w' => e = .returned (.bool true) ∧ Below w.heap.size w w' := by
  have HA := Lib.hid (chawake_w4 ht)
  have HGR := Lib.hid (fun W (hW : Fr No w W) => great_any (h.no hW).rd h.sm)
  have HRI := Lib.hid (fun W (hW : Fr No w W) => cright_any (ht.no hW) (h.no hW).rd h.bt h.sm h.cap)
  obtain ⟨q, hq⟩ : ∃ q, rgtC C.ck = q := ⟨_, rfl⟩
  rw [hq] at HRI
  have HCE := Lib.hid (fun W => cells_any (w := W) x0 x1)
  obtain ⟨a, ha, hal⟩ : ∃ a, pick x0 64 = a ∧ a < 64 := ⟨_, rfl, pick_lt x0 (by omega)⟩
  obtain ⟨b, hbb, hbl⟩ : ∃ b, pick x1 64 = b ∧ b < 64 := ⟨_, rfl, pick_lt x1 (by omega)⟩
  rw [ha, hbb] at HCE
  have HIN := Lib.hid h
  have HIW := Lib.hid (fun W (hW : Fr No w W) => h.no hW)
  have HXl := Lib.hid (fun W (hW : Fr No w W) => hx.no hW)
  have HLl := Lib.hid hx.1
  have HBl := Lib.hid hby
  have HR : Hid (q = true → Rgt C.ck) := Lib.hid (fun hqt => rgt_iff.1 (by rw [hq]; exact hqt))
  have HLIFT : Hid (∀ W (C' : Ch) (n : Nat), Fr No w W → InC W C' → Rgt C'.ck → Calls Tryd.prog 16 #[C'.val, .int .i64 (n : Int)] W (LiftP W (liftL C'.ck (n : Int)) (liftS C'.ck (n : Int)))) := Lib.hid (fun W C' n hW hin r => lift_any (ht.no hW) hin (rgt_iff.2 r) (n : Int))
  have HDROP : Hid (∀ W (C' : Ch) (n s : Nat) (m : Int), Fr No w W → InC W C' → Rgt C'.ck → s < 256 → Calls Tryd.prog 15 #[C'.val, .int .i64 (n : Int), .agg #[.int .u8 (s : Int), .int .i64 m]] W (CkE W (dropL C'.ck (n : Int) (s, m)) (dropE C'.ck (n : Int) (s, m)))) := Lib.hid (fun W C' n s m hW hin r hs => drop_any (ht.no hW) hin (rgt_iff.2 r) (n : Int) hs m)
  clear ht h hq ha hbb hx hby
  obtain ⟨x, y, A1, n1, c1, cs, A2, n2, c2, hps, A3, n3, c3, bs⟩ := C
  dsimp only [Ch.val] at HGR HRI ⊢
  have hb0 := heap_alloc_new w (.cells #[.int .i64 x, .int .i64 y, .slice A1 n1 c1, .slice A2 n2 c2, .slice A3 n3 c3] 26)
  have f0 := Fr.alloc No w (.cells #[.int .i64 x, .int .i64 y, .slice A1 n1 c1, .slice A2 n2 c2, .slice A3 n3 c3] 26)
  have hb1 := heap_alloc_new (w.alloc (.cells #[.int .i64 x, .int .i64 y, .slice A1 n1 c1, .slice A2 n2 c2, .slice A3 n3 c3] 26)) (.cells #[.int .i64 x0, .int .i64 x1] 51)
  have f1 := Fr.alloc No (w.alloc (.cells #[.int .i64 x, .int .i64 y, .slice A1 n1 c1, .slice A2 n2 c2, .slice A3 n3 c3] 26)) (.cells #[.int .i64 x0, .int .i64 x1] 51)
  rw [World.size_alloc] at hb1
  replace hb0 := blk_no f1 hb0
  have HF := Lib.hid (f0.no_trans f1)
  clear f0 f1
  go_enter Tryd.func4, Tryd.ntmps4
  go_upto_region 1 with fail
  obtain ⟨D, hD⟩ : ∃ D, w.heap.size = D := ⟨_, rfl⟩
  rw [hD] at hb0 hb1 ⊢
  have HSW := Lib.hid hD
  clear hD
  generalize (w.alloc (.cells #[.int .i64 x, .int .i64 y, .slice A1 n1 c1, .slice A2 n2 c2, .slice A3 n3 c3] 26)).alloc (.cells #[.int .i64 x0, .int .i64 x1] 51) = w1 at *
  have HB0 := Lib.hid hb0
  have HB1 := Lib.hid hb1
  obtain ⟨g0, g1, g2, g3, g4⟩ := cells5 hb0
  clear hb0 hb1
  go_wp2_with fail
  refine (HGR.out _ HF.out).mono ?_
  rintro e w2 ⟨g, rfl, hf⟩
  have HF2 := Lib.hid (HF.out.no_trans hf)
  have HFa := Lib.hid hf
  clear hf g0 g1 g2 g3 g4 HGR
  cases g with
  | true =>
    go_wp2_with fail
    refine (HA.out _ HF2.out).mono ?_
    rintro e w3 ⟨rfl, hf⟩
    go_wp2_with fail
    go_ret
    exact ⟨rfl, hf.noBelow⟩
  | false =>
  obtain ⟨g0, g1, g2, g3, g4⟩ := cells5 (blk_no HFa.out HB0.out)
  go_wp2_with fail
  refine (HRI.out _ HF2.out).mono ?_
  rintro e w3 ⟨rfl, hf⟩
  have HF3 := Lib.hid (HF2.out.no_trans hf)
  have HFb := Lib.hid (HFa.out.no_trans hf)
  clear hf g0 g1 g2 g3 g4 HRI HFa HF2
  cases q with
  | false =>
    go_wp2_with fail
    refine (HA.out _ HF3.out).mono ?_
    rintro e w4 ⟨rfl, hf⟩
    go_wp2_with fail
    go_ret
    exact ⟨rfl, hf.noBelow⟩
  | true =>
  have HR2 := Lib.hid (HR.out rfl)
  have HFc := HF3
  have T0 := HFb
  clear HF3 HFb HF
  obtain ⟨dd, hdd⟩ : ∃ d : Ck, Ch.ck ⟨x, y, A1, n1, c1, cs, A2, n2, c2, hps, A3, n3, c3, bs⟩ = d := ⟨_, rfl⟩
  have HD := Lib.hid hdd
  have HRd : Hid (Rgt dd) := Lib.hid (by rw [← hdd]; exact HR2.out)
  have HBd : Hid (ByC dd) := Lib.hid (by rw [← hdd]; exact HIN.out.bt)
  clear hdd
  have e0 := (blk_cell (blk_no T0.out HB1.out) 0).trans (by simp : _ = some (.int .i64 x0))
  have e1 := (blk_cell (blk_no T0.out HB1.out) 1).trans (by simp : _ = some (.int .i64 x1))
  go_wp2_with fail
  refine (HCE.out _).mono ?_
  rintro e wc0 ⟨rfl, hf⟩
  have HF4 := Lib.hid (HFc.out.no_trans hf)
  have T4 := Lib.hid (T0.out.no_trans hf)
  clear hf e0 e1 HCE HFc T0
  obtain ⟨g0, g1, g2, g3, g4⟩ := cells5 (blk_no T4.out HB0.out)
  have HS := Lib.hid (HLIFT.out _ ⟨x, y, A1, n1, c1, cs, A2, n2, c2, hps, A3, n3, c3, bs⟩ a HF4.out (HIW.out _ HF4.out) HR2.out)
  rw [HD.out] at HS
  go_wp2_with fail
  refine HS.out.mono ?_
  rintro e wR ⟨⟨xP, yP, A1P, n1P, c1P, csP, A2P, n2P, c2P, hsP, A3P, n3P, c3P, bsP⟩, Al, nl, cl, rfl, hnl, hc, ho, hol, hf⟩
  have hfa := Fr.alloc No wR (.cells #[.int .i64 xP, .int .i64 yP, .slice A1P n1P c1P, .slice A2P n2P c2P, .slice A3P n3P c3P] 26)
  have hbX := heap_alloc_new wR (.cells #[.int .i64 xP, .int .i64 yP, .slice A1P n1P c1P, .slice A2P n2P c2P, .slice A3P n3P c3P] 26)
  have HOP := Lib.hid ((ho.low HF4.out.size).no hfa)
  have HCP := Lib.hid hc
  have HF5 := Lib.hid (HF4.out.no_trans (hf.no_trans hfa))
  have HSZ := Lib.hid (HF4.out.no_trans hf).size
  clear hf hc ho hol hnl g0 g1 g2 g3 g4 HS HF4 T4 hfa
  dsimp only [Ch.val]
  go_upto_region 5 with fail
  obtain ⟨X, hX⟩ : ∃ X, wR.heap.size = X := ⟨_, rfl⟩
  have hXw : w.heap.size ≤ X := by
    rw [← hX]
    exact HSZ.out
  rw [hX] at hbX ⊢
  clear hX
  generalize wR.alloc (.cells #[.int .i64 xP, .int .i64 yP, .slice A1P n1P c1P, .slice A2P n2P c2P, .slice A3P n3P c3P] 26) = wP at *
  have HBP := Lib.hid hbX
  obtain ⟨p0, p1, p2, p3, p4⟩ := cells5 hbX
  clear hbX
  have HS := Lib.hid (HLIFT.out _ ⟨xP, yP, A1P, n1P, c1P, csP, A2P, n2P, c2P, hsP, A3P, n3P, c3P, bsP⟩ b HF5.out (cap_ownL HOP.out (by rw [HCP.out]; exact HRd.out.lift _) (by rw [HCP.out]; exact HBd.out.lift _)).1 (by rw [HCP.out]; exact HRd.out.lift _))
  rw [HCP.out] at HS
  go_wp2_with fail
  refine HS.out.mono ?_
  rintro e wR2 ⟨⟨xQ, yQ, A1Q, n1Q, c1Q, csQ, A2Q, n2Q, c2Q, hsQ, A3Q, n3Q, c3Q, bsQ⟩, Al2, nl2, cl2, rfl, hnl, hc, ho, hol, hf⟩
  have HOQ := Lib.hid (ho.low HF5.out.size)
  have HCQ := Lib.hid hc
  have HF6 := Lib.hid (HF5.out.no_trans hf)
  have HBX := Lib.hid (blk_no hf HBP.out)
  clear hf hc ho hol hnl p0 p1 p2 p3 p4 HS
  dsimp only [Ch.val]
  obtain ⟨r0, r1, r2, r3, r4⟩ := cells5 HBX.out
  obtain ⟨z0, z1, z2, z3, z4⟩ := free5 HBX.out
  have k1 := set5_heap HBX.out (.int .i64 xQ) (.int .i64 yQ) (.slice A1Q n1Q c1Q) (.slice A2Q n2Q c2Q) (.slice A3Q n3Q c3Q)
  have hq5 := set5_fr wR2 X (.int .i64 xQ) (.int .i64 yQ) (.slice A1Q n1Q c1Q) (.slice A2Q n2Q c2Q) (.slice A3Q n3Q c3Q)
  have k2 := HOQ.out.at_ HBX.out hq5
  have k3 := HF6.out.then_new hq5 (fun i hi => by have e : i = X := hi; rw [e]; exact hXw)
  obtain ⟨w9, hw9⟩ : ∃ W, set5 wR2 X (.int .i64 xQ) (.int .i64 yQ) (.slice A1Q n1Q c1Q) (.slice A2Q n2Q c2Q) (.slice A3Q n3Q c3Q) = W := ⟨_, rfl⟩
  rw [hw9] at k1 k2 k3
  simp only [set5] at hw9
  clear hq5
  have HB9 := Lib.hid k1
  have HO9 := Lib.hid k2
  have HF9 := Lib.hid k3
  have HXW := Lib.hid hXw
  clear k1 k2 k3 hXw
  go_upto_region 6 with fail
  try rw [hw9]
  clear hw9 r0 r1 r2 r3 r4 z0 z1 z2 z3 z4 HOQ HBX HF6 HOP HCP HF5 HBP HSZ
  obtain ⟨bb, hbq⟩ : ∃ d, liftL (liftL dd (a : Int)) (b : Int) = d := ⟨_, rfl⟩
  rw [hbq] at HCQ
  have HRb : Hid (Rgt bb) := Lib.hid (by rw [← hbq]; exact (HRd.out.lift _).lift _)
  have HBb : Hid (ByC bb) := Lib.hid (by rw [← hbq]; exact (HBd.out.lift _).lift _)
  have HBQ := Lib.hid hbq
  clear hbq
  go_wp2_with fail
  go_loopw [11, 12] (fun v11 v12 wr => ∃ (k : Nat) (ys : List Hp) (ml : List (Nat × Int)) (M : Nat) (Am : Option Addr) (cm : Nat) (C' : Ch), k ≤ n ∧ k ≤ 10 ∧ v12 = .int .i64 (k : Int) ∧ v11 = .slice Am M cm ∧ ml.length = M ∧ ml = ofC ys (a : Int) ∧ M ≤ k ∧ OwS w.heap.size wr (.slice Am M cm) ml ∧ C'.ck = { bb with hs := bb.hs ++ ys } ∧ Rgt C'.ck ∧ ByC C'.ck ∧ OwC w.heap.size wr C' ∧ wr.heap[X]? = some (.cells #[.int .i64 C'.x, .int .i64 C'.y, .slice C'.A1 C'.n1 C'.c1, .slice C'.A2 C'.n2 C'.c2, .slice C'.A3 C'.n3 C'.c3] 26 (0, 0)) ∧ Fr No w wr) (fun _ v12 _ => n - (intOf v12).toNat)
  case atStart => exact ⟨0, [], [], 0, none, 0, ⟨xQ, yQ, A1Q, n1Q, c1Q, csQ, A2Q, n2Q, c2Q, hsQ, A3Q, n3Q, c3Q, bsQ⟩, by omega, by omega, rfl, rfl, rfl, rfl, by omega, OwS.nil _ _, by rw [HCQ.out, List.append_nil], by rw [HCQ.out]; exact HRb.out, by rw [HCQ.out]; exact HBb.out, HO9.out, HB9.out, HF9.out⟩
  case round =>
    obtain ⟨k, ys, ml, M, Am, cm, ⟨xC, yC, A1C, n1C, c1C, csC, A2C, n2C, c2C, hsC, A3C, n3C, c3C, bsC⟩, hk, hk10, rfl, rfl, hM, hml, hmk, hos, hcc, hrc, hbc, hoc, hbx, hf⟩ := hrel
    have HM := Lib.hid hM
    have HML := Lib.hid hml
    have HOS := Lib.hid hos
    have HCC := Lib.hid hcc
    have HRC := Lib.hid hrc
    have HBC := Lib.hid hbc
    have HOC := Lib.hid hoc
    have HBXr := Lib.hid hbx
    have HFr := Lib.hid hf
    clear hM hml hos hcc hrc hbc hoc hbx hf HB9 HO9 HF9 HCQ
    go_upto_region 8 with fail
    go_cut [55] from 48 to 55 (fun v55 wx => ∃ g : Bool, v55 = .bool g ∧ wx = wr ∧ (g = true ↔ (k < n ∧ k < 10)))
    case first =>
      by_cases hkn : k < n
      · have hknI : (k : Int) < (n : Int) := by omega
        by_cases h10 : k < 10
        · have h10I : (k : Int) < 10 := by omega
          go_wp2_with fail
          go_meet
          exact ⟨true, rfl, rfl, by simp [hkn, h10]⟩
        · have h10I : ¬ (k : Int) < 10 := by omega
          go_wp2_with fail
          go_meet
          exact ⟨false, rfl, rfl, by simp [h10]⟩
      · have hknI : ¬ (k : Int) < (n : Int) := by omega
        have hknD : decide ((k : Int) < (n : Int)) = false := decide_eq_false hknI
        go_wp2_with fail
        go_meet
        exact ⟨false, rfl, rfl, by simp [hkn]⟩
    case rest =>
    obtain ⟨g, rfl, rfl, hg⟩ := hcut
    cases g with
    | false =>
      clear hg HXl HLl HBl HDROP HRb HBb
      obtain ⟨dk, hdk⟩ : ∃ d : Ck, ({ bb with hs := bb.hs ++ ys } : Ck) = d := ⟨_, rfl⟩
      rw [hdk] at HCC
      have HDK := Lib.hid hdk
      clear hdk
      have HRD : Hid (Rgt dk) := Lib.hid (by rw [← HCC.out]; exact HRC.out)
      have HBD : Hid (ByC dk) := Lib.hid (by rw [← HCC.out]; exact HBC.out)
      obtain ⟨p0, p1, p2, p3, p4⟩ := cells5 HBXr.out
      have HS := Lib.hid (HLIFT.out _ ⟨xC, yC, A1C, n1C, c1C, csC, A2C, n2C, c2C, hsC, A3C, n3C, c3C, bsC⟩ a HFr.out (cap_ownL HOC.out HRC.out HBC.out).1 HRC.out)
      rw [HCC.out] at HS
      go_upto_region 17 with fail
      go_wp2_with fail
      refine HS.out.mono ?_
      rintro e wR ⟨⟨xV, yV, A1V, n1V, c1V, csV, A2V, n2V, c2V, hsV, A3V, n3V, c3V, bsV⟩, Ag, ng, cg, rfl, hng, hc, ho, hog, hf⟩
      have hfa := Fr.alloc No wR (.cells #[.int .i64 xV, .int .i64 yV, .slice A1V n1V c1V, .slice A2V n2V c2V, .slice A3V n3V c3V] 26)
      have hbV := heap_alloc_new wR (.cells #[.int .i64 xV, .int .i64 yV, .slice A1V n1V c1V, .slice A2V n2V c2V, .slice A3V n3V c3V] 26)
      have HFn := Lib.hid (hf.no_trans hfa)
      have HOV := Lib.hid ((ho.low HFr.out.size).no hfa)
      have HOG := Lib.hid (hog.no hfa)
      have HCV := Lib.hid hc
      have HNG := Lib.hid hng
      clear hf hfa hc ho hog hng p0 p1 p2 p3 p4 HS
      dsimp only [Ch.val]
      go_upto_region 18 with fail
      obtain ⟨Y, hY⟩ : ∃ X, wR.heap.size = X := ⟨_, rfl⟩
      rw [hY] at hbV ⊢
      clear hY
      generalize wR.alloc (.cells #[.int .i64 xV, .int .i64 yV, .slice A1V n1V c1V, .slice A2V n2V c2V, .slice A3V n3V c3V] 26) = wV at *
      have HF5 := Lib.hid (HFr.out.no_trans HFn.out)
      have HX5 := Lib.hid (blk_no HFn.out HBXr.out)
      have HO5 := Lib.hid (HOC.out.no HFn.out)
      have HM5 := Lib.hid (HOS.out.no HFn.out)
      have HV5 := Lib.hid hbV
      clear HFn HBXr HOC HOS HFr hbV
      have HRV : Hid (Rgt (Ch.ck ⟨xV, yV, A1V, n1V, c1V, csV, A2V, n2V, c2V, hsV, A3V, n3V, c3V, bsV⟩)) := Lib.hid (by rw [HCV.out]; exact HRD.out.lift _)
      have HBV : Hid (ByC (Ch.ck ⟨xV, yV, A1V, n1V, c1V, csV, A2V, n2V, c2V, hsV, A3V, n3V, c3V, bsV⟩)) := Lib.hid (by rw [HCV.out]; exact HBD.out.lift _)
      obtain ⟨p0, p1, p2, p3, p4⟩ := cells5 HV5.out
      have HS := Lib.hid (HLIFT.out _ ⟨xV, yV, A1V, n1V, c1V, csV, A2V, n2V, c2V, hsV, A3V, n3V, c3V, bsV⟩ a HF5.out (cap_ownL HOV.out HRV.out HBV.out).1 HRV.out)
      rw [HCV.out, lift_lift, show liftS (liftL dk (a : Int)) (a : Int) = [] from ofC_none _ _] at HS
      go_wp2_with fail
      refine HS.out.mono ?_
      rintro e wR2 ⟨⟨xG, yG, A1G, n1G, c1G, csG, A2G, n2G, c2G, hsG, A3G, n3G, c3G, bsG⟩, An, nn, cn, rfl, hnn, hc, ho, hon, hf⟩
      obtain rfl : nn = 0 := hnn
      have hfa := Fr.alloc No wR2 (.cells #[.int .i64 xG, .int .i64 yG, .slice A1G n1G c1G, .slice A2G n2G c2G, .slice A3G n3G c3G] 26)
      have hbG := heap_alloc_new wR2 (.cells #[.int .i64 xG, .int .i64 yG, .slice A1G n1G c1G, .slice A2G n2G c2G, .slice A3G n3G c3G] 26)
      have HFn := Lib.hid (hf.no_trans hfa)
      have HOGG0 := Lib.hid ((ho.low HF5.out.size).no hfa)
      have HCG := Lib.hid hc
      clear hf hfa hc ho hon p0 p1 p2 p3 p4 HS
      dsimp only [Ch.val]
      go_upto_region 19 with fail
      obtain ⟨Z, hZ⟩ : ∃ X, wR2.heap.size = X := ⟨_, rfl⟩
      rw [hZ] at hbG ⊢
      clear hZ
      generalize wR2.alloc (.cells #[.int .i64 xG, .int .i64 yG, .slice A1G n1G c1G, .slice A2G n2G c2G, .slice A3G n3G c3G] 26) = wG at *
      have HF6 := Lib.hid (HF5.out.no_trans HFn.out)
      have HX6 := Lib.hid (blk_no HFn.out HX5.out)
      have HO6 := Lib.hid (HO5.out.no HFn.out)
      have HM6 := Lib.hid (HM5.out.no HFn.out)
      have HV6 := Lib.hid (blk_no HFn.out HV5.out)
      have HOV6 := Lib.hid (HOV.out.no HFn.out)
      have HOG6 := Lib.hid (HOG.out.no HFn.out)
      have HZ6 := Lib.hid hbG
      clear HFn HF5 HX5 HO5 HM5 HV5 HOV HOG hbG
      by_cases hab : a = b
      · have eab : ((a : Int) == (b : Int)) = true := by simp [hab]
        clear hab
        go_wp2_with fail
        refine (HA.out _ HF6.out).mono ?_
        rintro e w7 ⟨rfl, hf⟩
        have HFX := Lib.hid hf
        clear hf
        go_wp2_with fail
        go_ret
        exact ⟨rfl, HFX.out.noBelow⟩
      · have eab : ((a : Int) == (b : Int)) = false := by rw [beq_eq_false_iff_ne]; omega
        have eab2 : ¬ a = b := hab
        have eab3 : ¬ (a : Int) = (b : Int) := by omega
        obtain ⟨x0', x1', x2', x3', x4'⟩ := cells5 HX6.out
        have hhs : hsV = hsC.filter (fun h => !(h.1 == (a : Int))) := by
          have e1 : hsV = (liftL dk (a : Int)).hs := congrArg Ck.hs HCV.out
          have e2 : hsC = dk.hs := congrArg Ck.hs HCC.out
          rw [e1, e2]
          rfl
        have hlC : hsC.length = n2C := HO6.out.rd.r2.1
        have hlV : hsV.length = n2V := HOV6.out.rd.r2.1
        obtain ⟨-, hn2, -, -⟩ := (cap_ownL HO6.out HRC.out HBC.out).1.small HRC.out
        dsimp only at hn2
        have hml2 : liftS dk (a : Int) = ml := by
          show ofC dk.hs (a : Int) = ml
          rw [← HDK.out]
          show ofC (bb.hs ++ ys) (a : Int) = ml
          rw [ofC_append, HML.out]
          have e : ofC bb.hs (a : Int) = [] := by rw [← HBQ.out]; exact ofC_sub _ _ _
          rw [e, List.nil_append]
        have HHS := Lib.hid hhs
        have HLC := Lib.hid hlC
        have HLV := Lib.hid hlV
        have hngM : ng = M := by rw [HNG.out, hml2, HM.out]
        subst hngM
        have HXh : Hid (∀ W, Fr No wG W → RwK W 3 (HpAt W) A2C n2C hsC) := Lib.hid (fun W hW => (HO6.out.no hW).rd.r2)
        have HXv : Hid (∀ W, Fr No wG W → RwK W 3 (HpAt W) A2V n2V hsV) := Lib.hid (fun W hW => (HOV6.out.no hW).rd.r2)
        have HSS : Hid (∀ W, Fr No wG W → Calls Tryd.prog 20 #[.slice Ag ng cg, .slice Am ng cm] W fun e w' => e = .returned (.bool true) ∧ Fr No W w') := Lib.hid (fun W hW => same_yes (A := Ag) (A' := Am) (n := ng) (l := ml) (by have := HOG6.out.no hW; rw [hml2] at this; exact this.rd) (HM6.out.no hW).rd cg cm (by omega))
        have HSM : Hid (∀ W, Fr No wG W → Calls Tryd.prog 14 #[.agg #[.int .i64 xV, .int .i64 yV, .slice A1V n1V c1V, .slice A2V n2V c2V, .slice A3V n3V c3V], .agg #[.int .i64 xG, .int .i64 yG, .slice A1G n1G c1G, .slice A2G n2G c2G, .slice A3G n3G c3G]] W fun e w' => e = .returned (.bool true) ∧ Fr No W w') := Lib.hid (fun W hW => by
          obtain ⟨hq1, hq2, hq3, hq4, hq5⟩ := cap_ownL (HOV6.out.no hW) HRV.out HBV.out
          have := chsame_yes (C := ⟨xV, yV, A1V, n1V, c1V, csV, A2V, n2V, c2V, hsV, A3V, n3V, c3V, bsV⟩) (E := ⟨xG, yG, A1G, n1G, c1G, csG, A2G, n2G, c2G, hsG, A3G, n3G, c3G, bsG⟩) hq1.rd (HOGG0.out.no hW).rd (by rw [HCV.out, HCG.out]) hq2 hq3 hq4 hq5
          exact this)
        clear hhs hlC hlV hml2 HNG HM HML HOG6 HM6 HO6 HOV6 HOGG0 HRC HBC HRD HBD HRV HBV HCG HCV HCC HDK HBQ
        go_wp2_with fail
        go_loopw [20, 112] (fun v20 v112 wr => ∃ j q : Nat, j ≤ n2C ∧ v112 = .int .i64 (j : Int) ∧ v20 = .int .i64 (q : Int) ∧ q = ((hsC.take j).filter (fun h => !(h.1 == (a : Int)))).length ∧ Fr No wG wr) (fun _ v112 _ => n2C - (intOf v112).toNat)
        case atStart => exact ⟨0, 0, by omega, rfl, rfl, rfl, Fr.refl _ _⟩
        case round =>
          obtain ⟨j, q, hj, rfl, rfl, hq, hf⟩ := hrel
          have HQ := Lib.hid hq
          have HFl := Lib.hid hf
          clear hq hf
          by_cases hlt : j < n2C
          · have hjl : j < hsC.length := by have := HLC.out; omega
            obtain ⟨bH, oH, rfl, _, hc⟩ := (HXh.out wr HFl.out).2 (by omega)
            obtain ⟨z0, z1, z2⟩ := hc j hjl
            rw [Addr.add_lit] at z1 z2
            have hst : hsC.take (j + 1) = hsC.take j ++ [hsC[j]] := by rw [List.take_add_one, List.getElem?_eq_getElem hjl]; rfl
            have hfv : ¬ hsC[j].1 = (a : Int) → hsV[q]? = some hsC[j] := fun h => by
              rw [HHS.out, HQ.out]
              exact filt_at (fun h : Hp => !(h.1 == (a : Int))) hsC j hjl (by simp [h])
            obtain ⟨hp, hhp⟩ : ∃ h, hsC[j] = h := ⟨_, rfl⟩
            rw [hhp] at z0 z1 z2 hst hfv
            clear hhp hc
            obtain ⟨p, s, m⟩ := hp
            dsimp only at z0 z1 z2 hfv
            have HST := Lib.hid hst
            have HFV := Lib.hid hfv
            clear hst hfv
            have hq32 : q ≤ 32 := by
              have h1 := HQ.out
              have h2 := List.length_filter_le (fun h : Hp => !(h.1 == (a : Int))) (hsC.take j)
              rw [List.length_take] at h2
              omega
            have hwk : IntKind.i64.wrap ((j : Int) + 1) = ((j + 1 : Nat) : Int) := by
              rw [show ((j : Int) + 1) = ((j + 1 : Nat) : Int) by omega]
              exact IntWalk.i64_in _ (by omega)
            have hwk2 : IntKind.i64.wrap ((q : Int) + 1) = ((q + 1 : Nat) : Int) := by
              rw [show ((q : Int) + 1) = ((q + 1 : Nat) : Int) by omega]
              exact IntWalk.i64_in _ (by omega)
            have hfa := Fr.alloc No wr (.cells #[.int .i64 p, .int .u8 (s : Int), .int .i64 m] 55)
            have hbE := heap_alloc_new wr (.cells #[.int .i64 p, .int .u8 (s : Int), .int .i64 m] 55)
            have HFa := Lib.hid (HFl.out.no_trans hfa)
            clear hfa
            go_upto_region 25 with fail
            obtain ⟨E, hE⟩ : ∃ E, wr.heap.size = E := ⟨_, rfl⟩
            rw [hE] at hbE ⊢
            generalize wr.alloc (.cells #[.int .i64 p, .int .u8 (s : Int), .int .i64 m] 55) = wa at *
            clear hE HFl z0 z1 z2
            have e0 := (blk_cell hbE 0).trans (by simp : _ = some (.int .i64 p))
            have e1 := (blk_cell hbE 1).trans (by simp : _ = some (.int .u8 (s : Int)))
            have e2 := (blk_cell hbE 2).trans (by simp : _ = some (.int .i64 m))
            clear hbE
            by_cases hpa : p = (a : Int)
            · have hpe : (p == (a : Int)) = true := by simp [hpa]
              have HL1 : Hid (q = ((hsC.take (j + 1)).filter (fun h => !(h.1 == (a : Int)))).length) := Lib.hid (by rw [HST.out, List.filter_append, List.length_append, ← HQ.out]; simp [hpa])
              clear hpa
              go_wp2_with fail
              go_roundw
              case rel => exact ⟨j + 1, q, by omega, rfl, rfl, HL1.out, HFa.out⟩
              case measure => simp [intOf]; omega
            · have hpe : (p == (a : Int)) = false := by rw [beq_eq_false_iff_ne]; exact hpa
              have HL1 : Hid (q + 1 = ((hsC.take (j + 1)).filter (fun h => !(h.1 == (a : Int)))).length) := Lib.hid (by rw [HST.out, List.filter_append, List.length_append, ← HQ.out]; simp [hpa])
              obtain ⟨hqv, hqe⟩ := List.getElem?_eq_some_iff.1 (HFV.out hpa)
              have hqn : q < n2V := by have := HLV.out; omega
              obtain ⟨bV, oV, rfl, _, hcv⟩ := (HXv.out wa HFa.out).2 (by omega)
              obtain ⟨y0, y1, y2⟩ := hcv q hqv
              rw [hqe] at y0 y1 y2
              rw [Addr.add_lit] at y1 y2
              dsimp only at y0 y1 y2
              clear hcv hqe hqv
              obtain ⟨v0, v1, v2, v3, v4⟩ := cells5 (blk_no HFa.out HV6.out)
              have hqI : (q : Int) < (n2V : Int) := by omega
              have hqI2 : ¬ ((q : Int) ≥ (n2V : Int)) := by omega
              have hqI3 : ¬ ((n2V : Int) ≤ (q : Int)) := by omega
              have hqD : decide ((n2V : Int) ≤ (q : Int)) = false := decide_eq_false hqI3
              have hpp : (p == p) = true := by simp
              have hpn : (p != p) = false := by simp
              have hmm : (m == m) = true := by simp
              have hmn : (m != m) = false := by simp
              have hss : ((s : Int) == (s : Int)) = true := by simp
              have HPA := Lib.hid hpa
              clear hpa
              go_upto_region 26 with fail
              go_cut [133] from 120 to 133 (fun v133 wx => v133 = .bool false ∧ Fr No wa wx)
              case first =>
                go_quiet (fail)
                go_wp2_with fail
                go_meet
                case rel => exact ⟨rfl, Fr.drewN No wa nq⟩
              case rest =>
              obtain ⟨rfl, hfx⟩ := hcut
              have HFx := Lib.hid (HFa.out.no_trans hfx)
              clear hfx
              go_wp2_with fail
              go_roundw
              case rel => exact ⟨j + 1, q + 1, by omega, rfl, rfl, HL1.out, HFx.out⟩
              case measure => simp [intOf]; omega
          · have hjn : j = n2C := by omega
            have hqn : q = n2V := by
              rw [HQ.out, hjn, ← HLC.out, List.take_length, ← HHS.out, HLV.out]
            subst hjn
            subst hqn
            clear HQ
            go_wp2_with fail
            refine (HSS.out _ HFl.out).mono ?_
            rintro e wa1 ⟨rfl, hf⟩
            have HF1 := Lib.hid (HFl.out.no_trans hf)
            clear hf HSS HFl
            obtain ⟨v0, v1, v2, v3, v4⟩ := cells5 (blk_no HF1.out HV6.out)
            obtain ⟨g0, g1, g2, g3, g4⟩ := cells5 (blk_no HF1.out HZ6.out)
            go_wp2_with fail
            refine (HSM.out _ HF1.out).mono ?_
            rintro e wa2 ⟨rfl, hf⟩
            have HF2 := Lib.hid (HF6.out.no_trans (HF1.out.no_trans hf))
            clear hf HSM v0 v1 v2 v3 v4 g0 g1 g2 g3 g4
            go_wp2_with fail
            refine (HA.out _ HF2.out).mono ?_
            rintro e wa3 ⟨rfl, hf⟩
            have HFX := Lib.hid hf
            clear hf
            go_wp2_with fail
            go_ret
            exact ⟨rfl, HFX.out.noBelow⟩
    | true =>
      obtain ⟨hkn, h10⟩ := hg.1 rfl
      clear hg
      have hkl : k < l.length := by have := HLl.out; omega
      obtain ⟨bA, oA, rfl, -, -⟩ := (HXl.out wc HFr.out).2 (by omega)
      have hs6 : l[k].1 < 256 := HBl.out _ (List.getElem_mem hkl)
      have HSL : Hid (∀ W, Fr No w W → W.cell? ⟨bA, oA + k * 2, none⟩ = some (.int .u8 (l[k].1 : Int)) ∧ W.cell? ⟨bA, oA + k * 2 + 1, none⟩ = some (.int .i64 l[k].2)) := Lib.hid (fun W hW => by
        obtain ⟨b', o', he, -, hc'⟩ := (HXl.out W hW).2 (by omega)
        obtain ⟨rfl, rfl⟩ : bA = b' ∧ oA = o' := by simpa using he
        exact hc' k hkl)
      obtain ⟨sl, hsl⟩ : ∃ s, l[k] = s := ⟨_, rfl⟩
      rw [hsl] at HSL hs6
      clear hsl
      obtain ⟨s, m⟩ := sl
      dsimp only at HSL hs6
      obtain ⟨t, htt⟩ : ∃ t, (if k % 2 = 0 then a else b) = t := ⟨_, rfl⟩
      have t1 : (k : Int).tmod 2 = ((k % 2 : Nat) : Int) := by rw [Int.tmod_eq_emod_of_nonneg (by omega)]; omega
      obtain ⟨r, hr⟩ : ∃ r, k % 2 = r := ⟨_, rfl⟩
      have hr2 : r < 2 := by omega
      rw [hr] at t1 htt
      clear hr
      obtain ⟨g2, hri⟩ : ∃ g : Bool, ((r : Int) == 0) = g := ⟨_, rfl⟩
      have HG2 : Hid (g2 = true ↔ r = 0) := Lib.hid (by rw [← hri, beq_iff_eq]; omega)
      go_upto_if 61 with fail
      go_cut [13] from 60 to 62 (fun v13 wx => v13 = .int .i64 (t : Int) ∧ wx = wc)
      case first =>
        clear hri t1
        cases g2 with
        | true =>
          have HTT := Lib.hid ((if_pos (HG2.out.1 rfl)).symm.trans htt)
          clear htt HG2
          go_wp2_with fail
          go_meet
          exact ⟨by rw [HTT.out], rfl⟩
        | false =>
          have HTT := Lib.hid ((if_neg (fun e => by have := HG2.out.2 e; cases this)).symm.trans htt)
          clear htt HG2
          go_wp2_with fail
          go_meet
          exact ⟨by rw [HTT.out], rfl⟩
      case rest =>
      obtain ⟨rfl, hwq⟩ := hcut
      subst hwq
      clear htt HG2 hri t1 hr2
      have HSD : Hid (∀ W, Fr No wc W → Calls Tryd.prog 15 #[.agg #[.int .i64 xC, .int .i64 yC, .slice A1C n1C c1C, .slice A2C n2C c2C, .slice A3C n3C c3C], .int .i64 (t : Int), .agg #[.int .u8 (s : Int), .int .i64 m]] W (CkE W (dropL { bb with hs := bb.hs ++ ys } (t : Int) (s, m)) (dropE { bb with hs := bb.hs ++ ys } (t : Int) (s, m)))) := Lib.hid (fun W hW => by
        have := HDROP.out W ⟨xC, yC, A1C, n1C, c1C, csC, A2C, n2C, c2C, hsC, A3C, n3C, c3C, bsC⟩ t s m (HFr.out.no_trans hW) (cap_ownL (HOC.out.no hW) HRC.out HBC.out).1 HRC.out hs6
        rw [HCC.out] at this
        exact this)
      have HRN : Hid (Rgt (dropL { bb with hs := bb.hs ++ ys } (t : Int) (s, m))) := Lib.hid (by have := HRC.out; rw [HCC.out] at this; exact this.drop _ _)
      have HBN : Hid (ByC (dropL { bb with hs := bb.hs ++ ys } (t : Int) (s, m))) := Lib.hid (by have := HBC.out; rw [HCC.out] at this; exact this.drop _ hs6)
      have HN : Hid ((dropE { bb with hs := bb.hs ++ ys } (t : Int) (s, m) = 0 → dropL { bb with hs := bb.hs ++ ys } (t : Int) (s, m) = { bb with hs := bb.hs ++ (ys ++ [((t : Int), (s, m))]) }) ∧ (¬ dropE { bb with hs := bb.hs ++ ys } (t : Int) (s, m) = 0 → dropL { bb with hs := bb.hs ++ ys } (t : Int) (s, m) = { bb with hs := bb.hs ++ ys })) := Lib.hid ⟨fun h => by rw [drop_ok h, ← List.append_assoc], fun h => drop_no h⟩
      obtain ⟨d2, hd2⟩ : ∃ d, dropL { bb with hs := bb.hs ++ ys } (t : Int) (s, m) = d := ⟨_, rfl⟩
      obtain ⟨x2, hx2⟩ : ∃ d, dropE { bb with hs := bb.hs ++ ys } (t : Int) (s, m) = d := ⟨_, rfl⟩
      rw [hd2, hx2] at HSD HN
      rw [hd2] at HRN HBN
      clear hd2 hx2 hs6
      have hkI0 : (0 : Int) ≤ (k : Int) := by omega
      have hkI1 : (k : Int) < (n : Int) := by omega
      obtain ⟨wk, hwk⟩ : ∃ W, W = wc := ⟨_, rfl⟩
      subst hwk
      have HFW0 : Hid (w.heap.size ≤ wk.heap.size) := Lib.hid HFr.out.size
      go_upto_region 13 with fail
      go_cut [14, 15] from 63 to 72 (fun v14 v15 wx => ∃ (Y : Nat) (E' : Ch), v14 = .pointer (some ⟨Y, 0, none⟩) ∧ v15 = .int .i64 x2 ∧ E'.ck = d2 ∧ wx.heap[Y]? = some (.cells #[.int .i64 E'.x, .int .i64 E'.y, .slice E'.A1 E'.n1 E'.c1, .slice E'.A2 E'.n2 E'.c2, .slice E'.A3 E'.n3 E'.c3] 26 (0, 0)) ∧ OwC wk.heap.size wx E' ∧ Fr No wk wx)
      case first =>
        have HDR := Lib.hid (Fr.drew No wk)
        have HDA := Lib.hid ((Fr.alloc No wk (.cells #[.int .i64 0, .int .i64 0, .slice none 0 0, .slice none 0 0, .slice none 0 0] 26)).no_trans (Fr.drew No _))
        have hbz := heap_alloc_new wk (.cells #[.int .i64 0, .int .i64 0, .slice none 0 0, .slice none 0 0, .slice none 0 0] 26)
        obtain ⟨g0, g1, g2, g3, g4⟩ := cells5 (blk_no HDR.out HBXr.out)
        obtain ⟨d0, d1, d2', d3, d4⟩ := cells5 (blk_no HDA.out HBXr.out)
        obtain ⟨m0, m1⟩ := HSL.out _ (HFr.out.no_trans HDR.out)
        obtain ⟨m2, m3⟩ := HSL.out _ (HFr.out.no_trans HDA.out)
        have HBZ : Hid (∀ W, Fr No (wk.alloc (.cells #[.int .i64 0, .int .i64 0, .slice none 0 0, .slice none 0 0, .slice none 0 0] 26)).drew W → W.heap[wk.heap.size]? = some (.cells #[.int .i64 0, .int .i64 0, .slice none 0 0, .slice none 0 0, .slice none 0 0] 26 (0, 0))) := Lib.hid (fun W hW => blk_no hW hbz)
        clear hbz
        go_region_with (first
          | (go_at_call 15; refine (HSD.out _ HDR.out).mono ?_; rintro e wR ⟨⟨xU, yU, A1U, n1U, c1U, csU, A2U, n2U, c2U, hsU, A3U, n3U, c3U, bsU⟩, rfl, hc, ho, hf⟩; have HCU := Lib.hid hc; have HOU := Lib.hid (ho.low HDR.out.size); have HFU := Lib.hid (HDR.out.no_trans hf); have h1 := heap_alloc_new wR (.cells #[.int .i64 xU, .int .i64 yU, .slice A1U n1U c1U, .slice A2U n2U c2U, .slice A3U n3U c3U] 26); have h2 := HOU.out.no (Fr.alloc No wR (.cells #[.int .i64 xU, .int .i64 yU, .slice A1U n1U c1U, .slice A2U n2U c2U, .slice A3U n3U c3U] 26)); have h3 := HFU.out.no_trans (Fr.alloc No wR (.cells #[.int .i64 xU, .int .i64 yU, .slice A1U n1U c1U, .slice A2U n2U c2U, .slice A3U n3U c3U] 26)); have HQ := Lib.hid (And.intro h1 (And.intro h2 h3)); have k1 := set5_heap (heap_alloc_new wR (.cells #[.int .i64 0, .int .i64 0, .slice none 0 0, .slice none 0 0, .slice none 0 0] 26)) (.int .i64 xU) (.int .i64 yU) (.slice A1U n1U c1U) (.slice A2U n2U c2U) (.slice A3U n3U c3U); have k2 := (HOU.out.no (Fr.alloc No wR (.cells #[.int .i64 0, .int .i64 0, .slice none 0 0, .slice none 0 0, .slice none 0 0] 26))).at_ (heap_alloc_new wR (.cells #[.int .i64 0, .int .i64 0, .slice none 0 0, .slice none 0 0, .slice none 0 0] 26)) (set5_fr _ _ (.int .i64 xU) (.int .i64 yU) (.slice A1U n1U c1U) (.slice A2U n2U c2U) (.slice A3U n3U c3U)); have k3 := (HFU.out.no_trans (Fr.alloc No wR (.cells #[.int .i64 0, .int .i64 0, .slice none 0 0, .slice none 0 0, .slice none 0 0] 26))).then_new (set5_fr _ wR.heap.size (.int .i64 xU) (.int .i64 yU) (.slice A1U n1U c1U) (.slice A2U n2U c2U) (.slice A3U n3U c3U)) (fun i hi => by have e : i = wR.heap.size := hi; have := HFU.out.size; omega); simp only [set5] at k1 k2 k3; have HP := Lib.hid (And.intro k1 (And.intro k2 k3)); clear hc ho hf h1 h2 h3 k1 k2 k3; dsimp only [Ch.val])
          | (go_at_call 15; refine (HSD.out _ HDA.out).mono ?_; rintro e wR ⟨⟨xU, yU, A1U, n1U, c1U, csU, A2U, n2U, c2U, hsU, A3U, n3U, c3U, bsU⟩, rfl, hc, ho, hf⟩; have HCU := Lib.hid hc; have HOU := Lib.hid (ho.low HDA.out.size); have HFU := Lib.hid (HDA.out.no_trans hf); have HZR := Lib.hid (HBZ.out _ hf); obtain ⟨r0, r1, r2, r3, r4⟩ := cells5 HZR.out; obtain ⟨z0, z1, z2, z3, z4⟩ := free5 HZR.out; have k1 := set5_heap HZR.out (.int .i64 xU) (.int .i64 yU) (.slice A1U n1U c1U) (.slice A2U n2U c2U) (.slice A3U n3U c3U); have k2 := HOU.out.at_ HZR.out (set5_fr wR wk.heap.size (.int .i64 xU) (.int .i64 yU) (.slice A1U n1U c1U) (.slice A2U n2U c2U) (.slice A3U n3U c3U)); have k3 := HFU.out.then_new (set5_fr wR wk.heap.size (.int .i64 xU) (.int .i64 yU) (.slice A1U n1U c1U) (.slice A2U n2U c2U) (.slice A3U n3U c3U)) (fun i hi => by have e : i = wk.heap.size := hi; omega); simp only [set5] at k1 k2 k3; have HP := Lib.hid (And.intro k1 (And.intro k2 k3)); clear hc ho hf k1 k2 k3; dsimp only [Ch.val]))
        all_goals (
          go_wp2_with fail
          go_meet
          first
            | with_reducible exact ⟨_, ⟨xU, yU, A1U, n1U, c1U, csU, A2U, n2U, c2U, hsU, A3U, n3U, c3U, bsU⟩, rfl, rfl, HCU.out, HP.out.1, HP.out.2.1, HP.out.2.2⟩
            | with_reducible exact ⟨_, ⟨xU, yU, A1U, n1U, c1U, csU, A2U, n2U, c2U, hsU, A3U, n3U, c3U, bsU⟩, rfl, rfl, HCU.out, HQ.out.1, HQ.out.2.1, HQ.out.2.2⟩)
      case rest =>
      obtain ⟨Y, ⟨xE, yE, A1E, n1E, c1E, csE, A2E, n2E, c2E, hsE, A3E, n3E, c3E, bsE⟩, rfl, rfl, hcE, hbE, hoE, hfE⟩ := hcut
      dsimp only at hbE
      have HCE := Lib.hid hcE
      have HBE := Lib.hid hbE
      have HOE := Lib.hid hoE
      have HBX2 := Lib.hid (blk_no hfE HBXr.out)
      have HOS2 := Lib.hid (HOS.out.no hfE)
      have HF2 := Lib.hid (HFr.out.no_trans hfE)
      have HSM := Lib.hid (fun (q : Nat) (hq : (Value.slice Am M cm).ownBlock = some q) => (World.ownsRow.lt HOS.out q hq).2)
      have HSW2 := Lib.hid hfE.size
      clear hcE hbE hoE hfE HOC HBXr HOS HFr HSD
      obtain ⟨m0, m1⟩ := HSL.out _ HF2.out
      go_upto_region 14 with fail
      go_cut [79] from 73 to 79 (fun v79 wx => ∃ g : Bool, v79 = .bool g ∧ wx = wc ∧ (g = true ↔ (x2 = 0 ∧ t = a)))
      case first =>
        by_cases hx : x2 = 0
        · have hxe : (x2 == 0) = true := by simp [hx]
          by_cases hta : t = a
          · have hte : ((t : Int) == (a : Int)) = true := by simp [hta]
            have HX := Lib.hid hx
            have HT := Lib.hid hta
            clear hx hta
            go_wp2_with fail
            go_meet
            exact ⟨true, rfl, rfl, by simp [HX.out, HT.out]⟩
          · have hte : ((t : Int) == (a : Int)) = false := by rw [beq_eq_false_iff_ne]; omega
            have HT := Lib.hid hta
            clear hx hta
            go_wp2_with fail
            go_meet
            exact ⟨false, rfl, rfl, by simp [HT.out]⟩
        · have hxe : (x2 == 0) = false := by rw [beq_eq_false_iff_ne]; exact hx
          have HX := Lib.hid hx
          clear hx
          go_wp2_with fail
          go_meet
          exact ⟨false, rfl, rfl, by simp [HX.out]⟩
      case rest =>
      obtain ⟨g4, rfl, rfl, hg4⟩ := hcut
      have HG4 := Lib.hid hg4
      clear hg4
      go_upto_if 79 with fail
      go_cut [11] from 79 to 86 (fun v11 wx => ∃ (A2 : Option Addr) (M2 c2' : Nat) (ml2 : List (Nat × Int)) (ys2 : List Hp), v11 = .slice A2 M2 c2' ∧ ml2.length = M2 ∧ ml2 = ofC ys2 (a : Int) ∧ M2 ≤ k + 1 ∧ OwS w.heap.size wx (.slice A2 M2 c2') ml2 ∧ d2 = { bb with hs := bb.hs ++ ys2 } ∧ wx.heap[X]? = some (.cells #[.int .i64 xC, .int .i64 yC, .slice A1C n1C c1C, .slice A2C n2C c2C, .slice A3C n3C c3C] 26 (0, 0)) ∧ wx.heap[Y]? = some (.cells #[.int .i64 xE, .int .i64 yE, .slice A1E n1E c1E, .slice A2E n2E c2E, .slice A3E n3E c3E] 26 (0, 0)) ∧ OwC w.heap.size wx ⟨xE, yE, A1E, n1E, c1E, csE, A2E, n2E, c2E, hsE, A3E, n3E, c3E, bsE⟩ ∧ Fr No w wx)
      case first =>
        have HOW2 := Lib.hid (HOE.out.low HFW0.out)
        cases g4 with
        | false =>
          have HYS : Hid (∃ ys2 : List Hp, ml = ofC ys2 (a : Int) ∧ d2 = { bb with hs := bb.hs ++ ys2 }) := Lib.hid (by
            by_cases hx : x2 = 0
            · have hta : ¬ t = a := fun e => by have := HG4.out.2 ⟨hx, e⟩; cases this
              refine ⟨ys ++ [((t : Int), (s, m))], ?_, HN.out.1 hx⟩
              rw [ofC_append, HML.out]
              have e : ofC [((t : Int), (s, m))] (a : Int) = [] := by
                unfold ofC
                have : ((t : Int) == (a : Int)) = false := by rw [beq_eq_false_iff_ne]; omega
                simp [this]
              rw [e, List.append_nil]
            · exact ⟨ys, HML.out, HN.out.2 hx⟩)
          clear HG4
          go_wp2_with fail
          go_meet
          obtain ⟨ys2, e1, e2⟩ := HYS.out
          exact ⟨_, _, _, ml, ys2, rfl, HM.out, e1, by omega, HOS2.out, e2, HBX2.out, HBE.out, HOW2.out, HF2.out⟩
        | true =>
          have HYS : Hid (∃ ys2 : List Hp, ml ++ [(s, m)] = ofC ys2 (a : Int) ∧ d2 = { bb with hs := bb.hs ++ ys2 }) := Lib.hid (by
            obtain ⟨hx, hta⟩ := HG4.out.1 rfl
            refine ⟨ys ++ [((t : Int), (s, m))], ?_, HN.out.1 hx⟩
            rw [ofC_append, HML.out]
            have e : ofC [((t : Int), (s, m))] (a : Int) = [(s, m)] := by
              unfold ofC
              simp [hta]
            rw [e])
          clear HG4
          have hmk2 : M ≤ 100000 := by omega
          have HPOST : Hid (∀ A2 c2' w', OwS w.heap.size w' (.slice A2 (M + 1) c2') (ml ++ [(s, m)]) → Fr (fun q => (Value.slice Am M cm).ownBlock = some q) wc w' → w'.heap[X]? = some (.cells #[.int .i64 xC, .int .i64 yC, .slice A1C n1C c1C, .slice A2C n2C c2C, .slice A3C n3C c3C] 26 (0, 0)) ∧ w'.heap[Y]? = some (.cells #[.int .i64 xE, .int .i64 yE, .slice A1E n1E c1E, .slice A2E n2E c2E, .slice A3E n3E c3E] 26 (0, 0)) ∧ OwC w.heap.size w' ⟨xE, yE, A1E, n1E, c1E, csE, A2E, n2E, c2E, hsE, A3E, n3E, c3E, bsE⟩ ∧ Fr No w w') := Lib.hid (fun A2 c2' w' ho hf => by
            have hos : wc.ownsRow w.heap.size 29 2 (.slice Am M cm) ml.length (slC ml) := HOS2.out
            refine ⟨hf.blk HBX2.out (own_not hos HBX2.out (by decide)), hf.blk HBE.out (own_not hos HBE.out (by decide)), (HOE.out.elder hf HSM.out).low HFW0.out, HF2.out.then_new hf (fun i hi => (hos.lt i hi).1)⟩)
          have hbs : w.heap.size ≤ wc.heap.size := HF2.out.size
          go_wp2_with (at_builtin; refine wpList_append_l1 (lo := w.heap.size) wc rfl (.tmp 80) (.tmp 85) rfl rfl HM.out HOS2.out m s rfl rfl hmk2 hbs ?_; intro A2 c2' w' ho hf; have HRL := Lib.hid (And.intro ho (HPOST.out A2 c2' w' ho hf)); clear ho hf)
          go_meet
          obtain ⟨ys2, e1, e2⟩ := HYS.out
          exact ⟨_, _, _, ml ++ [(s, m)], ys2, rfl, by rw [List.length_append, HM.out]; rfl, e1, by omega, HRL.out.1, e2, HRL.out.2.1, HRL.out.2.2.1, HRL.out.2.2.2.1, HRL.out.2.2.2.2⟩
      case rest =>
      obtain ⟨A2', M2, c2', ml2, ys2, rfl, hM2, hml2, hmk2, hos2, hcc2, hbx2, hby2, hoc2, hf2⟩ := hcut
      clear HOE HBX2 HOS2 HF2 HBE HML HM HN HCC HRC HBC
      have HM2 := Lib.hid hM2
      have HML2 := Lib.hid hml2
      have HCC2 := Lib.hid hcc2
      have hq5 := set5_fr wc X (.int .i64 xE) (.int .i64 yE) (.slice A1E n1E c1E) (.slice A2E n2E c2E) (.slice A3E n3E c3E)
      have k1 := set5_heap hbx2 (.int .i64 xE) (.int .i64 yE) (.slice A1E n1E c1E) (.slice A2E n2E c2E) (.slice A3E n3E c3E)
      have k2 := hoc2.at_ hbx2 hq5
      have k3 := hf2.then_new hq5 (fun i hi => by have e : i = X := hi; rw [e]; exact HXW.out)
      have k4 : OwS w.heap.size (set5 wc X (.int .i64 xE) (.int .i64 yE) (.slice A1E n1E c1E) (.slice A2E n2E c2E) (.slice A3E n3E c3E)) (.slice A2' M2 c2') ml2 := own_fr hos2 hq5 (fun i hi e => own_not hos2 hbx2 (by decide) (by rw [e] at hi; exact hi))
      simp only [set5] at k1 k2 k3 k4
      have HK := Lib.hid (And.intro k1 (And.intro k2 (And.intro k3 k4)))
      obtain ⟨r0, r1, r2, r3, r4⟩ := cells5 hbx2
      obtain ⟨z0, z1, z2, z3, z4⟩ := free5 hbx2
      obtain ⟨y0, y1, y2, y3, y4⟩ := cells5 hby2
      clear hM2 hml2 hcc2 hos2 hbx2 hby2 hoc2 hf2 hq5 k1 k2 k3 k4
      have hwk2 : IntKind.i64.wrap ((k : Int) + 1) = ((k + 1 : Nat) : Int) := by
        rw [show ((k : Int) + 1) = ((k + 1 : Nat) : Int) by omega]
        exact IntWalk.i64_in _ (by omega)
      go_wp2_with fail
      go_roundw
      case rel => exact ⟨k + 1, ys2, ml2, M2, A2', c2', ⟨xE, yE, A1E, n1E, c1E, csE, A2E, n2E, c2E, hsE, A3E, n3E, c3E, bsE⟩, by omega, by omega, rfl, rfl, HM2.out, HML2.out, hmk2, HK.out.2.2.2, by rw [← HCC2.out]; exact HCE.out, by rw [HCE.out]; exact HRN.out, by rw [HCE.out]; exact HBN.out, HK.out.2.1, HK.out.1, HK.out.2.2.1⟩
      case measure => simp [intOf]; omega
end
end Go.Proofs.YtepmclcbaipebaaDoor

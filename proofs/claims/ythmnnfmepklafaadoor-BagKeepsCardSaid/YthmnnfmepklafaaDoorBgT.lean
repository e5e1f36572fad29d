/-
  The walk of BagKeeps. No statement of the seat is proved here.
-/
import Derived.Test.YthmnnfmepklafaaDoorBgS
import Derived.Deep.CutBlock
namespace Go.Proofs.YthmnnfmepklafaaDoor
open Go.RowKit Go.Deep

theorem size_slots (h : 22 < Tryd.prog.types.size) : (Tryd.prog.types[22]'h).size = 1 := by kernel_rfl
theorem stI_pos (k : Nat) : stI k ≠ 0 ↔ k ≠ 0 ∧ k ≤ 12 := by
  by_cases h : k < 13
  · have : ∀ j : Fin 13, stI j.val ≠ 0 ↔ j.val ≠ 0 ∧ j.val ≤ 12 := by decide
    exact this ⟨k, h⟩
  · unfold stI
    rw [List.getD_eq_getElem?_getD, List.getElem?_eq_none (by simp; omega)]
    constructor
    · intro h; exact absurd rfl h
    · intro h; omega
section
attribute [local go_sem] size_slots
variable {w : World} {A B : Option Addr} {n kk c d : Nat} {l more : List (Nat × Int)}
set_option maxRecDepth 100000 in
set_option maxHeartbeats 1600000 in
theorem keeps_walk (ht : ItT w) (hx : RdS w A n l) (hy : RdS w B kk more) (hb : By l) (hbm : By more) (c d : Nat) (x0 x1 x2 x3 : Int) (hm1 : x1 ≤ 9223372036854775807) : Calls Tryd.prog 3 #[.slice A n c, .slice B kk d, .agg #[.int .i64 x0, .int .i64 x1, .int .i64 x2, .int .i64 x3]] w fun e w' => e = .returned (.bool true) ∧ Below w.heap.size w w' := by
  have HA := Lib.hid (awake_w ht)
  have e0 : decide ((n : Int) = (n : Int)) = true := by simp
  have e0' : decide ((kk : Int) = (kk : Int)) = true := by simp
  have HF0 := Lib.hid (Fr.alloc No w (.cells #[.int .i64 x0, .int .i64 x1, .int .i64 x2, .int .i64 x3] 23))
  by_cases hn : 300 < n
  · have h3 : (300 : Int) < (n : Int) := by omega
    clear ht hx hy hb hbm
    go_enter Tryd.func3, Tryd.ntmps3
    go_wp2_with fail
    refine (HA.out _ HF0.out).mono ?_
    rintro e w1 ⟨rfl, hf⟩
    go_wp2_with fail
    go_ret
    exact ⟨rfl, hf.noBelow⟩
  by_cases hk : 300 < kk
  · have h3 : ¬ (300 : Int) < (n : Int) := by omega
    have h4 : (300 : Int) < (kk : Int) := by omega
    clear ht hx hy hb hbm
    go_enter Tryd.func3, Tryd.ntmps3
    go_wp2_with fail
    refine (HA.out _ HF0.out).mono ?_
    rintro e w1 ⟨rfl, hf⟩
    go_wp2_with fail
    go_ret
    exact ⟨rfl, hf.noBelow⟩
  have h3 : ¬ (300 : Int) < (n : Int) := by omega
  have h4 : ¬ (300 : Int) < (kk : Int) := by omega
  have HRX := Lib.hid (fun W (hW : Fr No w W) => right_any (ht.no hW) (hx.no hW) hb c (by omega) n)
  have HRY := Lib.hid (fun W (hW : Fr No w W) => right_any (ht.no hW) (hy.no hW) hbm d (by omega) kk)
  rw [e0] at HRX
  rw [e0'] at HRY
  cases hr : rgt l with
  | false =>
    rw [hr] at HRX
    clear ht hx hy hb hbm hr
    go_enter Tryd.func3, Tryd.ntmps3
    go_wp2_with fail
    refine (HRX.out _ HF0.out).mono ?_
    rintro e w1 ⟨rfl, hf⟩
    have HF1 := Lib.hid (HF0.out.no_trans hf)
    clear hf
    go_wp2_with fail
    refine (HA.out _ HF1.out).mono ?_
    rintro e w2 ⟨rfl, hf⟩
    go_wp2_with fail
    go_ret
    exact ⟨rfl, hf.noBelow⟩
  | true =>
  rw [hr] at HRX
  cases hrm : rgt more with
  | false =>
    rw [hrm] at HRY
    clear ht hx hy hb hbm hr hrm
    go_enter Tryd.func3, Tryd.ntmps3
    go_wp2_with fail
    refine (HRX.out _ HF0.out).mono ?_
    rintro e w1 ⟨rfl, hf⟩
    have HF1 := Lib.hid (HF0.out.no_trans hf)
    clear hf
    go_wp2_with fail
    refine (HRY.out _ HF1.out).mono ?_
    rintro e w2 ⟨rfl, hf⟩
    have HF2 := Lib.hid (HF1.out.no_trans hf)
    clear hf
    go_wp2_with fail
    refine (HA.out _ HF2.out).mono ?_
    rintro e w3 ⟨rfl, hf⟩
    go_wp2_with fail
    go_ret
    exact ⟨rfl, hf.noBelow⟩
  | true =>
  rw [hrm] at HRY
  obtain ⟨i, hi, hi2⟩ : ∃ i : Nat, IntKind.u8.wrap x0 = (i : Int) ∧ i < 256 := by
    refine ⟨(IntKind.u8.wrap x0).toNat, ?_, ?_⟩ <;> rw [IntKind.wrap_u8] <;> omega
  have hpk : 1 ≤ x1 → _ := fun h => PutL_ok (i := i) (a := x1) hr h
  have hpc := fun k => PutL_cnt (k := k) (i := i) (m := x1) hr
  have htk := TakeL_ok (x := x2) (m := x3) hr hb
  have hsl := SpendL_len (l := l) (i := i) (m := x1)
  have hsb := SpendL_by (i := i) (m := x1) hb
  have hsr := SpendL_rgt (i := i) (m := x1) hr
  have hsc := fun k => SpendL_cnt (i := i) (m := x1) hr k
  have hac := fun k => AllL_cnt (k := k) hr hrm
  have hab := AllL_byI hb hbm
  have hpb := PutL_byI (a := x1) hi2 hb
  have C1 := Lib.hid (fun W (hW : Fr No w W) => Put_any (ht.no hW) (hx.no hW) hb c hi2 (n := n) (m := x1) (by omega) hm1)
  have C2 := Lib.hid (fun W (hW : Fr No w W) => take_any (ht.no hW) (hx.no hW) hb c (n := n) (by omega) x2 x3)
  have C3 := Lib.hid (fun W (hW : Fr No w W) => Spend_any (ht.no hW) (hx.no hW) hb c (i := i) (n := n) (m := x1) (by omega) hm1)
  have C4 := Lib.hid (fun W (hW : Fr No w W) => all_any (ht.no hW) (hx.no hW) (hy.no hW) hb hbm c d (by omega) (by omega))
  obtain ⟨⟨pa, pl⟩, hp⟩ : ∃ r, PutL i l x1 = r := ⟨_, rfl⟩
  obtain ⟨⟨ta, ⟨ts, tn⟩, te⟩, htt⟩ : ∃ r, TakeL l x2 x3 = r := ⟨_, rfl⟩
  obtain ⟨sa, hs⟩ : ∃ r, SpendL l i x1 = r := ⟨_, rfl⟩
  obtain ⟨se, hse⟩ : ∃ r, SpendE l i x1 = r := ⟨_, rfl⟩
  obtain ⟨⟨aa, ae⟩, ha⟩ : ∃ r, AllL l more = r := ⟨_, rfl⟩
  have hp0 : x1 < 1 → pa = l ∧ pl = 0 := fun h => by
    unfold PutL at hp
    rw [if_pos h] at hp
    exact ⟨(congrArg Prod.fst hp).symm, (congrArg Prod.snd hp).symm⟩
  rw [hp] at hpk hpc C1 hpb
  rw [htt] at htk C2
  rw [hs] at hsl hsb hsr hsc C3
  rw [hse] at hsc C3
  rw [ha] at hac hab C4
  dsimp only at hpk hpc C1 htk C2 hac hab C4 hpb
  have hpr : rgt pa = true ∧ pa.length = l.length ∧ 0 ≤ pl ∧ (1 ≤ x1 → pl ≤ x1) := by
    by_cases h : 1 ≤ x1
    · exact ⟨(hpk h).2.2.2, (hpk h).2.2.1, (hpk h).1, fun _ => (hpk h).2.1⟩
    · obtain ⟨q1, q2⟩ := hp0 (by omega)
      subst q1 q2
      exact ⟨hr, rfl, Int.le_refl _, fun h' => absurd h' h⟩
  go_enter Tryd.func3, Tryd.ntmps3
  have HPU := Lib.hid (And.intro hpr (And.intro hpc hpb))
  have HTU := Lib.hid htk
  have HSU := Lib.hid (And.intro hsl (And.intro hsb (And.intro hsr hsc)))
  have HAU := Lib.hid (And.intro hac hab)
  have HT := Lib.hid ht
  have HX := Lib.hid hx
  have HY := Lib.hid hy
  have HBB := Lib.hid (And.intro hb hbm)
  have HRR := Lib.hid (And.intro hr hrm)
  have HNN := Lib.hid (And.intro h3 h4)
  have HII := Lib.hid (And.intro hi2 hm1)
  clear hpk hpc hpr hpb htk hsl hsb hsr hsc hac hab ht hx hy hb hbm hr hrm hp htt hs hse ha hp0 hn hk hi2 hm1
  go_wp2_with fail
  refine (HRX.out _ HF0.out).mono ?_
  rintro e w1 ⟨rfl, hf⟩
  have HF1 := Lib.hid (HF0.out.no_trans hf)
  have HB0 : Hid (w1.heap[w.heap.size]? = _) := Lib.hid (blk_no hf (heap_alloc_new w (.cells #[.int .i64 x0, .int .i64 x1, .int .i64 x2, .int .i64 x3] 23)))
  clear hf HRX
  go_wp2_with fail
  refine (HRY.out _ HF1.out).mono ?_
  rintro e w2 ⟨rfl, hf⟩
  have HF2 := Lib.hid (HF1.out.no_trans hf)
  have hB := blk_no hf HB0.out
  have b0 := blk_cell hB 0
  have b1 := blk_cell hB 1
  simp at b0 b1
  have HB0 := Lib.hid hB
  clear hf HRY HF1 HF0 hB
  go_wp2_with fail
  refine (C1.out _ HF2.out).mono ?_
  rintro e w3 ⟨A1, c1, rfl, ho, hf⟩
  have HF3 := Lib.hid (HF2.out.no_trans hf)
  have hB := blk_no hf HB0.out
  have b2 := blk_cell hB 2
  have b3 := blk_cell hB 3
  simp at b2 b3
  have HB0 := Lib.hid hB
  have HR1 := Lib.hid ho.rd
  clear hf C1 HF2 hB b0 b1 ho
  go_wp2_with fail
  refine (C2.out _ HF3.out).mono ?_
  rintro e w4 ⟨A2, c2, rfl, ho, hf⟩
  have HF4 := Lib.hid (HF3.out.no_trans hf)
  have hB := blk_no hf HB0.out
  have HB0 := Lib.hid hB
  have HR1 := Lib.hid (HR1.out.no hf)
  have HR2 := Lib.hid ho.rd
  have hFA := Fr.alloc No w4 (.cells #[.int .u8 (ts : Int), .int .i64 tn] 30)
  have HFA := Lib.hid hFA
  have hSL := heap_alloc_new w4 (.cells #[.int .u8 (ts : Int), .int .i64 tn] 30)
  obtain ⟨T, hT⟩ : ∃ T, w4.heap.size = T := ⟨_, rfl⟩
  rw [hT] at hSL
  have b1 := blk_cell (blk_no hFA hB) 1
  simp at b1
  have HSL := Lib.hid hSL
  clear hf C2 HF3 hB b2 b3 ho hFA hSL
  go_wp2_with fail
  clear hT
  refine (C3.out _ (HF4.out.no_trans HFA.out)).mono ?_
  rintro e w5 ⟨A3, c3, rfl, ho, hf⟩
  have HG := Lib.hid (HFA.out.no_trans hf)
  have HF5 := Lib.hid (HF4.out.no_trans HG.out)
  have HB0 := Lib.hid (blk_no HG.out HB0.out)
  have HSL := Lib.hid (blk_no hf HSL.out)
  have HR1 := Lib.hid (HR1.out.no HG.out)
  have HR2 := Lib.hid (HR2.out.no HG.out)
  have HR3 := Lib.hid ho.rd
  clear hf ho C3 HF4 HFA HG b1
  go_wp2_with fail
  refine (C4.out _ HF5.out).mono ?_
  rintro e w6 ⟨A4, c4, rfl, ho, hf⟩
  have HF6 := Lib.hid (HF5.out.no_trans hf)
  have HB0 := Lib.hid (blk_no hf HB0.out)
  have HSL := Lib.hid (blk_no hf HSL.out)
  have HR1 := Lib.hid (HR1.out.no hf)
  have HR2 := Lib.hid (HR2.out.no hf)
  have HR3 := Lib.hid (HR3.out.no hf)
  have HR4 := Lib.hid ho.rd
  clear hf ho C4 HF5
  have hlen := HX.out.1
  have RI : ∀ {A' : Option Addr} {c' : Nat} {L : List (Nat × Int)}, RdS w6 A' n L → rgt L = true → By L → Hid (∀ W, Fr No w6 W → Calls Tryd.prog 5 #[.slice A' n c', .int .i64 (n : Int)] W fun e w' => e = .returned (.bool true) ∧ Fr No W w') := fun h1 h2 h3 => Lib.hid (fun W hW => by
    have := right_any (HT.out.no (HF6.out.no_trans hW)) (h1.no hW) h3 (by assumption) (by have := HNN.out; omega) n
    rw [show decide ((n : Int) = (n : Int)) = true by simp, h2] at this
    exact this)
  have NI : ∀ {A' : Option Addr} {n' : Nat} (c' : Nat) {L : List (Nat × Int)}, n' ≤ 100000 → RdS w6 A' n' L → rgt L = true → Hid (∀ (k : Nat) W, Fr No w6 W → Calls Tryd.prog 11 #[.slice A' n' c', .int .u8 (k : Int)] W fun e w' => e = .returned (.int .i64 (cntL k L)) ∧ Fr No W w') := fun c' _ h0 h1 h2 => Lib.hid (fun k W hW => count_any (h1.no hW) h2 c' (i := k) h0)
  have hN : n ≤ 100000 ∧ kk ≤ 100000 := by have := HNN.out; omega
  have N0 := NI c hN.1 (HX.out.no HF6.out) HRR.out.1
  have NM := NI d hN.2 (HY.out.no HF6.out) HRR.out.2
  have N1 := NI c1 hN.1 HR1.out HPU.out.1.1
  have N2 := NI c2 hN.1 HR2.out HTU.out.1
  have N3 := NI c3 hN.1 HR3.out HSU.out.2.2.1
  have N4 := NI c4 hN.1 HR4.out (HAU.out.1 0).1
  have Q1 : Hid _ := RI (c' := c1) HR1.out HPU.out.1.1 HPU.out.2.2
  have Q2 : Hid _ := RI (c' := c2) HR2.out HTU.out.1 HTU.out.2.2.1
  have Q3 : Hid _ := RI (c' := c3) HR3.out HSU.out.2.2.1 HSU.out.2.1
  have Q4 : Hid _ := RI (c' := c4) HR4.out (HAU.out.1 0).1 HAU.out.2
  have HK : Hid (∀ W, Fr No w6 W → W.cell? ⟨w.heap.size, 1, none⟩ = some (.int .i64 x1) ∧ W.cell? ⟨T, 0, none⟩ = some (.int .u8 (ts : Int)) ∧ W.cell? ⟨T, 1, none⟩ = some (.int .i64 tn)) := fun W hW =>
    ⟨(blk_cell (blk_no hW HB0.out) 1).trans (by simp), (blk_cell (blk_no hW HSL.out) 0).trans (by simp), (blk_cell (blk_no hW HSL.out) 1).trans (by simp)⟩
  have HG6 := Lib.hid (Fr.refl No w6)
  have HLN := Lib.hid (And.intro HX.out.1 HY.out.1)
  clear NI RI hN HR1 HR2 HR3 HR4 HB0 HSL hlen HX HY HT
  go_wp2_with fail
  have hix1 : ∀ W, (Instr.index 37 (.agg #[.slice A1 n c1, .slice A2 n c2, .slice A3 n c3, .slice A4 n c4]) (.int .i64 0)).run Tryd.prog W = .ok (.slice A1 n c1) W := fun _ => by rfl
  have hix2 : ∀ W, (Instr.index 37 (.agg #[.slice A1 n c1, .slice A2 n c2, .slice A3 n c3, .slice A4 n c4]) (.int .i64 1)).run Tryd.prog W = .ok (.slice A2 n c2) W := fun _ => by rfl
  have hix3 : ∀ W, (Instr.index 37 (.agg #[.slice A1 n c1, .slice A2 n c2, .slice A3 n c3, .slice A4 n c4]) (.int .i64 2)).run Tryd.prog W = .ok (.slice A3 n c3) W := fun _ => by rfl
  have hix4 : ∀ W, (Instr.index 37 (.agg #[.slice A1 n c1, .slice A2 n c2, .slice A3 n c3, .slice A4 n c4]) (.int .i64 3)).run Tryd.prog W = .ok (.slice A4 n c4) W := fun _ => by rfl
  go_loopw [88] (fun v88 wr => (v88 = .int .i64 0 ∨ v88 = .int .i64 1 ∨ v88 = .int .i64 2 ∨ v88 = .int .i64 3 ∨ v88 = .int .i64 4) ∧ Fr No w6 wr) (fun v88 _ => 4 - (intOf v88).toNat)
  case atStart => exact ⟨.inl rfl, HG6.out⟩
  case round =>
    obtain ⟨hv, hf⟩ := hrel
    have HF := Lib.hid hf
    clear hf
    rcases hv with rfl | rfl | rfl | rfl | rfl
    · have hix := hix1 wr
      go_wp2_with (refine (Q1.out _ HF.out).mono ?_; rintro e w7 ⟨rfl, hf⟩; have HF7 := Lib.hid (HF.out.no_trans hf); clear hf)
      go_roundw
      case rel => exact ⟨.inr (.inl rfl), HF7.out⟩
      case measure => simp [intOf]
    · have hix := hix2 wr
      go_wp2_with (refine (Q2.out _ HF.out).mono ?_; rintro e w7 ⟨rfl, hf⟩; have HF7 := Lib.hid (HF.out.no_trans hf); clear hf)
      go_roundw
      case rel => exact ⟨.inr (.inr (.inl rfl)), HF7.out⟩
      case measure => simp [intOf]
    · have hix := hix3 wr
      go_wp2_with (refine (Q3.out _ HF.out).mono ?_; rintro e w7 ⟨rfl, hf⟩; have HF7 := Lib.hid (HF.out.no_trans hf); clear hf)
      go_roundw
      case rel => exact ⟨.inr (.inr (.inr (.inl rfl))), HF7.out⟩
      case measure => simp [intOf]
    · have hix := hix4 wr
      go_wp2_with (refine (Q4.out _ HF.out).mono ?_; rintro e w7 ⟨rfl, hf⟩; have HF7 := Lib.hid (HF.out.no_trans hf); clear hf)
      go_roundw
      case rel => exact ⟨.inr (.inr (.inr (.inr rfl))), HF7.out⟩
      case measure => simp [intOf]
    · clear Q1 Q2 Q3 Q4
      go_wp2_with fail
      have HF0 := Lib.hid HF.out
      go_loopw [97] (fun v97 wr => ∃ k : Nat, k ≤ 15 ∧ v97 = .int .u8 (k : Int) ∧ Fr No w6 wr) (fun v97 _ => 15 - (intOf v97).toNat)
      case atStart => exact ⟨0, by omega, rfl, HF0.out⟩
      case round =>
        obtain ⟨k, hk, rfl, hf⟩ := hrel
        have HF := Lib.hid hf
        clear hf
        by_cases hlt : k < 15
        · have hwk : IntKind.u8.wrap ((k : Int) + 1) = ((k + 1 : Nat) : Int) := by
            rw [show ((k : Int) + 1) = ((k + 1 : Nat) : Int) by omega]
            exact IntWalk.u8_in _ (by omega)
          have v1 := HPU.out.2.1 k
          have v2 := HTU.out.2.2.2.1 k
          have v3 := HSU.out.2.2.2 k
          have v4 := (HAU.out.1 k).2.2
          have r0 := cntL_le (k := k) HRR.out.1
          have rm := cntL_le (k := k) HRR.out.2
          have hnn := HNN.out
          have hln := HLN.out
          have hpu := HPU.out.1
          have htu := HTU.out
          have hii := HII.out
          have hst := stI_pos i
          have M0 := Lib.hid (N0.out k)
          have MM := Lib.hid (NM.out k)
          have M1 := Lib.hid (N1.out k)
          have M2 := Lib.hid (N2.out k)
          have M3 := Lib.hid (N3.out k)
          have M4 := Lib.hid (N4.out k)
          have z1 := cntL_le (k := k) HPU.out.1.1
          have z2 := cntL_le (k := k) HTU.out.1
          have z3 := cntL_le (k := k) HSU.out.2.2.1
          have z4 := cntL_le (k := k) (HAU.out.1 k).1
          rw [HPU.out.1.2.1] at z1
          rw [HTU.out.2.1] at z2
          rw [HSU.out.1] at z3
          rw [(HAU.out.1 k).2.1] at z4
          obtain ⟨q0, hq0⟩ : ∃ q, cntL k l = q := ⟨_, rfl⟩
          obtain ⟨qm, hqm⟩ : ∃ q, cntL k more = q := ⟨_, rfl⟩
          obtain ⟨V1, hV1⟩ : ∃ q, cntL k pa = q := ⟨_, rfl⟩
          obtain ⟨V2, hV2⟩ : ∃ q, cntL k ta = q := ⟨_, rfl⟩
          obtain ⟨V3, hV3⟩ : ∃ q, cntL k sa = q := ⟨_, rfl⟩
          obtain ⟨V4, hV4⟩ : ∃ q, cntL k aa = q := ⟨_, rfl⟩
          rw [hq0] at v1 v2 v3 v4 r0 M0
          rw [hqm] at v4 rm MM
          rw [hV1] at v1 M1 z1
          rw [hV2] at v2 M2 z2
          rw [hV3] at v3 M3 z3
          rw [hV4] at v4 M4 z4
          clear hq0 hqm hV1 hV2 hV3 hV4
          obtain ⟨p1, hp1⟩ : ∃ p, V1 - q0 = p := ⟨_, rfl⟩
          obtain ⟨p2, hp2⟩ : ∃ p, q0 - V2 = p := ⟨_, rfl⟩
          obtain ⟨p3, hp3⟩ : ∃ p, q0 - V3 = p := ⟨_, rfl⟩
          obtain ⟨p4, hp4⟩ : ∃ p, V4 - q0 = p := ⟨_, rfl⟩
          have u1 : IntKind.i64.wrap (q0 + p1) = V1 := by rw [show q0 + p1 = V1 by omega]; exact IntWalk.i64_in _ (by omega)
          have u2 : IntKind.i64.wrap (q0 - p2) = V2 := by rw [show q0 - p2 = V2 by omega]; exact IntWalk.i64_in _ (by omega)
          have u3 : IntKind.i64.wrap (q0 - p3) = V3 := by rw [show q0 - p3 = V3 by omega]; exact IntWalk.i64_in _ (by omega)
          have u4 : IntKind.i64.wrap (q0 + p4) = V4 := by rw [show q0 + p4 = V4 by omega]; exact IntWalk.i64_in _ (by omega)
          have f1 : (k = i ∧ 0 < x1 ∧ k ≠ 0 ∧ k ≤ 12 → IntKind.i64.wrap (x1 - pl) = p1) ∧ (¬ (k = i ∧ 0 < x1 ∧ k ≠ 0 ∧ k ≤ 12) → 0 = p1) := by
            constructor
            · rintro ⟨rfl, h2, h3, h4⟩
              rw [if_pos ⟨rfl, by omega, hst.2 ⟨h3, h4⟩⟩] at v1
              rw [show x1 - pl = p1 by omega]
              exact IntWalk.i64_in _ (by omega)
            · intro h
              rw [if_neg (fun (x : k = i ∧ 1 ≤ x1 ∧ stI i ≠ 0) => h ⟨x.1, by have := x.2.1; omega, by rw [x.1]; exact (hst.1 x.2.2).1, by rw [x.1]; exact (hst.1 x.2.2).2⟩)] at v1
              omega
          have f2 : (k = ts ∧ k ≠ 0 → tn = p2) ∧ (¬ (k = ts ∧ k ≠ 0) → 0 = p2) := by
            constructor
            · intro h; rw [if_pos h] at v2; omega
            · intro h; rw [if_neg h] at v2; omega
          have f3 : (k = i ∧ se = 0 → x1 = p3) ∧ (¬ (k = i ∧ se = 0) → 0 = p3) := by
            constructor
            · intro h; rw [if_pos h] at v3; omega
            · intro h; rw [if_neg h] at v3; omega
          have f4 : (ae = 0 → qm = p4) ∧ (¬ ae = 0 → 0 = p4) := by
            constructor
            · intro h; rw [if_pos h] at v4; omega
            · intro h; rw [if_neg h] at v4; omega
          have U := Lib.hid (And.intro u1 (And.intro u2 (And.intro u3 u4)))
          obtain ⟨B1, G1, L1⟩ : ∃ B : Bool, Hid ((k = i ∧ 0 < x1 ∧ k ≠ 0 ∧ k ≤ 12 → true = B) ∧ (¬ (k = i ∧ 0 < x1 ∧ k ≠ 0 ∧ k ≤ 12) → false = B)) ∧ Hid ((B = true → IntKind.i64.wrap (x1 - pl) = p1) ∧ (B = false → 0 = p1)) := by
            refine ⟨decide (k = i ∧ 0 < x1 ∧ k ≠ 0 ∧ k ≤ 12), Lib.hid ⟨fun h => (decide_eq_true h).symm, fun h => (decide_eq_false h).symm⟩, Lib.hid ⟨fun h => f1.1 (of_decide_eq_true h), fun h => f1.2 (of_decide_eq_false h)⟩⟩
          obtain ⟨B2, G2, L2⟩ : ∃ B : Bool, Hid ((k = ts ∧ k ≠ 0 → true = B) ∧ (¬ (k = ts ∧ k ≠ 0) → false = B)) ∧ Hid ((B = true → tn = p2) ∧ (B = false → 0 = p2)) := by
            refine ⟨decide (k = ts ∧ k ≠ 0), Lib.hid ⟨fun h => (decide_eq_true h).symm, fun h => (decide_eq_false h).symm⟩, Lib.hid ⟨fun h => f2.1 (of_decide_eq_true h), fun h => f2.2 (of_decide_eq_false h)⟩⟩
          obtain ⟨B3, G3, L3⟩ : ∃ B : Bool, Hid ((k = i ∧ se = 0 → true = B) ∧ (¬ (k = i ∧ se = 0) → false = B)) ∧ Hid ((B = true → x1 = p3) ∧ (B = false → 0 = p3)) := by
            refine ⟨decide (k = i ∧ se = 0), Lib.hid ⟨fun h => (decide_eq_true h).symm, fun h => (decide_eq_false h).symm⟩, Lib.hid ⟨fun h => f3.1 (of_decide_eq_true h), fun h => f3.2 (of_decide_eq_false h)⟩⟩
          obtain ⟨B4, G4, L4⟩ : ∃ B : Bool, Hid ((ae = 0 → true = B) ∧ (¬ (ae = 0) → false = B)) ∧ Hid ((B = true → qm = p4) ∧ (B = false → 0 = p4)) := by
            refine ⟨decide (ae = 0), Lib.hid ⟨fun h => (decide_eq_true h).symm, fun h => (decide_eq_false h).symm⟩, Lib.hid ⟨fun h => f4.1 (of_decide_eq_true h), fun h => f4.2 (of_decide_eq_false h)⟩⟩
          clear u1 u2 u3 u4 f1 f2 f3 f4 v1 v2 v3 v4 z1 z2 z3 z4 r0 rm hnn hln hpu htu hii hst hp1 hp2 hp3 hp4
          go_wp2_with fail
          refine (M0.out _ HF.out).mono ?_
          rintro e w7 ⟨rfl, hf⟩
          have HF7 := Lib.hid (HF.out.no_trans hf)
          clear hf
          go_upto_region 19 with fail
          obtain ⟨b1, t0, t1⟩ := HK.out _ HF7.out
          go_cut [118] from 103 to 118 (fun v118 wx => v118 = .bool B1 ∧ wx = w7)
          case first =>
            by_cases g1 : k = i
            · have e1 : ((k : Int) == (i : Int)) = true := by rw [beq_iff_eq]; omega
              by_cases g2 : 0 < x1
              · have e2 : decide (0 < x1) = true := decide_eq_true g2
                by_cases g3 : k = 0
                · have e3 : ((k : Int) != 0) = false := by simp [g3]
                  have K0 := Lib.hid (G1.out.2 (fun h => h.2.2.1 g3))
                  clear g1 g3
                  go_wp2_with fail
                  go_meet
                  exact ⟨by rw [← K0.out], rfl⟩
                · have e3 : ((k : Int) != 0) = true := by simp [g3]
                  have e3p : ¬ (k : Int) = 0 := by omega
                  by_cases g4 : k ≤ 12
                  · have e4 : decide ((k : Int) ≤ 12) = true := decide_eq_true (by omega)
                    have K0 := Lib.hid (G1.out.1 ⟨g1, g2, g3, g4⟩)
                    clear g1 g3 g4
                    go_wp2_with fail
                    go_meet
                    exact ⟨by rw [← K0.out], rfl⟩
                  · have e4 : decide ((k : Int) ≤ 12) = false := decide_eq_false (by omega)
                    have K0 := Lib.hid (G1.out.2 (fun h => g4 h.2.2.2))
                    clear g1 g3 g4
                    go_wp2_with fail
                    go_meet
                    exact ⟨by rw [← K0.out], rfl⟩
              · have e2 : decide (0 < x1) = false := decide_eq_false g2
                have K0 := Lib.hid (G1.out.2 (fun h => g2 h.2.1))
                clear g1
                go_wp2_with fail
                go_meet
                exact ⟨by rw [← K0.out], rfl⟩
            · have e1 : ((k : Int) == (i : Int)) = false := by rw [beq_eq_false_iff_ne]; omega
              have K0 := Lib.hid (G1.out.2 (fun h => g1 h.1))
              clear g1
              go_wp2_with fail
              go_meet
              exact ⟨by rw [← K0.out], rfl⟩
          case rest =>
          obtain ⟨rfl, rfl⟩ := hcut
          go_upto_if 118 with fail
          go_cut [21] from 118 to 122 (fun v21 wx => v21 = .int .i64 p1 ∧ wx = wc)
          case first =>
            cases B1 with
            | true =>
              have K0 := Lib.hid (L1.out.1 rfl)
              go_wp2_with fail
              go_meet
              exact ⟨by rw [← K0.out, IntKind.wrap_i64]; simp only [wrap64], rfl⟩
            | false =>
              have K0 := Lib.hid (L1.out.2 rfl)
              go_wp2_with fail
              go_meet
              exact ⟨by rw [← K0.out], rfl⟩
          case rest =>
          obtain ⟨rfl, rfl⟩ := hcut
          go_upto_region 21 with fail
          go_cut [130] from 123 to 130 (fun v130 wx => v130 = .bool B2 ∧ wx = wc)
          case first =>
            by_cases g1 : k = ts
            · have e1 : ((k : Int) == (ts : Int)) = true := by rw [beq_iff_eq]; omega
              by_cases g3 : k = 0
              · have e3 : ((k : Int) != 0) = false := by simp [g3]
                have K0 := Lib.hid (G2.out.2 (fun h => h.2 g3))
                clear g1 g3
                go_wp2_with fail
                go_meet
                exact ⟨by rw [← K0.out], rfl⟩
              · have e3 : ((k : Int) != 0) = true := by simp [g3]
                have K0 := Lib.hid (G2.out.1 ⟨g1, g3⟩)
                clear g1 g3
                go_wp2_with fail
                go_meet
                exact ⟨by rw [← K0.out], rfl⟩
            · have e1 : ((k : Int) == (ts : Int)) = false := by rw [beq_eq_false_iff_ne]; omega
              have K0 := Lib.hid (G2.out.2 (fun h => g1 h.1))
              clear g1
              go_wp2_with fail
              go_meet
              exact ⟨by rw [← K0.out], rfl⟩
          case rest =>
          obtain ⟨rfl, rfl⟩ := hcut
          go_upto_if 130 with fail
          go_cut [22] from 130 to 132 (fun v22 wx => v22 = .int .i64 p2 ∧ wx = wc)
          case first =>
            cases B2 with
            | true =>
              have K0 := Lib.hid (L2.out.1 rfl)
              go_wp2_with fail
              go_meet
              exact ⟨by rw [← K0.out], rfl⟩
            | false =>
              have K0 := Lib.hid (L2.out.2 rfl)
              go_wp2_with fail
              go_meet
              exact ⟨by rw [← K0.out], rfl⟩
          case rest =>
          obtain ⟨rfl, rfl⟩ := hcut
          go_upto_region 23 with fail
          go_cut [139] from 133 to 139 (fun v139 wx => v139 = .bool B3 ∧ wx = wc)
          case first =>
            by_cases g1 : k = i
            · have e1 : ((k : Int) == (i : Int)) = true := by rw [beq_iff_eq]; omega
              by_cases g3 : se = 0
              · have e3 : (se == 0) = true := by simp [g3]
                have K0 := Lib.hid (G3.out.1 ⟨g1, g3⟩)
                clear g1 g3
                go_wp2_with fail
                go_meet
                exact ⟨by rw [← K0.out], rfl⟩
              · have e3 : (se == 0) = false := by rw [beq_eq_false_iff_ne]; exact g3
                have K0 := Lib.hid (G3.out.2 (fun h => g3 h.2))
                clear g1
                go_wp2_with fail
                go_meet
                exact ⟨by rw [← K0.out], rfl⟩
            · have e1 : ((k : Int) == (i : Int)) = false := by rw [beq_eq_false_iff_ne]; omega
              have K0 := Lib.hid (G3.out.2 (fun h => g1 h.1))
              clear g1
              go_wp2_with fail
              go_meet
              exact ⟨by rw [← K0.out], rfl⟩
          case rest =>
          obtain ⟨rfl, rfl⟩ := hcut
          go_upto_if 139 with fail
          go_cut [23] from 139 to 141 (fun v23 wx => v23 = .int .i64 p3 ∧ wx = wc)
          case first =>
            cases B3 with
            | true =>
              have K0 := Lib.hid (L3.out.1 rfl)
              go_wp2_with fail
              go_meet
              exact ⟨by rw [← K0.out], rfl⟩
            | false =>
              have K0 := Lib.hid (L3.out.2 rfl)
              go_wp2_with fail
              go_meet
              exact ⟨by rw [← K0.out], rfl⟩
          case rest =>
          obtain ⟨rfl, rfl⟩ := hcut
          go_upto_region 25 with fail
          go_cut [143] from 142 to 143 (fun v143 wx => v143 = .bool B4 ∧ wx = wc)
          case first =>
            by_cases g1 : ae = 0
            · have e1 : (ae == 0) = true := by simp [g1]
              have K0 := Lib.hid (G4.out.1 g1)
              clear g1
              go_wp2_with fail
              go_meet
              exact ⟨by rw [← K0.out], rfl⟩
            · have e1 : (ae == 0) = false := by rw [beq_eq_false_iff_ne]; exact g1
              have K0 := Lib.hid (G4.out.2 g1)
              go_wp2_with fail
              go_meet
              exact ⟨by rw [← K0.out], rfl⟩
          case rest =>
          obtain ⟨rfl, rfl⟩ := hcut
          go_upto_if 143 with fail
          go_cut [24] from 143 to 146 (fun v24 wx => v24 = .int .i64 p4 ∧ Fr No w6 wx)
          case first =>
            cases B4 with
            | true =>
              have K0 := Lib.hid (L4.out.1 rfl)
              go_wp2_with fail
              refine (MM.out _ HF7.out).mono ?_
              rintro e w8 ⟨rfl, hf⟩
              have HF8 := Lib.hid (HF7.out.no_trans hf)
              clear hf
              go_wp2_with fail
              go_meet
              exact ⟨by rw [← K0.out], HF8.out⟩
            | false =>
              have K0 := Lib.hid (L4.out.2 rfl)
              go_wp2_with fail
              go_meet
              exact ⟨by rw [← K0.out], HF7.out⟩
          case rest =>
          obtain ⟨rfl, hf⟩ := hcut
          have HF8 := Lib.hid hf
          obtain ⟨u1, u2, u3, u4⟩ := U.out
          clear hf U G1 G2 G3 G4 L1 L2 L3 L4 b1 t0 t1
          go_wp2_with (first
            | (go_at_call_of 11 (Value.slice A1 n c1); refine (M1.out _ HF8.out).mono ?_; rintro e w9 ⟨rfl, hf⟩; have HF9 := Lib.hid (HF8.out.no_trans hf); clear hf)
            | (go_at_call_of 11 (Value.slice A2 n c2); refine (M2.out _ HF9.out).mono ?_; rintro e w10 ⟨rfl, hf⟩; have HF10 := Lib.hid (HF9.out.no_trans hf); clear hf)
            | (go_at_call_of 11 (Value.slice A3 n c3); refine (M3.out _ HF10.out).mono ?_; rintro e w11 ⟨rfl, hf⟩; have HF11 := Lib.hid (HF10.out.no_trans hf); clear hf)
            | (go_at_call_of 11 (Value.slice A4 n c4); refine (M4.out _ HF11.out).mono ?_; rintro e w12 ⟨rfl, hf⟩; have HF12 := Lib.hid (HF11.out.no_trans hf); clear hf))
          go_roundw
          case rel => exact ⟨k + 1, by omega, by go_num, HF12.out⟩
          case measure => simp [intOf]; omega
        · have hk15 : k = 15 := by omega
          subst hk15
          obtain ⟨b1, t0, t1⟩ := HK.out _ HF.out
          have hz := HTU.out.2.2.2.2.1
          have hpl : 0 ≤ pl := HPU.out.1.2.2.1
          have HW := Lib.hid (HF6.out.no_trans HF.out)
          by_cases hz1 : te = 0
          · have e1 : (te == 0) = true := by simp [hz1]
            have hz2 := hz.1 hz1
            have e2 : decide (0 < tn) = true := decide_eq_true hz2
            go_wp2_with fail
            refine (HA.out _ HW.out).mono ?_
            rintro e w10 ⟨rfl, hf⟩
            go_wp2_with fail
            go_ret
            exact ⟨rfl, hf.noBelow⟩
          · have e1 : (te == 0) = false := by rw [beq_eq_false_iff_ne]; exact hz1
            have hz2 : ¬ (0 < tn) := fun h => hz1 (hz.2 h)
            have e2 : decide (0 < tn) = false := decide_eq_false hz2
            go_wp2_with fail
            refine (HA.out _ HW.out).mono ?_
            rintro e w10 ⟨rfl, hf⟩
            go_wp2_with fail
            go_ret
            exact ⟨rfl, hf.noBelow⟩
end
end Go.Proofs.YthmnnfmepklafaaDoor

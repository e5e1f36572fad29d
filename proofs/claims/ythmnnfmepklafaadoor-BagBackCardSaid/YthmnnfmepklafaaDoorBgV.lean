/-
  The walk of BagBack. No statement of the seat is proved here.
-/
import Derived.Test.YthmnnfmepklafaaDoorBgU
import Derived.Deep.CutBlock
namespace Go.Proofs.YthmnnfmepklafaaDoor
open Go.RowKit Go.Deep

section
variable {w : World} {A : Option Addr} {n c : Nat} {l : List (Nat × Int)}
set_option maxRecDepth 100000 in
set_option maxHeartbeats 1600000 in
theorem back_walk (ht : ItT w) (hx : RdS w A n l) (hb : By l) (c : Nat) (i : Nat) (hi : i < 256) (x0 x1 x2 : Int) (hx2 : x2 ≤ 9223372036854775807) : Calls Tryd.prog 4 #[.slice A n c, .int .u8 (i : Int), .agg #[.int .i64 x0, .int .i64 x1, .int .i64 x2]] w fun e w' => e = .returned (.bool true) ∧ Below w.heap.size w w' := by
  have HA := Lib.hid (awake_w ht)
  have HRX := Lib.hid (fun W (hW : Fr No w W) => right_law (ht.no hW) (hx.no hW) hb c)
  have HF0 := Lib.hid (Fr.alloc No w (.cells #[.int .i64 x0, .int .i64 x1, .int .i64 x2] 40))
  cases hr : (decide (n ≤ 300) && rgt l) with
  | false =>
    rw [hr] at HRX
    clear ht hx hb hr
    go_enter Tryd.func4, Tryd.ntmps4
    go_wp2_with fail
    refine (HRX.out _ HF0.out).mono ?_
    rintro e w1 ⟨rfl, hf⟩
    have HF1 := Lib.hid (HF0.out.no_trans hf)
    clear hf
    go_wp2_with fail
    refine (HA.out _ HF1.out).mono ?_
    rintro e w2 ⟨rfl, hf⟩
    go_wp2_with fail
    go_ret
    exact ⟨rfl, hf.noBelow⟩
  | true =>
  rw [hr] at HRX
  simp only [Bool.and_eq_true, decide_eq_true_eq] at hr
  obtain ⟨hn, hr⟩ := hr
  obtain ⟨st, hst⟩ : ∃ s, stI i = s := ⟨_, rfl⟩
  have HS := Lib.hid (stack_w ht hi hst)
  have hsl := stI_le i
  rw [hst] at hsl
  have hrl := roomL_le (l := l) hst hr l.length (Nat.le_refl _)
  rw [List.take_length, hx.1] at hrl
  have hcl := cntL_le (k := i) hr
  rw [hx.1] at hcl
  have HC := Lib.hid (fun W (hW : Fr No w W) => count_any (hx.no hW) hr c (i := i) (by omega))
  have HRM := Lib.hid (fun W (hW : Fr No w W) => room_any (ht.no hW) (hx.no hW) hr c hi hst (by omega))
  have hps : 0 < st → cntL i l = 0 → ∀ m : Int, 1 ≤ m → m ≤ roomL i st l → _ := fun h1 h2 m h3 h4 => put_spent (n := m) hst h1 hr h2 h3 h4
  obtain ⟨q, hq⟩ : ∃ q, cntL i l = q := ⟨_, rfl⟩
  obtain ⟨r, hrr⟩ : ∃ r, roomL i st l = r := ⟨_, rfl⟩
  rw [hq] at HC hcl hps
  rw [hrr] at HRM hrl hps
  obtain ⟨B, hB⟩ : ∃ B : Bool, decide (q = 0 ∧ 0 < st ∧ 0 < r) = B := ⟨_, rfl⟩
  have HB := Lib.hid hB
  have HPS := Lib.hid hps
  have HSL := Lib.hid (And.intro hsl (And.intro hrl hcl))
  have HT := Lib.hid ht
  have HX := Lib.hid hx
  have HBY := Lib.hid hb
  have HR := Lib.hid hr
  have HN := Lib.hid hn
  have HI := Lib.hid (And.intro hi hx2)
  clear ht hx hb hr hn hst hsl hrl hcl hps hq hrr hB hi hx2
  go_enter Tryd.func4, Tryd.ntmps4
  go_wp2_with fail
  have hA := heap_alloc_new w (.cells #[.int .i64 x0, .int .i64 x1, .int .i64 x2] 40)
  obtain ⟨D, hD⟩ : ∃ D, w.heap.size = D := ⟨_, rfl⟩
  rw [hD] at hA ⊢
  generalize w.alloc (.cells #[.int .i64 x0, .int .i64 x1, .int .i64 x2] 40) = wA at *
  have HK : Hid (∀ W, Fr No wA W → W.cell? ⟨D, 0, none⟩ = some (.int .i64 x0) ∧ W.cell? ⟨D, 1, none⟩ = some (.int .i64 x1) ∧ W.cell? ⟨D, 2, none⟩ = some (.int .i64 x2)) := Lib.hid fun W hW =>
    ⟨(blk_cell (blk_no hW hA) 0).trans (by simp), (blk_cell (blk_no hW hA) 1).trans (by simp), (blk_cell (blk_no hW hA) 2).trans (by simp)⟩
  have HD := Lib.hid hD
  clear hA hD
  refine (HRX.out _ HF0.out).mono ?_
  rintro e w1 ⟨rfl, hf⟩
  have HG1 := Lib.hid hf
  clear hf HRX
  go_upto_region 4 with fail
  go_cut [37] from 18 to 37 (fun v37 wx => v37 = .bool B ∧ Fr No wA wx)
  case first =>
    go_wp2_with fail
    refine (HC.out _ (HF0.out.no_trans HG1.out)).mono ?_
    rintro e w2 ⟨rfl, hf⟩
    have HG2 := Lib.hid (HG1.out.no_trans hf)
    clear hf
    by_cases g1 : q = 0
    · have e1 : (q == 0) = true := by simp [g1]
      have HQ := Lib.hid g1
      clear g1
      go_wp2_with fail
      refine (HS.out _ (HF0.out.no_trans HG2.out)).mono ?_
      rintro e w3 ⟨rfl, _, hf⟩
      have HG3 := Lib.hid (HG2.out.no_trans hf)
      clear hf
      by_cases g2 : 0 < st
      · have e2 : decide (0 < st) = true := decide_eq_true g2
        go_wp2_with fail
        refine (HRM.out _ (HF0.out.no_trans HG3.out)).mono ?_
        rintro e w4 ⟨rfl, hf⟩
        have HG4 := Lib.hid (HG3.out.no_trans hf)
        clear hf
        by_cases g3 : 0 < r
        · have e3 : decide (0 < r) = true := decide_eq_true g3
          have K0 : Hid (true = B) := Lib.hid (by rw [← HB.out]; exact (decide_eq_true ⟨HQ.out, g2, g3⟩).symm)
          go_wp2_with fail
          go_meet
          exact ⟨by rw [← K0.out], HG4.out⟩
        · have e3 : decide (0 < r) = false := decide_eq_false g3
          have K0 : Hid (false = B) := Lib.hid (by rw [← HB.out]; exact (decide_eq_false (fun h => g3 h.2.2)).symm)
          go_wp2_with fail
          go_meet
          exact ⟨by rw [← K0.out], HG4.out⟩
      · have e2 : decide (0 < st) = false := decide_eq_false g2
        have K0 : Hid (false = B) := Lib.hid (by rw [← HB.out]; exact (decide_eq_false (fun h => g2 h.2.1)).symm)
        go_wp2_with fail
        go_meet
        exact ⟨by rw [← K0.out], HG3.out⟩
    · have e1 : (q == 0) = false := by rw [beq_eq_false_iff_ne]; exact g1
      have K0 : Hid (false = B) := Lib.hid (by rw [← HB.out]; exact (decide_eq_false (fun h => g1 h.1)).symm)
      go_wp2_with fail
      go_meet
      exact ⟨by rw [← K0.out], HG2.out⟩
  case rest =>
  obtain ⟨rfl, hf⟩ := hcut
  have HG2 := Lib.hid hf
  clear hf HG1
  go_upto_if 37 with fail
  go_cut [] from 8 to 70 (fun wx => Fr No wA wx)
  case first =>
    cases B with
    | false =>
      go_wp2_with fail
      go_meet
      exact HG2.out
    | true =>
      obtain ⟨g1, g2, g3⟩ := of_decide_eq_true HB.out
      have hsl := HSL.out
      have hn := HN.out
      obtain ⟨rn, hrn⟩ : ∃ rn : Nat, r = (rn : Int) := ⟨r.toNat, by omega⟩
      subst hrn
      have hpl := pick_lt x0 (n := rn) (by omega)
      have HP0 := Lib.hid (fun W => pick_any W x0 rn (by omega) (by omega))
      obtain ⟨p, hp⟩ : ∃ p, pick x0 rn = p := ⟨_, rfl⟩
      rw [hp] at HP0 hpl
      obtain ⟨m, hm⟩ : ∃ m : Int, 1 + (p : Int) = m := ⟨_, rfl⟩
      have hwm : IntKind.i64.wrap (1 + (p : Int)) = m := by rw [← hm]; exact IntWalk.i64_in _ (by omega)
      have hps := HPS.out g2 g1 m (by omega) (by omega)
      have C1 := Lib.hid (fun W (hW : Fr No w W) => Put_any (HT.out.no hW) (HX.out.no hW) HBY.out c HI.out.1 (n := n) (m := m) (by omega) (by omega))
      have hpb := PutL_byI (i := i) (l := l) (a := m) HI.out.1 HBY.out
      obtain ⟨⟨y, z⟩, hy⟩ : ∃ y, PutL i l m = y := ⟨_, rfl⟩
      rw [hy] at C1 hps hpb
      dsimp only at C1 hps hpb
      obtain ⟨rfl, hp1, hp2⟩ := hps
      have hm2 : m ≤ 9223372036854775807 := by omega
      have C2 : Hid (∀ W A' c', Fr No w W → RdS W A' n y → Calls Tryd.prog 9 #[.slice A' n c', .int .u8 (i : Int), .int .i64 m] W fun r w' => ∃ A'' c'', r = .returned (.tuple #[.slice A'' n c'', .int .i64 0]) ∧ OwS W.heap.size w' (.slice A'' n c'') l ∧ Fr No W w') := Lib.hid fun W A' c' hW hx' => by
        have := Spend_any (HT.out.no hW) hx' hpb c' (i := i) (n := n) (m := m) (by omega) hm2
        rw [hp1, hp2] at this
        exact this
      have b0 := (HK.out _ HG2.out).1
      clear hsl hn hpl hp hm hp1 hp2 hpb hy g1 g2 g3 hm2 HPS HB
      go_upto_region 5 with fail
      have bd := (HK.out _ (HG2.out.no_trans (Fr.drew No wc))).1
      go_region_held3 (fun W => W.cell? ⟨D, 0, none⟩ = some (.int .i64 x0))
        (first | exact d5 | exact bd | exact b0)
        (first
          | (go_at_call 14; refine (HRM.out _ (HF0.out.no_trans (HG2.out.no_trans (Fr.drew No wc)))).mono ?_; rintro e w5 ⟨rfl, hf⟩; have HG5 := Lib.hid ((HG2.out.no_trans (Fr.drew No wc)).no_trans hf); have d5 := (HK.out w5 HG5.out).1; clear hf)
          | (go_at_call 15; refine (HP0.out _).mono ?_; rintro e w6 ⟨rfl, rfl⟩))
      clear HP0 bd b0 d5
      go_wp2_with fail
      refine (C1.out _ (HF0.out.no_trans HG5.out)).mono ?_
      rintro e w7 ⟨A1, c1, rfl, ho, hf⟩
      have HG7 := Lib.hid (HG5.out.no_trans hf)
      have HO := Lib.hid ho.rd
      clear C1 ho hf HG5
      go_wp2_with fail
      refine (C2.out _ _ _ (HF0.out.no_trans HG7.out) HO.out).mono ?_
      rintro e w8 ⟨A2, c2, rfl, ho, hf⟩
      have HG8 := Lib.hid (HG7.out.no_trans hf)
      have C3 := Lib.hid (same_yes ho.rd (HX.out.no (HF0.out.no_trans HG8.out)) c2 c (by have := HN.out; omega))
      clear C2 ho hf HG7 HO
      go_wp2_with fail
      refine C3.out.mono ?_
      rintro e w9 ⟨rfl, hf⟩
      have HG9 := Lib.hid (HG8.out.no_trans hf)
      clear C3 hf HG8
      go_wp2_with fail
      go_meet
      exact HG9.out
  case rest =>
  have HG3 := Lib.hid hcut
  clear hcut HG2 HPS HB
  have hr := HR.out
  have htk := TakeL_ok (x := x1) (m := x2) hr HBY.out
  have htn := take_no (l := l) (x := x1) (m := x2)
  have htp := fun he => take_put hr (x := x1) (m := x2) he
  have C2 := Lib.hid (take_any (HT.out.no (HF0.out.no_trans HG3.out)) (HX.out.no (HF0.out.no_trans HG3.out)) HBY.out c (n := n) (by have := HN.out; omega) x1 x2)
  obtain ⟨⟨ta, ⟨ts, tn⟩, te⟩, htt⟩ : ∃ r, TakeL l x1 x2 = r := ⟨_, rfl⟩
  rw [htt] at C2 htk htn htp
  dsimp only at C2 htk htn htp
  obtain ⟨b0, b1, b2⟩ := HK.out _ HG3.out
  have HTK := Lib.hid htk
  have HTN := Lib.hid htn
  have HTP := Lib.hid htp
  clear htk htn htp htt b0 hr HS HC HRM HSL
  go_wp2_with fail
  refine C2.out.mono ?_
  rintro e w4 ⟨A2, c2, rfl, ho, hf⟩
  have HG4 := Lib.hid (HG3.out.no_trans hf)
  have HO := Lib.hid ho.rd
  have hFA := Fr.alloc No w4 (.cells #[.int .u8 (ts : Int), .int .i64 tn] 30)
  have HG5 := Lib.hid (HG4.out.no_trans hFA)
  have hSL := heap_alloc_new w4 (.cells #[.int .u8 (ts : Int), .int .i64 tn] 30)
  have HO5 := Lib.hid (HO.out.no hFA)
  obtain ⟨T, hT⟩ : ∃ T, w4.heap.size = T := ⟨_, rfl⟩
  rw [hT] at hSL
  by_cases he : te = 0
  · have e1 : (te == 0) = true := by simp [he]
    have htp := HTP.out he
    obtain ⟨rfl, h0x, hxl, hm1, hm2, hxi, hz, hcc⟩ := htp
    obtain ⟨j, rfl⟩ : ∃ j : Nat, x1 = (j : Int) := ⟨x1.toNat, by omega⟩
    have hln := HX.out.1
    have hjl : j < l.length := by omega
    have hxa := hxi (by simpa using hjl)
    have hxb : ts = l[j].1 := by simpa using hxa
    have hjn : (j : Int) < (n : Int) := by omega
    have hj0 : ¬ ((j : Int) < 0) := by omega
    have htk := HTK.out
    have hpr := (PutL_ok (i := ts) (a := tn) htk.1 hm1).2.2.2
    have C3 := Lib.hid (Put_any (HT.out.no (HF0.out.no_trans HG5.out)) HO5.out htk.2.2.1 c2 htk.2.2.2.2.2.2.2 (n := n) (m := tn) (by have := HN.out; omega) (by omega))
    obtain ⟨⟨y, z⟩, hy⟩ : ∃ y, PutL ts ta tn = y := ⟨_, rfl⟩
    rw [hy] at C3 hz hcc hpr
    dsimp only at C3 hz hcc hpr
    subst hz
    obtain ⟨b, o, rfl, _, hcell⟩ := (HX.out).2 (by omega)
    have HRW : Hid (∀ W, Fr No w W → W.cell? ⟨b, o + j * 2, none⟩ = some (.int .u8 (ts : Int))) := Lib.hid fun W hW => by
      obtain ⟨b', o', e, _, h⟩ := (HX.out.no hW).2 (by omega)
      injection e with e
      injection e with e1 e2
      subst e1 e2
      rw [hxb]
      exact (h j hjl).1
    have HCC := Lib.hid hcc
    have HPR := Lib.hid hpr
    have HJ := Lib.hid (And.intro hjl hm1)
    clear HTK HTN HTP htk hxi hxa hxb hcell hy hcc hpr hjl hm1 hm2 hxl h0x hln HG3 hf ho b1 b2
    go_wp2_with fail
    clear hT
    refine C3.out.mono ?_
    rintro e w6 ⟨A3, c3, rfl, ho, hf⟩
    have HSLB := Lib.hid (blk_no hf hSL)
    have HG6 := Lib.hid (HG5.out.no_trans hf)
    have M1 := Lib.hid (fun W (hW : Fr No w6 W) => count_any (ho.rd.no hW) HPR.out c3 (i := ts) (by have := HN.out; omega))
    have M2 := Lib.hid (fun W (hW : Fr No w6 W) => count_any (HX.out.no (HF0.out.no_trans (HG6.out.no_trans hW))) HR.out c (i := ts) (by have := HN.out; omega))
    rw [HCC.out] at M1
    obtain ⟨q, hq⟩ : ∃ q, cntL ts l = q := ⟨_, rfl⟩
    rw [hq] at M1 M2
    have HALL : Hid (∀ W, Fr No w6 W → W.cell? ⟨T, 0, none⟩ = some (.int .u8 (ts : Int)) ∧ W.cell? ⟨T, 1, none⟩ = some (.int .i64 tn) ∧ W.cell? ⟨D, 1, none⟩ = some (.int .i64 (j : Int)) ∧ W.cell? ⟨D, 2, none⟩ = some (.int .i64 tn) ∧ W.cell? ⟨b, o + j * 2, none⟩ = some (.int .u8 (ts : Int))) := Lib.hid fun W hW =>
      ⟨(blk_cell (blk_no hW HSLB.out) 0).trans (by simp), (blk_cell (blk_no hW HSLB.out) 1).trans (by simp), (HK.out W (HG6.out.no_trans hW)).2.1, (HK.out W (HG6.out.no_trans hW)).2.2, HRW.out W (HF0.out.no_trans (HG6.out.no_trans hW))⟩
    clear C3 ho hf hSL hFA HO5 HSLB HPR HCC hq HRW
    go_upto_region 14 with fail
    have d0 := HALL.out w6 (Fr.refl No w6)
    have dd := HALL.out w6.drew (Fr.drew No w6)
    have e2 : (q == q) = true := by simp
    have e3 : (tn == tn) = true := by simp
    have e4 : ((ts : Int) == (ts : Int)) = true := by simp
    go_region_held3 (fun W => W.cell? ⟨T, 0, none⟩ = some (.int .u8 (ts : Int)) ∧ W.cell? ⟨T, 1, none⟩ = some (.int .i64 tn) ∧ W.cell? ⟨D, 1, none⟩ = some (.int .i64 (j : Int)) ∧ W.cell? ⟨D, 2, none⟩ = some (.int .i64 tn) ∧ W.cell? ⟨b, o + j * 2, none⟩ = some (.int .u8 (ts : Int)))
      (first | exact d9 | exact d8 | exact d7 | exact dd | exact d0)
      (first
        | (go_at_call_of 11 (Value.slice A3 n c3); refine (M1.out _ (Fr.drew No w6)).mono ?_; rintro e w7 ⟨rfl, hf⟩; have HG7 := Lib.hid ((Fr.drew No w6).no_trans hf); have d7 := HALL.out w7 HG7.out; clear hf)
        | (go_at_call_of 11 (Value.slice (some ⟨b, o, none⟩) n c); refine (M2.out _ HG7.out).mono ?_; rintro e w8 ⟨rfl, hf⟩; have HG8 := Lib.hid (HG7.out.no_trans hf); have d8 := HALL.out w8 HG8.out; clear hf)
        | (go_at_call 6; refine (awake_any (HT.out.no (HF0.out.no_trans (HG6.out.no_trans HG8.out)))).mono ?_; rintro e w9 ⟨rfl, hf⟩; have HG9 := Lib.hid (HG8.out.no_trans hf); have d9 := HALL.out w9 HG9.out; have HZ := Lib.hid (HF0.out.no_trans (HG6.out.no_trans HG9.out)); clear hf))
    go_wp2_with fail
    go_ret
    exact ⟨rfl, HZ.out.noBelow⟩
  · have e1 : (te == 0) = false := by rw [beq_eq_false_iff_ne]; exact he
    have h0 := HTN.out he
    subst h0
    clear HTK HTN HTP b1 b2 HG3 hf ho hFA hSL
    go_wp2_with fail
    clear hT
    refine (same_yes HO5.out (HX.out.no (HF0.out.no_trans HG5.out)) c2 c (by have := HN.out; omega)).mono ?_
    rintro e w6 ⟨rfl, hf⟩
    have HG6 := Lib.hid (HG5.out.no_trans hf)
    clear hf
    go_wp2_with fail
    refine (HA.out _ (HF0.out.no_trans HG6.out)).mono ?_
    rintro e w7 ⟨rfl, hf⟩
    go_wp2_with fail
    go_ret
    exact ⟨rfl, hf.noBelow⟩
end
end Go.Proofs.YthmnnfmepklafaaDoor

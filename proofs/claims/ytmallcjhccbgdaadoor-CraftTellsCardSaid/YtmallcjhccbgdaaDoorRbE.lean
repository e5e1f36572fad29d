/-
  The document's own craft: Make. No statement of the seat is proved here.
-/
import Derived.Test.YtmallcjhccbgdaaDoorRbD
import Derived.Test.YtmallcjhccbgdaaDoorCrD
namespace Go.Proofs.YtmallcjhccbgdaaDoor
open Go.RowKit Go.Deep

theorem rMakeE_all (l : List (Nat × Int)) (m : Int) : (rgt l = false → MakeE l m = 103) ∧ (rgt l = true → ¬ (0 ≤ m ∧ m < 7) → MakeE l m = 112) ∧ (rgt l = true → (0 ≤ m ∧ m < 7) → (ofM m).any (lackS l) = true → MakeE l m = 105) ∧ (rgt l = true → (0 ≤ m ∧ m < 7) → (ofM m).any (lackS l) = false → 0 < (madeP l m).2 → MakeE l m = 104) ∧ (rgt l = true → (0 ≤ m ∧ m < 7) → (ofM m).any (lackS l) = false → ¬ 0 < (madeP l m).2 → MakeE l m = 0) := by
  refine ⟨fun h => ?_, fun h1 h2 => ?_, fun h1 h2 h3 => ?_, fun h1 h2 h3 h4 => ?_, fun h1 h2 h3 h4 => ?_⟩
  · unfold MakeE; rw [if_pos h]
  · unfold MakeE; rw [if_neg (by rw [h1]; simp), if_pos h2]
  · unfold MakeE; rw [if_neg (by rw [h1]; simp), if_neg (fun h => h h2), if_pos h3]
  · unfold MakeE; rw [if_neg (by rw [h1]; simp), if_neg (fun h => h h2), if_neg (by rw [h3]; simp), if_pos h4]
  · unfold MakeE; rw [if_neg (by rw [h1]; simp), if_neg (fun h => h h2), if_neg (by rw [h3]; simp), if_neg h4]
section
variable {w : World} {A : Option Addr} {n c lo : Nat} {l : List (Nat × Int)}
theorem rrecipe_any (m : Int) : Calls Tryd.prog 20 #[.int .i64 m] w fun e w' => ∃ O k, e = .returned (.tuple #[.slice O k k, .agg #[.int .u8 ((mkM m).1 : Int), .int .i64 (mkM m).2], .bool (decide (0 ≤ m ∧ m < 7))]) ∧ RdS w' O k (ofM m) ∧ Fr No w w' := by
  by_cases h : 0 ≤ m ∧ m < 7
  · obtain ⟨j, rfl⟩ : ∃ j : Nat, m = (j : Int) := ⟨m.toNat, by omega⟩
    refine (rrecipe_yes (k := j) (by omega)).mono ?_
    rintro e w' ⟨b, rfl, _, hb, hf⟩
    refine ⟨some ⟨b, 0, none⟩, (ofR j).length, ?_, ?_, hf⟩
    · rw [decide_eq_true h]; unfold mkM; rw [if_pos h]; rfl
    · unfold ofM; rw [if_pos h]; exact RdS.blk hb
  · refine (rrecipe_no (n := m) (by omega)).mono ?_
    rintro e w' ⟨rfl, hf⟩
    refine ⟨none, 0, ?_, ?_, hf⟩
    · rw [decide_eq_false h]; unfold mkM; rw [if_neg h]; rfl
    · unfold ofM; rw [if_neg h]; exact RdS.nil _ _
set_option maxRecDepth 100000 in
set_option maxHeartbeats 1600000 in
theorem rMake_any (hx : RdS w A n l) (hb : By l) (c : Nat) (hn : n ≤ 100000) (m : Int) :
    Calls Tryd.prog 6 #[.slice A n c, .int .i64 m] w fun e w' => ∃ A' c', e = .returned (.tuple #[.slice A' n c', .int .i64 (MakeE l m)]) ∧ RdS w' A' n (MakeL l m) ∧ Fr No w w' := by
  obtain ⟨hof, hol, hm1, hm2, hm3⟩ := ofM_cases m
  have HX := Lib.hid (fun W (hW : Fr No w W) => hx.no hW)
  have HLN := Lib.hid hx.1
  have HR := Lib.hid (fun W (hW : Fr No w W) => rright_any (hx.no hW) hb c hn n)
  rw [show (decide ((n : Int) = (n : Int)) && rgt l) = rgt l by simp] at HR
  have HC := Lib.hid (fun (hr : rgt l = true) W (hW : Fr No w W) (i : Nat) => rcount_any (hx.no hW) hr c i hn)
  have HS := Lib.hid (fun W (L : List (Nat × Int)) (hL : By L) A' c' (hx' : RdS W A' n L) (i : Nat) (q : Int) (hq : q ≤ 9223372036854775807) => rspend_any hx' hL c' (i := i) hn hq)
  have HPU : Hid (∀ W A' c', RdS W A' n (spentL l (ofM m)) → Calls Tryd.prog 23 #[.slice A' n c', .int .u8 ((mkM m).1 : Int), .int .i64 (mkM m).2] W fun e w' => ∃ A'' c'', e = .returned (.tuple #[.slice A'' n c'', .int .i64 (madeP l m).2]) ∧ RdS w' A'' n (madeP l m).1 ∧ Fr No W w') :=
    Lib.hid fun W A' c' hx' => (rput_any hx' (spentL_by hb _) c' hm1 hn (by omega)).mono (fun _ _ ⟨A', c', h1, h2, h3⟩ => ⟨A', c', h1, h2.rd, h3⟩)
  have HRC := Lib.hid (fun W => rrecipe_any (w := W) m)
  have HE := Lib.hid (rMakeE_all l m)
  have HL : Hid ((MakeE l m ≠ 0 → MakeL l m = l) ∧ (MakeE l m = 0 → MakeL l m = (madeP l m).1)) := Lib.hid ⟨fun h => by unfold MakeL; rw [if_neg h], fun h => by unfold MakeL; rw [if_pos h]⟩
  have HBS := Lib.hid (fun k => spentL_by hb ((ofM m).take k))
  have HOF := Lib.hid hof
  have HOL := Lib.hid hol
  obtain ⟨E, hE⟩ : ∃ E, MakeE l m = E := ⟨_, rfl⟩
  obtain ⟨L, hL⟩ : ∃ L, MakeL l m = L := ⟨_, rfl⟩
  rw [hE, hL] at HL ⊢
  rw [hE] at HE
  clear hE hL hx hb hof hol hm1 hm2 hm3
  go_enter Tryd.func6, Tryd.ntmps6
  go_wp2_with (at_builtin; refine wpList_append_sl _ rfl (.tmp 13) (.tmp 14) rfl (lo := w.heap.size) (l := []) rfl (OwS.made w _ rfl) A n c l rfl (HX.out _ (Fr.alloc No _ _)) (by simp; omega) (by rw [World.size_alloc]; omega) ?_; intro v1 w1 ho hg; have HO1 := Lib.hid ho; have HF1 := Lib.hid ((Fr.alloc No w (.cells #[] 34)).then_new (Fr.grown (F := fun i => w.heap.size ≤ i) hg (fun k hk => ((OwS.made w _ rfl).lt k hk).1)) (fun i h => h)); clear ho hg)
  obtain ⟨A1, c1, hv⟩ : ∃ A1 c1, v1 = .slice A1 n c1 := by
    obtain ⟨a, b, h, _⟩ := HO1.out.sl
    exact ⟨a, b, by rw [h, List.nil_append, HLN.out]⟩
  subst hv
  rw [List.nil_append] at HO1
  have HW := Lib.hid (fun W (hW : Fr No w1 W) => (HO1.out.rd).no hW)
  refine (HR.out _ HF1.out).mono ?_
  rintro e w2 ⟨rfl, hf⟩
  have HG2 := Lib.hid hf
  clear hf HR HO1
  obtain ⟨r, hr⟩ : ∃ r, rgt l = r := ⟨_, rfl⟩
  have HRL := Lib.hid hr
  rw [hr] at HE HC ⊢
  clear hr
  cases r with
  | false =>
    have h1 := HE.out.1 rfl
    have h2 := HL.out.1 (by omega)
    subst h1 h2
    clear HE HL
    go_wp2_with fail
    go_ret2
    exact ⟨A1, c1, rfl, HW.out _ HG2.out, HF1.out.no_trans HG2.out⟩
  | true =>
  go_wp2_with fail
  refine (HRC.out _).mono ?_
  rintro e w3 ⟨O, k, rfl, hro, hf⟩
  obtain ⟨P, hP⟩ : ∃ P, madeP l m = P := ⟨_, rfl⟩
  rw [hP] at HPU HE HL
  obtain ⟨mk, hmk⟩ : ∃ mk, mkM m = mk := ⟨_, rfl⟩
  rw [hmk] at HPU ⊢
  obtain ⟨x, y⟩ := mk
  obtain ⟨of, hof⟩ : ∃ of, ofM m = of := ⟨_, rfl⟩
  rw [hof] at HPU HE hro HOF HBS HOL
  obtain ⟨P1, P2⟩ := P
  dsimp only at HPU HE HL ⊢
  obtain ⟨tb, htb⟩ : ∃ tb : Bool, decide (0 ≤ m ∧ m < 7) = tb := ⟨_, rfl⟩
  have HTB := Lib.hid htb
  rw [htb]
  have hfa := Fr.alloc No w3 (.cells #[.int .u8 (x : Int), .int .i64 y] 34)
  have hT := heap_alloc_new w3 (.cells #[.int .u8 (x : Int), .int .i64 y] 34)
  have HG4 := Lib.hid (HG2.out.no_trans (hf.no_trans hfa))
  have HRO := Lib.hid (fun W hW => (hro.no hfa).no (w' := W) hW)
  have HLO := Lib.hid hro.1
  clear hf hfa hP hmk hof hro htb HRC HG2
  go_upto_region 5 with fail
  obtain ⟨T, hTT⟩ : ∃ T, w3.heap.size = T := ⟨_, rfl⟩
  rw [hTT] at hT ⊢
  clear hTT
  generalize w3.alloc (.cells #[.int .u8 (x : Int), .int .i64 y] 34) = w4 at *
  have HMK : Hid (∀ W, Fr No w4 W → W.cell? ⟨T, 0, none⟩ = some (.int .u8 (x : Int)) ∧ W.cell? ⟨T, 1, none⟩ = some (.int .i64 y)) := Lib.hid fun W hW =>
    ⟨(blk_cell (blk_no hW hT) 0).trans (by simp), (blk_cell (blk_no hW hT) 1).trans (by simp)⟩
  clear hT
  cases tb with
  | false =>
    have h1 := HE.out.2.1 (by first | rfl | trivial) (of_decide_eq_false HTB.out)
    have h2 := HL.out.1 (by omega)
    subst h1 h2
    clear HE HL
    go_wp2_with fail
    go_ret2
    exact ⟨A1, c1, rfl, HW.out _ HG4.out, HF1.out.no_trans HG4.out⟩
  | true =>
  have HE3 := Lib.hid (HE.out.2.2.1 (by first | rfl | trivial) (of_decide_eq_true HTB.out))
  have HE4 := Lib.hid (HE.out.2.2.2.1 (by first | rfl | trivial) (of_decide_eq_true HTB.out))
  have HE5 := Lib.hid (HE.out.2.2.2.2 (by first | rfl | trivial) (of_decide_eq_true HTB.out))
  have HC2 := Lib.hid (HC.out (by first | rfl | trivial))
  clear HE HTB HC
  have hk2 : k ≤ 2 := by rw [← HLO.out]; exact HOL.out
  go_wp2_with fail
  go_loopw [10] (fun v10 wr => ∃ (j : Nat), j ≤ k ∧ v10 = .int .i64 (j : Int) ∧ (∀ q (h : q < of.length), q < j → lackS l of[q] = false) ∧ Fr No w4 wr) (fun v10 _ => k - (intOf v10).toNat)
  case atStart => exact ⟨0, by omega, rfl, (fun q _ h => absurd h (by omega)), Fr.refl _ _⟩
  case round =>
    obtain ⟨j, hj, rfl, ha, hf⟩ := hrel
    have HF := Lib.hid hf
    have HAK := Lib.hid ha
    clear hf ha
    by_cases hlt : j < k
    · have hkl : j < of.length := by rw [HLO.out]; exact hlt
      obtain ⟨ob, oo, rfl, _, hc⟩ := (HRO.out _ HF.out).2 (by omega)
      have HCL : Hid (∀ W, Fr No w4 W → W.cell? ⟨ob, oo + j * 2, none⟩ = some (.int .u8 (of[j].1 : Int)) ∧ W.cell? ⟨ob, oo + j * 2 + 1, none⟩ = some (.int .i64 of[j].2)) := Lib.hid fun W hW => by
        obtain ⟨b', o', e, _, h⟩ := (HRO.out W hW).2 (by omega)
        injection e with e
        injection e with e1 e2
        subst e1 e2
        exact h j hkl
      have hwj : IntKind.i64.wrap ((j : Int) + 1) = ((j + 1 : Nat) : Int) := by
        rw [show ((j : Int) + 1) = ((j + 1 : Nat) : Int) by omega]
        exact IntWalk.i64_in _ (by omega)
      have hki : (j : Int) < (k : Int) := by omega
      have hk0 : (0 : Int) ≤ (j : Int) := by omega
      have HAQ : Hid (lackS l (of[j].1, of[j].2) = false → ∀ q (h : q < of.length), q < j + 1 → lackS l of[q] = false) := Lib.hid fun hq q h hj => by
        by_cases e : q = j
        · subst e; exact hq
        · exact HAK.out q h (by omega)
      have HAT : Hid (lackS l (of[j].1, of[j].2) = true → of.any (lackS l) = true) := Lib.hid fun hq => by
        rw [List.any_eq_true]
        exact ⟨of[j], List.getElem_mem hkl, hq⟩
      clear hc HAK
      generalize of[j].1 = sx at *
      generalize of[j].2 = sy at *
      have C1 := Lib.hid (fun W hW => HC2.out W hW sx)
      obtain ⟨q, hq⟩ : ∃ q, cntL sx l = q := ⟨_, rfl⟩
      rw [hq] at C1
      have HLK : Hid (lackS l (sx, sy) = decide (q < sy)) := Lib.hid (by unfold lackS; rw [hq])
      rw [HLK.out] at HAQ HAT
      clear hq HLK
      go_upto_region 10 with fail
      have d1 := HCL.out wr HF.out
      have dd := HCL.out wr.drew (HF.out.no_trans (Fr.drew No wr))
      go_region_held3 (fun W => W.cell? ⟨ob, oo + j * 2, none⟩ = some (.int .u8 (sx : Int)) ∧ W.cell? ⟨ob, oo + j * 2 + 1, none⟩ = some (.int .i64 sy))
        (first | exact d5 | exact dd | exact d1)
        (first
          | (go_at_call 21; refine (C1.out _ (HF1.out.no_trans (HG4.out.no_trans (HF.out.no_trans (Fr.drew No wr))))).mono ?_; rintro e w5 ⟨rfl, hf⟩; have HF5 := Lib.hid ((HF.out.no_trans (Fr.drew No wr)).no_trans hf); have d5 := HCL.out w5 HF5.out; clear hf))
      clear d1 dd d5
      by_cases hb : q < sy
      · have h0 := HE3.out (HAT.out (decide_eq_true hb))
        have h2 := HL.out.1 (by omega)
        subst h0 h2
        clear HE3 HE4 HE5 HL
        go_wp2_with fail
        go_ret2
        exact ⟨A1, c1, rfl, HW.out _ (HG4.out.no_trans HF5.out), HF1.out.no_trans (HG4.out.no_trans HF5.out)⟩
      · have HQ := Lib.hid (HAQ.out (decide_eq_false hb))
        clear HAQ HAT
        go_wp2_with fail
        go_roundw
        case rel => exact ⟨j + 1, by omega, by go_num, HQ.out, HF5.out⟩
        case measure => simp [intOf]; omega
    · have hkn : j = k := by omega
      subst hkn
      have hno : of.any (lackS l) = false := by
        rw [List.any_eq_false]
        intro s hs
        obtain ⟨q, hq, rfl⟩ := List.getElem_of_mem hs
        rw [HAK.out q hq (by have := HLO.out; omega)]
        exact Bool.false_ne_true
      have HE6 := Lib.hid (HE4.out hno)
      have HE7 := Lib.hid (HE5.out hno)
      clear HAK HE3 HE4 HE5 HC2 hno
      go_wp2_with fail
      go_loopw [0, 11] (fun v0 v11 wr => ∃ (i : Nat) (A' : Option Addr) (c' : Nat), i ≤ j ∧ v11 = .int .i64 (i : Int) ∧ v0 = .slice A' n c' ∧ RdS wr A' n (spentL l (of.take i)) ∧ Fr No w4 wr) (fun _ v11 _ => j - (intOf v11).toNat)
      case atStart => exact ⟨0, A, c, by omega, rfl, rfl, HX.out _ (HF1.out.no_trans (HG4.out.no_trans HF.out)), HF.out⟩
      case round =>
        obtain ⟨i, A', c', hi, rfl, rfl, hr, hf⟩ := hrel
        have HF := Lib.hid hf
        have HR := Lib.hid (fun W (hW : Fr No wr W) => hr.no hW)
        clear hf hr
        by_cases hlt : i < j
        · have hkl : i < of.length := by rw [HLO.out]; exact hlt
          obtain ⟨ob, oo, rfl, _, hc⟩ := (HRO.out _ HF.out).2 (by omega)
          have HCL : Hid (∀ W, Fr No w4 W → W.cell? ⟨ob, oo + i * 2, none⟩ = some (.int .u8 (of[i].1 : Int)) ∧ W.cell? ⟨ob, oo + i * 2 + 1, none⟩ = some (.int .i64 of[i].2)) := Lib.hid fun W hW => by
            obtain ⟨b', o', e, _, h⟩ := (HRO.out W hW).2 (by omega)
            injection e with e
            injection e with e1 e2
            subst e1 e2
            exact h i hkl
          have hwi : IntKind.i64.wrap ((i : Int) + 1) = ((i + 1 : Nat) : Int) := by
            rw [show ((i : Int) + 1) = ((i + 1 : Nat) : Int) by omega]
            exact IntWalk.i64_in _ (by omega)
          have hki : (i : Int) < (j : Int) := by omega
          have hk0 : (0 : Int) ≤ (i : Int) := by omega
          have HST := Lib.hid (spentL_step l of i hkl)
          have HQ8 := Lib.hid (HOF.out of[i] (List.getElem_mem hkl)).2.1
          clear hc
          generalize of[i].1 = sx at *
          generalize of[i].2 = sy at *
          have C1 := Lib.hid (fun W (hW : Fr No wr W) => HS.out W _ (HBS.out i) A' c' (HR.out W hW) sx sy (by have := HQ8.out; omega))
          rw [← HST.out] at C1
          go_upto_region 15 with fail
          have d1 := HCL.out wr HF.out
          have dd := HCL.out wr.drew (HF.out.no_trans (Fr.drew No wr))
          go_region_held3 (fun W => W.cell? ⟨ob, oo + i * 2, none⟩ = some (.int .u8 (sx : Int)) ∧ W.cell? ⟨ob, oo + i * 2 + 1, none⟩ = some (.int .i64 sy))
            (first | exact d5 | exact dd | exact d1)
            (first
              | (go_at_call 22; refine (C1.out _ (Fr.drew No wr)).mono ?_; rintro e w5 ⟨A5, c5, rfl, ho, hf⟩; have HO5 := Lib.hid ho.rd; have HF5 := Lib.hid ((HF.out.no_trans (Fr.drew No wr)).no_trans hf); have d5 := HCL.out w5 HF5.out; clear hf ho))
          clear d1 dd d5
          go_wp2_with fail
          go_roundw
          case rel => exact ⟨i + 1, A5, c5, by omega, by go_num, rfl, HO5.out, HF5.out⟩
          case measure => simp [intOf]; omega
        · have hkn : i = j := by omega
          subst hkn
          have hr := HR.out _ (Fr.refl No wr)
          rw [List.take_of_length_le (by rw [HLO.out]; exact Nat.le_refl _)] at hr
          obtain ⟨sp, hsp⟩ : ∃ sp, spentL l of = sp := ⟨_, rfl⟩
          rw [hsp] at hr HPU
          have C1 := Lib.hid (HPU.out wr A' c' hr)
          clear hr HR hsp HPU
          obtain ⟨t0, t1⟩ := HMK.out _ HF.out
          go_wp2_with fail
          refine C1.out.mono ?_
          rintro e w5 ⟨A5, c5, rfl, ho, hf⟩
          have HF5 := Lib.hid (HF.out.no_trans hf)
          have HO5 := Lib.hid ho
          clear hf ho C1 t0 t1
          by_cases hp : 0 < P2
          · have h1 := HE6.out hp
            have h2 := HL.out.1 (by omega)
            subst h1 h2
            clear HE6 HE7 HL
            go_wp2_with fail
            go_ret2
            exact ⟨A1, c1, rfl, HW.out _ (HG4.out.no_trans HF5.out), HF1.out.no_trans (HG4.out.no_trans HF5.out)⟩
          · have h1 := HE7.out (by omega)
            have h2 := HL.out.2 h1
            subst h1 h2
            clear HE6 HE7 HL
            go_wp2_with fail
            go_ret2
            exact ⟨A5, c5, rfl, HO5.out, HF1.out.no_trans (HG4.out.no_trans HF5.out)⟩
end
end Go.Proofs.YtmallcjhccbgdaaDoor

/-
  Craft: Count, of slots that are no right bag, too; the walk of CraftErrors. No statement of the seat is proved here.
-/
import Derived.Test.YtloimopcecbkbaaDoorCrD
namespace Go.Proofs.YtloimopcecbkbaaDoor
open Go.RowKit Go.Deep

section
variable {w : World} {A : Option Addr} {n c lo : Nat} {l : List (Nat × Int)}
set_option maxRecDepth 100000 in
set_option maxHeartbeats 1600000 in
theorem count_free (hx : RdS w A n l) (c : Nat) {i : Nat} (hn : n ≤ 100000) : Calls Tryd.prog 13 #[.slice A n c, .int .u8 (i : Int)] w fun e w' => (∃ q, e = .returned (.int .i64 q)) ∧ Fr No w w' := by
  by_cases h0 : i = 0
  · subst h0
    go_enter Tryd.func13, Tryd.ntmps13
    go_wp2_with fail
    go_ret
    exact ⟨⟨_, rfl⟩, Fr.refl _ _⟩
  · have e0 : ((i : Int) == 0) = false := by rw [beq_eq_false_iff_ne]; omega
    have HX := Lib.hid (fun W (hW : Fr No w W) => hx.no hW)
    have HL := Lib.hid hx.1
    clear hx
    go_enter Tryd.func13, Tryd.ntmps13
    go_wp2_with fail
    go_loopw [5, 12] (fun v5 v12 wr => ∃ (k : Nat) (q : Int), k ≤ n ∧ v12 = .int .i64 (k : Int) ∧ v5 = .int .i64 q ∧ Fr No w wr) (fun _ v12 _ => n - (intOf v12).toNat)
    case atStart => exact ⟨0, _, by omega, rfl, rfl, Fr.refl _ _⟩
    case round =>
      obtain ⟨k, q, hk, rfl, rfl, hf⟩ := hrel
      have HF := Lib.hid hf
      clear hf
      by_cases hlt : k < n
      · have hkl : k < l.length := by rw [HL.out]; exact hlt
        obtain ⟨b, o, rfl, _, hc⟩ := (HX.out wr HF.out).2 (by omega)
        obtain ⟨x0, x1⟩ := hc k hkl
        have hwk : IntKind.i64.wrap ((k : Int) + 1) = ((k + 1 : Nat) : Int) := by
          rw [show ((k : Int) + 1) = ((k + 1 : Nat) : Int) by omega]
          exact IntWalk.i64_in _ (by omega)
        clear hc
        generalize l[k].1 = x at *
        generalize l[k].2 = y at *
        by_cases hxi : x = i
        · have e1 : ((x : Int) == (i : Int)) = true := by simp [hxi]
          clear hxi
          go_wp2_with fail
          all_goals
            go_roundw
            case rel => exact ⟨k + 1, _, by omega, by go_num, rfl, HF.out.no_trans (Fr.alloc No _ _)⟩
            case measure => simp [intOf]; omega
        · have e1 : ((x : Int) == (i : Int)) = false := by rw [beq_eq_false_iff_ne]; omega
          clear hxi
          go_wp2_with fail
          go_roundw
          case rel => exact ⟨k + 1, _, by omega, by go_num, rfl, HF.out.no_trans (Fr.alloc No _ _)⟩
          case measure => simp [intOf]; omega
      · have hkn : k = n := by omega
        subst hkn
        go_wp2_with fail
        go_ret
        exact ⟨⟨_, rfl⟩, HF.out⟩
theorem count_all (hx : RdS w A n l) (c : Nat) (i : Nat) (hn : n ≤ 100000) : Calls Tryd.prog 13 #[.slice A n c, .int .u8 (i : Int)] w fun e w' => ∃ q, e = .returned (.int .i64 q) ∧ (rgt l = true → q = cntL i l) ∧ Fr No w w' := by
  cases hr : rgt l with
  | true => exact (count_any hx hr c hn).mono fun _ _ ⟨h1, h2⟩ => ⟨_, h1, fun _ => rfl, h2⟩
  | false => exact (count_free hx c hn).mono fun _ _ ⟨⟨q, h1⟩, h2⟩ => ⟨q, h1, (fun h => by cases h), h2⟩
/-- What MakeE tells, in its order. -/
theorem MakeE_all (l : List (Nat × Int)) (m : Int) : (rgt l = false → MakeE l m = 103) ∧ (rgt l = true → ¬ (0 ≤ m ∧ m < 7) → MakeE l m = 112) ∧ (rgt l = true → (0 ≤ m ∧ m < 7) → (ofM m).any (lackS l) = true → MakeE l m = 105) ∧ (rgt l = true → (0 ≤ m ∧ m < 7) → (ofM m).any (lackS l) = false → 0 < (madeP l m).2 → MakeE l m = 104) ∧ (rgt l = true → (0 ≤ m ∧ m < 7) → (ofM m).any (lackS l) = false → ¬ 0 < (madeP l m).2 → MakeE l m = 0) := by
  refine ⟨fun h => ?_, fun h1 h2 => ?_, fun h1 h2 h3 => ?_, fun h1 h2 h3 h4 => ?_, fun h1 h2 h3 h4 => ?_⟩
  · unfold MakeE; rw [if_pos h]
  · unfold MakeE; rw [if_neg (by rw [h1]; simp), if_pos h2]
  · unfold MakeE; rw [if_neg (by rw [h1]; simp), if_neg (fun h => h h2), if_pos h3]
  · unfold MakeE; rw [if_neg (by rw [h1]; simp), if_neg (fun h => h h2), if_neg (by rw [h3]; simp), if_pos h4]
  · unfold MakeE; rw [if_neg (by rw [h1]; simp), if_neg (fun h => h h2), if_neg (by rw [h3]; simp), if_neg h4]
theorem madeP_left {l : List (Nat × Int)} (hr : rgt l = true) {m : Int} (h : 0 ≤ m ∧ m < 7) : 0 ≤ (madeP l m).2 := by
  have h1 : 1 ≤ (mkM m).2 := by
    unfold mkM
    rw [if_pos h]
    have : ∀ j : Fin 7, 1 ≤ (mkR j.val).2 := by decide
    exact this ⟨m.toNat, by omega⟩
  exact (PutL_ok (i := (mkM m).1) (spentL_rgt hr (ofM m)) h1).1
theorem MakeL_no {l : List (Nat × Int)} {m : Int} (h : MakeE l m ≠ 0) : MakeL l m = l := by unfold MakeL; rw [if_neg h]
theorem MakeL_yes {l : List (Nat × Int)} {m : Int} (h : MakeE l m = 0) : MakeL l m = (madeP l m).1 := by unfold MakeL; rw [if_pos h]
theorem any_step {of : List (Nat × Int)} (p : Nat × Int → Bool) (k : Nat) (hk : k < of.length) : (of.take (k + 1)).any p = ((of.take k).any p || p of[k]) := by
  rw [List.take_add_one, List.getElem?_eq_getElem hk, List.any_append]
  simp
set_option maxRecDepth 100000 in
set_option maxHeartbeats 1600000 in
theorem cerrors_walk (ht : ItT w) (hx : RdS w A n l) (hb : By l) (c : Nat) (m : Int) : Calls Tryd.prog 4 #[.slice A n c, .int .i64 m] w fun e w' => e = .returned (.bool true) ∧ Below w.heap.size w w' := by
  have HA := Lib.hid (cawake_w ht)
  by_cases hn : 300 < n
  · have h3 : (300 : Int) < (n : Int) := by omega
    clear ht hx hb
    go_enter Tryd.func4, Tryd.ntmps4
    go_wp2_with fail
    refine (HA.out _ (Fr.refl No w)).mono ?_
    rintro e w1 ⟨rfl, hf⟩
    go_wp2_with fail
    go_ret
    exact ⟨rfl, hf.noBelow⟩
  have h3 : ¬ (300 : Int) < (n : Int) := by omega
  obtain ⟨hof, hol, hm1, hm2, hm3⟩ := ofM_cases m
  have e0 : decide ((n : Int) = (n : Int)) = true := by simp
  have HR := Lib.hid (fun W (hW : Fr No w W) => right_any (ht.no hW) (hx.no hW) hb c (by omega) n)
  rw [e0] at HR
  have HC := Lib.hid (fun W (hW : Fr No w W) (i : Nat) => count_all (hx.no hW) c i (by omega))
  have HM := Lib.hid (fun W (hW : Fr No w W) => Make_any (ht.no hW) (hx.no hW) hb c (by omega) m)
  have HS := Lib.hid (fun W (hW : Fr No w W) (L : List (Nat × Int)) (hL : By L) A' c' (hx' : RdS W A' n L) (i : Nat) (q : Int) (hq : q ≤ 9223372036854775807) => Spend_any (ht.no hW) hx' hL c' (i := i) (n := n) (by omega) hq)
  have HPU : Hid (∀ W, Fr No w W → ∀ A' c', RdS W A' n (spentL l (ofM m)) → Calls Tryd.prog 15 #[.slice A' n c', .int .u8 ((mkM m).1 : Int), .int .i64 (mkM m).2] W fun e w' => ∃ A'' c'', e = .returned (.tuple #[.slice A'' n c'', .int .i64 (madeP l m).2]) ∧ Fr No W w') :=
    Lib.hid fun W hW A' c' hx' => (Put_any (ht.no hW) hx' (spentL_by hb _) c' hm1 (by omega) (by omega)).mono (fun _ _ ⟨A', c', h1, _, h3⟩ => ⟨A', c', h1, h3⟩)
  have HRC := Lib.hid (fun W => recipe_any (w := W) m)
  have HE := Lib.hid (MakeE_all l m)
  have HL := Lib.hid (MakeL_no (l := l) (m := m))
  have HPL := Lib.hid (fun hr h => madeP_left (l := l) hr (m := m) h)
  have HBS := Lib.hid (fun k => spentL_by hb ((ofM m).take k))
  have HOF := Lib.hid hof
  have HX := Lib.hid hx
  have HN := Lib.hid hn
  have HOL := Lib.hid hol
  clear ht hx hb hm1 hm2 hm3 hn hof hol
  go_enter Tryd.func4, Tryd.ntmps4
  go_wp2_with fail
  refine (HRC.out _).mono ?_
  rintro e w1 ⟨O, k, rfl, hro, hf⟩
  obtain ⟨P, hP⟩ : ∃ P, madeP l m = P := ⟨_, rfl⟩
  rw [hP] at HPU HE HPL
  obtain ⟨mk, hmk⟩ : ∃ mk, mkM m = mk := ⟨_, rfl⟩
  rw [hmk] at HPU ⊢
  obtain ⟨x, y⟩ := mk
  obtain ⟨of, hof⟩ : ∃ of, ofM m = of := ⟨_, rfl⟩
  rw [hof] at HPU HE hro HOF HBS HOL
  obtain ⟨E, hE⟩ : ∃ E, MakeE l m = E := ⟨_, rfl⟩
  rw [hE] at HE HL HM
  obtain ⟨L, hL⟩ : ∃ L, MakeL l m = L := ⟨_, rfl⟩
  rw [hL] at HL HM
  obtain ⟨P1, P2⟩ := P
  dsimp only at HPU HE HPL ⊢
  obtain ⟨tb, htb⟩ : ∃ tb : Bool, decide (0 ≤ m ∧ m < 7) = tb := ⟨_, rfl⟩
  have HTB := Lib.hid htb
  rw [htb]
  have hfa := Fr.alloc No w1 (.cells #[.int .u8 (x : Int), .int .i64 y] 31)
  have hT := heap_alloc_new w1 (.cells #[.int .u8 (x : Int), .int .i64 y] 31)
  have HF2 := Lib.hid (hf.no_trans hfa)
  have HRO := Lib.hid (hro.no hfa)
  clear hf hfa hP hmk hof hE hL hro htb HRC
  go_upto_region 4 with fail
  obtain ⟨T, hTT⟩ : ∃ T, w1.heap.size = T := ⟨_, rfl⟩
  rw [hTT] at hT ⊢
  clear hTT
  generalize w1.alloc (.cells #[.int .u8 (x : Int), .int .i64 y] 31) = w2 at *
  have HMK : Hid (∀ W, Fr No w2 W → W.cell? ⟨T, 0, none⟩ = some (.int .u8 (x : Int)) ∧ W.cell? ⟨T, 1, none⟩ = some (.int .i64 y)) := Lib.hid fun W hW =>
    ⟨(blk_cell (blk_no hW hT) 0).trans (by simp), (blk_cell (blk_no hW hT) 1).trans (by simp)⟩
  clear hT
  go_wp2_with fail
  refine (HM.out _ HF2.out).mono ?_
  rintro e w3 ⟨A3, c3, rfl, ho, hf⟩
  have HG3 := Lib.hid hf
  have HO3 := Lib.hid (fun W (hW : Fr No w3 W) => (ho.rd).no hW)
  clear hf ho HM
  go_wp2_with fail
  have HLO := Lib.hid HRO.out.1
  go_loopw [10, 36] (fun v10 v36 wr => ∃ (j : Nat) (b : Bool), j ≤ k ∧ v36 = .int .i64 (j : Int) ∧ v10 = .bool b ∧ (rgt l = true → b = (of.take j).any (lackS l)) ∧ Fr No w3 wr) (fun _ v36 _ => k - (intOf v36).toNat)
  case atStart => exact ⟨0, false, by omega, rfl, rfl, fun _ => rfl, Fr.refl _ _⟩
  case round =>
    obtain ⟨j, b, hj, rfl, rfl, hbb, hf⟩ := hrel
    have HF := Lib.hid hf
    have HBB := Lib.hid hbb
    clear hf hbb
    by_cases hlt : j < k
    · have hkl : j < of.length := by rw [HLO.out]; exact hlt
      obtain ⟨ob, oo, rfl, _, hc⟩ := (HRO.out.no (HG3.out.no_trans HF.out)).2 (by omega)
      obtain ⟨x0, x1⟩ := hc j hkl
      have hk2 : k ≤ 2 := by rw [← HLO.out]; exact HOL.out
      have hwj : IntKind.i64.wrap ((j : Int) + 1) = ((j + 1 : Nat) : Int) := by
        rw [show ((j : Int) + 1) = ((j + 1 : Nat) : Int) by omega]
        exact IntWalk.i64_in _ (by omega)
      have HST := Lib.hid (any_step (lackS l) j hkl)
      obtain ⟨s, hs⟩ : ∃ s, of[j] = s := ⟨_, rfl⟩
      rw [hs] at x0 x1 HST
      obtain ⟨sx, sy⟩ := s
      dsimp only at x0 x1
      have C1 := Lib.hid (fun W hW => HC.out W hW sx)
      have hD := heap_alloc_new wr (.cells #[.int .u8 (sx : Int), .int .i64 sy] 31)
      have hfa := Fr.alloc No wr (.cells #[.int .u8 (sx : Int), .int .i64 sy] 31)
      have HFA := Lib.hid (HF.out.no_trans hfa)
      clear hc hs hfa
      go_upto_region 9 with fail
      obtain ⟨D, hDD⟩ : ∃ D, wr.heap.size = D := ⟨_, rfl⟩
      rw [hDD] at hD ⊢
      clear hDD
      generalize wr.alloc (.cells #[.int .u8 (sx : Int), .int .i64 sy] 31) = wd at *
      have HDW : Hid (∀ W, Fr No wd W → W.cell? ⟨D, 0, none⟩ = some (.int .u8 (sx : Int)) ∧ W.cell? ⟨D, 1, none⟩ = some (.int .i64 sy)) := Lib.hid fun W hW => ⟨(blk_cell (blk_no hW hD) 0).trans (by simp), (blk_cell (blk_no hW hD) 1).trans (by simp)⟩
      have d1 := HDW.out wd (Fr.refl No wd)
      have dd := HDW.out wd.drew (Fr.drew No wd)
      clear hD
      cases b with
      | true =>
        go_quiet (fail)
        go_wp2_with fail
        go_roundw
        case rel => exact ⟨j + 1, true, by omega, by go_num, rfl, fun h => by rw [HST.out, ← HBB.out h]; rfl, HFA.out.no_trans (Fr.drewN No _ _)⟩
        case measure => simp [intOf]; omega
      | false =>
        go_region_held3 (fun W => W.cell? ⟨D, 0, none⟩ = some (.int .u8 (sx : Int)) ∧ W.cell? ⟨D, 1, none⟩ = some (.int .i64 sy))
          (first | exact d5 | exact dd | exact d1)
          (first
            | (go_at_call 13; refine (C1.out _ (HF2.out.no_trans (HG3.out.no_trans (HFA.out.no_trans (Fr.drew No wd))))).mono ?_; rintro e w5 ⟨q, rfl, hq, hf⟩; have HQ := Lib.hid hq; have HF5 := Lib.hid ((HFA.out.no_trans (Fr.drew No wd)).no_trans hf); have d5 := HDW.out w5 ((Fr.drew No wd).no_trans hf); clear hf hq))
        go_wp2_with fail
        go_roundw
        case rel => exact ⟨j + 1, _, by omega, by go_num, rfl, fun h => by rw [HST.out, ← HBB.out h, HQ.out h]; rfl, HF5.out⟩
        case measure => simp [intOf]; omega
    · have hkn : j = k := by omega
      subst hkn
      have hbb := HBB.out
      rw [List.take_of_length_le (by rw [HLO.out]; exact Nat.le_refl _)] at hbb
      have HBB := Lib.hid hbb
      clear hbb
      go_wp2_with fail
      refine (HR.out _ (HF2.out.no_trans (HG3.out.no_trans HF.out))).mono ?_
      rintro e w4 ⟨rfl, hf⟩
      have HF4 := Lib.hid (HF.out.no_trans hf)
      clear hf
      obtain ⟨r, hr⟩ : ∃ r, rgt l = r := ⟨_, rfl⟩
      rw [hr] at HE HBB ⊢
      have HRL := Lib.hid hr
      clear hr HR
      cases r with
      | false =>
        have hE := HE.out.1 rfl
        subst hE
        clear HE HL
        go_wp2_with fail
        refine (HA.out _ (HF2.out.no_trans (HG3.out.no_trans HF4.out))).mono ?_
        rintro e w5 ⟨rfl, hf⟩
        go_wp2_with fail
        go_ret
        exact ⟨rfl, hf.noBelow⟩
      | true =>
      have hb2 := HBB.out rfl
      subst hb2
      cases tb with
      | false =>
        have hE := HE.out.2.1 rfl (of_decide_eq_false HTB.out)
        subst hE
        clear HE HL
        go_wp2_with fail
        refine (HA.out _ (HF2.out.no_trans (HG3.out.no_trans HF4.out))).mono ?_
        rintro e w5 ⟨rfl, hf⟩
        go_wp2_with fail
        go_ret
        exact ⟨rfl, hf.noBelow⟩
      | true =>
      have hm := of_decide_eq_true HTB.out
      have HE3 := Lib.hid (HE.out.2.2.1 rfl hm)
      have HE4 := Lib.hid (HE.out.2.2.2.1 rfl hm)
      have HE5 := Lib.hid (HE.out.2.2.2.2 rfl hm)
      have HP0 := Lib.hid (HPL.out HRL.out hm)
      clear HE HTB hm HBB HPL
      obtain ⟨wn, hwn⟩ : ∃ q, of.any (lackS l) = q := ⟨_, rfl⟩
      rw [hwn] at HE3 HE4 HE5 ⊢
      clear hwn
      cases wn with
      | true =>
        have hE := HE3.out rfl
        have hL := HL.out (by omega)
        subst hE hL
        clear HE3 HE4 HE5 HL
        go_wp2_with fail
        refine (same_yes (HO3.out _ HF4.out) (HX.out.no (HF2.out.no_trans (HG3.out.no_trans HF4.out))) c3 c (by have := HN.out; omega)).mono ?_
        rintro e w5 ⟨rfl, hf⟩
        have HF5 := Lib.hid (HF4.out.no_trans hf)
        clear hf
        go_wp2_with fail
        refine (HA.out _ (HF2.out.no_trans (HG3.out.no_trans HF5.out))).mono ?_
        rintro e w6 ⟨rfl, hf⟩
        go_wp2_with fail
        go_ret
        exact ⟨rfl, hf.noBelow⟩
      | false =>
      clear HE3 HL HC
      go_wp2_with fail
      go_loopw [13, 85] (fun v13 v85 wr => ∃ (i : Nat) (A' : Option Addr) (c' : Nat), i ≤ j ∧ v85 = .int .i64 (i : Int) ∧ v13 = .slice A' n c' ∧ RdS wr A' n (spentL l (of.take i)) ∧ Fr No w3 wr) (fun _ v85 _ => j - (intOf v85).toNat)
      case atStart => exact ⟨0, A, c, by omega, rfl, rfl, HX.out.no (HF2.out.no_trans (HG3.out.no_trans HF4.out)), HF4.out⟩
      case round =>
        obtain ⟨i, A', c', hi, rfl, rfl, hr, hf⟩ := hrel
        have HF := Lib.hid hf
        have HR := Lib.hid hr
        clear hf hr
        by_cases hlt : i < j
        · have hkl : i < of.length := by rw [HLO.out]; exact hlt
          obtain ⟨b, o, rfl, _, hc⟩ := (HRO.out.no (HG3.out.no_trans HF.out)).2 (by omega)
          obtain ⟨x0, x1⟩ := hc i hkl
          have hk2 : j ≤ 2 := by rw [← HLO.out]; exact HOL.out
          have hwi : IntKind.i64.wrap ((i : Int) + 1) = ((i + 1 : Nat) : Int) := by
            rw [show ((i : Int) + 1) = ((i + 1 : Nat) : Int) by omega]
            exact IntWalk.i64_in _ (by omega)
          have HST := Lib.hid (spentL_step l of i hkl)
          have hq := (HOF.out of[i] (List.getElem_mem hkl)).2.1
          clear hc
          generalize of[i].1 = sx at *
          generalize of[i].2 = sy at *
          have hfa := Fr.alloc No wr (.cells #[.int .u8 (sx : Int), .int .i64 sy] 31)
          have C1 := Lib.hid (HS.out _ (HF2.out.no_trans (HG3.out.no_trans (HF.out.no_trans hfa))) _ (HBS.out i) A' c' (HR.out.no hfa) sx sy (by omega))
          have HFA := Lib.hid (HF.out.no_trans hfa)
          rw [← HST.out] at C1
          clear hfa hq
          go_wp2_with fail
          refine C1.out.mono ?_
          rintro e w5 ⟨A5, c5, rfl, ho, hf⟩
          have HO5 := Lib.hid ho.rd
          have HF5 := Lib.hid (HFA.out.no_trans hf)
          clear ho hf C1 HFA
          go_wp2_with fail
          go_roundw
          case rel => exact ⟨i + 1, A5, c5, by omega, by go_num, rfl, HO5.out, HF5.out⟩
          case measure => simp [intOf]; omega
        · have hkn : i = j := by omega
          subst hkn
          have hr := HR.out
          rw [List.take_of_length_le (by rw [HLO.out]; exact Nat.le_refl _)] at hr
          obtain ⟨sp, hsp⟩ : ∃ sp, spentL l of = sp := ⟨_, rfl⟩
          rw [hsp] at hr HPU
          have HR2 := Lib.hid hr
          clear hr HR hsp
          obtain ⟨t0, t1⟩ := HMK.out _ (HG3.out.no_trans HF.out)
          go_wp2_with fail
          refine (HPU.out _ (HF2.out.no_trans (HG3.out.no_trans HF.out)) _ _ HR2.out).mono ?_
          rintro e w5 ⟨A5, c5, rfl, hf⟩
          have HF5 := Lib.hid (HF.out.no_trans hf)
          clear hf t0 t1
          by_cases hp : 0 < P2
          · have hE := HE4.out (by first | rfl | trivial) (by omega)
            subst hE
            have e1 : decide (0 < P2) = true := decide_eq_true hp
            have e2 : (P2 == 0) = false := by rw [beq_eq_false_iff_ne]; omega
            clear HE4 HE5
            go_wp2_with fail
            refine (HA.out _ (HF2.out.no_trans (HG3.out.no_trans HF5.out))).mono ?_
            rintro e w6 ⟨rfl, hf⟩
            go_wp2_with fail
            go_ret
            exact ⟨rfl, hf.noBelow⟩
          · have hE := HE5.out (by first | rfl | trivial) (by omega)
            have hp0 := HP0.out
            have h0 : P2 = 0 := by omega
            subst hE h0
            clear HE4 HE5
            go_wp2_with fail
            refine (HA.out _ (HF2.out.no_trans (HG3.out.no_trans HF5.out))).mono ?_
            rintro e w6 ⟨rfl, hf⟩
            go_wp2_with fail
            go_ret
            exact ⟨rfl, hf.noBelow⟩
end
end Go.Proofs.YtloimopcecbkbaaDoor

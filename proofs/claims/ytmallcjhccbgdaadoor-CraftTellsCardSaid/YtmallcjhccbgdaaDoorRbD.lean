/-
  The document's own bag: Spend. No statement of the seat is proved here.
-/
import Derived.Test.YtmallcjhccbgdaaDoorRbC
namespace Go.Proofs.YtmallcjhccbgdaaDoor
open Go.RowKit Go.Deep

section
variable {w : World} {A : Option Addr} {n c lo : Nat} {l : List (Nat × Int)}
theorem spF_drop {i : Nat} {m : Int} (j : Nat) (hj : j < l.length) : spF i (l.drop j) m = spS i l[j] (spF i (l.drop (j + 1)) m) := by
  rw [List.drop_eq_getElem_cons hj]
  rfl
set_option maxRecDepth 100000 in
set_option maxHeartbeats 1600000 in
theorem rspend_any (hx : RdS w A n l) (hb : By l) (c : Nat) {i : Nat} (hn : n ≤ 100000) {m : Int} (hm : m ≤ 9223372036854775807) :
    Calls Tryd.prog 22 #[.slice A n c, .int .u8 (i : Int), .int .i64 m] w fun e w' => ∃ A' c', e = .returned (.tuple #[.slice A' n c', .int .i64 (SpendE l i m)]) ∧ OwS w.heap.size w' (.slice A' n c') (SpendL l i m) ∧ Fr No w w' := by
  have HX := Lib.hid (fun W (hW : Fr No w W) => hx.no hW)
  have HL := Lib.hid hx.1
  have HR := Lib.hid (fun W (hW : Fr No w W) => rright_any (hx.no hW) hb c hn n)
  rw [show (decide ((n : Int) = (n : Int)) && rgt l) = rgt l by simp] at HR
  have HRC := Lib.hid (fun (hr : rgt l = true) W A' c' (hx' : RdS W A' n l) => rcount_any hx' hr c' i hn)
  obtain ⟨E, hE⟩ : ∃ E, SpendE l i m = E := ⟨_, rfl⟩
  obtain ⟨L, hL⟩ : ∃ L, SpendL l i m = L := ⟨_, rfl⟩
  have HE : Hid ((rgt l = false → E = 103) ∧ (rgt l = true → m < 1 → E = 111) ∧ (rgt l = true → ¬ m < 1 → cntL i l < m → E = 105) ∧ (rgt l = true → ¬ m < 1 → ¬ cntL i l < m → E = 0)) := Lib.hid (by
    rw [← hE]
    refine ⟨fun h => ?_, fun h1 h2 => ?_, fun h1 h2 h3 => ?_, fun h1 h2 h3 => ?_⟩
    · unfold SpendE; rw [if_pos h]
    · unfold SpendE; rw [if_neg (by rw [h1]; simp), if_pos h2]
    · unfold SpendE; rw [if_neg (by rw [h1]; simp), if_neg h2, if_pos h3]
    · unfold SpendE; rw [if_neg (by rw [h1]; simp), if_neg h2, if_neg h3])
  have HLL : Hid ((E ≠ 0 → L = l) ∧ (E = 0 → L = (spF i l m).1)) := Lib.hid (by
    rw [← hE, ← hL]
    exact ⟨fun h => by unfold SpendL; rw [if_neg h], fun h => by unfold SpendL; rw [if_pos h]⟩)
  rw [hE, hL]
  have HM := Lib.hid hm
  have HN := Lib.hid hn
  clear hx hb hE hL hm
  go_enter Tryd.func22, Tryd.ntmps22
  go_wp2_with (at_builtin; refine wpList_append_sl _ rfl (.tmp 10) (.tmp 11) rfl (lo := w.heap.size) (l := []) rfl (OwS.made w _ rfl) A n c l rfl (HX.out _ (Fr.alloc No _ _)) (by simp; omega) (by rw [World.size_alloc]; omega) ?_; intro v1 w1 ho hg; have HO1 := Lib.hid ho; have HF1 := Lib.hid ((Fr.alloc No w (.cells #[] 34)).then_new (Fr.grown (F := fun i => w.heap.size ≤ i) hg (fun k hk => ((OwS.made w _ rfl).lt k hk).1)) (fun i h => h)); clear ho hg)
  obtain ⟨A1, c1, hv⟩ : ∃ A1 c1, v1 = .slice A1 n c1 := by
    obtain ⟨a, b, h, _⟩ := HO1.out.sl
    exact ⟨a, b, by rw [h, List.nil_append, HL.out]⟩
  subst hv
  rw [List.nil_append] at HO1
  refine (HR.out _ HF1.out).mono ?_
  rintro e w2 ⟨rfl, hf⟩
  have HF2 := Lib.hid (HF1.out.no_trans hf)
  have HO2 := Lib.hid (HO1.out.no hf)
  clear hf HR HO1 HF1
  obtain ⟨r, hr⟩ : ∃ r, rgt l = r := ⟨_, rfl⟩
  have HRL := Lib.hid hr
  rw [hr] at HE HRC ⊢
  clear hr
  cases r with
  | false =>
    have h1 := HE.out.1 rfl
    have h2 := HLL.out.1 (by omega)
    subst h1 h2
    clear HE HLL
    go_wp2_with fail
    go_ret2
    exact ⟨A1, c1, rfl, HO2.out, HF2.out⟩
  | true =>
  by_cases hm1 : m < 1
  · have h1 := HE.out.2.1 rfl hm1
    have h2 := HLL.out.1 (by omega)
    subst h1 h2
    clear HE HLL
    go_wp2_with fail
    go_ret2
    exact ⟨A1, c1, rfl, HO2.out, HF2.out⟩
  have HE3 := Lib.hid (HE.out.2.2.1 rfl (by omega))
  have HE4 := Lib.hid (HE.out.2.2.2 rfl (by omega))
  have H1 := Lib.hid hm1
  have C1 := Lib.hid (HRC.out rfl w2 A1 c1 HO2.out.rd)
  obtain ⟨q, hq⟩ : ∃ q, cntL i l = q := ⟨_, rfl⟩
  have HQ := Lib.hid hq
  rw [hq] at HE3 HE4 C1
  clear HE HRC hq
  go_wp2_with fail
  refine C1.out.mono ?_
  rintro e w3 ⟨rfl, hf⟩
  have HF3 := Lib.hid (HF2.out.no_trans hf)
  have HO3 := Lib.hid (HO2.out.no hf)
  clear hf C1 HO2 HF2
  by_cases hqm : q < m
  · have h1 := HE3.out hqm
    have h2 := HLL.out.1 (by omega)
    subst h1 h2
    clear HE3 HE4 HLL
    go_wp2_with fail
    go_ret2
    exact ⟨A1, c1, rfl, HO3.out, HF3.out⟩
  have h1 := HE4.out (by omega)
  have h2 := HLL.out.2 h1
  have HLS := Lib.hid h2
  subst h1
  clear h2 HE3 HE4 HLL HQ hm1
  have hwn : IntKind.i64.wrap ((n : Int) - 1) = (n : Int) - 1 := IntWalk.i64_in _ (by omega)
  have HP := Lib.hid (fun s (hs : s ∈ l) => rgt_at HRL.out hs)
  go_wp2_with fail
  clear hqm
  go_loopw [2, 9] (fun v2 v9 wr => ∃ (k : Nat) (r : Int), k ≤ n ∧ v9 = .int .i64 ((k : Int) - 1) ∧ v2 = .int .i64 r ∧ 0 ≤ r ∧ r ≤ m ∧ r = (spF i (l.drop k) m).2 ∧ OwS w.heap.size wr (.slice A1 n c1) (l.take k ++ (spF i (l.drop k) m).1) ∧ Fr No w wr) (fun _ v9 _ => (intOf v9 + 1).toNat)
  case atStart =>
    refine ⟨n, m, Nat.le_refl _, rfl, rfl, by have := H1.out; omega, Int.le_refl _, ?_, ?_, HF3.out⟩
    · rw [List.drop_of_length_le (by rw [HL.out]; exact Nat.le_refl _)]; rfl
    · rw [List.drop_of_length_le (by rw [HL.out]; exact Nat.le_refl _), List.take_of_length_le (by rw [HL.out]; exact Nat.le_refl _)]
      show OwS _ _ _ (l ++ [])
      rw [List.append_nil]
      exact HO3.out
  case round =>
    obtain ⟨k, r, hk, rfl, rfl, hr0, hrm, hre, ho, hf⟩ := hrel
    have HF := Lib.hid hf
    have HO := Lib.hid ho
    have HRE := Lib.hid hre
    clear hf ho hre
    by_cases hk0 : k = 0
    · have h0 : ¬ (0 : Int) ≤ (k : Int) - 1 := by omega
      have hfin : l.take k ++ (spF i (l.drop k) m).1 = (spF i l m).1 := by rw [hk0]; rfl
      have ho := HO.out
      rw [hfin, ← HLS.out] at ho
      have HO' := Lib.hid ho
      clear hfin ho hk0
      go_wp2_with fail
      go_ret2
      exact ⟨A1, c1, rfl, HO'.out, HF.out⟩
    · have h0 : (0 : Int) ≤ (k : Int) - 1 := by omega
      by_cases hrp : 0 < r
      · obtain ⟨j, rfl⟩ : ∃ j, k = j + 1 := ⟨k - 1, by omega⟩
        have hjl : j < l.length := by rw [HL.out]; omega
        have e9 : ((j + 1 : Nat) : Int) - 1 = (j : Int) := by omega
        have HSP := Lib.hid (spF_drop (i := i) (m := m) j hjl)
        have HTK : Hid (l.take (j + 1) = l.take j ++ [l[j]]) := Lib.hid (by rw [List.take_add_one, List.getElem?_eq_getElem hjl]; rfl)
        have hs := HP.out l[j] (List.getElem_mem hjl)
        have hs2 := stI_le l[j].1
        have hy : 0 ≤ l[j].2 ∧ l[j].2 ≤ 16 ∧ (l[j].2 = 0 → l[j].1 = 0) := by omega
        have HTL : Hid ((l.take j).length = j) := Lib.hid (by rw [List.length_take]; omega)
        have ho := HO.out
        rw [HTK.out, List.append_assoc, List.singleton_append] at ho
        obtain ⟨s, hsE⟩ : ∃ s, l[j] = s := ⟨_, rfl⟩
        rw [hsE] at HSP ho hy
        have hre := HRE.out
        obtain ⟨X, hX⟩ : ∃ X, spF i (l.drop (j + 1)) m = X := ⟨_, rfl⟩
        rw [hX] at HSP ho hre
        obtain ⟨X1, X2⟩ := X
        obtain ⟨T, hT⟩ : ∃ T, l.take j = T := ⟨_, rfl⟩
        rw [hT] at ho HTL
        have HT := Lib.hid hT
        obtain ⟨x, y⟩ := s
        dsimp only at ho hy hre HSP
        have hX2 : X2 = r := hre.symm
        subst hX2
        have HO := Lib.hid ho
        have HY := Lib.hid hy
        have hkj : (j : Int) < (n : Int) := by omega
        have hkj0 : (0 : Int) ≤ (j : Int) := by omega
        have HJN := Lib.hid (show j < n by omega)
        have HRR := Lib.hid (And.intro hr0 (And.intro hrm hrp))
        rw [e9]
        clear ho hy hre hX hT hsE hs hs2 HTK HRE hk h0 hk0 e9 hr0 hrm
        go_wp2_with fail
        clear hrp
        go_loopw [2] (fun v2 wr => ∃ (d : Int), v2 = .int .i64 (X2 - d) ∧ 0 ≤ d ∧ d ≤ X2 ∧ d ≤ y ∧ (x ≠ i → d = 0) ∧ OwS w.heap.size wr (.slice A1 n c1) (T ++ (x, y - d) :: X1) ∧ Fr No w wr) (fun v2 _ => (intOf v2).toNat)
        case atStart => exact ⟨0, by rw [Int.sub_zero], Int.le_refl _, HRR.out.1, HY.out.1, fun _ => rfl, by rw [Int.sub_zero]; exact HO.out, HF.out⟩
        case round =>
          obtain ⟨d, rfl, hd0, hdX, hdy, hdx, ho, hf⟩ := hrel
          have HFI := Lib.hid hf
          have HOI := Lib.hid ho
          have hlen : j < (T ++ (x, y - d) :: X1).length := by rw [List.length_append, HTL.out]; simp
          obtain ⟨b, rfl, hlo, hbz, f0, f1, x0, x1, hset⟩ := ho.set j hlen
          rw [mid_get HTL.out hlen] at x0 x1
          dsimp only at x0 x1
          have HSN : Hid (∀ z : Int, OwS w.heap.size (wr.setCell ⟨b, j * 2 + 1, none⟩ (.int .i64 z)) (.slice (some ⟨b, 0, none⟩) n c1) (T ++ (x, z) :: X1)) := Lib.hid fun z => by
            have := ho.setN j hlen rfl z
            rw [mid_get HTL.out hlen, mid_set HTL.out] at this
            exact this
          have HS2 : Hid (OwS w.heap.size ((wr.setCell ⟨b, j * 2, none⟩ (.int .u8 0)).setCell ⟨b, j * 2 + 1, none⟩ (.int .i64 0)) (.slice (some ⟨b, 0, none⟩) n c1) (T ++ (0, 0) :: X1)) := Lib.hid (by
            have := hset 0 0
            rw [mid_set HTL.out] at this
            exact this)
          have hyy := HY.out
          have hrr := HRR.out
          have hmm := HM.out
          have hjn := HJN.out
          have HLO := Lib.hid hlo
          obtain ⟨y', hy'⟩ : ∃ y', y - d = y' := ⟨_, rfl⟩
          obtain ⟨r', hr'⟩ : ∃ r', X2 - d = r' := ⟨_, rfl⟩
          rw [hy'] at x1 HOI
          rw [hr']
          clear hset ho hf hlen hlo
          by_cases hgo : 0 < r' ∧ x = i ∧ 0 < y'
          · obtain ⟨g1, g2, g3⟩ := hgo
            have e1 : decide (0 < r') = true := decide_eq_true g1
            have e2 : ((x : Int) == (i : Int)) = true := by simp [g2]
            have e3 : decide (0 < y') = true := decide_eq_true g3
            have hw1 : IntKind.i64.wrap (y' - 1) = y' - 1 := IntWalk.i64_in _ (by omega)
            have hw2 : IntKind.i64.wrap (r' - 1) = r' - 1 := IntWalk.i64_in _ (by omega)
            have HD := Lib.hid (And.intro hy' (And.intro hr' (And.intro hd0 (And.intro g2 (And.intro g1 g3)))))
            clear hd0 hdX hdy hdx hyy hrr hmm hjn hy' hr' g2
            go_wp2_with fail
            go_roundw
            case rel => exact ⟨d + 1, by have := HD.out; congr 1; omega, by have := HD.out; omega, by have := HD.out; omega, by have := HD.out; omega, fun h => absurd HD.out.2.2.2.1 h, by
              have h := HSN.out (y' - 1)
              rw [show y' - 1 = y - (d + 1) by have := HD.out; omega] at h ⊢
              exact h, HFI.out.then_new (Fr.setCell (F := fun i => w.heap.size ≤ i) wr ⟨b, j * 2 + 1, none⟩ (.int .i64 (y' - 1)) HLO.out) (fun i h => h)⟩
            case measure => simp [intOf]; omega
          · -- the slot is done with
            have hdone : (spF i (l.drop j) m) = ((if y' = 0 then ((0, 0) : Nat × Int) else (x, y')) :: X1, r') := by
              rw [HSP.out]
              unfold spS
              dsimp only
              by_cases hxi : x = i
              · rw [if_pos hxi]
                have hmin : min X2 y = d := by omega
                rw [hmin]
                unfold lessS
                dsimp only
                rw [hr']
                by_cases hyd : y = d
                · rw [if_pos hyd, if_pos (by omega)]
                · rw [if_neg hyd, if_neg (by omega), hy']
              · rw [if_neg hxi]
                have hd := hdx hxi
                have e1 : y' = y := by omega
                have e2 : r' = X2 := by omega
                rw [e1, e2]
                by_cases hy0 : y = 0
                · rw [if_pos hy0, hy0, hyy.2.2 hy0]
                · rw [if_neg hy0]
            have HDN := Lib.hid hdone
            have hrr' : 0 ≤ r' ∧ r' ≤ m := by omega
            have HRB := Lib.hid hrr'
            have hc : (¬ 0 < r') ∨ (0 < r' ∧ ¬ x = i) ∨ (0 < r' ∧ x = i ∧ ¬ 0 < y') := by
              by_cases a1 : 0 < r'
              · by_cases a2 : x = i
                · exact .inr (.inr ⟨a1, a2, fun a3 => hgo ⟨a1, a2, a3⟩⟩)
                · exact .inr (.inl ⟨a1, a2⟩)
              · exact .inl a1
            have hcc : (decide (0 < r') = false) ∨ (decide (0 < r') = true ∧ ((x : Int) == (i : Int)) = false) ∨ (decide (0 < r') = true ∧ ((x : Int) == (i : Int)) = true ∧ decide (0 < y') = false) := by
              rcases hc with a1 | ⟨a1, a2⟩ | ⟨a1, a2, a3⟩
              · exact .inl (decide_eq_false a1)
              · exact .inr (.inl ⟨decide_eq_true a1, by rw [beq_eq_false_iff_ne]; omega⟩)
              · exact .inr (.inr ⟨decide_eq_true a1, by simp [a2], decide_eq_false a3⟩)
            have hwj : IntKind.i64.wrap ((j : Int) - 1) = (j : Int) - 1 := IntWalk.i64_in _ (by omega)
            clear hc hdone hrr' hgo hd0 hdX hdy hdx hyy hrr hmm hy' hr' HSN HSP
            by_cases hy0 : y' = 0
            · have e0 : (y' == 0) = true := by simp [hy0]
              have HDN2 : Hid (spF i (l.drop j) m = ((0, 0) :: X1, r')) := Lib.hid (by rw [HDN.out, if_pos hy0])
              clear hy0
              rcases hcc with e1 | ⟨e1, e2⟩ | ⟨e1, e2, e3⟩
              all_goals
                go_wp2_with fail
                go_roundw
                case rel => exact ⟨j, r', by have := HJN.out; omega, by first | rfl | (congr 1), rfl, HRB.out.1, HRB.out.2, by rw [HDN2.out], by rw [HDN2.out, HT.out]; exact HS2.out, HFI.out.then_new ((Fr.setCell (F := fun i => w.heap.size ≤ i) wr ⟨b, j * 2, none⟩ (.int .u8 0) HLO.out).trans (Fr.setCell (F := fun i => w.heap.size ≤ i) _ ⟨b, j * 2 + 1, none⟩ (.int .i64 0) HLO.out) (fun _ _ e => e)) (fun i h => h)⟩
                case measure => simp [intOf]
            · have e0 : (y' == 0) = false := by rw [beq_eq_false_iff_ne]; exact hy0
              have HDN2 : Hid (spF i (l.drop j) m = ((x, y') :: X1, r')) := Lib.hid (by rw [HDN.out, if_neg hy0])
              clear hy0
              rcases hcc with e1 | ⟨e1, e2⟩ | ⟨e1, e2, e3⟩
              all_goals
                go_wp2_with fail
                go_roundw
                case rel => exact ⟨j, r', by have := HJN.out; omega, by first | rfl | (congr 1), rfl, HRB.out.1, HRB.out.2, by rw [HDN2.out], by rw [HDN2.out, HT.out]; exact HOI.out, HFI.out⟩
                case measure => simp [intOf]
      · have hr00 : (spF i (l.drop k) m).2 = 0 := by rw [← HRE.out]; omega
        have ho := HO.out
        rw [spF_stop HRL.out k hr00, ← HLS.out] at ho
        have HO' := Lib.hid ho
        clear ho hr00
        go_wp2_with fail
        go_ret2
        exact ⟨A1, c1, rfl, HO'.out, HF.out⟩
end
end Go.Proofs.YtmallcjhccbgdaaDoor

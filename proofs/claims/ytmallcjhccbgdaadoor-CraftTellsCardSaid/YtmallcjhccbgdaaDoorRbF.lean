/-
  The document's own craft: Can; the walk of CraftTells. No statement of the seat is proved here.
-/
import Derived.Test.YtmallcjhccbgdaaDoorRbE
namespace Go.Proofs.YtmallcjhccbgdaaDoor
open Go.RowKit Go.Deep

section
variable {w : World} {A : Option Addr} {n c lo : Nat} {l : List (Nat × Int)}
theorem rrecipes_any : Calls Tryd.prog 25 #[] w fun e w' => e = .returned (.int .i64 7) ∧ w' = w := by
  go_enter Tryd.func25, Tryd.ntmps25
  go_wp2_with fail
  go_ret
  exact ⟨rfl, rfl⟩
set_option maxRecDepth 100000 in
set_option maxHeartbeats 1600000 in
theorem rCan_any (hx : RdS w A n l) (hb : By l) (c : Nat) (hn : n ≤ 100000) :
    Calls Tryd.prog 10 #[.slice A n c] w fun e w' => ∃ A' c', e = .returned (.slice A' (canL l).length c') ∧ OwI w.heap.size w' (.slice A' (canL l).length c') (canL l) ∧ Fr No w w' := by
  have HM := Lib.hid (fun W (hW : Fr No w W) => rMake_any (hx.no hW) hb c hn)
  have HRC : Hid (∀ W, Calls Tryd.prog 25 #[] W fun e w' => e = .returned (.int .i64 7) ∧ w' = W) := Lib.hid fun _ => rrecipes_any
  obtain ⟨p, hp⟩ : ∃ p, (fun k : Nat => MakeE l k == 0) = p := ⟨_, rfl⟩
  have HP : Hid (∀ k : Nat, p k = (MakeE l k == 0)) := Lib.hid fun k => by rw [← hp]
  have hcl : canL l = canF p 7 := by unfold canL; rw [hp]
  rw [hcl]
  clear hx hb hp hcl
  go_enter Tryd.func10, Tryd.ntmps10
  go_wp2_with fail
  go_loopw [3, 4] (fun v3 v4 wr => ∃ (k : Nat), k ≤ 7 ∧ v4 = .int .i64 (k : Int) ∧ OwI w.heap.size wr v3 (canF p k) ∧ Fr No w wr) (fun _ v4 _ => 7 - (intOf v4).toNat)
  case atStart => exact ⟨0, by omega, rfl, OwI.nil _ _, Fr.refl _ _⟩
  case round =>
    obtain ⟨k, hk, rfl, ho, hf⟩ := hrel
    have HF := Lib.hid hf
    have HO := Lib.hid ho
    clear hf ho
    by_cases hlt : k < 7
    · have hwk : IntKind.i64.wrap ((k : Int) + 1) = ((k + 1 : Nat) : Int) := by
        rw [show ((k : Int) + 1) = ((k + 1 : Nat) : Int) by omega]
        exact IntWalk.i64_in _ (by omega)
      have C1 := Lib.hid (HM.out _ HF.out (k : Int))
      obtain ⟨E, hE⟩ : ∃ E, MakeE l (k : Int) = E := ⟨_, rfl⟩
      have hpk := HP.out k
      rw [hE] at C1 hpk
      have hst : canF p (k + 1) = canF p k ++ (if p k = true then [(k : Int)] else []) := rfl
      rw [hpk] at hst
      have hln := canF_len p k
      have hbs := HF.out.size
      clear hE hpk
      go_wp2_with fail
      refine (HRC.out _).mono ?_
      rintro e w2' ⟨rfl, rfl⟩
      go_wp2_with fail
      refine C1.out.mono ?_
      rintro e w2 ⟨A', c', rfl, _, hf⟩
      have HF2 := Lib.hid (HF.out.no_trans hf)
      have HO2 := Lib.hid (HO.out.no hf)
      have hbs2 := HF2.out.size
      clear hf C1 HO
      by_cases h0 : E = 0
      · have e1 : (E == 0) = true := by simp [h0]
        rw [e1, if_pos rfl] at hst
        have HST := Lib.hid hst
        have HB2 := Lib.hid (And.intro hln hbs2)
        clear hst hln hbs hbs2
        go_wp2_with (at_builtin; refine wpList_append_i w2 rfl (.tmp 20) (.tmp 22) rfl rfl HO2.out (k : Int) rfl (by have := HB2.out.1; omega) HB2.out.2 ?_; intro v' w4 ho hg; have HO4 := Lib.hid ho; have HF4 := Lib.hid (HF2.out.then_new hg (fun i e => e)); clear ho hg)
        go_roundw
        case rel => exact ⟨k + 1, by omega, by go_num, by rw [HST.out]; exact HO4.out, HF4.out⟩
        case measure => simp [intOf]; omega
      · have e1 : (E == 0) = false := by rw [beq_eq_false_iff_ne]; exact h0
        rw [e1, if_neg Bool.false_ne_true, List.append_nil] at hst
        have HST := Lib.hid hst
        clear hst hln hbs hbs2
        go_wp2_with fail
        go_roundw
        case rel => exact ⟨k + 1, by omega, by go_num, by rw [HST.out]; exact HO2.out, HF2.out⟩
        case measure => simp [intOf]; omega
    · have hkn : k = 7 := by omega
      subst hkn
      go_wp2_with fail
      refine (HRC.out _).mono ?_
      rintro e w2' ⟨rfl, rfl⟩
      go_wp2_with fail
      go_ret
      obtain ⟨A', c', hv, _⟩ := HO.out.sl
      have ho := HO.out
      subst hv
      exact ⟨A', c', rfl, ho, HF.out⟩
set_option maxRecDepth 100000 in
set_option maxHeartbeats 1600000 in
theorem ctells_walk (ht : ItT w) (hx : RdS w A n l) (hb : By l) (c : Nat) (m : Int) : Calls Tryd.prog 3 #[.slice A n c, .int .i64 m] w fun e w' => e = .returned (.bool true) ∧ Below w.heap.size w w' := by
  have HA := Lib.hid (cawake_w ht)
  by_cases hn : 300 < n
  · have h3 : (300 : Int) < (n : Int) := by omega
    clear ht hx hb
    go_enter Tryd.func3, Tryd.ntmps3
    go_wp2_with fail
    refine (HA.out _ (Fr.refl No w)).mono ?_
    rintro e w1 ⟨rfl, hf⟩
    go_wp2_with fail
    go_ret
    exact ⟨rfl, hf.noBelow⟩
  have h3 : ¬ (300 : Int) < (n : Int) := by omega
  have HX := Lib.hid (fun W (hW : Fr No w W) => hx.no hW)
  have HLN := Lib.hid hx.1
  have HN := Lib.hid hn
  have HM := Lib.hid (fun W (hW : Fr No w W) A' c' (hx' : RdS W A' n l) => Make_any (ht.no hW) hx' hb c' (by omega) m)
  have HMR := Lib.hid (fun W (hW : Fr No w W) => rMake_any (hx.no hW) hb c (by omega) m)
  have HC := Lib.hid (fun W (hW : Fr No w W) A' c' (hx' : RdS W A' n l) => Can_any (ht.no hW) hx' hb c' (by omega))
  have HCR := Lib.hid (fun W (hW : Fr No w W) => rCan_any (hx.no hW) hb c (by omega))
  obtain ⟨E, hE⟩ : ∃ E, MakeE l m = E := ⟨_, rfl⟩
  obtain ⟨L, hL⟩ : ∃ L, MakeL l m = L := ⟨_, rfl⟩
  obtain ⟨C, hC⟩ : ∃ C, canL l = C := ⟨_, rfl⟩
  rw [hE, hL] at HM HMR
  rw [hC] at HC HCR
  have hcl : C.length ≤ 7 := by rw [← hC]; exact canF_len _ 7
  obtain ⟨N, hN⟩ : ∃ N, C.length = N := ⟨_, rfl⟩
  rw [hN] at HC HCR hcl
  have HCL := Lib.hid hcl
  have e5 : (E == E) = true := by simp
  clear ht hx hb hE hL hC hn hN hcl
  go_enter Tryd.func3, Tryd.ntmps3
  go_wp2_with (at_builtin; refine wpList_append_sl _ rfl (.tmp 14) (.tmp 15) rfl (lo := w.heap.size) (l := []) rfl (OwS.made w _ rfl) A n c l rfl (HX.out _ (Fr.alloc No _ _)) (by have := HN.out; simp; omega) (by rw [World.size_alloc]; omega) ?_; intro v1 w1 ho hg; have HO1 := Lib.hid ho; have HF1 := Lib.hid ((Fr.alloc No w (.cells #[] 34)).then_new (Fr.grown (F := fun i => w.heap.size ≤ i) hg (fun k hk => ((OwS.made w _ rfl).lt k hk).1)) (fun i h => h)); clear ho hg)
  obtain ⟨A1, c1, hv⟩ : ∃ A1 c1, v1 = .slice A1 n c1 := by
    obtain ⟨a, b, h, _⟩ := HO1.out.sl
    exact ⟨a, b, by rw [h, List.nil_append, HLN.out]⟩
  subst hv
  rw [List.nil_append] at HO1
  have HI := Lib.hid (fun W (hW : Fr No w1 W) => (HO1.out.rd).no hW)
  refine (HM.out _ HF1.out _ _ (HI.out _ (Fr.refl _ _))).mono ?_
  rintro e w2 ⟨A2, c2, rfl, ho, hf⟩
  have HG2 := Lib.hid hf
  have HO2 := Lib.hid ho.rd
  clear hf ho HM HO1
  go_wp2_with fail
  refine (HMR.out _ (HF1.out.no_trans HG2.out)).mono ?_
  rintro e w3 ⟨A3, c3, rfl, ho, hf⟩
  have HG3 := Lib.hid (HG2.out.no_trans hf)
  have HO2 := Lib.hid (HO2.out.no hf)
  have HO3 := Lib.hid ho
  clear hf ho HMR HG2
  go_wp2_with fail
  refine (same_yes HO2.out HO3.out c2 c3 (by have := HN.out; omega)).mono ?_
  rintro e w4 ⟨rfl, hf⟩
  have HG4 := Lib.hid (HG3.out.no_trans hf)
  clear hf HO2 HO3 HG3
  go_wp2_with fail
  refine (HC.out _ (HF1.out.no_trans HG4.out) _ _ (HI.out _ HG4.out)).mono ?_
  rintro e w5 ⟨A5, c5, rfl, ho, hf⟩
  have HG5 := Lib.hid (HG4.out.no_trans hf)
  have HO5 := Lib.hid ho.rd
  clear hf ho HC HG4
  go_wp2_with fail
  refine (HCR.out _ (HF1.out.no_trans HG5.out)).mono ?_
  rintro e w6 ⟨A6, c6, rfl, ho, hf⟩
  have HG6 := Lib.hid (HG5.out.no_trans hf)
  have HO5 := Lib.hid (HO5.out.no hf)
  have HO6 := Lib.hid ho.rd
  clear hf ho HCR HG5
  go_wp2_with fail
  refine (same_ints HO5.out HO6.out c5 c6 (by have := HCL.out; omega)).mono ?_
  rintro e w7 ⟨rfl, hf⟩
  have HG7 := Lib.hid (HG6.out.no_trans hf)
  clear hf HO5 HO6 HG6
  go_wp2_with fail
  refine (same_yes (HI.out _ HG7.out) (HX.out _ (HF1.out.no_trans HG7.out)) c1 c (by have := HN.out; omega)).mono ?_
  rintro e w8 ⟨rfl, hf⟩
  have HG8 := Lib.hid (HG7.out.no_trans hf)
  clear hf HG7
  go_wp2_with fail
  refine (HA.out _ (HF1.out.no_trans HG8.out)).mono ?_
  rintro e w9 ⟨rfl, hf⟩
  go_wp2_with fail
  go_ret
  exact ⟨rfl, hf.noBelow⟩
end
end Go.Proofs.YtmallcjhccbgdaaDoor

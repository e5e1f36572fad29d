/-
  Craft: what a recipe that is made does to each item's count; the walk of CraftTrades. No statement of the seat is proved here.
-/
import Derived.Test.YtloimopcecbkbaaDoorCrE
namespace Go.Proofs.YtloimopcecbkbaaDoor
open Go.RowKit Go.Deep

/-- How many of k slots ask for, together. -/
def sumK (k : Nat) : List (Nat × Int) → Int
  | [] => 0
  | s :: of => (if s.1 = k then s.2 else 0) + sumK k of
theorem sumK_cons (k : Nat) (s : Nat × Int) (of : List (Nat × Int)) : sumK k (s :: of) = (if s.1 = k then s.2 else 0) + sumK k of := rfl
theorem sumK_append (k : Nat) (a b : List (Nat × Int)) : sumK k (a ++ b) = sumK k a + sumK k b := by
  induction a with
  | nil => simp [sumK]
  | cons s a ih => rw [List.cons_append, sumK_cons, sumK_cons, ih]; omega
theorem sumK_step (k : Nat) (of : List (Nat × Int)) (j : Nat) (hj : j < of.length) : sumK k (of.take (j + 1)) = sumK k (of.take j) + if of[j].1 = k then of[j].2 else 0 := by
  rw [List.take_add_one, List.getElem?_eq_getElem hj, sumK_append]
  simp [sumK]
theorem sumK_le (k : Nat) {of : List (Nat × Int)} (h : ∀ s ∈ of, 0 ≤ s.2 ∧ s.2 ≤ 8) : 0 ≤ sumK k of ∧ sumK k of ≤ 8 * (of.length : Int) := by
  induction of with
  | nil => simp [sumK]
  | cons s of ih =>
    have h1 := h s List.mem_cons_self
    have h2 := ih (fun t ht => h t (List.mem_cons_of_mem _ ht))
    rw [sumK_cons, List.length_cons]
    split <;> omega
theorem spentL_cnt {of : List (Nat × Int)} : ∀ {l : List (Nat × Int)}, rgt l = true → (of.map Prod.fst).Nodup → (∀ s ∈ of, 1 ≤ s.2 ∧ s.2 ≤ cntL s.1 l) → ∀ k, cntL k (spentL l of) = cntL k l - sumK k of := by
  induction of with
  | nil => intro l _ _ _ k; simp [spentL, sumK]
  | cons s of ih =>
    intro l hr hn h k
    have hs := h s List.mem_cons_self
    rw [List.map_cons, List.nodup_cons] at hn
    have hE : SpendE l s.1 s.2 = 0 := (SpendE_iff hr hs.1).2 hs.2
    have hc := fun k => SpendL_cnt (i := s.1) (m := s.2) hr k
    have e : spentL l (s :: of) = spentL (SpendL l s.1 s.2) of := rfl
    rw [e, ih (SpendL_rgt hr) hn.2 (fun t ht => ?_) k, hc k]
    · rw [sumK_cons]
      by_cases hk : k = s.1
      · rw [if_pos ⟨hk, hE⟩, if_pos hk.symm]; omega
      · rw [if_neg (fun x => hk x.1), if_neg (fun x => hk x.symm)]; omega
    · have ht2 := h t (List.mem_cons_of_mem _ ht)
      have hne : t.1 ≠ s.1 := fun e => hn.1 (by rw [← e]; exact List.mem_map_of_mem ht)
      rw [hc t.1, if_neg (fun x => hne x.1)]
      omega
theorem ofM_more {m : Int} (h : 0 ≤ m ∧ m < 7) : ((ofM m).map Prod.fst).Nodup ∧ 1 ≤ (mkM m).2 ∧ stI (mkM m).1 ≠ 0 ∧ (mkM m).1 ≠ 0 := by
  unfold ofM mkM
  rw [if_pos h, if_pos h]
  have : ∀ j : Fin 7, ((ofR j.val).map Prod.fst).Nodup ∧ 1 ≤ (mkR j.val).2 ∧ stI (mkR j.val).1 ≠ 0 ∧ (mkR j.val).1 ≠ 0 := by decide
  exact this ⟨m.toNat, by omega⟩
theorem MakeE_ok {l : List (Nat × Int)} {m : Int} (h : MakeE l m = 0) : rgt l = true ∧ (0 ≤ m ∧ m < 7) ∧ (ofM m).any (lackS l) = false ∧ (madeP l m).2 = 0 := by
  obtain ⟨h1, h2, h3, h4, h5⟩ := MakeE_all l m
  have a1 : rgt l = true := by
    cases hr : rgt l with
    | true => rfl
    | false => have := h1 hr; omega
  have a2 : 0 ≤ m ∧ m < 7 := Decidable.byContradiction fun hh => by have := h2 a1 hh; omega
  have a3 : (ofM m).any (lackS l) = false := by
    cases hr : (ofM m).any (lackS l) with
    | false => rfl
    | true => have := h3 a1 a2 hr; omega
  refine ⟨a1, a2, a3, ?_⟩
  have a4 : ¬ 0 < (madeP l m).2 := fun hh => by have := h4 a1 a2 a3 hh; omega
  have := madeP_left a1 a2
  omega
/-- What a recipe that is made does to each item's count. -/
theorem MakeL_cnt {l : List (Nat × Int)} {m : Int} (h : MakeE l m = 0) (k : Nat) : cntL k (MakeL l m) = cntL k l - sumK k (ofM m) + (if (mkM m).1 = k then (mkM m).2 else 0) ∧ rgt (MakeL l m) = true ∧ (MakeL l m).length = l.length := by
  obtain ⟨hr, hm, ha, hp⟩ := MakeE_ok h
  obtain ⟨hn, h1, h2, h3⟩ := ofM_more hm
  obtain ⟨hof, _, _, _, _⟩ := ofM_cases m
  have hsp := spentL_cnt hr hn (fun s hs => ⟨(hof s hs).1, by
    rw [List.any_eq_false] at ha
    have := ha s hs
    unfold lackS at this
    simp at this
    exact this⟩) k
  rw [MakeL_yes h]
  have hok := PutL_ok (i := (mkM m).1) (spentL_rgt hr (ofM m)) h1
  have hc := PutL_cnt (k := k) (i := (mkM m).1) (m := (mkM m).2) (spentL_rgt hr (ofM m))
  refine ⟨?_, hok.2.2.2, by rw [← spentL_len l (ofM m)]; exact hok.2.2.1⟩
  show cntL k (PutL (mkM m).1 (spentL l (ofM m)) (mkM m).2).1 = _
  rw [hc, hsp]
  by_cases hk : k = (mkM m).1
  · rw [if_pos ⟨hk, h1, h2⟩, if_pos hk.symm]
    have : (PutL (mkM m).1 (spentL l (ofM m)) (mkM m).2).2 = 0 := hp
    rw [this]
    omega
  · rw [if_neg (fun x => hk x.1), if_neg (fun x => hk x.symm)]
theorem MakeL_by {l : List (Nat × Int)} (hb : By l) (m : Int) : By (MakeL l m) := by
  unfold MakeL
  split
  · exact PutL_byI (ofM_cases m).2.2.1 (spentL_by hb _)
  · exact hb
section
variable {w : World} {A : Option Addr} {n c lo : Nat} {l : List (Nat × Int)}
set_option maxRecDepth 100000 in
set_option maxHeartbeats 1600000 in
theorem ctrades_walk (ht : ItT w) (hx : RdS w A n l) (hb : By l) (c : Nat) (m : Int) : Calls Tryd.prog 3 #[.slice A n c, .int .i64 m] w fun e w' => e = .returned (.bool true) ∧ Below w.heap.size w w' := by
  have HA := Lib.hid (cawake_w ht)
  by_cases hn : 300 < n
  · have h3 : (300 : Int) < (n : Int) := by omega
    clear ht hx hb
    go_enter Tryd.func3, Tryd.ntmps3
    go_wp2_with fail
    refine (HA.out _ (Fr.refl No w)).mono ?_
    rintro e w1 ⟨rfl, hf⟩
    go_wp2_with fail
    go_ret
    exact ⟨rfl, hf.noBelow⟩
  have h3 : ¬ (300 : Int) < (n : Int) := by omega
  have e0 : decide ((n : Int) = (n : Int)) = true := by simp
  have HR := Lib.hid (right_any ht hx hb c (by omega) n)
  rw [e0] at HR
  cases hr : rgt l with
  | false =>
    rw [hr] at HR
    clear ht hx hb hr
    go_enter Tryd.func3, Tryd.ntmps3
    go_wp2_with fail
    refine HR.out.mono ?_
    rintro e w1 ⟨rfl, hf⟩
    have HF1 := Lib.hid hf
    clear hf
    go_wp2_with fail
    refine (HA.out _ HF1.out).mono ?_
    rintro e w2 ⟨rfl, hf⟩
    go_wp2_with fail
    go_ret
    exact ⟨rfl, hf.noBelow⟩
  | true =>
  rw [hr] at HR
  obtain ⟨hof, hol, hm1, hm2, hm3⟩ := ofM_cases m
  have HM := Lib.hid (fun W (hW : Fr No w W) => Make_any (ht.no hW) (hx.no hW) hb c (by omega) m)
  have HRC := Lib.hid (fun W => recipe_any (w := W) m)
  have HN := Lib.hid hn
  have HX := Lib.hid hx
  have hln := hx.1
  by_cases hE : MakeE l m = 0
  · obtain ⟨_, hm, _, _⟩ := MakeE_ok hE
    have hcn := fun k => MakeL_cnt hE k
    have hby := MakeL_by hb m
    have hs8 := fun k j => sumK_le k (of := (ofM m).take j) (fun s hs => by have := hof s (List.mem_of_mem_take hs); omega)
    have HRM := Lib.hid (fun W (hW : Fr No w W) A' c' (hx' : RdS W A' n (MakeL l m)) => right_any (ht.no hW) hx' hby c' (by omega) n)
    rw [e0, (hcn 0).2.1] at HRM
    have HC0 := Lib.hid (fun W (hW : Fr No w W) (k : Nat) => count_any (hx.no hW) hr c (i := k) (by omega))
    have HC1 := Lib.hid (fun W A' c' (hx' : RdS W A' n (MakeL l m)) (k : Nat) => count_any hx' (hcn 0).2.1 c' (i := k) (by omega))
    have hc0 := fun k => cntL_le (k := k) hr
    have hc1 := fun k => cntL_le (k := k) (hcn 0).2.1
    rw [hE] at HM
    have HCN := Lib.hid (fun k => (hcn k).1)
    have HLE := Lib.hid (fun k => And.intro (hc0 k) (hc1 k))
    rw [(hcn 0).2.2] at HLE
    rw [hln] at HLE
    rw [decide_eq_true hm] at HRC
    obtain ⟨mk, hmk⟩ : ∃ mk, mkM m = mk := ⟨_, rfl⟩
    rw [hmk] at HRC HCN hm1 hm2 hm3
    obtain ⟨x, y⟩ := mk
    obtain ⟨of, hoff⟩ : ∃ of, ofM m = of := ⟨_, rfl⟩
    rw [hoff] at HRC HCN hol hs8
    obtain ⟨L, hL⟩ : ∃ L, MakeL l m = L := ⟨_, rfl⟩
    rw [hL] at HM HRM HC1 HCN HLE
    dsimp only at HRC HCN hm1 hm2 hm3
    have HS8 := Lib.hid hs8
    have HB := Lib.hid (And.intro hol (And.intro hm1 (And.intro hm2 hm3)))
    clear ht hx hb hr hE hm hcn hby hs8 hc0 hc1 hmk hoff hL hof hol hm1 hm2 hm3 hln hn
    go_enter Tryd.func3, Tryd.ntmps3
    go_wp2_with fail
    refine HR.out.mono ?_
    rintro e w1 ⟨rfl, hf⟩
    have HF1 := Lib.hid hf
    clear hf HR
    go_wp2_with fail
    refine (HM.out _ HF1.out).mono ?_
    rintro e w2 ⟨A2, c2, rfl, ho, hf⟩
    have HF2 := Lib.hid (HF1.out.no_trans hf)
    have HO2 := Lib.hid (fun W (hW : Fr No w2 W) => (ho.rd).no hW)
    clear hf ho HM HF1
    go_wp2_with fail
    refine (HRC.out _).mono ?_
    rintro e w3 ⟨O, k, rfl, hro, hf⟩
    have HG3 := Lib.hid (hf.no_trans (Fr.alloc No w3 (.cells #[.int .u8 (x : Int), .int .i64 y] 31)))
    have hT := heap_alloc_new w3 (.cells #[.int .u8 (x : Int), .int .i64 y] 31)
    have HRO := Lib.hid (fun W (hW : Fr No (w3.alloc (.cells #[.int .u8 (x : Int), .int .i64 y] 31)) W) => (hro.no (Fr.alloc No w3 _)).no hW)
    have HLO := Lib.hid hro.1
    clear hf hro HRC
    go_upto_region 7 with fail
    obtain ⟨T, hTT⟩ : ∃ T, w3.heap.size = T := ⟨_, rfl⟩
    rw [hTT] at hT ⊢
    clear hTT
    generalize w3.alloc (.cells #[.int .u8 (x : Int), .int .i64 y] 31) = w4 at *
    have HMK : Hid (∀ W, Fr No w4 W → W.cell? ⟨T, 0, none⟩ = some (.int .u8 (x : Int)) ∧ W.cell? ⟨T, 1, none⟩ = some (.int .i64 y)) := Lib.hid fun W hW =>
      ⟨(blk_cell (blk_no hW hT) 0).trans (by simp), (blk_cell (blk_no hW hT) 1).trans (by simp)⟩
    clear hT
    go_wp2_with fail
    refine (HRM.out _ (HF2.out.no_trans HG3.out) _ _ (HO2.out _ HG3.out)).mono ?_
    rintro e w5 ⟨rfl, hf⟩
    have HG5 := Lib.hid hf
    clear hf HRM
    go_wp2_with fail
    go_loopw [54] (fun v54 wr => ∃ (i : Nat), i ≤ 13 ∧ v54 = .int .u8 (i : Int) ∧ Fr No w4 wr) (fun v54 _ => 13 - (intOf v54).toNat)
    case atStart => exact ⟨0, by omega, rfl, HG5.out⟩
    case round =>
      obtain ⟨i, hi, rfl, hf⟩ := hrel
      have HF := Lib.hid hf
      clear hf
      by_cases hlt : i < 13
      · have hwi : IntKind.u8.wrap ((i : Int) + 1) = ((i + 1 : Nat) : Int) := by
          rw [show ((i : Int) + 1) = ((i + 1 : Nat) : Int) by omega]
          exact IntWalk.u8_in _ (by omega)
        go_wp2_with fail
        go_loopw [11, 59] (fun v11 v59 wr => ∃ (j : Nat), j ≤ k ∧ v59 = .int .i64 (j : Int) ∧ v11 = .int .i64 (- sumK i (of.take j)) ∧ Fr No w4 wr) (fun _ v59 _ => k - (intOf v59).toNat)
        case atStart => exact ⟨0, by omega, rfl, rfl, HF.out⟩
        case round =>
          obtain ⟨j, hj, rfl, rfl, hf⟩ := hrel
          have HFJ := Lib.hid hf
          clear hf
          have hk2 : k ≤ 2 := by rw [← HLO.out]; exact HB.out.1
          by_cases hltj : j < k
          · have hkl : j < of.length := by rw [HLO.out]; exact hltj
            obtain ⟨b, o, rfl, _, hc⟩ := (HRO.out _ HFJ.out).2 (by omega)
            obtain ⟨x0, x1⟩ := hc j hkl
            have hwj : IntKind.i64.wrap ((j : Int) + 1) = ((j + 1 : Nat) : Int) := by
              rw [show ((j : Int) + 1) = ((j + 1 : Nat) : Int) by omega]
              exact IntWalk.i64_in _ (by omega)
            have hst := sumK_step i of j hkl
            have hs1 := HS8.out i j
            have hs2 := HS8.out i (j + 1)
            rw [List.length_take] at hs1 hs2
            obtain ⟨q, hq⟩ : ∃ q, sumK i (of.take j) = q := ⟨_, rfl⟩
            rw [hq] at hst hs1 ⊢
            clear hc hq
            generalize of[j].1 = sx at *
            generalize of[j].2 = sy at *
            by_cases hxi : sx = i
            · have e1 : ((sx : Int) == (i : Int)) = true := by simp [hxi]
              rw [if_pos hxi] at hst
              have hws : IntKind.i64.wrap (-q - sy) = -(q + sy) := by
                rw [show -q - sy = -(q + sy) by omega]
                exact IntWalk.i64_in _ (by omega)
              have HST := Lib.hid hst
              clear hst hs1 hs2 hxi
              go_wp2_with fail
              go_roundw
              case rel => exact ⟨j + 1, by omega, by go_num, by rw [HST.out], HFJ.out.no_trans (Fr.alloc No _ _)⟩
              case measure => simp [intOf]; omega
            · have e1 : ((sx : Int) == (i : Int)) = false := by rw [beq_eq_false_iff_ne]; omega
              rw [if_neg hxi, Int.add_zero] at hst
              have HST := Lib.hid hst
              clear hst hs1 hs2 hxi
              go_wp2_with fail
              go_roundw
              case rel => exact ⟨j + 1, by omega, by go_num, by rw [HST.out], HFJ.out.no_trans (Fr.alloc No _ _)⟩
              case measure => simp [intOf]; omega
          · have hkn : j = k := by omega
            subst hkn
            rw [List.take_of_length_le (by rw [HLO.out]; exact Nat.le_refl _)]
            have hs1 := HS8.out i j
            rw [List.take_of_length_le (by rw [HLO.out]; exact Nat.le_refl _), HLO.out] at hs1
            have hcn := HCN.out i
            obtain ⟨hb0, hb1⟩ := HLE.out i
            have C1 := Lib.hid (HC1.out _ _ c2 (HO2.out _ (HG3.out.no_trans HFJ.out)) i)
            have C0 := Lib.hid (fun W (hW : Fr No w4 W) => HC0.out W (HF2.out.no_trans (HG3.out.no_trans hW)) i)
            have hbb := HB.out
            have hnn := HN.out
            obtain ⟨q, hq⟩ : ∃ q, sumK i of = q := ⟨_, rfl⟩
            obtain ⟨q0, hq0⟩ : ∃ q, cntL i l = q := ⟨_, rfl⟩
            obtain ⟨q1, hq1⟩ : ∃ q, cntL i L = q := ⟨_, rfl⟩
            rw [hq] at hs1 hcn ⊢
            rw [hq0] at hb0 hcn C0
            rw [hq1] at hb1 hcn C1
            obtain ⟨t0, t1⟩ := HMK.out _ HFJ.out
            clear hq hq0 hq1
            by_cases hxi : x = i
            · have e1 : ((x : Int) == (i : Int)) = true := by simp [hxi]
              rw [if_pos hxi] at hcn
              have hw1 : IntKind.i64.wrap (-q + y) = -q + y := IntWalk.i64_in _ (by omega)
              have hw2 : IntKind.i64.wrap (q0 + (-q + y)) = q1 := by
                rw [show q0 + (-q + y) = q1 by omega]
                exact IntWalk.i64_in _ (by omega)
              have e2 : (q1 != q1) = false := by simp
              clear hcn hb0 hb1 hs1 hbb hnn hxi
              go_wp2_with fail
              refine C1.out.mono ?_
              rintro e w6 ⟨rfl, hf⟩
              have HF6 := Lib.hid (HFJ.out.no_trans hf)
              clear hf C1
              go_wp2_with fail
              refine (C0.out _ HF6.out).mono ?_
              rintro e w7 ⟨rfl, hf⟩
              have HF7 := Lib.hid (HF6.out.no_trans hf)
              clear hf C0
              go_wp2_with fail
              go_roundw
              case rel => exact ⟨i + 1, by omega, by go_num, HF7.out⟩
              case measure => simp [intOf]; omega
            · have e1 : ((x : Int) == (i : Int)) = false := by rw [beq_eq_false_iff_ne]; omega
              rw [if_neg hxi, Int.add_zero] at hcn
              have hw2 : IntKind.i64.wrap (q0 + -q) = q1 := by
                rw [show q0 + -q = q1 by omega]
                exact IntWalk.i64_in _ (by omega)
              have e2 : (q1 != q1) = false := by simp
              clear hcn hb0 hb1 hs1 hbb hnn hxi
              go_wp2_with fail
              refine C1.out.mono ?_
              rintro e w6 ⟨rfl, hf⟩
              have HF6 := Lib.hid (HFJ.out.no_trans hf)
              clear hf C1
              go_wp2_with fail
              refine (C0.out _ HF6.out).mono ?_
              rintro e w7 ⟨rfl, hf⟩
              have HF7 := Lib.hid (HF6.out.no_trans hf)
              clear hf C0
              go_wp2_with fail
              go_roundw
              case rel => exact ⟨i + 1, by omega, by go_num, HF7.out⟩
              case measure => simp [intOf]; omega
      · have hkn : i = 13 := by omega
        subst hkn
        go_wp2_with fail
        refine (HA.out _ (HF2.out.no_trans (HG3.out.no_trans HF.out))).mono ?_
        rintro e w6 ⟨rfl, hf⟩
        go_wp2_with fail
        go_ret
        exact ⟨rfl, hf.noBelow⟩
  · have hL := MakeL_no hE
    rw [hL] at HM
    have e1 : (MakeE l m != 0) = true := by simp [hE]
    have e2 : ¬ MakeE l m = 0 := hE
    obtain ⟨E, hEE⟩ : ∃ E, MakeE l m = E := ⟨_, rfl⟩
    rw [hEE] at HM e1 e2
    clear ht hx hb hr hE hL hEE hof hol hm1 hm2 hm3 hln hn HRC
    go_enter Tryd.func3, Tryd.ntmps3
    go_wp2_with fail
    refine HR.out.mono ?_
    rintro e w1 ⟨rfl, hf⟩
    have HF1 := Lib.hid hf
    clear hf HR
    go_wp2_with fail
    refine (HM.out _ HF1.out).mono ?_
    rintro e w2 ⟨A2, c2, rfl, ho, hf⟩
    have HF2 := Lib.hid (HF1.out.no_trans hf)
    have HO2 := Lib.hid ho.rd
    clear hf ho HM HF1
    go_wp2_with fail
    refine (same_yes (HX.out.no HF2.out) HO2.out c c2 (by have := HN.out; omega)).mono ?_
    rintro e w3 ⟨rfl, hf⟩
    have HF3 := Lib.hid (HF2.out.no_trans hf)
    clear hf
    go_wp2_with fail
    refine (HA.out _ HF3.out).mono ?_
    rintro e w4 ⟨rfl, hf⟩
    go_wp2_with fail
    go_ret
    exact ⟨rfl, hf.noBelow⟩
end
end Go.Proofs.YtloimopcecbkbaaDoor

/-
  Bags: Count of a right bag, what Spend refuses, All, Fits. No statement of the seat is proved here.
-/
import Derived.Test.YthmnnfmepklafaaDoorBgF
namespace Go.Proofs.YthmnnfmepklafaaDoor
open Go.RowKit Go.Deep

/-- How many of i slots have. -/
def cntF (i : Nat) (l : List (Nat × Int)) : Int := l.foldl (fun a s => if s.1 = i then a + s.2 else a) 0
def cntL (i : Nat) (l : List (Nat × Int)) : Int := if i = 0 then 0 else cntF i l
theorem cntF_step (i : Nat) (l : List (Nat × Int)) (k : Nat) (hk : k < l.length) : cntF i (l.take (k + 1)) = if l[k].1 = i then cntF i (l.take k) + l[k].2 else cntF i (l.take k) := by
  unfold cntF
  rw [List.take_add_one, List.getElem?_eq_getElem hk, List.foldl_append]
  rfl
theorem cntF_le (i : Nat) (l : List (Nat × Int)) (hr : rgt l = true) (k : Nat) (hk : k ≤ l.length) : 0 ≤ cntF i (l.take k) ∧ cntF i (l.take k) ≤ 16 * (k : Int) := by
  induction k with
  | zero => simp [cntF]
  | succ k ih =>
    have h1 := ih (by omega)
    have h2 := rgt_at hr (List.getElem_mem (show k < l.length by omega))
    have h3 := stI_le l[k].1
    rw [cntF_step i l k (by omega)]
    split <;> omega
section
variable {w : World} {A : Option Addr} {n c lo : Nat} {l : List (Nat × Int)}
set_option maxRecDepth 100000 in
set_option maxHeartbeats 1600000 in
theorem count_any (hx : RdS w A n l) (hr : rgt l = true) (c : Nat) {i : Nat} (hn : n ≤ 100000) : Calls Tryd.prog 11 #[.slice A n c, .int .u8 (i : Int)] w fun e w' => e = .returned (.int .i64 (cntL i l)) ∧ Fr No w w' := by
  by_cases h0 : i = 0
  · subst h0
    go_enter Tryd.func11, Tryd.ntmps11
    go_wp2_with fail
    go_ret
    exact ⟨rfl, Fr.refl _ _⟩
  · have HE := Lib.hid (show cntL i l = cntF i l by unfold cntL; rw [if_neg h0])
    have e0 : ((i : Int) == 0) = false := by rw [beq_eq_false_iff_ne]; omega
    have HX := Lib.hid (fun W (hW : Fr No w W) => hx.no hW)
    have HL := Lib.hid hx.1
    have HB := Lib.hid (cntF_le i l hr)
    have HRR := Lib.hid (fun s (hs : s ∈ l) => rgt_at hr hs)
    clear hx hr
    go_enter Tryd.func11, Tryd.ntmps11
    go_wp2_with fail
    go_loopw [5, 12] (fun v5 v12 wr => ∃ k : Nat, k ≤ n ∧ v12 = .int .i64 (k : Int) ∧ v5 = .int .i64 (cntF i (l.take k)) ∧ Fr No w wr) (fun _ v12 _ => n - (intOf v12).toNat)
    case atStart => exact ⟨0, by omega, rfl, rfl, Fr.refl _ _⟩
    case round =>
      obtain ⟨k, hk, rfl, rfl, hf⟩ := hrel
      have HF := Lib.hid hf
      clear hf
      by_cases hlt : k < n
      · have hkl : k < l.length := by rw [HL.out]; exact hlt
        obtain ⟨b, o, rfl, _, hc⟩ := (HX.out wr HF.out).2 (by omega)
        obtain ⟨x0, x1⟩ := hc k hkl
        have hst := cntF_step i l k hkl
        have h1 := HB.out k (by omega)
        have h2 := HRR.out l[k] (List.getElem_mem hkl)
        have h3 := stI_le l[k].1
        have hy : 0 ≤ l[k].2 ∧ l[k].2 ≤ 16 := by omega
        have hwk : IntKind.i64.wrap ((k : Int) + 1) = ((k + 1 : Nat) : Int) := by
          rw [show ((k : Int) + 1) = ((k + 1 : Nat) : Int) by omega]
          exact IntWalk.i64_in _ (by omega)
        obtain ⟨q, hq⟩ : ∃ q, cntF i (l.take k) = q := ⟨_, rfl⟩
        rw [hq] at hst h1 ⊢
        clear hc h2 h3 hq
        generalize l[k].1 = x at *
        generalize l[k].2 = y at *
        have hws : IntKind.i64.wrap (q + y) = q + y := IntWalk.i64_in _ (by omega)
        by_cases hxi : x = i
        · have e1 : ((x : Int) == (i : Int)) = true := by simp [hxi]
          rw [if_pos hxi] at hst
          have HS := Lib.hid hst
          obtain ⟨hy0, hy1⟩ := hy
          clear hst hxi
          go_wp2_with fail
          go_roundw
          case rel => exact ⟨k + 1, by omega, by go_num, by (rw [HS.out]; congr 1; split <;> omega), HF.out.no_trans (Fr.alloc No _ _)⟩
          case measure => simp [intOf]; omega
        · have e1 : ((x : Int) == (i : Int)) = false := by rw [beq_eq_false_iff_ne]; omega
          rw [if_neg hxi] at hst
          have HS := Lib.hid hst
          clear hst hxi
          go_wp2_with fail
          go_roundw
          case rel => exact ⟨k + 1, by omega, by go_num, by rw [HS.out], HF.out.no_trans (Fr.alloc No _ _)⟩
          case measure => simp [intOf]; omega
      · have hkn : k = n := by omega
        subst hkn
        go_wp2_with fail
        go_ret
        refine ⟨?_, HF.out⟩
        rw [HE.out, List.take_of_length_le (by rw [HL.out]; exact Nat.le_refl _)]
        rfl
/-- What Spend refuses with; 0: nothing. -/
def SpendE (l : List (Nat × Int)) (i : Nat) (m : Int) : Int := if rgt l = false then 103 else if m < 1 then 111 else if cntL i l < m then 105 else 0
set_option maxRecDepth 100000 in
set_option maxHeartbeats 1600000 in
theorem spend_no (ht : ItT w) (hx : RdS w A n l) (hby : By l) (c : Nat) {i : Nat} (hn : n ≤ 100000) {m : Int} (he : SpendE l i m ≠ 0) :
    Calls Tryd.prog 9 #[.slice A n c, .int .u8 (i : Int), .int .i64 m] w fun e w' => ∃ A' c', e = .returned (.tuple #[.slice A' n c', .int .i64 (SpendE l i m)]) ∧ OwS w.heap.size w' (.slice A' n c') l ∧ Fr No w w' := by
  have HO := Lib.hid (own_any hx c hn)
  have HR := Lib.hid (fun W (hW : Fr No w W) => right_any (ht.no hW) (hx.no hW) hby c hn n)
  have HC := Lib.hid (fun (h : rgt l = true) W (hW : Fr No w W) => count_any (hx.no hW) h c (i := i) hn)
  have e0 : decide ((n : Int) = (n : Int)) = true := by simp
  clear ht hx hby
  cases hr : rgt l with
  | false =>
    have HE := Lib.hid (show SpendE l i m = 103 by unfold SpendE; rw [if_pos hr])
    rw [hr, e0] at HR
    clear hr HC he
    go_enter Tryd.func9, Tryd.ntmps9
    go_wp2_with (first
      | (go_at_call 20; refine HO.out.mono ?_; rintro e w1 ⟨A', c', rfl, ho, hf⟩; have HO1 := Lib.hid ho; have HF1 := Lib.hid hf; clear ho hf)
      | (go_at_call 5; refine (HR.out _ HF1.out).mono ?_; rintro e w2 ⟨rfl, hf⟩; have HF2 := Lib.hid hf; clear hf))
    refine bodyPost_ret (results_tmp2 rfl _ _ _) rfl ?_
    exact ⟨A', c', by rw [HE.out]; rfl, HO1.out.no HF2.out, HF1.out.no_trans HF2.out⟩
  | true =>
    have HC2 := Lib.hid (HC.out hr)
    rw [hr, e0] at HR
    by_cases h1 : m < 1
    · have HE := Lib.hid (show SpendE l i m = 111 by unfold SpendE; rw [if_neg (by rw [hr]; simp), if_pos h1])
      clear hr HC he
      go_enter Tryd.func9, Tryd.ntmps9
      go_wp2_with (first
        | (go_at_call 20; refine HO.out.mono ?_; rintro e w1 ⟨A', c', rfl, ho, hf⟩; have HO1 := Lib.hid ho; have HF1 := Lib.hid hf; clear ho hf)
        | (go_at_call 5; refine (HR.out _ HF1.out).mono ?_; rintro e w2 ⟨rfl, hf⟩; have HF2 := Lib.hid hf; clear hf))
      refine bodyPost_ret (results_tmp2 rfl _ _ _) rfl ?_
      exact ⟨A', c', by rw [HE.out]; rfl, HO1.out.no HF2.out, HF1.out.no_trans HF2.out⟩
    · have hc : cntL i l < m := by
        by_cases h : cntL i l < m
        · exact h
        · exact absurd (by unfold SpendE; rw [if_neg (by rw [hr]; simp), if_neg h1, if_neg (by omega)]) he
      have HE := Lib.hid (show SpendE l i m = 105 by unfold SpendE; rw [if_neg (by rw [hr]; simp), if_neg h1, if_pos hc])
      obtain ⟨q, hq⟩ : ∃ q, cntL i l = q := ⟨_, rfl⟩
      rw [hq] at HC2 hc
      clear hr HC he hq
      go_enter Tryd.func9, Tryd.ntmps9
      go_wp2_with (first
        | (go_at_call 20; refine HO.out.mono ?_; rintro e w1 ⟨A', c', rfl, ho, hf⟩; have HO1 := Lib.hid ho; have HF1 := Lib.hid hf; clear ho hf)
        | (go_at_call 5; refine (HR.out _ HF1.out).mono ?_; rintro e w2 ⟨rfl, hf⟩; have HF2 := Lib.hid hf; clear hf)
        | (go_at_call 11; refine (HC2.out _ (HF1.out.no_trans HF2.out)).mono ?_; rintro e w3 ⟨rfl, hf⟩; have HF3 := Lib.hid hf; clear hf))
      refine bodyPost_ret (results_tmp2 rfl _ _ _) rfl ?_
      exact ⟨A', c', by rw [HE.out]; rfl, (HO1.out.no HF2.out).no HF3.out, (HF1.out.no_trans HF2.out).no_trans HF3.out⟩
/-- The slots of more put, one behind the other; none: there is no room. -/
def allF : List (Nat × Int) → List (Nat × Int) → Option (List (Nat × Int))
  | cur, [] => some cur
  | cur, s :: more => if 0 < (putL s.1 (stI s.1) cur s.2).2 then none else allF (putL s.1 (stI s.1) cur s.2).1 more
/-- What All answers. -/
def AllL (l more : List (Nat × Int)) : List (Nat × Int) × Int :=
  if rgt l = false ∨ rgt more = false then (l, 103) else match allF l more with
    | none => (l, 104)
    | some cur => (cur, 0)
theorem pos_of {l : List (Nat × Int)} (hr : rgt l = true) {s : Nat × Int} (hs : s ∈ l) : (0 < stI s.1 ∨ s.2 = 0) ∧ 0 ≤ s.2 ∧ s.2 ≤ 16 := by
  have h1 := rgt_at hr hs
  have h2 := stI_le s.1
  omega
set_option maxRecDepth 100000 in
set_option maxHeartbeats 4000000 in
theorem all_any {B : Option Addr} {k : Nat} {more : List (Nat × Int)} (ht : ItT w) (hx : RdS w A n l) (hy : RdS w B k more) (hbx : By l) (hby : By more) (c d : Nat) (hn : n ≤ 100000) (hk : k ≤ 100000) :
    Calls Tryd.prog 10 #[.slice A n c, .slice B k d] w fun e w' => ∃ A' c', e = .returned (.tuple #[.slice A' n c', .int .i64 (AllL l more).2]) ∧ OwS w.heap.size w' (.slice A' n c') (AllL l more).1 ∧ Fr No w w' := by
  have HO := Lib.hid (fun W (hW : Fr No w W) => own_any (hx.no hW) c hn)
  have HX := Lib.hid (fun W (hW : Fr No w W) => right_any (ht.no hW) (hx.no hW) hbx c hn n)
  have HY := Lib.hid (fun W (hW : Fr No w W) => right_any (ht.no hW) (hy.no hW) hby d hk k)
  have HRY := Lib.hid (fun W (hW : Fr No w W) => hy.no hW)
  have HLY := Lib.hid hy.1
  have HT := Lib.hid ht
  have HBX := Lib.hid hbx
  have HBY := Lib.hid hby
  have e0 : decide ((n : Int) = (n : Int)) = true := by simp
  have e1 : decide ((k : Int) = (k : Int)) = true := by simp
  rw [e0] at HX
  rw [e1] at HY
  clear ht hx hy hbx hby e0 e1
  have HFR := Lib.hid (Fr.refl No w)
  cases hr : rgt l with
  | false =>
    have HE := Lib.hid (show AllL l more = (l, 103) by unfold AllL; rw [if_pos (.inl hr)])
    rw [hr] at HX
    clear hr
    go_enter Tryd.func10, Tryd.ntmps10
    go_wp2_with (first
      | (go_at_call 5; refine (HX.out _ HFR.out).mono ?_; rintro e w1 ⟨rfl, hf⟩; have HF1 := Lib.hid hf; clear hf)
      | (go_at_call 20; refine (HO.out _ HF1.out).mono ?_; rintro e w2 ⟨A', c', rfl, ho, hf⟩; have HO1 := Lib.hid (OwS.mono HF1.out.size ho); have HF2 := Lib.hid (HF1.out.no_trans hf); clear ho hf))
    refine bodyPost_ret (results_tmp2 rfl _ _ _) rfl ?_
    exact ⟨A', c', by rw [HE.out]; rfl, by rw [HE.out]; exact HO1.out, HF2.out⟩
  | true =>
    rw [hr] at HX
    cases hr2 : rgt more with
    | false =>
      have HE := Lib.hid (show AllL l more = (l, 103) by unfold AllL; rw [if_pos (.inr hr2)])
      rw [hr2] at HY
      clear hr hr2
      go_enter Tryd.func10, Tryd.ntmps10
      go_wp2_with fail
      refine (HX.out _ HFR.out).mono ?_
      rintro e w1 ⟨rfl, hf⟩
      have HF1 := Lib.hid hf
      clear hf
      go_wp2_with fail
      refine (HY.out _ HF1.out).mono ?_
      rintro e w2 ⟨rfl, hf⟩
      have HF2 := Lib.hid (HF1.out.no_trans hf)
      clear hf
      go_wp2_with (go_at_call 20; refine (HO.out _ HF2.out).mono ?_; rintro e w3 ⟨A', c', rfl, ho, hf⟩; have HO1 := Lib.hid (OwS.mono HF2.out.size ho); have HF3 := Lib.hid (HF2.out.no_trans hf); clear ho hf)
      refine bodyPost_ret (results_tmp2 rfl _ _ _) rfl ?_
      exact ⟨A', c', by rw [HE.out]; rfl, by rw [HE.out]; exact HO1.out, HF3.out⟩
    | true =>
      have HE := Lib.hid (show AllL l more = match allF l more with
          | none => (l, 104)
          | some cur => (cur, 0) by unfold AllL; rw [if_neg (by rw [hr, hr2]; simp)])
      have HRR := Lib.hid (And.intro hr hr2)
      rw [hr2] at HY
      clear hr hr2
      go_enter Tryd.func10, Tryd.ntmps10
      go_wp2_with fail
      refine (HX.out _ HFR.out).mono ?_
      rintro e w1 ⟨rfl, hf⟩
      have HF1 := Lib.hid hf
      clear hf
      go_wp2_with fail
      refine (HY.out _ HF1.out).mono ?_
      rintro e w2 ⟨rfl, hf⟩
      have HF2 := Lib.hid (HF1.out.no_trans hf)
      clear hf
      go_wp2_with (go_at_call 20; refine (HO.out _ HF2.out).mono ?_; rintro e w3 ⟨A', c', rfl, ho, hf⟩; have HO1 := Lib.hid (OwS.mono HF2.out.size ho); have HF3 := Lib.hid (HF2.out.no_trans hf); clear ho hf)
      go_loopw [27] (fun v27 wr => ∃ (j : Nat) (cur : List (Nat × Int)), j ≤ k ∧ v27 = .int .i64 (j : Int) ∧ cur.length = n ∧ rgt cur = true ∧ By cur ∧ OwS w.heap.size wr (.slice A' n c') cur ∧ allF l more = allF cur (more.drop j) ∧ Fr No w wr) (fun v27 _ => k - (intOf v27).toNat)
      case atStart => exact ⟨0, l, by omega, rfl, HO1.out.rd.1, HRR.out.1, HBX.out, HO1.out, rfl, HF3.out⟩
      case round =>
        obtain ⟨j, cur, hj, rfl, hcl, hcr, hcb, ho, hall, hf⟩ := hrel
        have HF := Lib.hid hf
        by_cases hjk : j < k
        · have hjl : j < more.length := by rw [HLY.out]; exact hjk
          obtain ⟨b, o, rfl, _, hc⟩ := (HRY.out wr HF.out).2 (by omega)
          obtain ⟨x0, x1⟩ := hc j hjl
          have hbs := HBY.out.at j hjl
          obtain ⟨p1, p2, p3⟩ := pos_of HRR.out.2 (List.getElem_mem hjl)
          rw [List.drop_eq_getElem_cons hjl] at hall
          clear hc
          obtain ⟨s, hs⟩ : ∃ s, more[j] = s := ⟨_, rfl⟩
          rw [hs] at x0 x1 hbs p1 p2 p3 hall
          obtain ⟨x, y⟩ := s
          dsimp only at x0 x1 hbs p1 p2 p3
          have hwj : IntKind.i64.wrap ((j : Int) + 1) = ((j + 1 : Nat) : Int) := by
            rw [show ((j : Int) + 1) = ((j + 1 : Nat) : Int) by omega]
            exact IntWalk.i64_in _ (by omega)
          obtain ⟨st, hst⟩ : ∃ t, stI x = t := ⟨_, rfl⟩
          rw [hst] at p1
          have hfa := Fr.alloc No wr (.cells #[.int .u8 (x : Int), .int .i64 y] 30)
          have HP := Lib.hid (put_any (HT.out.no (HF.out.no_trans hfa)) HT.out.pos (ho.no hfa) hcr hcb hbs hst hn p2 (by omega) p1)
          have HFA := Lib.hid (HF.out.no_trans hfa)
          have HOL := Lib.hid (fun i (hi : Bk A' i) => (ho.lt i (by obtain ⟨a, e, rfl⟩ := hi; rw [e]; rfl)).1)
          have HR2 := Lib.hid (And.intro (putL_rgt hst p1 hcr) (And.intro (putL_by (st := st) (n := y) hbs hcb) ((putL_len (i := x) (st := st) (n := y) (l := cur)).trans hcl)))
          have hall2 : allF l more = if 0 < (putL x st cur y).2 then none else allF (putL x st cur y).1 (more.drop (j + 1)) := by
            rw [hall, ← hst]
            rfl
          have HALL := Lib.hid hall2
          obtain ⟨r, hr⟩ : ∃ r, putL x st cur y = r := ⟨_, rfl⟩
          rw [hr] at HP HR2 HALL
          obtain ⟨r1, r2⟩ := r
          dsimp only at HP HR2 HALL
          clear hf hcl hcr hcb ho hall hs hst hfa p1 p2 p3 hall2 hr
          by_cases h2 : 0 < r2
          · rw [if_pos h2] at HALL
            go_wp2_with (first
              | (go_at_call 21; refine HP.out.mono ?_; rintro e w5 ⟨rfl, ho, hf⟩; have HF5 := Lib.hid (HFA.out.then_new hf HOL.out); clear ho hf)
              | (go_at_call 20; refine (HO.out _ HF5.out).mono ?_; rintro e w6 ⟨A2, c2, rfl, ho, hf⟩; have HO6 := Lib.hid (OwS.mono HF5.out.size ho); have HF6 := Lib.hid (HF5.out.no_trans hf); clear ho hf))
            refine bodyPost_ret (results_tmp2 rfl _ _ _) rfl ?_
            rw [HE.out, HALL.out]
            exact ⟨A2, c2, rfl, HO6.out, HF6.out⟩
          · rw [if_neg h2] at HALL
            go_wp2_with (go_at_call 21; refine HP.out.mono ?_; rintro e w5 ⟨rfl, ho, hf⟩; have HF5 := Lib.hid (HFA.out.then_new hf HOL.out); have HO5 := Lib.hid ho; clear ho hf)
            go_roundw
            case rel => exact ⟨j + 1, r1, by omega, by go_num, HR2.out.2.2, HR2.out.1, HR2.out.2.1, HO5.out, HALL.out, HF5.out⟩
            case measure => simp [intOf]; omega
        · have hjk2 : j = k := by omega
          subst hjk2
          rw [List.drop_eq_nil_of_le (by rw [HLY.out]; exact Nat.le_refl _)] at hall
          have HALL := Lib.hid (show allF l more = some cur from hall)
          have HO2 := Lib.hid ho
          clear hall ho hf hcr hcb
          go_wp2_with fail
          refine bodyPost_ret (results_tmp2 rfl _ _ _) rfl ?_
          rw [HE.out, HALL.out]
          exact ⟨A', c', rfl, HO2.out, HF.out⟩
end
end Go.Proofs.YthmnnfmepklafaaDoor

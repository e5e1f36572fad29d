/-
  Bags: Count of a right bag, what Spend refuses, All, Fits. No statement of the seat is proved here.
-/
import Derived.Test.YtmallcjhccbgdaaDoorBgF
namespace Go.Proofs.YtmallcjhccbgdaaDoor
open Go.RowKit Go.Deep

/-- How many of i slots have. -/
def cntF (i : Nat) (l : List (Nat × Int)) : Int := l.foldl (fun a s => if s.1 = i then a + s.2 else a) 0
def cntL (i : Nat) (l : List (Nat × Int)) : Int := if i = 0 then 0 else cntF i l
theorem cntF_step (i : Nat) (l : List (Nat × Int)) (k : Nat) (hk : k < l.length) : cntF i (l.take (k + 1)) = if l[k].1 = i then cntF i (l.take k) + l[k].2 else cntF i (l.take k) := by
  unfold cntF
  rw [List.take_add_one, List.getElem?_eq_getElem hk, List.foldl_append]
  rfl
theorem cntF_le (i : Nat) (l : List (Nat × Int)) (hr : rgt l = true) (k : Nat) (hk : k ≤ l.length) : 0 ≤ cntF i (l.take k) ∧ cntF i (l.take k) ≤ 16 * (k : Int) := by
  induction k with
  | zero => simp [cntF]
  | succ k ih =>
    have h1 := ih (by omega)
    have h2 := rgt_at hr (List.getElem_mem (show k < l.length by omega))
    have h3 := stI_le l[k].1
    rw [cntF_step i l k (by omega)]
    split <;> omega
section
variable {w : World} {A : Option Addr} {n c lo : Nat} {l : List (Nat × Int)}
set_option maxRecDepth 100000 in
set_option maxHeartbeats 1600000 in
theorem count_any (hx : RdS w A n l) (hr : rgt l = true) (c : Nat) {i : Nat} (hn : n ≤ 100000) : Calls Tryd.prog 13 #[.slice A n c, .int .u8 (i : Int)] w fun e w' => e = .returned (.int .i64 (cntL i l)) ∧ Fr No w w' := by
  by_cases h0 : i = 0
  · subst h0
    go_enter Tryd.func13, Tryd.ntmps13
    go_wp2_with fail
    go_ret
    exact ⟨rfl, Fr.refl _ _⟩
  · have HE := Lib.hid (show cntL i l = cntF i l by unfold cntL; rw [if_neg h0])
    have e0 : ((i : Int) == 0) = false := by rw [beq_eq_false_iff_ne]; omega
    have HX := Lib.hid (fun W (hW : Fr No w W) => hx.no hW)
    have HL := Lib.hid hx.1
    have HB := Lib.hid (cntF_le i l hr)
    have HRR := Lib.hid (fun s (hs : s ∈ l) => rgt_at hr hs)
    clear hx hr
    go_enter Tryd.func13, Tryd.ntmps13
    go_wp2_with fail
    go_loopw [5, 12] (fun v5 v12 wr => ∃ k : Nat, k ≤ n ∧ v12 = .int .i64 (k : Int) ∧ v5 = .int .i64 (cntF i (l.take k)) ∧ Fr No w wr) (fun _ v12 _ => n - (intOf v12).toNat)
    case atStart => exact ⟨0, by omega, rfl, rfl, Fr.refl _ _⟩
    case round =>
      obtain ⟨k, hk, rfl, rfl, hf⟩ := hrel
      have HF := Lib.hid hf
      clear hf
      by_cases hlt : k < n
      · have hkl : k < l.length := by rw [HL.out]; exact hlt
        obtain ⟨b, o, rfl, _, hc⟩ := (HX.out wr HF.out).2 (by omega)
        obtain ⟨x0, x1⟩ := hc k hkl
        have hst := cntF_step i l k hkl
        have h1 := HB.out k (by omega)
        have h2 := HRR.out l[k] (List.getElem_mem hkl)
        have h3 := stI_le l[k].1
        have hy : 0 ≤ l[k].2 ∧ l[k].2 ≤ 16 := by omega
        have hwk : IntKind.i64.wrap ((k : Int) + 1) = ((k + 1 : Nat) : Int) := by
          rw [show ((k : Int) + 1) = ((k + 1 : Nat) : Int) by omega]
          exact IntWalk.i64_in _ (by omega)
        obtain ⟨q, hq⟩ : ∃ q, cntF i (l.take k) = q := ⟨_, rfl⟩
        rw [hq] at hst h1 ⊢
        clear hc h2 h3 hq
        generalize l[k].1 = x at *
        generalize l[k].2 = y at *
        have hws : IntKind.i64.wrap (q + y) = q + y := IntWalk.i64_in _ (by omega)
        by_cases hxi : x = i
        · have e1 : ((x : Int) == (i : Int)) = true := by simp [hxi]
          rw [if_pos hxi] at hst
          have HS := Lib.hid hst
          obtain ⟨hy0, hy1⟩ := hy
          clear hst hxi
          go_wp2_with fail
          go_roundw
          case rel => exact ⟨k + 1, by omega, by go_num, by (rw [HS.out]; congr 1; split <;> omega), HF.out.no_trans (Fr.alloc No _ _)⟩
          case measure => simp [intOf]; omega
        · have e1 : ((x : Int) == (i : Int)) = false := by rw [beq_eq_false_iff_ne]; omega
          rw [if_neg hxi] at hst
          have HS := Lib.hid hst
          clear hst hxi
          go_wp2_with fail
          go_roundw
          case rel => exact ⟨k + 1, by omega, by go_num, by rw [HS.out], HF.out.no_trans (Fr.alloc No _ _)⟩
          case measure => simp [intOf]; omega
      · have hkn : k = n := by omega
        subst hkn
        go_wp2_with fail
        go_ret
        refine ⟨?_, HF.out⟩
        rw [HE.out, List.take_of_length_le (by rw [HL.out]; exact Nat.le_refl _)]
        rfl
/-- What Spend refuses with; 0: nothing. -/
def SpendE (l : List (Nat × Int)) (i : Nat) (m : Int) : Int := if rgt l = false then 103 else if m < 1 then 111 else if cntL i l < m then 105 else 0
set_option maxRecDepth 100000 in
set_option maxHeartbeats 1600000 in
theorem spend_no (ht : ItT w) (hx : RdS w A n l) (hby : By l) (c : Nat) {i : Nat} (hn : n ≤ 100000) {m : Int} (he : SpendE l i m ≠ 0) :
    Calls Tryd.prog 33 #[.slice A n c, .int .u8 (i : Int), .int .i64 m] w fun e w' => ∃ A' c', e = .returned (.tuple #[.slice A' n c', .int .i64 (SpendE l i m)]) ∧ OwS w.heap.size w' (.slice A' n c') l ∧ Fr No w w' := by
  have HO := Lib.hid (own_any hx c hn)
  have HR := Lib.hid (fun W (hW : Fr No w W) => right_any (ht.no hW) (hx.no hW) hby c hn n)
  have HC := Lib.hid (fun (h : rgt l = true) W (hW : Fr No w W) => count_any (hx.no hW) h c (i := i) hn)
  have e0 : decide ((n : Int) = (n : Int)) = true := by simp
  clear ht hx hby
  cases hr : rgt l with
  | false =>
    have HE := Lib.hid (show SpendE l i m = 103 by unfold SpendE; rw [if_pos hr])
    rw [hr, e0] at HR
    clear hr HC he
    go_enter Tryd.func33, Tryd.ntmps33
    go_wp2_with (first
      | (go_at_call 30; refine HO.out.mono ?_; rintro e w1 ⟨A', c', rfl, ho, hf⟩; have HO1 := Lib.hid ho; have HF1 := Lib.hid hf; clear ho hf)
      | (go_at_call 14; refine (HR.out _ HF1.out).mono ?_; rintro e w2 ⟨rfl, hf⟩; have HF2 := Lib.hid hf; clear hf))
    refine bodyPost_ret (results_tmp2 rfl _ _ _) rfl ?_
    exact ⟨A', c', by rw [HE.out]; rfl, HO1.out.no HF2.out, HF1.out.no_trans HF2.out⟩
  | true =>
    have HC2 := Lib.hid (HC.out hr)
    rw [hr, e0] at HR
    by_cases h1 : m < 1
    · have HE := Lib.hid (show SpendE l i m = 111 by unfold SpendE; rw [if_neg (by rw [hr]; simp), if_pos h1])
      clear hr HC he
      go_enter Tryd.func33, Tryd.ntmps33
      go_wp2_with (first
        | (go_at_call 30; refine HO.out.mono ?_; rintro e w1 ⟨A', c', rfl, ho, hf⟩; have HO1 := Lib.hid ho; have HF1 := Lib.hid hf; clear ho hf)
        | (go_at_call 14; refine (HR.out _ HF1.out).mono ?_; rintro e w2 ⟨rfl, hf⟩; have HF2 := Lib.hid hf; clear hf))
      refine bodyPost_ret (results_tmp2 rfl _ _ _) rfl ?_
      exact ⟨A', c', by rw [HE.out]; rfl, HO1.out.no HF2.out, HF1.out.no_trans HF2.out⟩
    · have hc : cntL i l < m := by
        by_cases h : cntL i l < m
        · exact h
        · exact absurd (by unfold SpendE; rw [if_neg (by rw [hr]; simp), if_neg h1, if_neg (by omega)]) he
      have HE := Lib.hid (show SpendE l i m = 105 by unfold SpendE; rw [if_neg (by rw [hr]; simp), if_neg h1, if_pos hc])
      obtain ⟨q, hq⟩ : ∃ q, cntL i l = q := ⟨_, rfl⟩
      rw [hq] at HC2 hc
      clear hr HC he hq
      go_enter Tryd.func33, Tryd.ntmps33
      go_wp2_with (first
        | (go_at_call 30; refine HO.out.mono ?_; rintro e w1 ⟨A', c', rfl, ho, hf⟩; have HO1 := Lib.hid ho; have HF1 := Lib.hid hf; clear ho hf)
        | (go_at_call 14; refine (HR.out _ HF1.out).mono ?_; rintro e w2 ⟨rfl, hf⟩; have HF2 := Lib.hid hf; clear hf)
        | (go_at_call 13; refine (HC2.out _ (HF1.out.no_trans HF2.out)).mono ?_; rintro e w3 ⟨rfl, hf⟩; have HF3 := Lib.hid hf; clear hf))
      refine bodyPost_ret (results_tmp2 rfl _ _ _) rfl ?_
      exact ⟨A', c', by rw [HE.out]; rfl, (HO1.out.no HF2.out).no HF3.out, (HF1.out.no_trans HF2.out).no_trans HF3.out⟩
/-- The slots of more put, one behind the other; none: there is no room. -/
def allF : List (Nat × Int) → List (Nat × Int) → Option (List (Nat × Int))
  | cur, [] => some cur
  | cur, s :: more => if 0 < (putL s.1 (stI s.1) cur s.2).2 then none else allF (putL s.1 (stI s.1) cur s.2).1 more
/-- What All answers. -/
def AllL (l more : List (Nat × Int)) : List (Nat × Int) × Int :=
  if rgt l = false ∨ rgt more = false then (l, 103) else match allF l more with
    | none => (l, 104)
    | some cur => (cur, 0)
theorem pos_of {l : List (Nat × Int)} (hr : rgt l = true) {s : Nat × Int} (hs : s ∈ l) : (0 < stI s.1 ∨ s.2 = 0) ∧ 0 ≤ s.2 ∧ s.2 ≤ 16 := by
  have h1 := rgt_at hr hs
  have h2 := stI_le s.1
  omega
end
end Go.Proofs.YtmallcjhccbgdaaDoor

/-
  room; the walk of BagRoom. No statement of the seat is proved here.
-/
import Derived.Test.YtegoebkdcogggaaDoorBgK
namespace Go.Proofs.YtegoebkdcogggaaDoor
open Go.RowKit Go.Deep

section
variable {w : World} {A : Option Addr} {n c : Nat} {l : List (Nat × Int)}
set_option maxRecDepth 100000 in
set_option maxHeartbeats 1600000 in
theorem room_any (ht : ItT w) (hx : RdS w A n l) (hr : rgt l = true) (c : Nat) {i : Nat} (hi : i < 256) {st : Int} (hst : stI i = st) (hn : n ≤ 100000) : Calls Tryd.prog 18 #[.slice A n c, .int .u8 (i : Int)] w fun e w' => e = .returned (.int .i64 (roomL i st l)) ∧ Fr No w w' := by
  have HX := Lib.hid (fun W (hW : Fr No w W) => hx.no hW)
  have HL := Lib.hid hx.1
  have HB := Lib.hid (roomL_le hst hr)
  have HRR := Lib.hid (fun s (hs : s ∈ l) => rgt_at hr hs)
  have HS := Lib.hid (stack_w ht hi hst)
  have hst2 := stI_le i
  rw [hst] at hst2
  have HST := Lib.hid hst2
  have HSTI := Lib.hid hst
  clear hx hr ht hst hst2
  go_enter Tryd.func18, Tryd.ntmps18
  go_wp2_with fail
  go_loopw [5, 10] (fun v5 v10 wr => ∃ k : Nat, k ≤ n ∧ v10 = .int .i64 (k : Int) ∧ v5 = .int .i64 (roomL i st (l.take k)) ∧ Fr No w wr) (fun _ v10 _ => n - (intOf v10).toNat)
  case atStart => exact ⟨0, by omega, rfl, rfl, Fr.refl _ _⟩
  case round =>
    obtain ⟨k, hk, rfl, rfl, hf⟩ := hrel
    have HF := Lib.hid hf
    clear hf
    by_cases hlt : k < n
    · have hkl : k < l.length := by rw [HL.out]; exact hlt
      obtain ⟨b, o, rfl, _, hc⟩ := (HX.out wr HF.out).2 (by omega)
      obtain ⟨x0, x1⟩ := hc k hkl
      have hstep := roomL_step (i := i) (st := st) k hkl
      have h1 := HB.out k (by omega)
      have h2 := HRR.out l[k] (List.getElem_mem hkl)
      have hs2 := HST.out
      have hs3 := HSTI.out
      have hy : 0 ≤ l[k].2 ∧ (l[k].1 = i → l[k].2 ≤ st) := by
        refine ⟨by omega, fun e => ?_⟩
        rw [e, hs3] at h2
        omega
      have hwk : IntKind.i64.wrap ((k : Int) + 1) = ((k + 1 : Nat) : Int) := by
        rw [show ((k : Int) + 1) = ((k + 1 : Nat) : Int) by omega]
        exact IntWalk.i64_in _ (by omega)
      obtain ⟨q, hq⟩ : ∃ q, roomL i st (l.take k) = q := ⟨_, rfl⟩
      rw [hq] at hstep h1 ⊢
      unfold roomS at hstep
      clear hc h2 hq hs3
      generalize l[k].1 = x at *
      generalize l[k].2 = y at *
      have hfa := Fr.alloc No wr (.cells #[.int .u8 (x : Int), .int .i64 y] 30)
      by_cases hy0 : y = 0
      · rw [if_pos hy0] at hstep
        have HE := Lib.hid hstep
        have e1 : (y == 0) = true := by simp [hy0]
        have hw1 : IntKind.i64.wrap (q + st) = q + st := IntWalk.i64_in _ (by omega)
        have HFA := Lib.hid (HF.out.no_trans hfa)
        clear hstep hfa hy hy0
        go_wp2_with (refine (HS.out _ HFA.out).mono ?_; rintro e w5 ⟨rfl, hf, _⟩; have HF5 := Lib.hid hf; clear hf)
        go_roundw
        case rel => exact ⟨k + 1, by omega, by go_num, by rw [HE.out], HF5.out⟩
        case measure => simp [intOf]; omega
      · rw [if_neg hy0] at hstep
        have e1 : (y == 0) = false := by rw [beq_eq_false_iff_ne]; exact hy0
        by_cases hxi : x = i
        · rw [if_pos hxi] at hstep
          have HE := Lib.hid hstep
          have e2 : ((x : Int) == (i : Int)) = true := by simp [hxi]
          have hy2 := hy.2 hxi
          have hy3 := hy.1
          have hw1 : IntKind.i64.wrap (st - y) = st - y := IntWalk.i64_in _ (by omega)
          have hw2 : IntKind.i64.wrap (q + (st - y)) = q + (st - y) := IntWalk.i64_in _ (by omega)
          have HFA := Lib.hid (HF.out.no_trans hfa)
          have hD := heap_alloc_new wr (.cells #[.int .u8 (x : Int), .int .i64 y] 30)
          clear hstep hfa hy hy0 hxi
          go_wp2_with fail
          obtain ⟨D, hDD⟩ : ∃ D, wr.heap.size = D := ⟨_, rfl⟩
          rw [hDD] at hD ⊢
          clear hDD
          generalize wr.alloc (.cells #[.int .u8 (x : Int), .int .i64 y] 30) = wd at *
          have HDW : Hid (∀ W, Fr No wd W → W.cell? ⟨D, 1, none⟩ = some (.int .i64 y)) := fun W hW => (blk_cell (blk_no hW hD) 1).trans (by simp)
          have d1 := HDW.out wd (Fr.refl No wd)
          have dd := HDW.out wd.drew (Fr.drew No wd)
          clear hD
          go_region_held3 (fun W => W.cell? ⟨D, 1, none⟩ = some (.int .i64 y))
            (first | exact d5 | exact dd | exact d1)
            (first
              | (go_at_call 17; refine (HS.out _ (HFA.out.no_trans (Fr.drew No wd))).mono ?_; rintro e w5 ⟨rfl, hf, hg⟩; have HF5 := Lib.hid hf; have d5 := HDW.out w5 ((Fr.drew No wd).no_trans hg); clear hf hg))
          go_wp2_with fail
          go_roundw
          case rel => exact ⟨k + 1, by omega, by go_num, by rw [HE.out], HF5.out⟩
          case measure => simp [intOf]; omega
        · rw [if_neg hxi] at hstep
          have HE := Lib.hid hstep
          have e2 : ((x : Int) == (i : Int)) = false := by rw [beq_eq_false_iff_ne]; omega
          have HFA := Lib.hid (HF.out.no_trans hfa)
          clear hstep hfa hy hy0 hxi
          go_wp2_with fail
          go_roundw
          case rel => exact ⟨k + 1, by omega, by go_num, by rw [HE.out, Int.add_zero], HFA.out⟩
          case measure => simp [intOf]; omega
    · have hkn : k = n := by omega
      subst hkn
      go_wp2_with fail
      go_ret
      refine ⟨?_, HF.out⟩
      rw [List.take_of_length_le (by rw [HL.out]; exact Nat.le_refl _)]
      rfl
set_option maxRecDepth 100000 in
set_option maxHeartbeats 1000000 in
theorem room_walk (ht : ItT w) (hx : RdS w A n l) (hb : By l) (c : Nat) (i : Nat) (hi : i < 256) (m : Int) (hm : m ≤ 9223372036854775807) : Calls Tryd.prog 4 #[.slice A n c, .int .u8 (i : Int), .int .i64 m] w fun e w' => e = .returned (.bool true) ∧ Below w.heap.size w w' := by
  have HA := Lib.hid (awake_w ht)
  have HF := Lib.hid (Fr.refl No w)
  have HRX := Lib.hid (fun W (hW : Fr No w W) => right_law (ht.no hW) (hx.no hW) hb c)
  obtain ⟨st, hst⟩ : ∃ s, stI i = s := ⟨_, rfl⟩
  have HS := Lib.hid (stack_w ht hi hst)
  cases hr : (decide (n ≤ 300) && rgt l) with
  | false =>
    rw [hr] at HRX
    clear ht hx hb hr hm
    go_enter Tryd.func4, Tryd.ntmps4
    go_wp2_with (first
      | (go_at_call 16; refine (HRX.out _ HF.out).mono ?_; rintro e w1 ⟨rfl, hf⟩; have HF1 := Lib.hid hf; clear hf)
      | (go_at_call 10; refine (HA.out _ HF1.out).mono ?_; rintro e w2 ⟨rfl, hf⟩; have HF2 := Lib.hid hf; clear hf))
    go_ret
    exact ⟨rfl, HF2.out.noBelow⟩
  | true =>
    rw [hr] at HRX
    simp only [Bool.and_eq_true, decide_eq_true_eq] at hr
    obtain ⟨hn, hr⟩ := hr
    by_cases hs0 : st = 0
    · have e1 : (st == 0) = true := by simp [hs0]
      clear ht hx hb hr hm hs0 hst
      go_enter Tryd.func4, Tryd.ntmps4
      go_wp2_with (first
        | (go_at_call 16; refine (HRX.out _ HF.out).mono ?_; rintro e w1 ⟨rfl, hf⟩; have HF1 := Lib.hid hf; clear hf)
        | (go_at_call 17; refine (HS.out _ HF1.out).mono ?_; rintro e w2 ⟨rfl, hf, _⟩; have HF2 := Lib.hid hf; clear hf)
        | (go_at_call 10; refine (HA.out _ HF2.out).mono ?_; rintro e w3 ⟨rfl, hf⟩; have HF3 := Lib.hid hf; clear hf))
      go_ret
      exact ⟨rfl, HF3.out.noBelow⟩
    · have e1 : (st == 0) = false := by rw [beq_eq_false_iff_ne]; exact hs0
      by_cases hm1 : m < 1
      · clear ht hx hb hr hm hs0 hst
        go_enter Tryd.func4, Tryd.ntmps4
        go_wp2_with (first
          | (go_at_call 16; refine (HRX.out _ HF.out).mono ?_; rintro e w1 ⟨rfl, hf⟩; have HF1 := Lib.hid hf; clear hf)
          | (go_at_call 17; refine (HS.out _ HF1.out).mono ?_; rintro e w2 ⟨rfl, hf, _⟩; have HF2 := Lib.hid hf; clear hf)
          | (go_at_call 10; refine (HA.out _ HF2.out).mono ?_; rintro e w3 ⟨rfl, hf⟩; have HF3 := Lib.hid hf; clear hf))
        go_ret
        exact ⟨rfl, HF3.out.noBelow⟩
      · have hP : PutL i l m = putL i st l m := by unfold PutL; rw [if_neg hm1, if_neg (by rw [hr, hst]; simp; exact hs0), hst]
        have hsl := stI_le i
        rw [hst] at hsl
        have hpr := put_room hst (by omega) (by omega : 0 ≤ m) hr
        have hrt := putL_rgt (n := m) hst (.inl (by omega)) hr
        have hle := roomL_le (l := l) hst hr l.length (Nat.le_refl _)
        rw [List.take_length, hx.1] at hle
        have HP : Hid (∀ W, Fr No w W → Calls Tryd.prog 11 #[.slice A n c, .int .u8 (i : Int), .int .i64 m] W fun e w' => ∃ A' c', e = .returned (.tuple #[.slice A' n c', .int .i64 (max 0 (m - roomL i st l))]) ∧ RdS w' A' n (putL i st l m).1 ∧ Fr No W w') :=
          fun W hW => (Put_any (ht.no hW) (hx.no hW) hb c hi (by omega) hm).mono (fun _ _ ⟨A', c', h1, h2, h3⟩ => by rw [hP] at h1 h2; rw [hpr.1] at h1; exact ⟨A', c', h1, h2.rd, h3⟩)
        have HR1 : Hid (∀ W, Fr No w W → Calls Tryd.prog 18 #[.slice A n c, .int .u8 (i : Int)] W fun e w' => e = .returned (.int .i64 (roomL i st l)) ∧ Fr No W w') := fun W hW => room_any (ht.no hW) (hx.no hW) hr c hi hst (by omega)
        have HR2 : Hid (∀ W A' c', Fr No w W → RdS W A' n (putL i st l m).1 → Calls Tryd.prog 18 #[.slice A' n c', .int .u8 (i : Int)] W fun e w' => e = .returned (.int .i64 (max 0 (roomL i st l - m))) ∧ Fr No W w') := fun W A' c' hW hx' => (room_any (ht.no hW) hx' hrt c' hi hst (by omega)).mono (fun _ _ ⟨h1, h2⟩ => by rw [hpr.2] at h1; exact ⟨h1, h2⟩)
        generalize (putL i st l m).1 = l' at *
        obtain ⟨r, hr'⟩ : ∃ r, roomL i st l = r := ⟨_, rfl⟩
        rw [hr'] at HP HR1 HR2 hle
        have hw1 : IntKind.i64.wrap (m - r) = m - r := IntWalk.i64_in _ (by omega)
        have hw2 : IntKind.i64.wrap (r - m) = r - m := IntWalk.i64_in _ (by omega)
        obtain ⟨lf, hlf⟩ : ∃ x, max 0 (m - r) = x := ⟨_, rfl⟩
        obtain ⟨rf, hrf⟩ : ∃ x, max 0 (r - m) = x := ⟨_, rfl⟩
        rw [hlf] at HP
        rw [hrf] at HR2
        have hc : (r < m ∧ lf = m - r ∧ rf = 0) ∨ (r = m ∧ lf = 0 ∧ rf = 0) ∨ (m < r ∧ lf = 0 ∧ rf = r - m) := by omega
        have e5 : ((m - r) == (m - r)) = true := by simp
        have e6 : ((r - m) == (r - m)) = true := by simp
        have HM := Lib.hid hm
        clear hlf hrf
        clear ht hx hb hr hm hs0 hst hP hsl hpr hrt hr'
        rcases hc with ⟨h1, rfl, rfl⟩ | ⟨h1, rfl, rfl⟩ | ⟨h1, rfl, rfl⟩
        case' inr.inl =>
          have e7 : ¬ (0 < m - r) := by omega
          have e8 : ¬ (0 < r - m) := by omega
          clear h1
        all_goals
          go_enter Tryd.func4, Tryd.ntmps4
          go_wp2_with (first
            | (go_at_call 16; refine (HRX.out _ HF.out).mono ?_; rintro e w1 ⟨rfl, hf⟩; have HF1 := Lib.hid hf; clear hf)
            | (go_at_call 17; refine (HS.out _ HF1.out).mono ?_; rintro e w2 ⟨rfl, hf, _⟩; have HF2 := Lib.hid hf; clear hf)
            | (go_at_call 11; refine (HP.out _ HF2.out).mono ?_; rintro e w3 ⟨A3, c3, rfl, hx, hf⟩; have HX3 := Lib.hid hx; have HF3 := Lib.hid (HF2.out.no_trans hf); clear hx hf))
          refine (HR1.out _ HF3.out).mono ?_
          rintro e w4 ⟨rfl, hf⟩
          have HX4 := Lib.hid (HX3.out.no hf)
          have HF4 := Lib.hid (HF3.out.no_trans hf)
          clear hf
          go_wp2_with fail
          refine (HR2.out _ _ _ HF4.out HX4.out).mono ?_
          rintro e w5 ⟨rfl, hf⟩
          have HF5 := Lib.hid (HF4.out.no_trans hf)
          clear hf
          go_wp2_with fail
          refine (HR1.out _ HF5.out).mono ?_
          rintro e w6 ⟨rfl, hf⟩
          have HF6 := Lib.hid (HF5.out.no_trans hf)
          clear hf
          go_wp2_with (go_at_call 10; refine (HA.out _ HF6.out).mono ?_; rintro e w7 ⟨rfl, hf⟩; have HF7 := Lib.hid hf; clear hf)
          go_ret
          exact ⟨rfl, HF7.out.noBelow⟩
end
end Go.Proofs.YtegoebkdcogggaaDoor

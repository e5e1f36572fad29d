/-
  The document's own bag: Right, Count. No statement of the seat is proved here.
-/
import Derived.Test.YtmallcjhccbgdaaDoorRbM
import Derived.Test.YtmallcjhccbgdaaDoorItD
namespace Go.Proofs.YtmallcjhccbgdaaDoor
open Go.RowKit Go.Deep

theorem cntL_step (i : Nat) (l : List (Nat × Int)) (k : Nat) (hk : k < l.length) : cntL i (l.take (k + 1)) = if i ≠ 0 ∧ l[k].1 = i then cntL i (l.take k) + l[k].2 else cntL i (l.take k) := by
  unfold cntL
  by_cases h : i = 0
  · rw [if_pos h, if_pos h, if_neg (fun x => x.1 h)]
  · rw [if_neg h, if_neg h, cntF_step i l k hk]
    by_cases h2 : l[k].1 = i
    · rw [if_pos h2, if_pos ⟨h, h2⟩]
    · rw [if_neg h2, if_neg (fun x => h2 x.2)]
section
variable {w : World} {A : Option Addr} {n c lo : Nat} {l : List (Nat × Int)}
set_option maxRecDepth 100000 in
set_option maxHeartbeats 1600000 in
theorem rright_any (hx : RdS w A n l) (hb : By l) (c : Nat) (hn : n ≤ 100000) (m : Int) : Calls Tryd.prog 19 #[.slice A n c, .int .i64 m] w fun e w' => e = .returned (.bool (decide ((n : Int) = m) && rgt l)) ∧ Fr No w w' := by
  by_cases hm : (n : Int) = m
  · subst hm
    have e1 : ((n : Int) != (n : Int)) = false := by simp
    have HX := Lib.hid (fun W (hW : Fr No w W) => hx.no hW)
    have HL := Lib.hid hx.1
    have HBY := Lib.hid hb
    rw [show (decide ((n : Int) = (n : Int)) && rgt l) = rgt l by simp]
    clear hx hb
    go_enter Tryd.func19, Tryd.ntmps19
    go_wp2_with fail
    go_loopw [5] (fun v5 wr => ∃ k : Nat, k ≤ n ∧ v5 = .int .i64 (k : Int) ∧ (∀ j (h : j < l.length), j < k → wrg l[j] = false) ∧ Fr No w wr) (fun v5 _ => n - (intOf v5).toNat)
    case atStart => exact ⟨0, by omega, rfl, (fun j _ h => absurd h (by omega)), Fr.refl _ _⟩
    case round =>
      obtain ⟨k, hk, rfl, ha, hf⟩ := hrel
      have HF := Lib.hid hf
      have HAK := Lib.hid ha
      clear hf ha
      by_cases hlt : k < n
      · have hkl : k < l.length := by rw [HL.out]; exact hlt
        obtain ⟨b, o, rfl, _, hc⟩ := (HX.out wr HF.out).2 (by omega)
        obtain ⟨x0, x1⟩ := hc k hkl
        have hbx := HBY.out.at k hkl
        have hki : (k : Int) < (n : Int) := by omega
        have hk0 : (0 : Int) ≤ (k : Int) := by omega
        have hwk : IntKind.i64.wrap ((k : Int) + 1) = ((k + 1 : Nat) : Int) := by
          rw [show ((k : Int) + 1) = ((k + 1 : Nat) : Int) by omega]
          exact IntWalk.i64_in _ (by omega)
        obtain ⟨q, HQ⟩ : ∃ q, Hid (wrg l[k] = q) := ⟨_, Lib.hid rfl⟩
        have HAQ : Hid (q = false → ∀ j (h : j < l.length), j < k + 1 → wrg l[j] = false) := Lib.hid fun hq j h hj => by
          by_cases e : j = k
          · subst e; rw [HQ.out]; exact hq
          · exact HAK.out j h (by omega)
        have HAT : Hid (q = true → rgt l = false) := Lib.hid fun hq => by
          rw [rgt_any, Bool.not_eq_false']
          rw [List.any_eq_true]
          exact ⟨l[k], List.getElem_mem hkl, by rw [HQ.out]; exact hq⟩
        have HQ2 : Hid (wrg (l[k].1, l[k].2) = q) := Lib.hid HQ.out
        clear hc HAK HQ
        generalize l[k].1 = x at *
        generalize l[k].2 = y at *
        by_cases h0 : x = 0 ∧ y = 0
        · obtain ⟨rfl, rfl⟩ := h0
          have hq : q = false := by rw [← HQ2.out]; rfl
          go_wp2_with fail
          go_quiet (fail)
          go_wp2_with fail
          go_roundw
          case rel => exact ⟨k + 1, by omega, by go_num, HAQ.out hq, HF.out.no_trans (Fr.drewN No _ _)⟩
          case measure => simp [intOf]; omega
        · have hc : ((x : Int) == 0) = false ∨ (((x : Int) == 0) = true ∧ (y == 0) = false) := by
            by_cases h : x = 0
            · exact .inr ⟨by simp [h], by rw [beq_eq_false_iff_ne]; exact fun e => h0 ⟨h, e⟩⟩
            · exact .inl (by rw [beq_eq_false_iff_ne]; omega)
          have hq : (decide (y < 1) || decide (stI x < y)) = q := by
            have e : (x == 0 && y == 0) = false := by
              rw [Bool.eq_false_iff]
              intro h
              simp at h
              exact h0 h
            rw [← HQ2.out]
            unfold wrg
            dsimp only
            rw [e]
            rfl
          have HS := Lib.hid (fun W => (rstack_any (w := W) hbx).mono (fun _ _ ⟨h1, h2⟩ => (⟨h1, h2.symm⟩ : _ ∧ _)))
          obtain ⟨st, hst⟩ : ∃ s, stI x = s := ⟨_, rfl⟩
          rw [hst] at HS hq
          clear h0 hst HQ2
          by_cases hy : y < 1
          · have e2 : decide (y < 1) = true := decide_eq_true hy
            rw [e2, Bool.true_or] at hq
            have HQ := Lib.hid hq.symm
            clear hq hy
            rcases hc with e3 | ⟨e3, e4⟩
            all_goals
              go_wp2_with fail
              go_quiet (fail)
              go_wp2_with fail
              go_ret
              exact ⟨by rw [HAT.out HQ.out]; rfl, HF.out.no_trans (Fr.drewN No _ _)⟩
          · have e2 : decide (y < 1) = false := decide_eq_false hy
            rw [e2, Bool.false_or] at hq
            by_cases hs : st < y
            · have e5 : decide (st < y) = true := decide_eq_true hs
              rw [e5] at hq
              have HQ := Lib.hid hq.symm
              clear hq hy
              rcases hc with e3 | ⟨e3, e4⟩
              all_goals
                go_wp2_with fail
                go_quiet ((go_at_call 34; exact Calls.quiet_of_same (HS.out _)))
                go_wp2_with fail
                go_ret
                exact ⟨by rw [HAT.out HQ.out]; rfl, HF.out.no_trans (Fr.drewN No _ _)⟩
            · have e5 : decide (st < y) = false := decide_eq_false hs
              rw [e5] at hq
              have HQ := Lib.hid hq.symm
              clear hq hy hs
              rcases hc with e3 | ⟨e3, e4⟩
              all_goals
                go_wp2_with fail
                go_quiet ((go_at_call 34; exact Calls.quiet_of_same (HS.out _)))
                go_wp2_with fail
                go_roundw
                case rel => exact ⟨k + 1, by omega, by go_num, HAQ.out HQ.out, HF.out.no_trans (Fr.drewN No _ _)⟩
                case measure => simp [intOf]; omega
      · have hkn : k = n := by omega
        subst hkn
        have hr : rgt l = true := by
          rw [rgt_any, Bool.not_eq_true', List.any_eq_false]
          intro s hs
          obtain ⟨j, hj, rfl⟩ := List.getElem_of_mem hs
          rw [HAK.out j hj (by have := HL.out; omega)]
          exact Bool.false_ne_true
        have HR := Lib.hid hr
        clear hr
        go_wp2_with fail
        go_ret
        exact ⟨by rw [HR.out]; rfl, HF.out⟩
  · have e1 : ((n : Int) != m) = true := by simp [hm]
    clear hx
    go_enter Tryd.func19, Tryd.ntmps19
    go_wp2_with fail
    go_ret
    exact ⟨by rw [decide_eq_false hm]; rfl, Fr.refl _ _⟩
set_option maxRecDepth 100000 in
set_option maxHeartbeats 1600000 in
theorem rcount_any (hx : RdS w A n l) (hr : rgt l = true) (c : Nat) (i : Nat) (hn : n ≤ 100000) : Calls Tryd.prog 21 #[.slice A n c, .int .u8 (i : Int)] w fun e w' => e = .returned (.int .i64 (cntL i l)) ∧ Fr No w w' := by
  have HX := Lib.hid (fun W (hW : Fr No w W) => hx.no hW)
  have HL := Lib.hid hx.1
  have HRR := Lib.hid (fun s (hs : s ∈ l) => rgt_at hr hs)
  have HB : Hid (∀ k, k ≤ l.length → 0 ≤ cntL i (l.take k) ∧ cntL i (l.take k) ≤ 16 * (k : Int)) := Lib.hid fun k hk => by
    unfold cntL
    split
    · omega
    · exact cntF_le i l hr k hk
  clear hx hr
  go_enter Tryd.func21, Tryd.ntmps21
  go_wp2_with fail
  go_loopw [5, 6] (fun v5 v6 wr => ∃ k : Nat, k ≤ n ∧ v6 = .int .i64 (k : Int) ∧ v5 = .int .i64 (cntL i (l.take k)) ∧ Fr No w wr) (fun _ v6 _ => n - (intOf v6).toNat)
  case atStart => exact ⟨0, by omega, rfl, by unfold cntL; split <;> rfl, Fr.refl _ _⟩
  case round =>
    obtain ⟨k, hk, rfl, rfl, hf⟩ := hrel
    have HF := Lib.hid hf
    clear hf
    by_cases hlt : k < n
    · have hkl : k < l.length := by rw [HL.out]; exact hlt
      obtain ⟨b, o, rfl, _, hc⟩ := (HX.out wr HF.out).2 (by omega)
      obtain ⟨x0, x1⟩ := hc k hkl
      have hst := cntL_step i l k hkl
      have h1 := HB.out k (by omega)
      have h2 := HRR.out l[k] (List.getElem_mem hkl)
      have h3 := stI_le l[k].1
      have hwk : IntKind.i64.wrap ((k : Int) + 1) = ((k + 1 : Nat) : Int) := by
        rw [show ((k : Int) + 1) = ((k + 1 : Nat) : Int) by omega]
        exact IntWalk.i64_in _ (by omega)
      obtain ⟨q, hq⟩ : ∃ q, cntL i (l.take k) = q := ⟨_, rfl⟩
      rw [hq] at hst h1 ⊢
      clear hc hq
      generalize l[k].1 = x at *
      generalize l[k].2 = y at *
      by_cases hxi : x = i
      · have e1 : ((x : Int) == (i : Int)) = true := by simp [hxi]
        by_cases hi0 : i = 0
        · have e2 : ((i : Int) != 0) = false := by simp [hi0]
          rw [if_neg (fun x => x.1 hi0)] at hst
          have HS := Lib.hid hst
          clear hst hxi hi0 h1 h2 h3
          go_wp2_with fail
          go_roundw
          case rel => exact ⟨k + 1, by omega, by go_num, by rw [HS.out], HF.out⟩
          case measure => simp [intOf]; omega
        · have e2 : ((i : Int) != 0) = true := by simp [hi0]
          rw [if_pos ⟨hi0, hxi⟩] at hst
          have hy : 0 < y := by omega
          have e3 : decide (0 < y) = true := decide_eq_true hy
          have hws : IntKind.i64.wrap (q + y) = q + y := IntWalk.i64_in _ (by omega)
          have HS := Lib.hid hst
          clear hst hxi hi0 h1 h2 h3
          go_wp2_with fail
          go_roundw
          case rel => exact ⟨k + 1, by omega, by go_num, by rw [HS.out], HF.out⟩
          case measure => simp [intOf]; omega
      · have e1 : ((x : Int) == (i : Int)) = false := by rw [beq_eq_false_iff_ne]; omega
        rw [if_neg (fun x => hxi x.2)] at hst
        have HS := Lib.hid hst
        clear hst hxi h1 h2 h3
        go_wp2_with fail
        go_roundw
        case rel => exact ⟨k + 1, by omega, by go_num, by rw [HS.out], HF.out⟩
        case measure => simp [intOf]; omega
    · have hkn : k = n := by omega
      subst hkn
      go_wp2_with fail
      go_ret
      refine ⟨?_, HF.out⟩
      rw [List.take_of_length_le (by rw [HL.out]; exact Nat.le_refl _)]
      rfl
end
end Go.Proofs.YtmallcjhccbgdaaDoor

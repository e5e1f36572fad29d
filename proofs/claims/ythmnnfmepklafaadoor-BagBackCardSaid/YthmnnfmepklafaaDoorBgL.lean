/-
  room; the walk of BagRoom. No statement of the seat is proved here.
-/
import Derived.Test.YthmnnfmepklafaaDoorBgK
namespace Go.Proofs.YthmnnfmepklafaaDoor
open Go.RowKit Go.Deep

section
variable {w : World} {A : Option Addr} {n c : Nat} {l : List (Nat × Int)}
set_option maxRecDepth 100000 in
set_option maxHeartbeats 1600000 in
theorem room_any (ht : ItT w) (hx : RdS w A n l) (hr : rgt l = true) (c : Nat) {i : Nat} (hi : i < 256) {st : Int} (hst : stI i = st) (hn : n ≤ 100000) : Calls Tryd.prog 14 #[.slice A n c, .int .u8 (i : Int)] w fun e w' => e = .returned (.int .i64 (roomL i st l)) ∧ Fr No w w' := by
  have HX := Lib.hid (fun W (hW : Fr No w W) => hx.no hW)
  have HL := Lib.hid hx.1
  have HB := Lib.hid (roomL_le hst hr)
  have HRR := Lib.hid (fun s (hs : s ∈ l) => rgt_at hr hs)
  have HS := Lib.hid (stack_w ht hi hst)
  have hst2 := stI_le i
  rw [hst] at hst2
  have HST := Lib.hid hst2
  have HSTI := Lib.hid hst
  clear hx hr ht hst hst2
  go_enter Tryd.func14, Tryd.ntmps14
  go_wp2_with fail
  go_loopw [5, 10] (fun v5 v10 wr => ∃ k : Nat, k ≤ n ∧ v10 = .int .i64 (k : Int) ∧ v5 = .int .i64 (roomL i st (l.take k)) ∧ Fr No w wr) (fun _ v10 _ => n - (intOf v10).toNat)
  case atStart => exact ⟨0, by omega, rfl, rfl, Fr.refl _ _⟩
  case round =>
    obtain ⟨k, hk, rfl, rfl, hf⟩ := hrel
    have HF := Lib.hid hf
    clear hf
    by_cases hlt : k < n
    · have hkl : k < l.length := by rw [HL.out]; exact hlt
      obtain ⟨b, o, rfl, _, hc⟩ := (HX.out wr HF.out).2 (by omega)
      obtain ⟨x0, x1⟩ := hc k hkl
      have hstep := roomL_step (i := i) (st := st) k hkl
      have h1 := HB.out k (by omega)
      have h2 := HRR.out l[k] (List.getElem_mem hkl)
      have hs2 := HST.out
      have hs3 := HSTI.out
      have hy : 0 ≤ l[k].2 ∧ (l[k].1 = i → l[k].2 ≤ st) := by
        refine ⟨by omega, fun e => ?_⟩
        rw [e, hs3] at h2
        omega
      have hwk : IntKind.i64.wrap ((k : Int) + 1) = ((k + 1 : Nat) : Int) := by
        rw [show ((k : Int) + 1) = ((k + 1 : Nat) : Int) by omega]
        exact IntWalk.i64_in _ (by omega)
      obtain ⟨q, hq⟩ : ∃ q, roomL i st (l.take k) = q := ⟨_, rfl⟩
      rw [hq] at hstep h1 ⊢
      unfold roomS at hstep
      clear hc h2 hq hs3
      generalize l[k].1 = x at *
      generalize l[k].2 = y at *
      have hfa := Fr.alloc No wr (.cells #[.int .u8 (x : Int), .int .i64 y] 30)
      by_cases hy0 : y = 0
      · rw [if_pos hy0] at hstep
        have HE := Lib.hid hstep
        have e1 : (y == 0) = true := by simp [hy0]
        have hw1 : IntKind.i64.wrap (q + st) = q + st := IntWalk.i64_in _ (by omega)
        have HFA := Lib.hid (HF.out.no_trans hfa)
        clear hstep hfa hy hy0
        go_wp2_with (refine (HS.out _ HFA.out).mono ?_; rintro e w5 ⟨rfl, hf, _⟩; have HF5 := Lib.hid hf; clear hf)
        go_roundw
        case rel => exact ⟨k + 1, by omega, by go_num, by rw [HE.out], HF5.out⟩
        case measure => simp [intOf]; omega
      · rw [if_neg hy0] at hstep
        have e1 : (y == 0) = false := by rw [beq_eq_false_iff_ne]; exact hy0
        by_cases hxi : x = i
        · rw [if_pos hxi] at hstep
          have HE := Lib.hid hstep
          have e2 : ((x : Int) == (i : Int)) = true := by simp [hxi]
          have hy2 := hy.2 hxi
          have hy3 := hy.1
          have hw1 : IntKind.i64.wrap (st - y) = st - y := IntWalk.i64_in _ (by omega)
          have hw2 : IntKind.i64.wrap (q + (st - y)) = q + (st - y) := IntWalk.i64_in _ (by omega)
          have HFA := Lib.hid (HF.out.no_trans hfa)
          have hD := heap_alloc_new wr (.cells #[.int .u8 (x : Int), .int .i64 y] 30)
          clear hstep hfa hy hy0 hxi
          go_wp2_with fail
          obtain ⟨D, hDD⟩ : ∃ D, wr.heap.size = D := ⟨_, rfl⟩
          rw [hDD] at hD ⊢
          clear hDD
          generalize wr.alloc (.cells #[.int .u8 (x : Int), .int .i64 y] 30) = wd at *
          have HDW : Hid (∀ W, Fr No wd W → W.cell? ⟨D, 1, none⟩ = some (.int .i64 y)) := fun W hW => (blk_cell (blk_no hW hD) 1).trans (by simp)
          have d1 := HDW.out wd (Fr.refl No wd)
          have dd := HDW.out wd.drew (Fr.drew No wd)
          clear hD
          go_region_held3 (fun W => W.cell? ⟨D, 1, none⟩ = some (.int .i64 y))
            (first | exact d5 | exact dd | exact d1)
            (first
              | (go_at_call 13; refine (HS.out _ (HFA.out.no_trans (Fr.drew No wd))).mono ?_; rintro e w5 ⟨rfl, hf, hg⟩; have HF5 := Lib.hid hf; have d5 := HDW.out w5 ((Fr.drew No wd).no_trans hg); clear hf hg))
          go_wp2_with fail
          go_roundw
          case rel => exact ⟨k + 1, by omega, by go_num, by rw [HE.out], HF5.out⟩
          case measure => simp [intOf]; omega
        · rw [if_neg hxi] at hstep
          have HE := Lib.hid hstep
          have e2 : ((x : Int) == (i : Int)) = false := by rw [beq_eq_false_iff_ne]; omega
          have HFA := Lib.hid (HF.out.no_trans hfa)
          clear hstep hfa hy hy0 hxi
          go_wp2_with fail
          go_roundw
          case rel => exact ⟨k + 1, by omega, by go_num, by rw [HE.out, Int.add_zero], HFA.out⟩
          case measure => simp [intOf]; omega
    · have hkn : k = n := by omega
      subst hkn
      go_wp2_with fail
      go_ret
      refine ⟨?_, HF.out⟩
      rw [List.take_of_length_le (by rw [HL.out]; exact Nat.le_refl _)]
      rfl
end
end Go.Proofs.YthmnnfmepklafaaDoor

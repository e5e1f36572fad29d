/-
  The document's disk as the plain state that the program's disk has: Append. No statement of the seat is proved here.
-/
import Derived.Test.YtnkgcafebmacjaaDtL
import Derived.Deep.CutBlock
namespace Go.Proofs.Ytnkgcafebmacjaa
open Go.RowKit Go.Maps

set_option maxRecDepth 100000 in
theorem bytes_ofK (w : World) (s : ByteArray) : ∃ c w', (convert 9 33 (.string s)).run Try.prog w = .ok (.slice (some ⟨w.heap.size, 0, none⟩) s.size c) w' ∧ Rd w' w'.heap.size (some ⟨w.heap.size, 0, none⟩) s.size s.data.toList ∧ Fr No w w' := by
  refine ⟨_, _, run_bytes_of_string (P := Try.prog) w 9 33 5 s Try.underlying9 Try.underlying33 Try.underlying5, ?_, Fr.of_below (((Below.refl _ _).drew).alloc (Nat.le_refl _) _)⟩
  refine ⟨by rw [Array.length_toList]; rfl, fun _ => ⟨w.heap.size, 0, rfl, by simp, fun j hj => ?_⟩⟩
  have hb := heap_alloc_new w.drew (.cells (bytesRow s (grownCap w s.size 0 5)) 5 ((bytesRow s (grownCap w s.size 0 5)).size, (bytesRow s (grownCap w s.size 0 5)).size + 1))
  have hj' : j < s.data.size := by simpa using hj
  rw [Nat.zero_add]
  refine Eq.trans ?_ (bytesRow_at s (grownCap w s.size 0 5) j hj')
  unfold World.cell?
  rw [show (w.drew.alloc (.cells (bytesRow s (grownCap w s.size 0 5)) 5 ((bytesRow s (grownCap w s.size 0 5)).size, (bytesRow s (grownCap w s.size 0 5)).size + 1))).heap[w.heap.size]? = _ from hb]
  rfl
theorem cat_txtK (a b : List UInt8) : (⟨a.toArray⟩ : ByteArray) ++ (⟨b.toArray⟩ : ByteArray) = ⟨(a ++ b).toArray⟩ := by
  apply ByteArray.ext
  simp [ByteArray.data_append]
theorem aput_len1 (f : Af) (fs : List Af) : (aput f fs).length ≤ fs.length + 1 := by
  unfold aput
  rw [ains_lenK]
  have : (adel f.nm fs).length ≤ fs.length := List.length_filter_le _ _
  omega
theorem aused_ge {f : Af} : ∀ {fs : List Af}, f ∈ fs → f.bs.length ≤ aused fs
  | [], h => by cases h
  | g :: r, h => by
    have e : aused (g :: r) = g.bs.length + aused r := by simp [aused]
    rw [e]
    rcases List.mem_cons.1 h with rfl | h
    · omega
    · have := aused_ge h
      omega
theorem afnd_none_of {fs : List Af} {nm : List UInt8} (h : afnd nm fs = none) : aold nm fs = ⟨nm, [], 0⟩ := by
  unfold aold
  rw [h]
  rfl
section
variable {w : World} {S : Ab}
set_option maxHeartbeats 4000000 in
set_option maxRecDepth 100000 in
/-- Append, as the plain state has it. -/
theorem rv_append {F : Nat → Prop} {v : Value} (hF : ∀ k, F k → k < w.heap.size) (hb : S.lf ≤ 9223372036854775807) (h : Rv F w v S) (nm : ByteArray) (hs : nm.size ≤ 9223372036854775000) (B : Option Addr) (n cb : Nat) (l : List UInt8) (hrb : Rd w w.heap.size B n l) (hn : n ≤ 1000) (hu : aused S.fs ≤ 16777216) (hmo : S.mo ≤ 16777216) :
    Calls Try.prog 9 #[v, .string nm, .slice B n cb] w fun e w' =>
      ∃ v', e = .returned (.tuple #[v', .int .i64 (S.append nm.data.toList l).1]) ∧ Rv F w' v' (S.append nm.data.toList l).2 ∧ Fr No w w' := by
  obtain ⟨A, c, fs, rfl, hk, hm, hr, hl, ho⟩ := h
  have HOO := Lib.hid ho
  have HNF := Lib.hid hF
  clear ho hF
  have HM := Lib.hid hm
  have HR := Lib.hid hr
  have HL := Lib.hid hl
  have HB := Lib.hid hb
  have HRB := Lib.hid hrb
  obtain ⟨lf, HLF⟩ : ∃ lf : Int, Hid ((if S.bd then (S.lf : Int) else -1) = lf) := ⟨_, rfl⟩
  have HV0 := Lib.hid (show Rv F w (.agg #[.int .i64 (S.mo : Int), .slice A fs.length c, .int .i64 lf, .bool S.fl]) S from by rw [← HLF.out]; exact ⟨A, c, fs, rfl, hk, hm, hr, hl, HOO.out⟩)
  rw [HLF.out]
  have hf0 : Fr No w ((w.alloc (.cells #[.int .i64 (S.mo : Int), .slice A fs.length c, .int .i64 lf, .bool S.fl] 29)).alloc (.cells #[.int .i64 0, .slice none 0 0, .int .i64 0, .bool false] 29)) := (Fr.alloc No w _).no_trans (Fr.alloc No _ _)
  have HAS := Lib.hid (rask_any (c := c) (hk.no hf0) (by omega) (S.mo : Int) lf S.fl nm)
  have HF0 := Lib.hid hf0
  have HK := Lib.hid hk
  have hus : used fs = aused S.fs := by rw [← hm, used_ab]
  have HUS := Lib.hid hus
  clear hk hm hr hl hb hf0 hrb hus
  go_enter Try.func9, Try.ntmps9
  go_wp2_with fail
  refine HAS.out.mono ?_
  rintro e w1 ⟨z, rfl, hf, hz⟩
  obtain ⟨P, HP⟩ : ∃ P, Hid (w.heap.size = P) := ⟨_, rfl⟩
  have hD : w1.heap[P]? = some (.cells #[.int .i64 (S.mo : Int), .slice A fs.length c, .int .i64 lf, .bool S.fl] 29 (0, 0)) := by
    rw [← HP.out]
    exact (hf.block _ (by simp; omega) (fun e => e)).trans ((Below.heap_alloc _ _ _ (by simp)).trans (heap_alloc_new w _))
  have hR2 : w1.heap[P + 1]? = some (.cells #[.int .i64 0, .slice none 0 0, .int .i64 0, .bool false] 29 (0, 0)) := by
    rw [← HP.out]
    exact (hf.block _ (by simp) (fun e => e)).trans (heap2' w _ _)
  have HF := Lib.hid (HF0.out.no_trans hf)
  have HK1 := Lib.hid (HK.out.no HF.out)
  have HZ := Lib.hid (ask_ab HM.out HR.out hz)
  clear hz hf HAS HF0
  rw [HP.out]
  have HR2 := Lib.hid hR2
  have d0 : w1.cell? ⟨P, 0, none⟩ = some (.int .i64 (S.mo : Int)) := by unfold World.cell?; rw [hD]; rfl
  have d1 : w1.cell? ⟨P, 1, none⟩ = some (.slice A fs.length c) := by unfold World.cell?; rw [hD]; rfl
  have d2 : w1.cell? ⟨P, 2, none⟩ = some (.int .i64 lf) := by unfold World.cell?; rw [hD]; rfl
  have d3 : w1.cell? ⟨P, 3, none⟩ = some (.bool S.fl) := by unfold World.cell?; rw [hD]; rfl
  have r0 : w1.cell? ⟨P + 1, 0, none⟩ = some (.int .i64 0) := by unfold World.cell?; rw [hR2]; rfl
  have z0 : w1.frozen? ⟨P + 1, 0, none⟩ = false := by unfold World.frozen?; rw [hR2]; rfl
  have r1 : w1.cell? ⟨P + 1, 1, none⟩ = some (.slice none 0 0) := by unfold World.cell?; rw [hR2]; rfl
  have z1 : w1.frozen? ⟨P + 1, 1, none⟩ = false := by unfold World.frozen?; rw [hR2]; rfl
  have r2 : w1.cell? ⟨P + 1, 2, none⟩ = some (.int .i64 0) := by unfold World.cell?; rw [hR2]; rfl
  have z2 : w1.frozen? ⟨P + 1, 2, none⟩ = false := by unfold World.frozen?; rw [hR2]; rfl
  have r3 : w1.cell? ⟨P + 1, 3, none⟩ = some (.bool false) := by unfold World.cell?; rw [hR2]; rfl
  have z3 : w1.frozen? ⟨P + 1, 3, none⟩ = false := by unfold World.frozen?; rw [hR2]; rfl
  cases hfl : S.fl with
  | true =>
    have he : S.append nm.data.toList l = (15, S) := by unfold Ab.append; rw [hfl]; rfl
    rw [hfl] at hD d3
    go_wp2_with fail
    refine bodyPost_ret (results_cell_tmp_row (p := 6) rfl _ _ (P + 1) 29 #[.int .i64 (S.mo : Int), .slice A fs.length c, .int .i64 lf, .bool true] (0, 0) _ rfl (four_set hR2 _ _ _ _).1 Try.underlying29 rfl (by kernel_rfl)) rfl ?_
    have hfr := HF.out.trans (four_set hR2 (.int .i64 (S.mo : Int)) (.slice A fs.length c) (.int .i64 lf) (.bool true)).2 (fun k hk e => by have := HP.out; omega)
    have hv := HV0.out.no hfr
    rw [hfl] at hv
    exact ⟨.agg #[.int .i64 (S.mo : Int), .slice A fs.length c, .int .i64 lf, .bool true], by rw [he]; rfl, by rw [he]; exact hv, hfr⟩
  | false =>
    rw [hfl] at hD d3
    obtain ⟨ce, hce, hne⟩ : ∃ ce : Int, (if false = true then (15 : Int) else if z < 0 then 13 else 0) = ce ∧ ¬ (ce = 15) := ⟨_, rfl, by rw [if_neg (by simp)]; split <;> omega⟩
    rw [hce]
    clear hce
    have HFL := Lib.hid hfl
    have hvs := HV0.out
    rw [hfl] at hvs
    have HVS := Lib.hid hvs
    clear hvs
    go_wp2_with fail
    refine (right_any nm w1 hs).mono ?_
    intro e w1' hh
    obtain ⟨rfl, hw⟩ := hh
    subst hw
    cases hnm : isNm nm.data.toList with
    | false =>
      have he : S.append nm.data.toList l = (13, S) := by unfold Ab.append; rw [hfl, hnm]; rfl
      go_wp2_with fail
      refine bodyPost_ret (results_cell_tmp_row (p := 6) rfl _ _ (P + 1) 29 #[.int .i64 (S.mo : Int), .slice A fs.length c, .int .i64 lf, .bool false] (0, 0) _ rfl (four_set hR2 _ _ _ _).1 Try.underlying29 rfl (by kernel_rfl)) rfl ?_
      have hfr := HF.out.trans (four_set hR2 (.int .i64 (S.mo : Int)) (.slice A fs.length c) (.int .i64 lf) (.bool false)).2 (fun k hk e => by have := HP.out; omega)
      exact ⟨.agg #[.int .i64 (S.mo : Int), .slice A fs.length c, .int .i64 lf, .bool false], by rw [he]; rfl, by rw [he]; exact HVS.out.no hfr, hfr⟩
    | true =>
      have HNM := Lib.hid hnm
      have HNL := Lib.hid HRB.out.1
      obtain ⟨q, HQU⟩ : ∃ q, Hid (used fs = q) := ⟨_, rfl⟩
      have hq1 : q ≤ 16777216 := by rw [← HQU.out, HUS.out]; exact hu
      obtain ⟨q2, hq2⟩ : ∃ q2, q + n = q2 := ⟨_, rfl⟩
      have hwq : IntKind.i64.wrap ((q : Int) + (n : Int)) = (q2 : Int) := by
        rw [show ((q : Int) + (n : Int)) = (q2 : Int) by omega]
        exact IntWalk.i64_in _ (by omega)
      have HQ2 := Lib.hid (show aused S.fs + l.length = q2 by rw [HNL.out, ← HUS.out, HQU.out]; exact hq2)
      have HUC := Lib.hid (fun W (hW : Fr No w1 W) => rused_any (c := c) (HK1.out.no hW) (by have := HL.out; omega) (by rw [HQU.out]; omega) (S.mo : Int) lf false)
      rw [HQU.out] at HUC
      have HQ : Hid (∀ W, Fr No w1.drew W → W.cell? ⟨P, 0, none⟩ = some (.int .i64 (S.mo : Int)) ∧ W.cell? ⟨P, 1, none⟩ = some (.slice A fs.length c) ∧ W.cell? ⟨P, 2, none⟩ = some (.int .i64 lf) ∧ W.cell? ⟨P, 3, none⟩ = some (.bool false)) := fun W hW0 => by
        have hW := (Fr.drew No w1).no_trans hW0
        exact ⟨hW.cell d0 (fun e => e), hW.cell d1 (fun e => e), hW.cell d2 (fun e => e), hW.cell d3 (fun e => e)⟩
      have HDD := Lib.hid hD
      clear hq2 hnm d0 d1 d2 d3 r0 r1 r2 r3 z0 z1 z2 z3 hD hR2 hne
      go_upto_region 6 with fail
      go_cut [42] from 25 to 41 (fun v42 wx => ∃ full : Bool, v42 = .bool full ∧ Fr No w1 wx ∧ S.fits nm.data.toList l.length = !full)
      case first =>
        by_cases hgt : (S.mo : Int) < (q2 : Int)
        · as_aux_lemma =>
            have HFT : Hid (S.fits nm.data.toList l.length = !true) := by
              show _ = _
              unfold Ab.fits
              rw [HQ2.out, decide_eq_false (by omega)]
              rfl
            refine wp_region_held_drew (S := fun W => Fr No w1.drew W) (by kernel_rfl) (Fr.refl _ _) (fun hHeld => ?_)
            refine wpAnyH_take (i := 0) (oi := _) (v := .agg #[.int .i64 (S.mo : Int), .slice A fs.length c, .int .i64 lf, .bool false]) rfl (by kernel_rfl) (by kernel_rfl) (by kernel_rfl) (fun _ _ _ h => h) (Or.inl ⟨by rfl, fun W hS => by obtain ⟨q0, q1, q2, q3⟩ := HQ.out W hS; go_simp⟩) hHeld ?_
            try simp only [Act.put, List.getElem_toArray, List.getElem_cons_zero, List.setIfInBounds_toArray, List.set_cons_zero, List.set_cons_succ]
            refine wpAnyH_take (i := 2) (oi := _) (v := .slice B n cb) rfl (by kernel_rfl) (by kernel_rfl) (by kernel_rfl) (fun _ _ _ h => h) (Or.inl ⟨by rfl, fun W hS => by rfl⟩) hHeld ?_
            try simp only [Act.put, List.getElem_toArray, List.getElem_cons_zero, List.getElem_cons_succ, List.setIfInBounds_toArray, List.set_cons_zero, List.set_cons_succ]
            refine wpAnyH_take (i := 3) (oi := _) (v := .int .i64 (n : Int)) rfl (by kernel_rfl) (by kernel_rfl) (by kernel_rfl) (fun _ _ _ h => h) (Or.inl ⟨by rfl, fun W hS => by go_simp⟩) hHeld ?_
            try simp only [Act.put, List.getElem_toArray, List.getElem_cons_zero, List.getElem_cons_succ, List.setIfInBounds_toArray, List.set_cons_zero, List.set_cons_succ]
            refine wpAnyH_take (i := 5) (oi := _) (v := .pointer (some ⟨P, 0, none⟩)) rfl (by kernel_rfl) (by kernel_rfl) (by kernel_rfl) (fun _ _ _ h => h) (Or.inl ⟨by rfl, fun W hS => by rfl⟩) hHeld ?_
            try simp only [Act.put, List.getElem_toArray, List.getElem_cons_zero, List.getElem_cons_succ, List.setIfInBounds_toArray, List.set_cons_zero, List.set_cons_succ]
            refine wpAnyH_take (i := 6) (oi := _) (v := .int .i64 (S.mo : Int)) rfl (by kernel_rfl) (by kernel_rfl) (by kernel_rfl) (fun _ _ _ h => h) (Or.inl ⟨by rfl, fun W hS => by obtain ⟨q0, q1, q2, q3⟩ := HQ.out W hS; go_simp⟩) hHeld ?_
            try simp only [Act.put, List.getElem_toArray, List.getElem_cons_zero, List.getElem_cons_succ, List.setIfInBounds_toArray, List.set_cons_zero, List.set_cons_succ]
            refine wpAnyH_ready (rs := [1]) (by kernel_rfl) (by simp) ?_
            refine AllReadyH.cons (o := _) rfl (fun K hK => ?_) AllReadyH.nil
            rw [if_pos (by rfl)]
            go_wp2_with fail
            refine (HUC.out _ (Fr.drew No w1)).mono ?_
            rintro e w2 ⟨rfl, hf2⟩
            have HF2 := Lib.hid ((Fr.drew No w1).no_trans hf2)
            refine hK.out _ _ (hHeld.no_trans hf2) (fun hHeld => ?_)
            clear hK K hf2
            try simp only [Act.put, List.getElem_toArray, List.getElem_cons_zero, List.getElem_cons_succ, List.setIfInBounds_toArray, List.set_cons_zero, List.set_cons_succ]
            refine wpAnyH_take (i := 4) (oi := _) (v := .int .i64 (q2 : Int)) rfl (by kernel_rfl) (by kernel_rfl) (by kernel_rfl) (fun _ _ _ h => h) (Or.inl ⟨by rfl, fun W hS => by go_simp⟩) hHeld ?_
            try simp only [Act.put, List.getElem_toArray, List.getElem_cons_zero, List.getElem_cons_succ, List.setIfInBounds_toArray, List.set_cons_zero, List.set_cons_succ]
            refine wpAnyH_take (i := 7) (oi := _) (v := .bool true) rfl (by kernel_rfl) (by kernel_rfl) (by kernel_rfl) (fun _ _ _ h => h) (Or.inl ⟨by rfl, fun W hS => by go_simp⟩) hHeld ?_
            try simp only [Act.put, List.getElem_toArray, List.getElem_cons_zero, List.getElem_cons_succ, List.setIfInBounds_toArray, List.set_cons_zero, List.set_cons_succ]
            refine wpAnyH_take (i := 8) (oi := _) (v := .bool true) rfl (by kernel_rfl) (by kernel_rfl) (by kernel_rfl) (fun _ _ _ h => h) (Or.inl ⟨by rfl, fun W hS => by rfl⟩) hHeld ?_
            try simp only [Act.put, List.getElem_toArray, List.getElem_cons_zero, List.getElem_cons_succ, List.setIfInBounds_toArray, List.set_cons_zero, List.set_cons_succ]
            refine wpAnyH_take (i := 9) (oi := _) (v := undef) rfl (by kernel_rfl) (by kernel_rfl) (by kernel_rfl) (fun _ _ _ h => h) (Or.inr ⟨by rfl, rfl⟩) hHeld ?_
            try simp only [Act.put, List.getElem_toArray, List.getElem_cons_zero, List.getElem_cons_succ, List.setIfInBounds_toArray, List.set_cons_zero, List.set_cons_succ]
            refine wpAnyH_take (i := 10) (oi := _) (v := undef) rfl (by kernel_rfl) (by kernel_rfl) (by kernel_rfl) (fun _ _ _ h => h) (Or.inr ⟨by rfl, rfl⟩) hHeld ?_
            try simp only [Act.put, List.getElem_toArray, List.getElem_cons_zero, List.getElem_cons_succ, List.setIfInBounds_toArray, List.set_cons_zero, List.set_cons_succ]
            refine wpAnyH_take (i := 11) (oi := _) (v := undef) rfl (by kernel_rfl) (by kernel_rfl) (by kernel_rfl) (fun _ _ _ h => h) (Or.inr ⟨by rfl, rfl⟩) hHeld ?_
            try simp only [Act.put, List.getElem_toArray, List.getElem_cons_zero, List.getElem_cons_succ, List.setIfInBounds_toArray, List.set_cons_zero, List.set_cons_succ]
            refine wpAnyH_take (i := 12) (oi := _) (v := undef) rfl (by kernel_rfl) (by kernel_rfl) (by kernel_rfl) (fun _ _ _ h => h) (Or.inr ⟨by rfl, rfl⟩) hHeld ?_
            try simp only [Act.put, List.getElem_toArray, List.getElem_cons_zero, List.getElem_cons_succ, List.setIfInBounds_toArray, List.set_cons_zero, List.set_cons_succ]
            refine wpAnyH_take (i := 13) (oi := _) (v := undef) rfl (by kernel_rfl) (by kernel_rfl) (by kernel_rfl) (fun _ _ _ h => h) (Or.inr ⟨by rfl, rfl⟩) hHeld ?_
            try simp only [Act.put, List.getElem_toArray, List.getElem_cons_zero, List.getElem_cons_succ, List.setIfInBounds_toArray, List.set_cons_zero, List.set_cons_succ]
            refine wpAnyH_take (i := 14) (oi := _) (v := undef) rfl (by kernel_rfl) (by kernel_rfl) (by kernel_rfl) (fun _ _ _ h => h) (Or.inr ⟨by rfl, rfl⟩) hHeld ?_
            try simp only [Act.put, List.getElem_toArray, List.getElem_cons_zero, List.getElem_cons_succ, List.setIfInBounds_toArray, List.set_cons_zero, List.set_cons_succ]
            refine wpAnyH_take (i := 15) (oi := _) (v := undef) rfl (by kernel_rfl) (by kernel_rfl) (by kernel_rfl) (fun _ _ _ h => h) (Or.inr ⟨by rfl, rfl⟩) hHeld ?_
            try simp only [Act.put, List.getElem_toArray, List.getElem_cons_zero, List.getElem_cons_succ, List.setIfInBounds_toArray, List.set_cons_zero, List.set_cons_succ]
            refine wpAnyH_take (i := 16) (oi := _) (v := undef) rfl (by kernel_rfl) (by kernel_rfl) (by kernel_rfl) (fun _ _ _ h => h) (Or.inr ⟨by rfl, rfl⟩) hHeld ?_
            try simp only [Act.put, List.getElem_toArray, List.getElem_cons_zero, List.getElem_cons_succ, List.setIfInBounds_toArray, List.set_cons_zero, List.set_cons_succ]
            refine wpAnyH_take (i := 17) (oi := _) (v := .bool true) rfl (by kernel_rfl) (by kernel_rfl) (by kernel_rfl) (fun _ _ _ h => h) (Or.inl ⟨by rfl, fun W hS => by go_simp⟩) hHeld ?_
            try simp only [Act.put, List.getElem_toArray, List.getElem_cons_zero, List.getElem_cons_succ, List.setIfInBounds_toArray, List.set_cons_zero, List.set_cons_succ]
            refine wpAnyH_done (by kernel_rfl) ?_ _
            clear hHeld
            go_wp2_with fail
            go_meet
            case rel => exact ⟨true, rfl, HF2.out, HFT.out⟩
        · have hle : ¬ ((S.mo : Int) < (q2 : Int)) := hgt
          rcases HZ.out with ⟨rfl, hno⟩ | ⟨i, f, hi, hfn, rfl, haf, hao⟩
          · by_cases hfu : fs.length = 200
            · as_aux_lemma =>
                have HFT : Hid (S.fits nm.data.toList l.length = !true) := by
                  show _ = _
                  unfold Ab.fits
                  rw [HQ2.out, hno, show S.fs.length = 200 by rw [← HM.out, List.length_map, hfu]]
                  simp
                have hfI : (fs.length : Int) = 200 := by omega
                clear hgt hfu hno
                refine wp_region_held_drew (S := fun W => Fr No w1.drew W) (by kernel_rfl) (Fr.refl _ _) (fun hHeld => ?_)
                refine wpAnyH_take (i := 0) (oi := _) (v := .agg #[.int .i64 (S.mo : Int), .slice A fs.length c, .int .i64 lf, .bool false]) rfl (by kernel_rfl) (by kernel_rfl) (by kernel_rfl) (fun _ _ _ h => h) (Or.inl ⟨by rfl, fun W hS => by obtain ⟨q0, q1, q2, q3⟩ := HQ.out W hS; go_simp⟩) hHeld ?_
                try simp only [Act.put, List.getElem_toArray, List.getElem_cons_zero, List.setIfInBounds_toArray, List.set_cons_zero, List.set_cons_succ]
                refine wpAnyH_take (i := 2) (oi := _) (v := .slice B n cb) rfl (by kernel_rfl) (by kernel_rfl) (by kernel_rfl) (fun _ _ _ h => h) (Or.inl ⟨by rfl, fun W hS => by rfl⟩) hHeld ?_
                try simp only [Act.put, List.getElem_toArray, List.getElem_cons_zero, List.getElem_cons_succ, List.setIfInBounds_toArray, List.set_cons_zero, List.set_cons_succ]
                refine wpAnyH_take (i := 3) (oi := _) (v := .int .i64 (n : Int)) rfl (by kernel_rfl) (by kernel_rfl) (by kernel_rfl) (fun _ _ _ h => h) (Or.inl ⟨by rfl, fun W hS => by go_simp⟩) hHeld ?_
                try simp only [Act.put, List.getElem_toArray, List.getElem_cons_zero, List.getElem_cons_succ, List.setIfInBounds_toArray, List.set_cons_zero, List.set_cons_succ]
                refine wpAnyH_take (i := 5) (oi := _) (v := .pointer (some ⟨P, 0, none⟩)) rfl (by kernel_rfl) (by kernel_rfl) (by kernel_rfl) (fun _ _ _ h => h) (Or.inl ⟨by rfl, fun W hS => by rfl⟩) hHeld ?_
                try simp only [Act.put, List.getElem_toArray, List.getElem_cons_zero, List.getElem_cons_succ, List.setIfInBounds_toArray, List.set_cons_zero, List.set_cons_succ]
                refine wpAnyH_take (i := 6) (oi := _) (v := .int .i64 (S.mo : Int)) rfl (by kernel_rfl) (by kernel_rfl) (by kernel_rfl) (fun _ _ _ h => h) (Or.inl ⟨by rfl, fun W hS => by obtain ⟨q0, q1, q2, q3⟩ := HQ.out W hS; go_simp⟩) hHeld ?_
                try simp only [Act.put, List.getElem_toArray, List.getElem_cons_zero, List.getElem_cons_succ, List.setIfInBounds_toArray, List.set_cons_zero, List.set_cons_succ]
                refine wpAnyH_ready (rs := [1]) (by kernel_rfl) (by simp) ?_
                refine AllReadyH.cons (o := _) rfl (fun K hK => ?_) AllReadyH.nil
                rw [if_pos (by rfl)]
                go_wp2_with fail
                refine (HUC.out _ (Fr.drew No w1)).mono ?_
                rintro e w2 ⟨rfl, hf2⟩
                have HF2 := Lib.hid ((Fr.drew No w1).no_trans hf2)
                refine hK.out _ _ (hHeld.no_trans hf2) (fun hHeld => ?_)
                clear hK K hf2
                try simp only [Act.put, List.getElem_toArray, List.getElem_cons_zero, List.getElem_cons_succ, List.setIfInBounds_toArray, List.set_cons_zero, List.set_cons_succ]
                refine wpAnyH_take (i := 4) (oi := _) (v := .int .i64 (q2 : Int)) rfl (by kernel_rfl) (by kernel_rfl) (by kernel_rfl) (fun _ _ _ h => h) (Or.inl ⟨by rfl, fun W hS => by go_simp⟩) hHeld ?_
                try simp only [Act.put, List.getElem_toArray, List.getElem_cons_zero, List.getElem_cons_succ, List.setIfInBounds_toArray, List.set_cons_zero, List.set_cons_succ]
                refine wpAnyH_take (i := 7) (oi := _) (v := .bool false) rfl (by kernel_rfl) (by kernel_rfl) (by kernel_rfl) (fun _ _ _ h => h) (Or.inl ⟨by rfl, fun W hS => by go_simp; omega⟩) hHeld ?_
                try simp only [Act.put, List.getElem_toArray, List.getElem_cons_zero, List.getElem_cons_succ, List.setIfInBounds_toArray, List.set_cons_zero, List.set_cons_succ]
                refine wpAnyH_take (i := 8) (oi := _) (v := .bool false) rfl (by kernel_rfl) (by kernel_rfl) (by kernel_rfl) (fun _ _ _ h => h) (Or.inl ⟨by rfl, fun W hS => by rfl⟩) hHeld ?_
                try simp only [Act.put, List.getElem_toArray, List.getElem_cons_zero, List.getElem_cons_succ, List.setIfInBounds_toArray, List.set_cons_zero, List.set_cons_succ]
                refine wpAnyH_take (i := 9) (oi := _) (v := .int .i64 (-1)) rfl (by kernel_rfl) (by kernel_rfl) (by kernel_rfl) (fun _ _ _ h => h) (Or.inl ⟨by rfl, fun W hS => by rfl⟩) hHeld ?_
                try simp only [Act.put, List.getElem_toArray, List.getElem_cons_zero, List.getElem_cons_succ, List.setIfInBounds_toArray, List.set_cons_zero, List.set_cons_succ]
                refine wpAnyH_take (i := 10) (oi := _) (v := .bool true) rfl (by kernel_rfl) (by kernel_rfl) (by kernel_rfl) (fun _ _ _ h => h) (Or.inl ⟨by rfl, fun W hS => by go_simp⟩) hHeld ?_
                try simp only [Act.put, List.getElem_toArray, List.getElem_cons_zero, List.getElem_cons_succ, List.setIfInBounds_toArray, List.set_cons_zero, List.set_cons_succ]
                refine wpAnyH_take (i := 11) (oi := _) (v := .bool true) rfl (by kernel_rfl) (by kernel_rfl) (by kernel_rfl) (fun _ _ _ h => h) (Or.inl ⟨by rfl, fun W hS => by rfl⟩) hHeld ?_
                try simp only [Act.put, List.getElem_toArray, List.getElem_cons_zero, List.getElem_cons_succ, List.setIfInBounds_toArray, List.set_cons_zero, List.set_cons_succ]
                refine wpAnyH_take (i := 12) (oi := _) (v := .pointer (some ⟨P, 1, none⟩)) rfl (by kernel_rfl) (by kernel_rfl) (by kernel_rfl) (fun _ _ _ h => h) (Or.inl ⟨by rfl, fun W hS => by rfl⟩) hHeld ?_
                try simp only [Act.put, List.getElem_toArray, List.getElem_cons_zero, List.getElem_cons_succ, List.setIfInBounds_toArray, List.set_cons_zero, List.set_cons_succ]
                refine wpAnyH_take (i := 13) (oi := _) (v := .slice A fs.length c) rfl (by kernel_rfl) (by kernel_rfl) (by kernel_rfl) (fun _ _ _ h => h) (Or.inl ⟨by rfl, fun W hS => by obtain ⟨q0, q1, q2, q3⟩ := HQ.out W hS; go_simp⟩) hHeld ?_
                try simp only [Act.put, List.getElem_toArray, List.getElem_cons_zero, List.getElem_cons_succ, List.setIfInBounds_toArray, List.set_cons_zero, List.set_cons_succ]
                refine wpAnyH_take (i := 14) (oi := _) (v := .int .i64 (fs.length : Int)) rfl (by kernel_rfl) (by kernel_rfl) (by kernel_rfl) (fun _ _ _ h => h) (Or.inl ⟨by rfl, fun W hS => by go_simp⟩) hHeld ?_
                try simp only [Act.put, List.getElem_toArray, List.getElem_cons_zero, List.getElem_cons_succ, List.setIfInBounds_toArray, List.set_cons_zero, List.set_cons_succ]
                refine wpAnyH_take (i := 15) (oi := _) (v := .bool true) rfl (by kernel_rfl) (by kernel_rfl) (by kernel_rfl) (fun _ _ _ h => h) (Or.inl ⟨by rfl, fun W hS => by go_simp⟩) hHeld ?_
                try simp only [Act.put, List.getElem_toArray, List.getElem_cons_zero, List.getElem_cons_succ, List.setIfInBounds_toArray, List.set_cons_zero, List.set_cons_succ]
                refine wpAnyH_take (i := 16) (oi := _) (v := .bool true) rfl (by kernel_rfl) (by kernel_rfl) (by kernel_rfl) (fun _ _ _ h => h) (Or.inl ⟨by rfl, fun W hS => by go_simp⟩) hHeld ?_
                try simp only [Act.put, List.getElem_toArray, List.getElem_cons_zero, List.getElem_cons_succ, List.setIfInBounds_toArray, List.set_cons_zero, List.set_cons_succ]
                refine wpAnyH_take (i := 17) (oi := _) (v := .bool true) rfl (by kernel_rfl) (by kernel_rfl) (by kernel_rfl) (fun _ _ _ h => h) (Or.inl ⟨by rfl, fun W hS => by go_simp⟩) hHeld ?_
                try simp only [Act.put, List.getElem_toArray, List.getElem_cons_zero, List.getElem_cons_succ, List.setIfInBounds_toArray, List.set_cons_zero, List.set_cons_succ]
                refine wpAnyH_done (by kernel_rfl) ?_ _
                clear hHeld
                go_wp2_with fail
                go_meet
                case rel => exact ⟨true, rfl, HF2.out, HFT.out⟩
            · as_aux_lemma =>
                have HFT : Hid (S.fits nm.data.toList l.length = !false) := by
                  show _ = _
                  unfold Ab.fits
                  have h1 : S.fs.length = fs.length := by rw [← HM.out, List.length_map]
                  have h2 := HL.out
                  rw [HQ2.out, hno, decide_eq_true (by omega), decide_eq_true (show S.fs.length < 200 by omega)]
                  rfl
                have hfI : ¬ ((fs.length : Int) = 200) := by omega
                clear hgt hfu hno
                refine wp_region_held_drew (S := fun W => Fr No w1.drew W) (by kernel_rfl) (Fr.refl _ _) (fun hHeld => ?_)
                refine wpAnyH_take (i := 0) (oi := _) (v := .agg #[.int .i64 (S.mo : Int), .slice A fs.length c, .int .i64 lf, .bool false]) rfl (by kernel_rfl) (by kernel_rfl) (by kernel_rfl) (fun _ _ _ h => h) (Or.inl ⟨by rfl, fun W hS => by obtain ⟨q0, q1, q2, q3⟩ := HQ.out W hS; go_simp⟩) hHeld ?_
                try simp only [Act.put, List.getElem_toArray, List.getElem_cons_zero, List.setIfInBounds_toArray, List.set_cons_zero, List.set_cons_succ]
                refine wpAnyH_take (i := 2) (oi := _) (v := .slice B n cb) rfl (by kernel_rfl) (by kernel_rfl) (by kernel_rfl) (fun _ _ _ h => h) (Or.inl ⟨by rfl, fun W hS => by rfl⟩) hHeld ?_
                try simp only [Act.put, List.getElem_toArray, List.getElem_cons_zero, List.getElem_cons_succ, List.setIfInBounds_toArray, List.set_cons_zero, List.set_cons_succ]
                refine wpAnyH_take (i := 3) (oi := _) (v := .int .i64 (n : Int)) rfl (by kernel_rfl) (by kernel_rfl) (by kernel_rfl) (fun _ _ _ h => h) (Or.inl ⟨by rfl, fun W hS => by go_simp⟩) hHeld ?_
                try simp only [Act.put, List.getElem_toArray, List.getElem_cons_zero, List.getElem_cons_succ, List.setIfInBounds_toArray, List.set_cons_zero, List.set_cons_succ]
                refine wpAnyH_take (i := 5) (oi := _) (v := .pointer (some ⟨P, 0, none⟩)) rfl (by kernel_rfl) (by kernel_rfl) (by kernel_rfl) (fun _ _ _ h => h) (Or.inl ⟨by rfl, fun W hS => by rfl⟩) hHeld ?_
                try simp only [Act.put, List.getElem_toArray, List.getElem_cons_zero, List.getElem_cons_succ, List.setIfInBounds_toArray, List.set_cons_zero, List.set_cons_succ]
                refine wpAnyH_take (i := 6) (oi := _) (v := .int .i64 (S.mo : Int)) rfl (by kernel_rfl) (by kernel_rfl) (by kernel_rfl) (fun _ _ _ h => h) (Or.inl ⟨by rfl, fun W hS => by obtain ⟨q0, q1, q2, q3⟩ := HQ.out W hS; go_simp⟩) hHeld ?_
                try simp only [Act.put, List.getElem_toArray, List.getElem_cons_zero, List.getElem_cons_succ, List.setIfInBounds_toArray, List.set_cons_zero, List.set_cons_succ]
                refine wpAnyH_ready (rs := [1]) (by kernel_rfl) (by simp) ?_
                refine AllReadyH.cons (o := _) rfl (fun K hK => ?_) AllReadyH.nil
                rw [if_pos (by rfl)]
                go_wp2_with fail
                refine (HUC.out _ (Fr.drew No w1)).mono ?_
                rintro e w2 ⟨rfl, hf2⟩
                have HF2 := Lib.hid ((Fr.drew No w1).no_trans hf2)
                refine hK.out _ _ (hHeld.no_trans hf2) (fun hHeld => ?_)
                clear hK K hf2
                try simp only [Act.put, List.getElem_toArray, List.getElem_cons_zero, List.getElem_cons_succ, List.setIfInBounds_toArray, List.set_cons_zero, List.set_cons_succ]
                refine wpAnyH_take (i := 4) (oi := _) (v := .int .i64 (q2 : Int)) rfl (by kernel_rfl) (by kernel_rfl) (by kernel_rfl) (fun _ _ _ h => h) (Or.inl ⟨by rfl, fun W hS => by go_simp⟩) hHeld ?_
                try simp only [Act.put, List.getElem_toArray, List.getElem_cons_zero, List.getElem_cons_succ, List.setIfInBounds_toArray, List.set_cons_zero, List.set_cons_succ]
                refine wpAnyH_take (i := 7) (oi := _) (v := .bool false) rfl (by kernel_rfl) (by kernel_rfl) (by kernel_rfl) (fun _ _ _ h => h) (Or.inl ⟨by rfl, fun W hS => by go_simp; omega⟩) hHeld ?_
                try simp only [Act.put, List.getElem_toArray, List.getElem_cons_zero, List.getElem_cons_succ, List.setIfInBounds_toArray, List.set_cons_zero, List.set_cons_succ]
                refine wpAnyH_take (i := 8) (oi := _) (v := .bool false) rfl (by kernel_rfl) (by kernel_rfl) (by kernel_rfl) (fun _ _ _ h => h) (Or.inl ⟨by rfl, fun W hS => by rfl⟩) hHeld ?_
                try simp only [Act.put, List.getElem_toArray, List.getElem_cons_zero, List.getElem_cons_succ, List.setIfInBounds_toArray, List.set_cons_zero, List.set_cons_succ]
                refine wpAnyH_take (i := 9) (oi := _) (v := .int .i64 (-1)) rfl (by kernel_rfl) (by kernel_rfl) (by kernel_rfl) (fun _ _ _ h => h) (Or.inl ⟨by rfl, fun W hS => by rfl⟩) hHeld ?_
                try simp only [Act.put, List.getElem_toArray, List.getElem_cons_zero, List.getElem_cons_succ, List.setIfInBounds_toArray, List.set_cons_zero, List.set_cons_succ]
                refine wpAnyH_take (i := 10) (oi := _) (v := .bool true) rfl (by kernel_rfl) (by kernel_rfl) (by kernel_rfl) (fun _ _ _ h => h) (Or.inl ⟨by rfl, fun W hS => by go_simp⟩) hHeld ?_
                try simp only [Act.put, List.getElem_toArray, List.getElem_cons_zero, List.getElem_cons_succ, List.setIfInBounds_toArray, List.set_cons_zero, List.set_cons_succ]
                refine wpAnyH_take (i := 11) (oi := _) (v := .bool true) rfl (by kernel_rfl) (by kernel_rfl) (by kernel_rfl) (fun _ _ _ h => h) (Or.inl ⟨by rfl, fun W hS => by rfl⟩) hHeld ?_
                try simp only [Act.put, List.getElem_toArray, List.getElem_cons_zero, List.getElem_cons_succ, List.setIfInBounds_toArray, List.set_cons_zero, List.set_cons_succ]
                refine wpAnyH_take (i := 12) (oi := _) (v := .pointer (some ⟨P, 1, none⟩)) rfl (by kernel_rfl) (by kernel_rfl) (by kernel_rfl) (fun _ _ _ h => h) (Or.inl ⟨by rfl, fun W hS => by rfl⟩) hHeld ?_
                try simp only [Act.put, List.getElem_toArray, List.getElem_cons_zero, List.getElem_cons_succ, List.setIfInBounds_toArray, List.set_cons_zero, List.set_cons_succ]
                refine wpAnyH_take (i := 13) (oi := _) (v := .slice A fs.length c) rfl (by kernel_rfl) (by kernel_rfl) (by kernel_rfl) (fun _ _ _ h => h) (Or.inl ⟨by rfl, fun W hS => by obtain ⟨q0, q1, q2, q3⟩ := HQ.out W hS; go_simp⟩) hHeld ?_
                try simp only [Act.put, List.getElem_toArray, List.getElem_cons_zero, List.getElem_cons_succ, List.setIfInBounds_toArray, List.set_cons_zero, List.set_cons_succ]
                refine wpAnyH_take (i := 14) (oi := _) (v := .int .i64 (fs.length : Int)) rfl (by kernel_rfl) (by kernel_rfl) (by kernel_rfl) (fun _ _ _ h => h) (Or.inl ⟨by rfl, fun W hS => by go_simp⟩) hHeld ?_
                try simp only [Act.put, List.getElem_toArray, List.getElem_cons_zero, List.getElem_cons_succ, List.setIfInBounds_toArray, List.set_cons_zero, List.set_cons_succ]
                refine wpAnyH_take (i := 15) (oi := _) (v := .bool false) rfl (by kernel_rfl) (by kernel_rfl) (by kernel_rfl) (fun _ _ _ h => h) (Or.inl ⟨by rfl, fun W hS => by go_simp⟩) hHeld ?_
                try simp only [Act.put, List.getElem_toArray, List.getElem_cons_zero, List.getElem_cons_succ, List.setIfInBounds_toArray, List.set_cons_zero, List.set_cons_succ]
                refine wpAnyH_take (i := 16) (oi := _) (v := .bool false) rfl (by kernel_rfl) (by kernel_rfl) (by kernel_rfl) (fun _ _ _ h => h) (Or.inl ⟨by rfl, fun W hS => by go_simp⟩) hHeld ?_
                try simp only [Act.put, List.getElem_toArray, List.getElem_cons_zero, List.getElem_cons_succ, List.setIfInBounds_toArray, List.set_cons_zero, List.set_cons_succ]
                refine wpAnyH_take (i := 17) (oi := _) (v := .bool false) rfl (by kernel_rfl) (by kernel_rfl) (by kernel_rfl) (fun _ _ _ h => h) (Or.inl ⟨by rfl, fun W hS => by go_simp⟩) hHeld ?_
                try simp only [Act.put, List.getElem_toArray, List.getElem_cons_zero, List.getElem_cons_succ, List.setIfInBounds_toArray, List.set_cons_zero, List.set_cons_succ]
                refine wpAnyH_done (by kernel_rfl) ?_ _
                clear hHeld
                go_wp2_with fail
                go_meet
                case rel => exact ⟨false, rfl, HF2.out, HFT.out⟩
          · as_aux_lemma =>
              have HFT : Hid (S.fits nm.data.toList l.length = !false) := by
                show _ = _
                unfold Ab.fits
                rw [HQ2.out, haf, decide_eq_true (by omega)]
                rfl
              clear hgt hi hfn haf hao
              refine wp_region_held_drew (S := fun W => Fr No w1.drew W) (by kernel_rfl) (Fr.refl _ _) (fun hHeld => ?_)
              refine wpAnyH_take (i := 0) (oi := _) (v := .agg #[.int .i64 (S.mo : Int), .slice A fs.length c, .int .i64 lf, .bool false]) rfl (by kernel_rfl) (by kernel_rfl) (by kernel_rfl) (fun _ _ _ h => h) (Or.inl ⟨by rfl, fun W hS => by obtain ⟨q0, q1, q2, q3⟩ := HQ.out W hS; go_simp⟩) hHeld ?_
              try simp only [Act.put, List.getElem_toArray, List.getElem_cons_zero, List.setIfInBounds_toArray, List.set_cons_zero, List.set_cons_succ]
              refine wpAnyH_take (i := 2) (oi := _) (v := .slice B n cb) rfl (by kernel_rfl) (by kernel_rfl) (by kernel_rfl) (fun _ _ _ h => h) (Or.inl ⟨by rfl, fun W hS => by rfl⟩) hHeld ?_
              try simp only [Act.put, List.getElem_toArray, List.getElem_cons_zero, List.getElem_cons_succ, List.setIfInBounds_toArray, List.set_cons_zero, List.set_cons_succ]
              refine wpAnyH_take (i := 3) (oi := _) (v := .int .i64 (n : Int)) rfl (by kernel_rfl) (by kernel_rfl) (by kernel_rfl) (fun _ _ _ h => h) (Or.inl ⟨by rfl, fun W hS => by go_simp⟩) hHeld ?_
              try simp only [Act.put, List.getElem_toArray, List.getElem_cons_zero, List.getElem_cons_succ, List.setIfInBounds_toArray, List.set_cons_zero, List.set_cons_succ]
              refine wpAnyH_take (i := 5) (oi := _) (v := .pointer (some ⟨P, 0, none⟩)) rfl (by kernel_rfl) (by kernel_rfl) (by kernel_rfl) (fun _ _ _ h => h) (Or.inl ⟨by rfl, fun W hS => by rfl⟩) hHeld ?_
              try simp only [Act.put, List.getElem_toArray, List.getElem_cons_zero, List.getElem_cons_succ, List.setIfInBounds_toArray, List.set_cons_zero, List.set_cons_succ]
              refine wpAnyH_take (i := 6) (oi := _) (v := .int .i64 (S.mo : Int)) rfl (by kernel_rfl) (by kernel_rfl) (by kernel_rfl) (fun _ _ _ h => h) (Or.inl ⟨by rfl, fun W hS => by obtain ⟨q0, q1, q2, q3⟩ := HQ.out W hS; go_simp⟩) hHeld ?_
              try simp only [Act.put, List.getElem_toArray, List.getElem_cons_zero, List.getElem_cons_succ, List.setIfInBounds_toArray, List.set_cons_zero, List.set_cons_succ]
              refine wpAnyH_ready (rs := [1]) (by kernel_rfl) (by simp) ?_
              refine AllReadyH.cons (o := _) rfl (fun K hK => ?_) AllReadyH.nil
              rw [if_pos (by rfl)]
              go_wp2_with fail
              refine (HUC.out _ (Fr.drew No w1)).mono ?_
              rintro e w2 ⟨rfl, hf2⟩
              have HF2 := Lib.hid ((Fr.drew No w1).no_trans hf2)
              refine hK.out _ _ (hHeld.no_trans hf2) (fun hHeld => ?_)
              clear hK K hf2
              try simp only [Act.put, List.getElem_toArray, List.getElem_cons_zero, List.getElem_cons_succ, List.setIfInBounds_toArray, List.set_cons_zero, List.set_cons_succ]
              refine wpAnyH_take (i := 4) (oi := _) (v := .int .i64 (q2 : Int)) rfl (by kernel_rfl) (by kernel_rfl) (by kernel_rfl) (fun _ _ _ h => h) (Or.inl ⟨by rfl, fun W hS => by go_simp⟩) hHeld ?_
              try simp only [Act.put, List.getElem_toArray, List.getElem_cons_zero, List.getElem_cons_succ, List.setIfInBounds_toArray, List.set_cons_zero, List.set_cons_succ]
              refine wpAnyH_take (i := 7) (oi := _) (v := .bool false) rfl (by kernel_rfl) (by kernel_rfl) (by kernel_rfl) (fun _ _ _ h => h) (Or.inl ⟨by rfl, fun W hS => by go_simp; omega⟩) hHeld ?_
              try simp only [Act.put, List.getElem_toArray, List.getElem_cons_zero, List.getElem_cons_succ, List.setIfInBounds_toArray, List.set_cons_zero, List.set_cons_succ]
              refine wpAnyH_take (i := 8) (oi := _) (v := .bool false) rfl (by kernel_rfl) (by kernel_rfl) (by kernel_rfl) (fun _ _ _ h => h) (Or.inl ⟨by rfl, fun W hS => by rfl⟩) hHeld ?_
              try simp only [Act.put, List.getElem_toArray, List.getElem_cons_zero, List.getElem_cons_succ, List.setIfInBounds_toArray, List.set_cons_zero, List.set_cons_succ]
              refine wpAnyH_take (i := 9) (oi := _) (v := .int .i64 (i : Int)) rfl (by kernel_rfl) (by kernel_rfl) (by kernel_rfl) (fun _ _ _ h => h) (Or.inl ⟨by rfl, fun W hS => by rfl⟩) hHeld ?_
              try simp only [Act.put, List.getElem_toArray, List.getElem_cons_zero, List.getElem_cons_succ, List.setIfInBounds_toArray, List.set_cons_zero, List.set_cons_succ]
              refine wpAnyH_take (i := 10) (oi := _) (v := .bool false) rfl (by kernel_rfl) (by kernel_rfl) (by kernel_rfl) (fun _ _ _ h => h) (Or.inl ⟨by rfl, fun W hS => by go_simp⟩) hHeld ?_
              try simp only [Act.put, List.getElem_toArray, List.getElem_cons_zero, List.getElem_cons_succ, List.setIfInBounds_toArray, List.set_cons_zero, List.set_cons_succ]
              refine wpAnyH_take (i := 11) (oi := _) (v := .bool false) rfl (by kernel_rfl) (by kernel_rfl) (by kernel_rfl) (fun _ _ _ h => h) (Or.inl ⟨by rfl, fun W hS => by rfl⟩) hHeld ?_
              try simp only [Act.put, List.getElem_toArray, List.getElem_cons_zero, List.getElem_cons_succ, List.setIfInBounds_toArray, List.set_cons_zero, List.set_cons_succ]
              refine wpAnyH_take (i := 12) (oi := _) (v := undef) rfl (by kernel_rfl) (by kernel_rfl) (by kernel_rfl) (fun _ _ _ h => h) (Or.inr ⟨by rfl, rfl⟩) hHeld ?_
              try simp only [Act.put, List.getElem_toArray, List.getElem_cons_zero, List.getElem_cons_succ, List.setIfInBounds_toArray, List.set_cons_zero, List.set_cons_succ]
              refine wpAnyH_take (i := 13) (oi := _) (v := undef) rfl (by kernel_rfl) (by kernel_rfl) (by kernel_rfl) (fun _ _ _ h => h) (Or.inr ⟨by rfl, rfl⟩) hHeld ?_
              try simp only [Act.put, List.getElem_toArray, List.getElem_cons_zero, List.getElem_cons_succ, List.setIfInBounds_toArray, List.set_cons_zero, List.set_cons_succ]
              refine wpAnyH_take (i := 14) (oi := _) (v := undef) rfl (by kernel_rfl) (by kernel_rfl) (by kernel_rfl) (fun _ _ _ h => h) (Or.inr ⟨by rfl, rfl⟩) hHeld ?_
              try simp only [Act.put, List.getElem_toArray, List.getElem_cons_zero, List.getElem_cons_succ, List.setIfInBounds_toArray, List.set_cons_zero, List.set_cons_succ]
              refine wpAnyH_take (i := 15) (oi := _) (v := undef) rfl (by kernel_rfl) (by kernel_rfl) (by kernel_rfl) (fun _ _ _ h => h) (Or.inr ⟨by rfl, rfl⟩) hHeld ?_
              try simp only [Act.put, List.getElem_toArray, List.getElem_cons_zero, List.getElem_cons_succ, List.setIfInBounds_toArray, List.set_cons_zero, List.set_cons_succ]
              refine wpAnyH_take (i := 16) (oi := _) (v := .bool false) rfl (by kernel_rfl) (by kernel_rfl) (by kernel_rfl) (fun _ _ _ h => h) (Or.inl ⟨by rfl, fun W hS => by go_simp⟩) hHeld ?_
              try simp only [Act.put, List.getElem_toArray, List.getElem_cons_zero, List.getElem_cons_succ, List.setIfInBounds_toArray, List.set_cons_zero, List.set_cons_succ]
              refine wpAnyH_take (i := 17) (oi := _) (v := .bool false) rfl (by kernel_rfl) (by kernel_rfl) (by kernel_rfl) (fun _ _ _ h => h) (Or.inl ⟨by rfl, fun W hS => by go_simp⟩) hHeld ?_
              try simp only [Act.put, List.getElem_toArray, List.getElem_cons_zero, List.getElem_cons_succ, List.setIfInBounds_toArray, List.set_cons_zero, List.set_cons_succ]
              refine wpAnyH_done (by kernel_rfl) ?_ _
              clear hHeld
              go_wp2_with fail
              go_meet
              case rel => exact ⟨false, rfl, HF2.out, HFT.out⟩
      case rest =>
        obtain ⟨full, rfl, hfc, hft⟩ := hcut
        have HFT := Lib.hid hft
        have HFC := Lib.hid hfc
        have hDc := (hfc.block _ (Array.getElem?_eq_some_iff.1 HDD.out).1 (fun e => e)).trans HDD.out
        have hRc := (hfc.block _ (Array.getElem?_eq_some_iff.1 HR2.out).1 (fun e => e)).trans HR2.out
        have HDC := Lib.hid hDc
        have HRC := Lib.hid hRc
        have d0 : wc.cell? ⟨P, 0, none⟩ = some (.int .i64 (S.mo : Int)) := by unfold World.cell?; rw [hDc]; rfl
        have d1 : wc.cell? ⟨P, 1, none⟩ = some (.slice A fs.length c) := by unfold World.cell?; rw [hDc]; rfl
        have d2 : wc.cell? ⟨P, 2, none⟩ = some (.int .i64 lf) := by unfold World.cell?; rw [hDc]; rfl
        have d3 : wc.cell? ⟨P, 3, none⟩ = some (.bool false) := by unfold World.cell?; rw [hDc]; rfl
        clear hft hfc hDc HUC HQ
        cases full with
        | true =>
          have he : S.append nm.data.toList l = (5, S) := by unfold Ab.append; rw [HFL.out, HNM.out, HFT.out]; rfl
          have r0 : wc.cell? ⟨P + 1, 0, none⟩ = some (.int .i64 0) := by unfold World.cell?; rw [hRc]; rfl
          have z0 : wc.frozen? ⟨P + 1, 0, none⟩ = false := by unfold World.frozen?; rw [hRc]; rfl
          have r1 : wc.cell? ⟨P + 1, 1, none⟩ = some (.slice none 0 0) := by unfold World.cell?; rw [hRc]; rfl
          have z1 : wc.frozen? ⟨P + 1, 1, none⟩ = false := by unfold World.frozen?; rw [hRc]; rfl
          have r2 : wc.cell? ⟨P + 1, 2, none⟩ = some (.int .i64 0) := by unfold World.cell?; rw [hRc]; rfl
          have z2 : wc.frozen? ⟨P + 1, 2, none⟩ = false := by unfold World.frozen?; rw [hRc]; rfl
          have r3 : wc.cell? ⟨P + 1, 3, none⟩ = some (.bool false) := by unfold World.cell?; rw [hRc]; rfl
          have z3 : wc.frozen? ⟨P + 1, 3, none⟩ = false := by unfold World.frozen?; rw [hRc]; rfl
          go_wp2_with fail
          refine bodyPost_ret (results_cell_tmp_row (p := 6) rfl _ _ (P + 1) 29 #[.int .i64 (S.mo : Int), .slice A fs.length c, .int .i64 lf, .bool false] (0, 0) _ rfl (four_set hRc _ _ _ _).1 Try.underlying29 rfl (by kernel_rfl)) rfl ?_
          have hfr := (HF.out.no_trans HFC.out).trans (four_set hRc (.int .i64 (S.mo : Int)) (.slice A fs.length c) (.int .i64 lf) (.bool false)).2 (fun k hk e => by have := HP.out; omega)
          exact ⟨.agg #[.int .i64 (S.mo : Int), .slice A fs.length c, .int .i64 lf, .bool false], by rw [he]; rfl, by rw [he]; exact HVS.out.no hfr, hfr⟩
        | false =>
          have hap : S.append nm.data.toList l = (if S.fails then 15 else 0, if S.fails then S.step else { S.step with fs := aput ⟨nm.data.toList, (aold nm.data.toList S.fs).bs ++ l, (aold nm.data.toList S.fs).fm⟩ S.fs }) := by
            unfold Ab.append
            rw [HFL.out, HNM.out, HFT.out]
            cases S.fails <;> rfl
          obtain ⟨x, HX⟩ : ∃ x : Int, Hid ((if S.fails then 15 else 0) = x) := ⟨_, rfl⟩
          obtain ⟨S', HS'⟩ : ∃ S', Hid ((if S.fails then S.step else { S.step with fs := aput ⟨nm.data.toList, (aold nm.data.toList S.fs).bs ++ l, (aold nm.data.toList S.fs).fm⟩ S.fs }) = S') := ⟨_, rfl⟩
          rw [HX.out, HS'.out] at hap
          have HE := Lib.hid hap
          clear hap
          obtain ⟨ob, HOB⟩ : ∃ ob, Hid ((aold nm.data.toList S.fs).bs = ob) := ⟨_, rfl⟩
          obtain ⟨ofm, HOF⟩ : ∃ ofm, Hid ((aold nm.data.toList S.fs).fm = ofm) := ⟨_, rfl⟩
          obtain ⟨on, hon⟩ : ∃ on, ob.length = on := ⟨_, rfl⟩
          obtain ⟨k2, hk2⟩ : ∃ k2, on + n = k2 := ⟨_, rfl⟩
          have HON := Lib.hid hon
          have HKK := Lib.hid hk2
          have hoa : on ≤ aused S.fs := by
            rw [← hon, ← HOB.out]
            rcases HZ.out with ⟨_, hno⟩ | ⟨i, f, hi, hfn, _, haf, hao⟩
            · rw [afnd_none_of hno]; exact Nat.zero_le _
            · rw [hao]
              have h1 : f.ab ∈ S.fs := by rw [← HM.out]; exact List.mem_map.2 ⟨f, List.mem_of_getElem? hi, rfl⟩
              have h2 : f.ab.bs.length ≤ aused S.fs := by
                exact aused_ge h1
              exact h2
          have hk16 : k2 ≤ 16777216 := by
            have h5 := HFT.out
            unfold Ab.fits at h5
            rw [show (!false) = true from rfl, Bool.and_eq_true, decide_eq_true_iff, HNL.out] at h5
            have := h5.1
            omega
          have HK16 := Lib.hid hk16
          have hwk : IntKind.i64.wrap ((on : Int) + (n : Int)) = (k2 : Int) := by
            rw [show ((on : Int) + (n : Int)) = (k2 : Int) by omega]
            exact IntWalk.i64_in _ (by omega)
          obtain ⟨LL, HLL⟩ : ∃ LL : Option Addr → Nat → List Fl, Hid ((fun X c' => losF nm.data.toList fs ++ (if false then [] else [(⟨nm.data.toList, X, c', ob ++ l, ofm⟩ : Fl)]) ++ hisF nm.data.toList fs) = LL) := ⟨_, rfl⟩
          have hm2 : ∀ X c', (LL X c').map Fl.ab = aput ⟨nm.data.toList, (aold nm.data.toList S.fs).bs ++ l, (aold nm.data.toList S.fs).fm⟩ S.fs := fun X c' => by
            rw [← HLL.out, List.map_append, List.map_append, los_ab, his_ab, HM.out, if_neg (by simp), HOB.out, HOF.out]
            exact rput_ab (f := ⟨nm.data.toList, ob ++ l, ofm⟩) HR.out
          have hl2 : ∀ X c', (LL X c').length ≤ 200 := fun X c' => by
            have h1 : ((LL X c').map Fl.ab).length = _ := congrArg List.length (hm2 X c')
            have h3 : (fs.map Fl.ab).length = S.fs.length := by rw [HM.out]
            rw [List.length_map] at h1 h3
            rw [h1]
            have h4 := HL.out
            rcases HZ.out with ⟨_, hno⟩ | ⟨i, f, hi, hfn, _, haf, hao⟩
            · have h5 := HFT.out
              unfold Ab.fits at h5
              rw [hno] at h5
              simp at h5
              have := aput_len1 ⟨nm.data.toList, (aold nm.data.toList S.fs).bs ++ l, (aold nm.data.toList S.fs).fm⟩ S.fs
              omega
            · have := aput_len (f := ⟨nm.data.toList, (aold nm.data.toList S.fs).bs ++ l, (aold nm.data.toList S.fs).fm⟩) haf
              omega
          have hfi : ∀ W O c', Fr No w1 W → Rd W W.heap.size O k2 (ob ++ l) → Calls Try.prog 43 #[.string nm, .slice O k2 c', .int .i64 (k2 : Int), .int .i64 (ofm : Int)] W fun e w' => ∃ X c', e = .returned (.agg #[.string nm, .slice X k2 c', .int .i64 (ofm : Int)]) ∧ Rd w' w'.heap.size X k2 (ob ++ l) ∧ Fr No W w' ∧ Nf F X := fun W O c' hW hr => by
            have := rfirst_fr (c := c') hr nm k2 (Nat.le_refl _) HK16.out (ofm : Int)
            rw [List.take_of_length_le (by rw [hr.1]; exact Nat.le_refl _)] at this
            exact this.mono fun _ _ ⟨X, c', h1, h2, h3, h4⟩ => ⟨X, c', h1, h2, h3, nf_new HNF.out (Nat.le_trans HF.out.size hW.size) h4⟩
          have hpu : ∀ W X c', Fr No w1 W → Rd W W.heap.size X k2 (ob ++ l) → Calls Try.prog 42 #[.agg #[.int .i64 (S.mo : Int), .slice A fs.length c, .int .i64 lf, .bool false], .agg #[.string nm, .slice X k2 c', .int .i64 (ofm : Int)], .bool false] W (PutN F W (S.mo : Int) lf false (LL X c')) := fun W X c' hW hr => by
            rw [← HLL.out]
            have hlm : (ob ++ l).length = k2 := hr.1
            have := rput_n HNF.out (Nat.le_trans HF.out.size hW.size) (HK1.out.no hW) (c := c) (by have := HL.out; omega) (S.mo : Int) lf false (⟨nm.data.toList, X, c', ob ++ l, ofm⟩ : Fl) (by rw [show (⟨nm.data.toList, X, c', ob ++ l, ofm⟩ : Fl).bs.length = k2 from hlm]; exact hr) false
            rw [show (⟨nm.data.toList, X, c', ob ++ l, ofm⟩ : Fl).bs.length = k2 from hlm] at this
            exact this
          have hst : ∀ W X c' (A2 : Option Addr) (c2 : Nat), Fr No w1 W → Rk W A2 (LL X c').length (LL X c') → Nf F X → Nf F A2 → Calls Try.prog 41 #[.agg #[.int .i64 (S.mo : Int), .slice A fs.length c, .int .i64 lf, .bool false], .agg #[.int .i64 (S.mo : Int), .slice A2 (LL X c').length c2, .int .i64 lf, .bool false]] W fun e w' =>
              ∃ v, e = .returned (.tuple #[v, .int .i64 x]) ∧ Rv F w' v S' ∧ Fr No W w' := fun W X c' A2 c2 hW hk2 hnX hn2 => by
            have := rv_step (c := c) (c2 := c2) HB.out (HK1.out.no hW) HM.out HR.out HL.out hk2 (hm2 X c') (ris_put HR.out) (hl2 X c') HOO.out ⟨fun _ => hn2, by rw [← HLL.out]; exact off_put HOO.out.2 nm.data.toList (off_one (fun _ => hnX))⟩
            rw [HFL.out, HLF.out, HX.out, HS'.out] at this
            exact this
          have HFI := Lib.hid hfi
          have HPU := Lib.hid hpu
          have HST := Lib.hid hst
          clear hfi hpu hst hm2 hl2 hon hk2 hRc
          clear d0 d1 d2 d3
          go_upto_region 9 with fail
          obtain ⟨FB, hFB⟩ : ∃ u, wc.heap.size = u := ⟨_, rfl⟩
          have hfa := Fr.alloc No wc (.cells #[.string nm, .slice none 0 0, .int .i64 0] 73)
          have hF7 := heap_alloc_new wc (.cells #[.string nm, .slice none 0 0, .int .i64 0] 73)
          have hPF : P + 1 < FB := by rw [← hFB]; exact (Array.getElem?_eq_some_iff.1 HRC.out).1
          have HSZ := Lib.hid (show w1.heap.size ≤ FB by rw [← hFB]; exact HFC.out.size)
          rw [hFB] at hF7
          rw [hFB]
          obtain ⟨w7, hw7⟩ : ∃ u, wc.alloc (.cells #[.string nm, .slice none 0 0, .int .i64 0] 73) = u := ⟨_, rfl⟩
          rw [hw7] at hfa hF7 ⊢
          clear hw7 hFB
          have HF7 := Lib.hid (HFC.out.no_trans hfa)
          have HFB := Lib.hid hF7
          have HPF := Lib.hid hPF
          have hD7 := (HF7.out.block _ (Array.getElem?_eq_some_iff.1 HDD.out).1 (fun e => e)).trans HDD.out
          have d1 : w7.cell? ⟨P, 1, none⟩ = some (.slice A fs.length c) := by unfold World.cell?; rw [hD7]; rfl
          have f0 : w7.cell? ⟨FB, 0, none⟩ = some (.string nm) := by unfold World.cell?; rw [hF7]; rfl
          have f1 : w7.cell? ⟨FB, 1, none⟩ = some (.slice none 0 0) := by unfold World.cell?; rw [hF7]; rfl
          have f2 : w7.cell? ⟨FB, 2, none⟩ = some (.int .i64 0) := by unfold World.cell?; rw [hF7]; rfl
          have g0 : w7.frozen? ⟨FB, 0, none⟩ = false := by unfold World.frozen?; rw [hF7]; rfl
          have g1 : w7.frozen? ⟨FB, 1, none⟩ = false := by unfold World.frozen?; rw [hF7]; rfl
          have g2 : w7.frozen? ⟨FB, 2, none⟩ = false := by unfold World.frozen?; rw [hF7]; rfl
          clear hfa hF7 hPF hD7
          go_upto_if 47 with fail
          go_cut [] from 46 to 52 (fun wx => ∃ OA oc, wx.heap[FB]? = some (.cells #[.string nm, .slice OA on oc, .int .i64 (ofm : Int)] 73 (0, 0)) ∧ Rd wx wx.heap.size OA on ob ∧ Fr No w1 wx ∧ wx.heap[P + 1]? = some (.cells #[.int .i64 0, .slice none 0 0, .int .i64 0, .bool false] 29 (0, 0)) ∧ wx.heap[P]? = some (.cells #[.int .i64 (S.mo : Int), .slice A fs.length c, .int .i64 lf, .bool false] 29 (0, 0)))
          case first =>
            as_aux_lemma =>
              rcases HZ.out with ⟨rfl, hno⟩ | ⟨i, f, hi, hfn, rfl, haf, hao⟩
              · have h1 : ob = [] := by rw [← HOB.out, afnd_none_of hno]
                have h2 : ofm = 0 := by rw [← HOF.out, afnd_none_of hno]
                have h3 : on = 0 := by rw [← HON.out, h1]; rfl
                subst h1 h2 h3
                clear hno
                go_wp2_with fail
                go_meet
                case rel => exact ⟨none, 0, HFB.out, Rd.nil, HF7.out, (HF7.out.block _ (Array.getElem?_eq_some_iff.1 HR2.out).1 (fun e => e)).trans HR2.out, (HF7.out.block _ (Array.getElem?_eq_some_iff.1 HDD.out).1 (fun e => e)).trans HDD.out⟩
              · have h1 : ob = f.bs := by rw [← HOB.out, hao]; rfl
                have h2 : ofm = f.fm := by rw [← HOF.out, hao]; rfl
                have h3 : on = f.bs.length := by rw [← HON.out, h1]
                have hin : i < fs.length := (List.getElem?_eq_some_iff.1 hi).1
                obtain ⟨b, o, hA, hb, hc⟩ := HK1.out.at_ (by omega)
                subst hA
                obtain ⟨c0, c1, c2⟩ := hc i f hi
                have hft : (⟨f.nm.toArray⟩ : ByteArray) = nm := by rw [hfn]
                rw [hft] at c0
                rw [← h3] at c1
                rw [← h2] at c2
                have c0 := HF7.out.cell c0 (fun e => e)
                have c1 := HF7.out.cell c1 (fun e => e)
                have c2 := HF7.out.cell c2 (fun e => e)
                have hrd := (HF7.out.rd (Nat.le_refl _) (HK1.out.rd f (List.mem_of_getElem? hi))).more HF7.out.size
                rw [← h1, HON.out] at hrd
                have HRD := Lib.hid hrd
                have hrd1 := HK1.out.rd f (List.mem_of_getElem? hi)
                rw [← h1, HON.out] at hrd1
                have HRD1 := Lib.hid hrd1
                have hi1 : (i : Int) < (fs.length : Int) := by omega
                have hi0 : (0 : Int) ≤ (i : Int) := by omega
                clear hc hi hfn haf hao h1 h2 h3 hft hrd hrd1
                go_wp2_with fail
                go_meet
                case rel =>
                  have h3 := heap_cells_set _ FB 2 _ _ (.int .i64 (ofm : Int)) (heap_cells_set _ FB 1 _ _ (.slice f.A on f.c) (heap_cells_set _ FB 0 _ _ (.string nm) HFB.out))
                  have hfr : Fr (fun k => k = FB) w7 (((w7.setCell ⟨FB, 0, none⟩ (.string nm)).setCell ⟨FB, 1, none⟩ (.slice f.A on f.c)).setCell ⟨FB, 2, none⟩ (.int .i64 (ofm : Int))) :=
                    ((Fr.setCell w7 ⟨FB, 0, none⟩ _ (F := fun k => k = FB) rfl).trans (Fr.setCell _ ⟨FB, 1, none⟩ _ (F := fun k => k = FB) rfl) (fun _ _ e => e)).trans (Fr.setCell _ ⟨FB, 2, none⟩ _ (F := fun k => k = FB) rfl) (fun _ _ e => e)
                  have hall : Fr No w1 _ := HF7.out.trans hfr (fun k hk e => by have := HSZ.out; omega)
                  exact ⟨f.A, f.c, h3, (hall.rd (Nat.le_refl _) HRD1.out).more hall.size, hall, (hall.block _ (Array.getElem?_eq_some_iff.1 HR2.out).1 (fun e => e)).trans HR2.out, (hall.block _ (Array.getElem?_eq_some_iff.1 HDD.out).1 (fun e => e)).trans HDD.out⟩
          case rest =>
            obtain ⟨OA, oc, hfb, hob, hfx, hrx, hdx⟩ := hcut
            clear f0 f1 f2 g0 g1 g2 d1
            go_upto_region 11 with fail
            have HFX := Lib.hid hfx
            have HRX2 := Lib.hid hrx
            obtain ⟨u0, HU0⟩ : ∃ u, Hid (wc.drew = u) := ⟨_, rfl⟩
            have hxu : Fr No wc u0 := by rw [← HU0.out]; exact Fr.drew No wc
            have HFU := Lib.hid (hfx.no_trans hxu)
            have hbl : Blank u0 (P + 1) := (hxu.block _ (Array.getElem?_eq_some_iff.1 hrx).1 (fun e => e)).trans hrx
            have hob0 := (hxu.rd (Nat.le_refl _) hob).more hxu.size
            have hrb0 := ((HF.out.no_trans HFU.out).rd (Nat.le_refl _) HRB.out).more (HF.out.no_trans HFU.out).size
            have hdu := (hxu.block _ (Array.getElem?_eq_some_iff.1 hdx).1 (fun e => e)).trans hdx
            have hfu := (hxu.block _ (Array.getElem?_eq_some_iff.1 hfb).1 (fun e => e)).trans hfb
            have e0 : u0.cell? ⟨P, 0, none⟩ = some (.int .i64 (S.mo : Int)) := by unfold World.cell?; rw [hdu]; rfl
            have e1 : u0.cell? ⟨P, 1, none⟩ = some (.slice A fs.length c) := by unfold World.cell?; rw [hdu]; rfl
            have e2 : u0.cell? ⟨P, 2, none⟩ = some (.int .i64 lf) := by unfold World.cell?; rw [hdu]; rfl
            have e3 : u0.cell? ⟨P, 3, none⟩ = some (.bool false) := by unfold World.cell?; rw [hdu]; rfl
            have e4 : u0.cell? ⟨FB, 1, none⟩ = some (.slice OA on oc) := by unfold World.cell?; rw [hfu]; rfl
            have e5 : u0.cell? ⟨FB, 2, none⟩ = some (.int .i64 (ofm : Int)) := by unfold World.cell?; rw [hfu]; rfl
            have HQ : Hid (∀ W, Fr (fun k => k = P + 1) u0 W → W.cell? ⟨P, 0, none⟩ = some (.int .i64 (S.mo : Int)) ∧ W.cell? ⟨P, 1, none⟩ = some (.slice A fs.length c) ∧ W.cell? ⟨P, 2, none⟩ = some (.int .i64 lf) ∧ W.cell? ⟨P, 3, none⟩ = some (.bool false) ∧ W.cell? ⟨FB, 1, none⟩ = some (.slice OA on oc) ∧ W.cell? ⟨FB, 2, none⟩ = some (.int .i64 (ofm : Int)) ∧ Rd W W.heap.size OA on ob ∧ Rd W W.heap.size B n l) := fun W hW => by
              have hP : P ≠ P + 1 := by omega
              have hF' : FB ≠ P + 1 := by have := HPF.out; omega
              exact ⟨hW.cell e0 hP, hW.cell e1 hP, hW.cell e2 hP, hW.cell e3 hP, hW.cell e4 hF', hW.cell e5 hF', hbl.rd hW hob0, hbl.rd hW hrb0⟩
            obtain ⟨c9, w9, hcv, hrd9, hf9⟩ := bytes_ofK u0 ⟨(ob ++ l).toArray⟩
            have hsz : (⟨(ob ++ l).toArray⟩ : ByteArray).size = k2 := by
              show (ob ++ l).toArray.size = k2
              rw [List.size_toArray, List.length_append, HON.out, HNL.out, HKK.out]
            rw [hsz] at hcv hrd9
            have HR9 := Lib.hid (show Rd w9 w9.heap.size (some ⟨u0.heap.size, 0, none⟩) k2 (ob ++ l) from hrd9)
            have HF9 := Lib.hid hf9
            have HCV := Lib.hid hcv
            have HR3 := Lib.hid (fun W (hW : Fr No u0 W) => (hW.block _ (Array.getElem?_eq_some_iff.1 hbl).1 (fun e => e)).trans hbl)
            clear hfb hob hfx hrx hdx hxu hob0 hrb0 hdu hfu e0 e1 e2 e3 e4 e5 hsz hrd9 hf9 hcv
            refine wp_region_held_drew (S := fun W => Fr (fun k => k = P + 1) u0 W) (by kernel_rfl) (by rw [HU0.out]; exact Fr.refl _ _) (fun hHeld => ?_)
            rw [HU0.out] at hHeld ⊢
            refine wpAnyH_take (i := 0) (oi := _) (v := .agg #[.int .i64 (S.mo : Int), .slice A fs.length c, .int .i64 lf, .bool false]) rfl (by kernel_rfl) (by kernel_rfl) (by kernel_rfl) (fun _ _ _ h => h) (Or.inl ⟨by rfl, fun W hS => by obtain ⟨q0, q1, q2, q3, q4, q5, q6, q7⟩ := HQ.out W hS; go_simp⟩) hHeld ?_
            try simp only [Act.put, List.getElem_toArray, List.getElem_cons_zero, List.setIfInBounds_toArray, List.set_cons_zero, List.set_cons_succ]
            refine wpAnyH_take (i := 1) (oi := _) (v := .agg #[.int .i64 (S.mo : Int), .slice A fs.length c, .int .i64 lf, .bool false]) rfl (by kernel_rfl) (by kernel_rfl) (by kernel_rfl) (fun _ _ _ h => h) (Or.inl ⟨by rfl, fun W hS => by obtain ⟨q0, q1, q2, q3, q4, q5, q6, q7⟩ := HQ.out W hS; go_simp⟩) hHeld ?_
            try simp only [Act.put, List.getElem_toArray, List.getElem_cons_zero, List.getElem_cons_succ, List.setIfInBounds_toArray, List.set_cons_zero, List.set_cons_succ]
            refine wpAnyH_take (i := 2) (oi := _) (v := .string nm) rfl (by kernel_rfl) (by kernel_rfl) (by kernel_rfl) (fun _ _ _ h => h) (Or.inl ⟨by rfl, fun W hS => by rfl⟩) hHeld ?_
            try simp only [Act.put, List.getElem_toArray, List.getElem_cons_zero, List.getElem_cons_succ, List.setIfInBounds_toArray, List.set_cons_zero, List.set_cons_succ]
            refine wpAnyH_take (i := 3) (oi := _) (v := .pointer (some ⟨FB, 1, none⟩)) rfl (by kernel_rfl) (by kernel_rfl) (by kernel_rfl) (fun _ _ _ h => h) (Or.inl ⟨by rfl, fun W hS => by rfl⟩) hHeld ?_
            try simp only [Act.put, List.getElem_toArray, List.getElem_cons_zero, List.getElem_cons_succ, List.setIfInBounds_toArray, List.set_cons_zero, List.set_cons_succ]
            refine wpAnyH_take (i := 4) (oi := _) (v := .slice OA on oc) rfl (by kernel_rfl) (by kernel_rfl) (by kernel_rfl) (fun _ _ _ h => h) (Or.inl ⟨by rfl, fun W hS => by obtain ⟨q0, q1, q2, q3, q4, q5, q6, q7⟩ := HQ.out W hS; go_simp⟩) hHeld ?_
            try simp only [Act.put, List.getElem_toArray, List.getElem_cons_zero, List.getElem_cons_succ, List.setIfInBounds_toArray, List.set_cons_zero, List.set_cons_succ]
            refine wpAnyH_take (i := 5) (oi := _) (v := .string ⟨ob.toArray⟩) rfl (by kernel_rfl) (by kernel_rfl) (by kernel_rfl) (fun _ _ _ h => h) (Or.inl ⟨by rfl, fun W hS => by obtain ⟨q0, q1, q2, q3, q4, q5, q6, q7⟩ := HQ.out W hS; have s1 := str_rule oc q6; go_simp⟩) hHeld ?_
            try simp only [Act.put, List.getElem_toArray, List.getElem_cons_zero, List.getElem_cons_succ, List.setIfInBounds_toArray, List.set_cons_zero, List.set_cons_succ]
            refine wpAnyH_take (i := 6) (oi := _) (v := .slice B n cb) rfl (by kernel_rfl) (by kernel_rfl) (by kernel_rfl) (fun _ _ _ h => h) (Or.inl ⟨by rfl, fun W hS => by rfl⟩) hHeld ?_
            try simp only [Act.put, List.getElem_toArray, List.getElem_cons_zero, List.getElem_cons_succ, List.setIfInBounds_toArray, List.set_cons_zero, List.set_cons_succ]
            refine wpAnyH_take (i := 7) (oi := _) (v := .string ⟨l.toArray⟩) rfl (by kernel_rfl) (by kernel_rfl) (by kernel_rfl) (fun _ _ _ h => h) (Or.inl ⟨by rfl, fun W hS => by obtain ⟨q0, q1, q2, q3, q4, q5, q6, q7⟩ := HQ.out W hS; have s1 := str_rule cb q7; go_simp⟩) hHeld ?_
            try simp only [Act.put, List.getElem_toArray, List.getElem_cons_zero, List.getElem_cons_succ, List.setIfInBounds_toArray, List.set_cons_zero, List.set_cons_succ]
            refine wpAnyH_take (i := 8) (oi := _) (v := .string ⟨(ob ++ l).toArray⟩) rfl (by kernel_rfl) (by kernel_rfl) (by kernel_rfl) (fun _ _ _ h => h) (Or.inl ⟨by rfl, fun W hS => by rw [← cat_txtK]; go_simp; have h1 := HON.out; have h2 := HNL.out; have h3 := HK16.out; have h4 := HKK.out; omega⟩) hHeld ?_
            try simp only [Act.put, List.getElem_toArray, List.getElem_cons_zero, List.getElem_cons_succ, List.setIfInBounds_toArray, List.set_cons_zero, List.set_cons_succ]
            refine wpAnyH_take (i := 10) (oi := _) (v := .pointer (some ⟨FB, 1, none⟩)) rfl (by kernel_rfl) (by kernel_rfl) (by kernel_rfl) (fun _ _ _ h => h) (Or.inl ⟨by rfl, fun W hS => by rfl⟩) hHeld ?_
            try simp only [Act.put, List.getElem_toArray, List.getElem_cons_zero, List.getElem_cons_succ, List.setIfInBounds_toArray, List.set_cons_zero, List.set_cons_succ]
            refine wpAnyH_take (i := 11) (oi := _) (v := .slice OA on oc) rfl (by kernel_rfl) (by kernel_rfl) (by kernel_rfl) (fun _ _ _ h => h) (Or.inl ⟨by rfl, fun W hS => by obtain ⟨q0, q1, q2, q3, q4, q5, q6, q7⟩ := HQ.out W hS; go_simp⟩) hHeld ?_
            try simp only [Act.put, List.getElem_toArray, List.getElem_cons_zero, List.getElem_cons_succ, List.setIfInBounds_toArray, List.set_cons_zero, List.set_cons_succ]
            refine wpAnyH_take (i := 12) (oi := _) (v := .int .i64 (on : Int)) rfl (by kernel_rfl) (by kernel_rfl) (by kernel_rfl) (fun _ _ _ h => h) (Or.inl ⟨by rfl, fun W hS => by go_simp⟩) hHeld ?_
            try simp only [Act.put, List.getElem_toArray, List.getElem_cons_zero, List.getElem_cons_succ, List.setIfInBounds_toArray, List.set_cons_zero, List.set_cons_succ]
            refine wpAnyH_take (i := 13) (oi := _) (v := .slice B n cb) rfl (by kernel_rfl) (by kernel_rfl) (by kernel_rfl) (fun _ _ _ h => h) (Or.inl ⟨by rfl, fun W hS => by rfl⟩) hHeld ?_
            try simp only [Act.put, List.getElem_toArray, List.getElem_cons_zero, List.getElem_cons_succ, List.setIfInBounds_toArray, List.set_cons_zero, List.set_cons_succ]
            refine wpAnyH_take (i := 14) (oi := _) (v := .int .i64 (n : Int)) rfl (by kernel_rfl) (by kernel_rfl) (by kernel_rfl) (fun _ _ _ h => h) (Or.inl ⟨by rfl, fun W hS => by go_simp⟩) hHeld ?_
            try simp only [Act.put, List.getElem_toArray, List.getElem_cons_zero, List.getElem_cons_succ, List.setIfInBounds_toArray, List.set_cons_zero, List.set_cons_succ]
            refine wpAnyH_take (i := 15) (oi := _) (v := .int .i64 (k2 : Int)) rfl (by kernel_rfl) (by kernel_rfl) (by kernel_rfl) (fun _ _ _ h => h) (Or.inl ⟨by rfl, fun W hS => by go_simp⟩) hHeld ?_
            try simp only [Act.put, List.getElem_toArray, List.getElem_cons_zero, List.getElem_cons_succ, List.setIfInBounds_toArray, List.set_cons_zero, List.set_cons_succ]
            refine wpAnyH_take (i := 16) (oi := _) (v := .pointer (some ⟨FB, 2, none⟩)) rfl (by kernel_rfl) (by kernel_rfl) (by kernel_rfl) (fun _ _ _ h => h) (Or.inl ⟨by rfl, fun W hS => by rfl⟩) hHeld ?_
            try simp only [Act.put, List.getElem_toArray, List.getElem_cons_zero, List.getElem_cons_succ, List.setIfInBounds_toArray, List.set_cons_zero, List.set_cons_succ]
            refine wpAnyH_take (i := 17) (oi := _) (v := .int .i64 (ofm : Int)) rfl (by kernel_rfl) (by kernel_rfl) (by kernel_rfl) (fun _ _ _ h => h) (Or.inl ⟨by rfl, fun W hS => by obtain ⟨q0, q1, q2, q3, q4, q5, q6, q7⟩ := HQ.out W hS; go_simp⟩) hHeld ?_
            try simp only [Act.put, List.getElem_toArray, List.getElem_cons_zero, List.getElem_cons_succ, List.setIfInBounds_toArray, List.set_cons_zero, List.set_cons_succ]
            have hcv := HCV.out
            refine wpAnyH_ready (rs := [9]) (by kernel_rfl) (by simp) ?_
            refine AllReadyH.cons (o := _) rfl (fun K hK => ?_) AllReadyH.nil
            rw [if_pos (by rfl)]
            go_wp2_with fail
            refine hK.out _ _ (hHeld.trans HF9.out (fun _ _ e => e.elim)) (fun hHeld => ?_)
            clear hK K hcv
            try simp only [Act.put, List.getElem_toArray, List.getElem_cons_zero, List.getElem_cons_succ, List.setIfInBounds_toArray, List.set_cons_zero, List.set_cons_succ]
            refine wpAnyH_ready (rs := [18]) (by kernel_rfl) (by simp) ?_
            refine AllReadyH.cons (o := _) rfl (fun K hK => ?_) AllReadyH.nil
            rw [if_pos (by rfl)]
            go_wp2_with fail
            refine (HFI.out _ _ _ (HFU.out.no_trans HF9.out) HR9.out).mono ?_
            rintro e w2 ⟨X, c1', rfl, hr2, hf2, hn2⟩
            have HNX := Lib.hid hn2
            clear hn2
            have HRX := Lib.hid hr2
            have HF2 := Lib.hid ((HFU.out.no_trans HF9.out).no_trans hf2)
            have HG2 := Lib.hid (HF9.out.no_trans hf2)
            refine hK.out _ _ (hHeld.trans hf2 (fun _ _ e => e.elim)) (fun hHeld => ?_)
            clear hK K hr2 hf2
            try simp only [Act.put, List.getElem_toArray, List.getElem_cons_zero, List.getElem_cons_succ, List.setIfInBounds_toArray, List.set_cons_zero, List.set_cons_succ]
            refine wpAnyH_ready (rs := [19]) (by kernel_rfl) (by simp) ?_
            refine AllReadyH.cons (o := _) rfl (fun K hK => ?_) AllReadyH.nil
            rw [if_pos (by rfl)]
            go_wp2_with fail
            refine (HPU.out _ _ _ HF2.out HRX.out).mono ?_
            rintro e w5 ⟨A2, c2', rfl, hk5, hf5, hn5⟩
            have HN5 := Lib.hid hn5
            clear hn5
            have HK5 := Lib.hid hk5
            have HF5 := Lib.hid (HF2.out.no_trans hf5)
            have HG5 := Lib.hid (HG2.out.no_trans hf5)
            refine hK.out _ _ (hHeld.trans hf5 (fun _ _ e => e.elim)) (fun hHeld => ?_)
            clear hK K hk5 hf5
            try simp only [Act.put, List.getElem_toArray, List.getElem_cons_zero, List.getElem_cons_succ, List.setIfInBounds_toArray, List.set_cons_zero, List.set_cons_succ]
            refine wpAnyH_ready (rs := [20]) (by kernel_rfl) (by simp) ?_
            refine AllReadyH.cons (o := _) rfl (fun K hK => ?_) AllReadyH.nil
            rw [if_pos (by rfl)]
            go_wp2_with fail
            refine (HST.out _ _ _ _ _ HF5.out HK5.out HNX.out HN5.out).mono ?_
            rintro e w3 ⟨v3, rfl, hv3, hf3⟩
            have HV3 := Lib.hid hv3
            have HF3 := Lib.hid (HF5.out.no_trans hf3)
            have hR3 := HR3.out _ (HG5.out.no_trans hf3)
            refine hK.out _ _ (hHeld.trans hf3 (fun _ _ e => e.elim)) (fun hHeld => ?_)
            obtain ⟨A3, c3, fs3, rfl, _, _, _, _⟩ := hv3
            clear hK K hf3
            try simp only [Act.put, List.getElem_toArray, List.getElem_cons_zero, List.getElem_cons_succ, List.setIfInBounds_toArray, List.set_cons_zero, List.set_cons_succ]
            refine wpAnyH_take (i := 21) (oi := _) (v := .agg #[.int .i64 (S'.mo : Int), .slice A3 fs3.length c3, .int .i64 (if S'.bd then (S'.lf : Int) else -1), .bool S'.fl]) rfl (by kernel_rfl) (by kernel_rfl) (by kernel_rfl) (fun _ _ _ h => h) (Or.inl ⟨by rfl, fun W hS => by rfl⟩) hHeld ?_
            try simp only [Act.put, List.getElem_toArray, List.getElem_cons_zero, List.getElem_cons_succ, List.setIfInBounds_toArray, List.set_cons_zero, List.set_cons_succ]
            refine wpAnyH_take (i := 22) (oi := _) (v := .int .i64 x) rfl (by kernel_rfl) (by kernel_rfl) (by kernel_rfl) (fun _ _ _ h => h) (Or.inl ⟨by rfl, fun W hS => by rfl⟩) hHeld ?_
            try simp only [Act.put, List.getElem_toArray, List.getElem_cons_zero, List.getElem_cons_succ, List.setIfInBounds_toArray, List.set_cons_zero, List.set_cons_succ]
            have r0 : w3.cell? ⟨P + 1, 0, none⟩ = some (.int .i64 0) := by unfold World.cell?; rw [hR3]; rfl
            have r1 : w3.cell? ⟨P + 1, 1, none⟩ = some (.slice none 0 0) := by unfold World.cell?; rw [hR3]; rfl
            have r2 : w3.cell? ⟨P + 1, 2, none⟩ = some (.int .i64 0) := by unfold World.cell?; rw [hR3]; rfl
            have r3 : w3.cell? ⟨P + 1, 3, none⟩ = some (.bool false) := by unfold World.cell?; rw [hR3]; rfl
            have z0 : w3.frozen? ⟨P + 1, 0, none⟩ = false := by unfold World.frozen?; rw [hR3]; rfl
            have z1 : w3.frozen? ⟨P + 1, 1, none⟩ = false := by unfold World.frozen?; rw [hR3]; rfl
            have z2 : w3.frozen? ⟨P + 1, 2, none⟩ = false := by unfold World.frozen?; rw [hR3]; rfl
            have z3 : w3.frozen? ⟨P + 1, 3, none⟩ = false := by unfold World.frozen?; rw [hR3]; rfl
            obtain ⟨l3, hl3⟩ : ∃ l3 : Int, (if S'.bd then (S'.lf : Int) else -1) = l3 := ⟨_, rfl⟩
            rw [hl3] at HV3 ⊢
            clear hl3
            refine wpAnyH_ready (rs := [23]) (by kernel_rfl) (by simp) ?_
            refine AllReadyH.cons (o := _) rfl (fun K hK => ?_) AllReadyH.nil
            rw [if_pos (by rfl)]
            go_wp2_with fail
            have h4 := four_set hR3 (.int .i64 (S'.mo : Int)) (.slice A3 fs3.length c3) (.int .i64 l3) (.bool S'.fl)
            have H4 := Lib.hid h4
            refine hK.out _ _ (hHeld.trans h4.2 (fun _ _ e => e)) (fun hHeld => ?_)
            clear hK K
            try simp only [Act.put, List.getElem_toArray, List.getElem_cons_zero, List.getElem_cons_succ, List.setIfInBounds_toArray, List.set_cons_zero, List.set_cons_succ]
            obtain ⟨w4, hw4⟩ : ∃ w4, (((w3.setCell ⟨P + 1, 0, none⟩ (.int .i64 (S'.mo : Int))).setCell ⟨P + 1, 1, none⟩ (.slice A3 fs3.length c3)).setCell ⟨P + 1, 2, none⟩ (.int .i64 l3)).setCell ⟨P + 1, 3, none⟩ (.bool S'.fl) = w4 := ⟨_, rfl⟩
            rw [hw4] at H4 hHeld ⊢
            clear hw4 h4
            refine wpAnyH_take (i := 24) (oi := _) (v := .int .i64 x) rfl (by kernel_rfl) (by kernel_rfl) (by kernel_rfl) (fun _ _ _ h => h) (Or.inl ⟨by rfl, fun W hS => by rfl⟩) hHeld ?_
            try simp only [Act.put, List.getElem_toArray, List.getElem_cons_zero, List.getElem_cons_succ, List.setIfInBounds_toArray, List.set_cons_zero, List.set_cons_succ]
            refine wpAnyH_done (by kernel_rfl) ?_ _
            clear hHeld
            go_wp2_with fail
            refine bodyPost_ret (results_cell_tmp_row (p := 6) rfl _ _ (P + 1) 29 #[.int .i64 (S'.mo : Int), .slice A3 fs3.length c3, .int .i64 l3, .bool S'.fl] (0, 0) _ rfl H4.out.1 Try.underlying29 rfl (by kernel_rfl)) rfl ?_
            have hfr := (HF.out.no_trans HF3.out).trans H4.out.2 (fun k hk e => by have := HP.out; omega)
            have her := HE.out
            refine ⟨.agg #[.int .i64 (S'.mo : Int), .slice A3 fs3.length c3, .int .i64 l3, .bool S'.fl], by rw [her]; rfl, ?_, hfr⟩
            rw [her]
            exact HV3.out.blank hR3 H4.out.2
end
end Go.Proofs.Ytnkgcafebmacjaa

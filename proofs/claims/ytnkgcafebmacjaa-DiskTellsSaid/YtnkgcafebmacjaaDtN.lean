/-
  The document's disk as the plain state that the program's disk has: Rename. No statement of the seat is proved here.
-/
import Derived.Test.YtnkgcafebmacjaaDtM
namespace Go.Proofs.Ytnkgcafebmacjaa
open Go.RowKit Go.Maps

theorem adel_lt {nm : List UInt8} {fs : List Af} {g : Af} (h : afnd nm fs = some g) : (adel nm fs).length < fs.length := by
  obtain ⟨h1, h2⟩ := afnd_some h
  unfold adel
  rw [List.length_filter_lt_length_iff_exists]
  exact ⟨g, h1, by simp [h2]⟩
section
variable {w : World} {S : Ab}
set_option maxHeartbeats 4000000 in
set_option maxRecDepth 100000 in
/-- Rename, as the plain state has it. -/
theorem rv_rename {F : Nat → Prop} {v : Value} (hF : ∀ k, F k → k < w.heap.size) (hb : S.lf ≤ 9223372036854775807) (h : Rv F w v S) (nm ts : ByteArray) (hs : ts.size ≤ 9223372036854775000) :
    Calls Try.prog 13 #[v, .string nm, .string ts] w fun e w' =>
      ∃ v', e = .returned (.tuple #[v', .int .i64 (S.rename nm.data.toList ts.data.toList).1]) ∧ Rv F w' v' (S.rename nm.data.toList ts.data.toList).2 ∧ Fr No w w' := by
  obtain ⟨A, c, fs, rfl, hk, hm, hr, hl, ho⟩ := h
  have HOO := Lib.hid ho
  have HNF := Lib.hid hF
  clear ho hF
  have HM := Lib.hid hm
  have HR := Lib.hid hr
  have HL := Lib.hid hl
  have HB := Lib.hid hb
  obtain ⟨lf, HLF⟩ : ∃ lf : Int, Hid ((if S.bd then (S.lf : Int) else -1) = lf) := ⟨_, rfl⟩
  have HV0 := Lib.hid (show Rv F w (.agg #[.int .i64 (S.mo : Int), .slice A fs.length c, .int .i64 lf, .bool S.fl]) S from by rw [← HLF.out]; exact ⟨A, c, fs, rfl, hk, hm, hr, hl, HOO.out⟩)
  rw [HLF.out]
  have hf0 : Fr No w ((w.alloc (.cells #[.int .i64 (S.mo : Int), .slice A fs.length c, .int .i64 lf, .bool S.fl] 29)).alloc (.cells #[.int .i64 0, .slice none 0 0, .int .i64 0, .bool false] 29)) := (Fr.alloc No w _).no_trans (Fr.alloc No _ _)
  have HAS := Lib.hid (rask_any (c := c) (hk.no hf0) (by omega) (S.mo : Int) lf S.fl nm)
  have HF0 := Lib.hid hf0
  have HK := Lib.hid hk
  clear hk hm hr hl hb hf0
  go_enter Try.func13, Try.ntmps13
  go_wp2_with fail
  refine HAS.out.mono ?_
  rintro e w1 ⟨z, rfl, hf, hz⟩
  obtain ⟨P, HP⟩ : ∃ P, Hid (w.heap.size = P) := ⟨_, rfl⟩
  have hD : w1.heap[P]? = some (.cells #[.int .i64 (S.mo : Int), .slice A fs.length c, .int .i64 lf, .bool S.fl] 29 (0, 0)) := by
    rw [← HP.out]
    exact (hf.block _ (by simp; omega) (fun e => e)).trans ((Below.heap_alloc _ _ _ (by simp)).trans (heap_alloc_new w _))
  have hR2 : w1.heap[P + 1]? = some (.cells #[.int .i64 0, .slice none 0 0, .int .i64 0, .bool false] 29 (0, 0)) := by
    rw [← HP.out]
    exact (hf.block _ (by simp) (fun e => e)).trans (heap2' w _ _)
  have HF := Lib.hid (HF0.out.no_trans hf)
  have HK1 := Lib.hid (HK.out.no HF.out)
  have HZ := Lib.hid (ask_ab HM.out HR.out hz)
  clear hz hf HAS HF0
  rw [HP.out]
  have HR2 := Lib.hid hR2
  have d0 : w1.cell? ⟨P, 0, none⟩ = some (.int .i64 (S.mo : Int)) := by unfold World.cell?; rw [hD]; rfl
  have d1 : w1.cell? ⟨P, 1, none⟩ = some (.slice A fs.length c) := by unfold World.cell?; rw [hD]; rfl
  have d2 : w1.cell? ⟨P, 2, none⟩ = some (.int .i64 lf) := by unfold World.cell?; rw [hD]; rfl
  have d3 : w1.cell? ⟨P, 3, none⟩ = some (.bool S.fl) := by unfold World.cell?; rw [hD]; rfl
  have r0 : w1.cell? ⟨P + 1, 0, none⟩ = some (.int .i64 0) := by unfold World.cell?; rw [hR2]; rfl
  have z0 : w1.frozen? ⟨P + 1, 0, none⟩ = false := by unfold World.frozen?; rw [hR2]; rfl
  have r1 : w1.cell? ⟨P + 1, 1, none⟩ = some (.slice none 0 0) := by unfold World.cell?; rw [hR2]; rfl
  have z1 : w1.frozen? ⟨P + 1, 1, none⟩ = false := by unfold World.frozen?; rw [hR2]; rfl
  have r2 : w1.cell? ⟨P + 1, 2, none⟩ = some (.int .i64 0) := by unfold World.cell?; rw [hR2]; rfl
  have z2 : w1.frozen? ⟨P + 1, 2, none⟩ = false := by unfold World.frozen?; rw [hR2]; rfl
  have r3 : w1.cell? ⟨P + 1, 3, none⟩ = some (.bool false) := by unfold World.cell?; rw [hR2]; rfl
  have z3 : w1.frozen? ⟨P + 1, 3, none⟩ = false := by unfold World.frozen?; rw [hR2]; rfl
  cases hfl : S.fl with
  | true =>
    have he : S.rename nm.data.toList ts.data.toList = (15, S) := by unfold Ab.rename Ab.err; rw [hfl]; rfl
    rw [hfl] at hD d3
    go_wp2_with fail
    refine bodyPost_ret (results_cell_tmp_row (p := 6) rfl _ _ (P + 1) 29 #[.int .i64 (S.mo : Int), .slice A fs.length c, .int .i64 lf, .bool true] (0, 0) _ rfl (four_set hR2 _ _ _ _).1 Try.underlying29 rfl (by kernel_rfl)) rfl ?_
    have hfr := HF.out.trans (four_set hR2 (.int .i64 (S.mo : Int)) (.slice A fs.length c) (.int .i64 lf) (.bool true)).2 (fun k hk e => by have := HP.out; omega)
    have hv := HV0.out.no hfr
    rw [hfl] at hv
    exact ⟨.agg #[.int .i64 (S.mo : Int), .slice A fs.length c, .int .i64 lf, .bool true], by rw [he]; rfl, by rw [he]; exact hv, hfr⟩
  | false =>
    rw [hfl] at hD d3
    have HFL := Lib.hid hfl
    have hvs := HV0.out
    rw [hfl] at hvs
    have HVS := Lib.hid hvs
    clear hvs
    rcases HZ.out with ⟨rfl, hno⟩ | ⟨i, f, hi, hfn, rfl, haf, hao⟩
    · have he : S.rename nm.data.toList ts.data.toList = (13, S) := by unfold Ab.rename Ab.err; rw [hfl, hno]; rfl
      have hd : (if false = true then (15 : Int) else if (-1 : Int) < 0 then 13 else 0) = 13 := rfl
      rw [hd]
      go_wp2_with fail
      refine bodyPost_ret (results_cell_tmp_row (p := 6) rfl _ _ (P + 1) 29 #[.int .i64 (S.mo : Int), .slice A fs.length c, .int .i64 lf, .bool false] (0, 0) _ rfl (four_set hR2 _ _ _ _).1 Try.underlying29 rfl (by kernel_rfl)) rfl ?_
      have hfr := HF.out.trans (four_set hR2 (.int .i64 (S.mo : Int)) (.slice A fs.length c) (.int .i64 lf) (.bool false)).2 (fun k hk e => by have := HP.out; omega)
      exact ⟨.agg #[.int .i64 (S.mo : Int), .slice A fs.length c, .int .i64 lf, .bool false], by rw [he]; rfl, by rw [he]; exact HVS.out.no hfr, hfr⟩
    · have he0 : S.err nm.data.toList = 0 := by unfold Ab.err; rw [hfl, haf]; rfl
      have hd : (if false = true then (15 : Int) else if ((i : Nat) : Int) < 0 then 13 else 0) = 0 := by
        rw [if_neg (by simp), if_neg (by omega)]
      rw [hd]
      clear hd
      go_wp2_with fail
      refine (right_any ts w1 hs).mono ?_
      intro e w1' hh
      obtain ⟨rfl, hw⟩ := hh
      subst hw
      cases hnm : isNm ts.data.toList with
      | false =>
        have he : S.rename nm.data.toList ts.data.toList = (13, S) := by unfold Ab.rename; rw [he0, if_neg (by simp), hnm]; rfl
        go_wp2_with fail
        refine bodyPost_ret (results_cell_tmp_row (p := 6) rfl _ _ (P + 1) 29 #[.int .i64 (S.mo : Int), .slice A fs.length c, .int .i64 lf, .bool false] (0, 0) _ rfl (four_set hR2 _ _ _ _).1 Try.underlying29 rfl (by kernel_rfl)) rfl ?_
        have hfr := HF.out.trans (four_set hR2 (.int .i64 (S.mo : Int)) (.slice A fs.length c) (.int .i64 lf) (.bool false)).2 (fun k hk e => by have := HP.out; omega)
        exact ⟨.agg #[.int .i64 (S.mo : Int), .slice A fs.length c, .int .i64 lf, .bool false], by rw [he]; rfl, by rw [he]; exact HVS.out.no hfr, hfr⟩
      | true =>
        have hre : S.rename nm.data.toList ts.data.toList = (if S.fails then 15 else 0, if S.fails then S.step else { S.step with fs := aput ⟨ts.data.toList, f.bs, f.fm⟩ (adel nm.data.toList S.fs) }) := by
          unfold Ab.rename
          rw [he0, if_neg (by simp), hnm, hao]
          cases S.fails <;> rfl
        obtain ⟨x, HX⟩ : ∃ x : Int, Hid ((if S.fails then 15 else 0) = x) := ⟨_, rfl⟩
        obtain ⟨S', HS'⟩ : ∃ S', Hid ((if S.fails then S.step else { S.step with fs := aput ⟨ts.data.toList, f.bs, f.fm⟩ (adel nm.data.toList S.fs) }) = S') := ⟨_, rfl⟩
        rw [HX.out, HS'.out] at hre
        have HE := Lib.hid hre
        have hin : i < fs.length := (List.getElem?_eq_some_iff.1 hi).1
        obtain ⟨b, o, hA, hb, hc⟩ := HK1.out.at_ (by omega)
        subst hA
        obtain ⟨c0, c1, c2⟩ := hc i f hi
        have hi1 : (i : Int) < (fs.length : Int) := by omega
        have hi0 : (0 : Int) ≤ (i : Int) := by omega
        obtain ⟨L1, HL1⟩ : ∃ L1, Hid (losF f.nm fs ++ (if true then [] else [f]) ++ hisF f.nm fs = L1) := ⟨_, rfl⟩
        have hm1 : L1.map Fl.ab = adel nm.data.toList S.fs := by
          rw [← HL1.out, List.map_append, List.map_append, los_ab, his_ab, HM.out, if_pos rfl, List.map_nil, List.append_nil, rdrop_ab HR.out, hfn]
        have hlt := adel_lt haf
        have hs0 : (fs.map Fl.ab).length = S.fs.length := by rw [HM.out]
        rw [List.length_map] at hs0
        have hl1 : L1.length < 200 := by
          have h1 : (L1.map Fl.ab).length = (adel nm.data.toList S.fs).length := by rw [hm1]
          rw [List.length_map] at h1
          have := HL.out
          omega
        obtain ⟨L2, HL2⟩ : ∃ L2, Hid (losF ts.data.toList L1 ++ (if false then [] else [(⟨ts.data.toList, f.A, f.c, f.bs, f.fm⟩ : Fl)]) ++ hisF ts.data.toList L1 = L2) := ⟨_, rfl⟩
        have hm2 : L2.map Fl.ab = aput ⟨ts.data.toList, f.bs, f.fm⟩ (adel nm.data.toList S.fs) := by
          rw [← HL2.out, List.map_append, List.map_append, los_ab, his_ab, hm1, if_neg (by simp)]
          exact rput_ab (f := ⟨ts.data.toList, f.bs, f.fm⟩) (ris_del HR.out)
        have hl2 : L2.length ≤ 200 := by
          have h1 : (L2.map Fl.ab).length = _ := congrArg List.length hm2
          rw [List.length_map] at h1
          have h2 := aput_len1 ⟨ts.data.toList, f.bs, f.fm⟩ (adel nm.data.toList S.fs)
          have := HL.out
          omega
        have hrd : ∀ W, Fr No w1 W → Rd W W.heap.size f.A f.bs.length f.bs := fun W hW => (hW.rd (Nat.le_refl _) (HK1.out.rd f (List.mem_of_getElem? hi))).more hW.size
        have hpu : ∀ W, Fr No w1 W → Calls Try.prog 42 #[.agg #[.int .i64 (S.mo : Int), .slice (some ⟨b, o, none⟩) fs.length c, .int .i64 lf, .bool false], .agg #[.string ⟨f.nm.toArray⟩, .slice f.A f.bs.length f.c, .int .i64 (f.fm : Int)], .bool true] W (PutF W (S.mo : Int) lf false L1) := fun W hW => by
          rw [← HL1.out]
          exact rput_fr (HK1.out.no hW) (by have := HL.out; omega) (S.mo : Int) lf false f (hrd W hW) true
        have hp2 : ∀ W A2 c2, Fr No w1 W → Rk W A2 L1.length L1 → Calls Try.prog 42 #[.agg #[.int .i64 (S.mo : Int), .slice A2 L1.length c2, .int .i64 lf, .bool false], .agg #[.string ts, .slice f.A f.bs.length f.c, .int .i64 (f.fm : Int)], .bool false] W (PutN F W (S.mo : Int) lf false L2) := fun W A2 c2 hW hk2 => by
          rw [← HL2.out]
          exact rput_n HNF.out (Nat.le_trans HF.out.size hW.size) hk2 (by omega) (S.mo : Int) lf false (⟨ts.data.toList, f.A, f.c, f.bs, f.fm⟩ : Fl) (hrd W hW) false
        have hst : ∀ W (A2 : Option Addr) (c2 : Nat), Fr No w1 W → Rk W A2 L2.length L2 → Nf F A2 → Calls Try.prog 41 #[.agg #[.int .i64 (S.mo : Int), .slice (some ⟨b, o, none⟩) fs.length c, .int .i64 lf, .bool false], .agg #[.int .i64 (S.mo : Int), .slice A2 L2.length c2, .int .i64 lf, .bool false]] W fun e w' =>
            ∃ v, e = .returned (.tuple #[v, .int .i64 x]) ∧ Rv F w' v S' ∧ Fr No W w' := fun W A2 c2 hW hk2 hn2 => by
          have := rv_step (c := c) (c2 := c2) HB.out (HK1.out.no hW) HM.out HR.out HL.out hk2 hm2 (ris_put (ris_del HR.out)) hl2 HOO.out ⟨fun _ => hn2, by rw [← HL2.out]; exact off_put (by rw [← HL1.out]; exact off_put HOO.out.2 f.nm (fun g hg => by cases hg)) ts.data.toList (off_one (HOO.out.2 f (List.mem_of_getElem? hi)))⟩
          rw [hfl, HLF.out, HX.out, HS'.out] at this
          exact this
        have HPU := Lib.hid hpu
        have HP2 := Lib.hid hp2
        have HST := Lib.hid hst
        have HR2 := Lib.hid hR2
        have HDD := Lib.hid hD
        clear hpu hp2 hst hre hm1 hm2 hl2 hlt hs0 hc haf hao hi hfn he0 hnm hrd
        go_upto_region 7 with fail
        obtain ⟨FB, hFB⟩ : ∃ u, w1.heap.size = u := ⟨_, rfl⟩
        have hfa := Fr.alloc No w1 (.cells #[.string ⟨f.nm.toArray⟩, .slice f.A f.bs.length f.c, .int .i64 (f.fm : Int)] 73)
        have hF7 := heap_alloc_new w1 (.cells #[.string ⟨f.nm.toArray⟩, .slice f.A f.bs.length f.c, .int .i64 (f.fm : Int)] 73)
        have hPF : P + 1 < FB := by rw [← hFB]; exact (Array.getElem?_eq_some_iff.1 hR2).1
        rw [hFB] at hF7 ⊢
        obtain ⟨w7, hw7⟩ : ∃ u, w1.alloc (.cells #[.string ⟨f.nm.toArray⟩, .slice f.A f.bs.length f.c, .int .i64 (f.fm : Int)] 73) = u := ⟨_, rfl⟩
        rw [hw7] at hfa hF7 ⊢
        have HFW := Lib.hid (show w1.heap.size = FB from hFB)
        clear hw7 hFB
        have HF7 := Lib.hid hfa
        have HFB := Lib.hid hF7
        have HPF := Lib.hid hPF
        have hD7 := (hfa.block _ (Array.getElem?_eq_some_iff.1 hD).1 (fun e => e)).trans hD
        have e0 : w7.cell? ⟨P, 0, none⟩ = some (.int .i64 (S.mo : Int)) := by unfold World.cell?; rw [hD7]; rfl
        have e1 : w7.cell? ⟨P, 1, none⟩ = some (.slice (some ⟨b, o, none⟩) fs.length c) := by unfold World.cell?; rw [hD7]; rfl
        have e2 : w7.cell? ⟨P, 2, none⟩ = some (.int .i64 lf) := by unfold World.cell?; rw [hD7]; rfl
        have e3 : w7.cell? ⟨P, 3, none⟩ = some (.bool false) := by unfold World.cell?; rw [hD7]; rfl
        have f0 : w7.cell? ⟨FB, 0, none⟩ = some (.string ⟨f.nm.toArray⟩) := by unfold World.cell?; rw [hF7]; rfl
        have f1 : w7.cell? ⟨FB, 1, none⟩ = some (.slice f.A f.bs.length f.c) := by unfold World.cell?; rw [hF7]; rfl
        have f2 : w7.cell? ⟨FB, 2, none⟩ = some (.int .i64 (f.fm : Int)) := by unfold World.cell?; rw [hF7]; rfl
        clear hfa hF7 hPF hD7 d0 d1 d2 d3 r0 r1 r2 r3 z0 z1 z2 z3 c0 c1 c2 hD hR2
        go_wp2_with fail
        refine (HPU.out w7 HF7.out).mono ?_
        rintro e w8 ⟨A2, c2, rfl, hk8, hf8, hA8⟩
        have HA8 := Lib.hid hA8
        have hT := heap_alloc_new w8 (.cells #[.int .i64 (S.mo : Int), .slice A2 L1.length c2, .int .i64 lf, .bool false] 29)
        have hfT := Fr.alloc No w8 (.cells #[.int .i64 (S.mo : Int), .slice A2 L1.length c2, .int .i64 lf, .bool false] 29)
        have hF8 := ((hf8.no_trans hfT).block _ (Array.getElem?_eq_some_iff.1 HFB.out).1 (fun e => e)).trans HFB.out
        have HF8 := Lib.hid (HF7.out.no_trans (hf8.no_trans hfT))
        have HK8 := Lib.hid (hk8.no hfT)
        have HTF := Lib.hid (show FB < w8.heap.size from Nat.lt_of_lt_of_le (Array.getElem?_eq_some_iff.1 HFB.out).1 hf8.size)
        obtain ⟨TB, hTB⟩ : ∃ u, w8.heap.size = u := ⟨_, rfl⟩
        rw [hTB] at hT HTF
        clear hk8 hf8 hfT hA8 e0 e1 e2 e3 f0 f1 f2
        go_upto_region 8 with fail
        try rw [hTB]
        obtain ⟨w9, hw9⟩ : ∃ u, w8.alloc (.cells #[.int .i64 (S.mo : Int), .slice A2 L1.length c2, .int .i64 lf, .bool false] 29) = u := ⟨_, rfl⟩
        rw [hw9] at hT hF8 HF8 HK8 ⊢
        clear hw9 hTB
        have HT := Lib.hid hT
        have HF9 := Lib.hid hF8
        have f0 : w9.cell? ⟨FB, 0, none⟩ = some (.string ⟨f.nm.toArray⟩) := by unfold World.cell?; rw [hF8]; rfl
        have g0 : w9.frozen? ⟨FB, 0, none⟩ = false := by unfold World.frozen?; rw [hF8]; rfl
        clear hT hF8
        go_upto_region 9 with fail
        have hsF := Fr.setCell w9 ⟨FB, 0, none⟩ (.string ts) (F := fun k => k = FB) rfl
        have hF10 := heap_cells_set _ FB 0 _ _ (.string ts) HF9.out
        have hF10 : (w9.setCell ⟨FB, 0, none⟩ (.string ts)).heap[FB]? = some (.cells #[.string ts, .slice f.A f.bs.length f.c, .int .i64 (f.fm : Int)] 73 (0, 0)) := hF10
        have hall : Fr No w1 (w9.setCell ⟨FB, 0, none⟩ (.string ts)) := HF8.out.trans hsF (fun k hk e => by have := HFW.out; omega)
        have HALL := Lib.hid hall
        have HF10 := Lib.hid hF10
        have hD10 := (hall.block _ (Array.getElem?_eq_some_iff.1 HDD.out).1 (fun e => e)).trans HDD.out
        have hR10 := (hall.block _ (Array.getElem?_eq_some_iff.1 HR2.out).1 (fun e => e)).trans HR2.out
        have hT10 := (hsF.block _ (Array.getElem?_eq_some_iff.1 HT.out).1 (fun e => by have := HTF.out; omega)).trans HT.out
        have hK10 : Rk (w9.setCell ⟨FB, 0, none⟩ (.string ts)) A2 L1.length L1 := by
          refine ⟨rfl, fun h0 => ?_, fun g hg => (hall.rd (Nat.le_refl _) (HK1.out.rd g ?_)).more hall.size⟩
          · obtain ⟨b2, o2, hA2, hb2, hc2⟩ := HK8.out.at_ h0
            have hne : b2 ≠ FB := by
              have h1 : w7.heap.size ≤ b2 := HA8.out _ hA2
              have h2 := (Array.getElem?_eq_some_iff.1 HFB.out).1
              omega
            refine ⟨b2, o2, hA2, Nat.lt_of_lt_of_le hb2 hsF.size, fun j g hj => ?_⟩
            obtain ⟨q0, q1, q2⟩ := hc2 j g hj
            exact ⟨hsF.cell q0 hne, hsF.cell q1 hne, hsF.cell q2 hne⟩
          · rw [← HL1.out] at hg
            rcases List.mem_append.1 hg with hg | hg
            · rcases List.mem_append.1 hg with hg | hg
              · exact (List.mem_filter.1 hg).1
              · simp at hg
            · exact (List.mem_filter.1 hg).1
        have HK10 := Lib.hid hK10
        clear f0 g0 hsF hall hF10
        obtain ⟨w10, hw10⟩ : ∃ u, w9.setCell ⟨FB, 0, none⟩ (.string ts) = u := ⟨_, rfl⟩
        rw [hw10] at HALL HF10 hD10 hR10 hT10 HK10 ⊢
        clear hw10 hK10
        obtain ⟨u0, HU0⟩ : ∃ u, Hid (w10.drew = u) := ⟨_, rfl⟩
        have hxu : Fr No w10 u0 := by rw [← HU0.out]; exact Fr.drew No w10
        have HFU := Lib.hid (HALL.out.no_trans hxu)
        have hbl : Blank u0 (P + 1) := (hxu.block _ (Array.getElem?_eq_some_iff.1 hR10).1 (fun e => e)).trans hR10
        have hdu := (hxu.block _ (Array.getElem?_eq_some_iff.1 hD10).1 (fun e => e)).trans hD10
        have hfu := (hxu.block _ (Array.getElem?_eq_some_iff.1 HF10.out).1 (fun e => e)).trans HF10.out
        have htu := (hxu.block _ (Array.getElem?_eq_some_iff.1 hT10).1 (fun e => e)).trans hT10
        have HKU := Lib.hid (HK10.out.no hxu)
        have e0 : u0.cell? ⟨P, 0, none⟩ = some (.int .i64 (S.mo : Int)) := by unfold World.cell?; rw [hdu]; rfl
        have e1 : u0.cell? ⟨P, 1, none⟩ = some (.slice (some ⟨b, o, none⟩) fs.length c) := by unfold World.cell?; rw [hdu]; rfl
        have e2 : u0.cell? ⟨P, 2, none⟩ = some (.int .i64 lf) := by unfold World.cell?; rw [hdu]; rfl
        have e3 : u0.cell? ⟨P, 3, none⟩ = some (.bool false) := by unfold World.cell?; rw [hdu]; rfl
        have e4 : u0.cell? ⟨TB, 0, none⟩ = some (.int .i64 (S.mo : Int)) := by unfold World.cell?; rw [htu]; rfl
        have e5 : u0.cell? ⟨TB, 1, none⟩ = some (.slice A2 L1.length c2) := by unfold World.cell?; rw [htu]; rfl
        have e6 : u0.cell? ⟨TB, 2, none⟩ = some (.int .i64 lf) := by unfold World.cell?; rw [htu]; rfl
        have e7 : u0.cell? ⟨TB, 3, none⟩ = some (.bool false) := by unfold World.cell?; rw [htu]; rfl
        have e8 : u0.cell? ⟨FB, 0, none⟩ = some (.string ts) := by unfold World.cell?; rw [hfu]; rfl
        have e9 : u0.cell? ⟨FB, 1, none⟩ = some (.slice f.A f.bs.length f.c) := by unfold World.cell?; rw [hfu]; rfl
        have e10 : u0.cell? ⟨FB, 2, none⟩ = some (.int .i64 (f.fm : Int)) := by unfold World.cell?; rw [hfu]; rfl
        have HQ : Hid (∀ W, Fr (fun k => k = P + 1) u0 W → W.cell? ⟨P, 0, none⟩ = some (.int .i64 (S.mo : Int)) ∧ W.cell? ⟨P, 1, none⟩ = some (.slice (some ⟨b, o, none⟩) fs.length c) ∧ W.cell? ⟨P, 2, none⟩ = some (.int .i64 lf) ∧ W.cell? ⟨P, 3, none⟩ = some (.bool false) ∧ W.cell? ⟨TB, 0, none⟩ = some (.int .i64 (S.mo : Int)) ∧ W.cell? ⟨TB, 1, none⟩ = some (.slice A2 L1.length c2) ∧ W.cell? ⟨TB, 2, none⟩ = some (.int .i64 lf) ∧ W.cell? ⟨TB, 3, none⟩ = some (.bool false) ∧ W.cell? ⟨FB, 0, none⟩ = some (.string ts) ∧ W.cell? ⟨FB, 1, none⟩ = some (.slice f.A f.bs.length f.c) ∧ W.cell? ⟨FB, 2, none⟩ = some (.int .i64 (f.fm : Int))) := fun W hW => by
          have hP : P ≠ P + 1 := by omega
          have hF' : FB ≠ P + 1 := by have := HPF.out; omega
          have hT' : TB ≠ P + 1 := by have := HPF.out; have := HTF.out; omega
          exact ⟨hW.cell e0 hP, hW.cell e1 hP, hW.cell e2 hP, hW.cell e3 hP, hW.cell e4 hT', hW.cell e5 hT', hW.cell e6 hT', hW.cell e7 hT', hW.cell e8 hF', hW.cell e9 hF', hW.cell e10 hF'⟩
        have HR3 := Lib.hid (fun W (hW : Fr No u0 W) => (hW.block _ (Array.getElem?_eq_some_iff.1 hbl).1 (fun e => e)).trans hbl)
        clear hdu hfu htu e0 e1 e2 e3 e4 e5 e6 e7 e8 e9 e10 hD10 hR10 hT10 hxu
        refine wp_region_held_drew (S := fun W => Fr (fun k => k = P + 1) u0 W) (by kernel_rfl) (by rw [HU0.out]; exact Fr.refl _ _) (fun hHeld => ?_)
        rw [HU0.out] at hHeld ⊢
        refine wpAnyH_take (i := 0) (oi := _) (v := .agg #[.int .i64 (S.mo : Int), .slice (some ⟨b, o, none⟩) fs.length c, .int .i64 lf, .bool false]) rfl (by kernel_rfl) (by kernel_rfl) (by kernel_rfl) (fun _ _ _ h => h) (Or.inl ⟨by rfl, fun W hS => by obtain ⟨q0, q1, q2, q3, q4, q5, q6, q7, q8, q9, q10⟩ := HQ.out W hS; go_simp⟩) hHeld ?_
        try simp only [Act.put, List.getElem_toArray, List.getElem_cons_zero, List.setIfInBounds_toArray, List.set_cons_zero, List.set_cons_succ]
        refine wpAnyH_take (i := 1) (oi := _) (v := .agg #[.int .i64 (S.mo : Int), .slice A2 L1.length c2, .int .i64 lf, .bool false]) rfl (by kernel_rfl) (by kernel_rfl) (by kernel_rfl) (fun _ _ _ h => h) (Or.inl ⟨by rfl, fun W hS => by obtain ⟨q0, q1, q2, q3, q4, q5, q6, q7, q8, q9, q10⟩ := HQ.out W hS; go_simp⟩) hHeld ?_
        try simp only [Act.put, List.getElem_toArray, List.getElem_cons_zero, List.getElem_cons_succ, List.setIfInBounds_toArray, List.set_cons_zero, List.set_cons_succ]
        refine wpAnyH_take (i := 2) (oi := _) (v := .agg #[.string ts, .slice f.A f.bs.length f.c, .int .i64 (f.fm : Int)]) rfl (by kernel_rfl) (by kernel_rfl) (by kernel_rfl) (fun _ _ _ h => h) (Or.inl ⟨by rfl, fun W hS => by obtain ⟨q0, q1, q2, q3, q4, q5, q6, q7, q8, q9, q10⟩ := HQ.out W hS; go_simp⟩) hHeld ?_
        try simp only [Act.put, List.getElem_toArray, List.getElem_cons_zero, List.getElem_cons_succ, List.setIfInBounds_toArray, List.set_cons_zero, List.set_cons_succ]
        refine wpAnyH_ready (rs := [3]) (by kernel_rfl) (by simp) ?_
        refine AllReadyH.cons (o := _) rfl (fun K hK => ?_) AllReadyH.nil
        rw [if_pos (by rfl)]
        go_wp2_with fail
        refine (HP2.out _ _ _ HFU.out HKU.out).mono ?_
        rintro e w5 ⟨A5, c5, rfl, hk5, hf5, hn5⟩
        have HN5 := Lib.hid hn5
        clear hn5
        have HK5 := Lib.hid hk5
        have HF5 := Lib.hid (HFU.out.no_trans hf5)
        have HG5 := Lib.hid hf5
        refine hK.out _ _ (hHeld.trans hf5 (fun _ _ e => e.elim)) (fun hHeld => ?_)
        clear hK K hk5 hf5
        try simp only [Act.put, List.getElem_toArray, List.getElem_cons_zero, List.getElem_cons_succ, List.setIfInBounds_toArray, List.set_cons_zero, List.set_cons_succ]
        refine wpAnyH_ready (rs := [4]) (by kernel_rfl) (by simp) ?_
        refine AllReadyH.cons (o := _) rfl (fun K hK => ?_) AllReadyH.nil
        rw [if_pos (by rfl)]
        go_wp2_with fail
        refine (HST.out _ _ _ HF5.out HK5.out HN5.out).mono ?_
        rintro e w3 ⟨v3, rfl, hv3, hf3⟩
        have HV3 := Lib.hid hv3
        have HF3 := Lib.hid (HF5.out.no_trans hf3)
        have hR3 := HR3.out _ (HG5.out.no_trans hf3)
        refine hK.out _ _ (hHeld.trans hf3 (fun _ _ e => e.elim)) (fun hHeld => ?_)
        obtain ⟨A3, c3, fs3, rfl, _, _, _, _⟩ := hv3
        clear hK K hf3
        try simp only [Act.put, List.getElem_toArray, List.getElem_cons_zero, List.getElem_cons_succ, List.setIfInBounds_toArray, List.set_cons_zero, List.set_cons_succ]
        refine wpAnyH_take (i := 5) (oi := _) (v := .agg #[.int .i64 (S'.mo : Int), .slice A3 fs3.length c3, .int .i64 (if S'.bd then (S'.lf : Int) else -1), .bool S'.fl]) rfl (by kernel_rfl) (by kernel_rfl) (by kernel_rfl) (fun _ _ _ h => h) (Or.inl ⟨by rfl, fun W hS => by rfl⟩) hHeld ?_
        try simp only [Act.put, List.getElem_toArray, List.getElem_cons_zero, List.getElem_cons_succ, List.setIfInBounds_toArray, List.set_cons_zero, List.set_cons_succ]
        refine wpAnyH_take (i := 6) (oi := _) (v := .int .i64 x) rfl (by kernel_rfl) (by kernel_rfl) (by kernel_rfl) (fun _ _ _ h => h) (Or.inl ⟨by rfl, fun W hS => by rfl⟩) hHeld ?_
        try simp only [Act.put, List.getElem_toArray, List.getElem_cons_zero, List.getElem_cons_succ, List.setIfInBounds_toArray, List.set_cons_zero, List.set_cons_succ]
        have r0 : w3.cell? ⟨P + 1, 0, none⟩ = some (.int .i64 0) := by unfold World.cell?; rw [hR3]; rfl
        have r1 : w3.cell? ⟨P + 1, 1, none⟩ = some (.slice none 0 0) := by unfold World.cell?; rw [hR3]; rfl
        have r2 : w3.cell? ⟨P + 1, 2, none⟩ = some (.int .i64 0) := by unfold World.cell?; rw [hR3]; rfl
        have r3 : w3.cell? ⟨P + 1, 3, none⟩ = some (.bool false) := by unfold World.cell?; rw [hR3]; rfl
        have z0 : w3.frozen? ⟨P + 1, 0, none⟩ = false := by unfold World.frozen?; rw [hR3]; rfl
        have z1 : w3.frozen? ⟨P + 1, 1, none⟩ = false := by unfold World.frozen?; rw [hR3]; rfl
        have z2 : w3.frozen? ⟨P + 1, 2, none⟩ = false := by unfold World.frozen?; rw [hR3]; rfl
        have z3 : w3.frozen? ⟨P + 1, 3, none⟩ = false := by unfold World.frozen?; rw [hR3]; rfl
        obtain ⟨l3, hl3⟩ : ∃ l3 : Int, (if S'.bd then (S'.lf : Int) else -1) = l3 := ⟨_, rfl⟩
        rw [hl3] at HV3 ⊢
        clear hl3
        refine wpAnyH_ready (rs := [7]) (by kernel_rfl) (by simp) ?_
        refine AllReadyH.cons (o := _) rfl (fun K hK => ?_) AllReadyH.nil
        rw [if_pos (by rfl)]
        go_wp2_with fail
        have h4 := four_set hR3 (.int .i64 (S'.mo : Int)) (.slice A3 fs3.length c3) (.int .i64 l3) (.bool S'.fl)
        have H4 := Lib.hid h4
        refine hK.out _ _ (hHeld.trans h4.2 (fun _ _ e => e)) (fun hHeld => ?_)
        clear hK K
        try simp only [Act.put, List.getElem_toArray, List.getElem_cons_zero, List.getElem_cons_succ, List.setIfInBounds_toArray, List.set_cons_zero, List.set_cons_succ]
        obtain ⟨w4, hw4⟩ : ∃ w4, (((w3.setCell ⟨P + 1, 0, none⟩ (.int .i64 (S'.mo : Int))).setCell ⟨P + 1, 1, none⟩ (.slice A3 fs3.length c3)).setCell ⟨P + 1, 2, none⟩ (.int .i64 l3)).setCell ⟨P + 1, 3, none⟩ (.bool S'.fl) = w4 := ⟨_, rfl⟩
        rw [hw4] at H4 hHeld ⊢
        clear hw4 h4
        refine wpAnyH_take (i := 8) (oi := _) (v := .int .i64 x) rfl (by kernel_rfl) (by kernel_rfl) (by kernel_rfl) (fun _ _ _ h => h) (Or.inl ⟨by rfl, fun W hS => by rfl⟩) hHeld ?_
        try simp only [Act.put, List.getElem_toArray, List.getElem_cons_zero, List.getElem_cons_succ, List.setIfInBounds_toArray, List.set_cons_zero, List.set_cons_succ]
        refine wpAnyH_done (by kernel_rfl) ?_ _
        clear hHeld
        go_wp2_with fail
        refine bodyPost_ret (results_cell_tmp_row (p := 6) rfl _ _ (P + 1) 29 #[.int .i64 (S'.mo : Int), .slice A3 fs3.length c3, .int .i64 l3, .bool S'.fl] (0, 0) _ rfl H4.out.1 Try.underlying29 rfl (by kernel_rfl)) rfl ?_
        have hfr := (HF.out.no_trans HF3.out).trans H4.out.2 (fun k hk e => by have := HP.out; omega)
        have her := HE.out
        refine ⟨.agg #[.int .i64 (S'.mo : Int), .slice A3 fs3.length c3, .int .i64 l3, .bool S'.fl], by rw [her]; rfl, ?_, hfr⟩
        rw [her]
        exact HV3.out.blank hR3 H4.out.2
end
end Go.Proofs.Ytnkgcafebmacjaa

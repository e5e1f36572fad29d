/-
  The document's disk as the plain state that the program's disk has: Cut. No statement of the seat is proved here.
-/
import Derived.Test.YtnkgcafebmacjaaDtJ
namespace Go.Proofs.Ytnkgcafebmacjaa
open Go.RowKit Go.Maps

theorem ains_lenK (f : Af) : ∀ fs : List Af, (ains f fs).length = fs.length + 1
  | [] => rfl
  | g :: r => by
    unfold ains
    split
    · rfl
    · simp [ains_lenK f r]
theorem aput_len {f : Af} {fs : List Af} {g : Af} (h : afnd f.nm fs = some g) : (aput f fs).length ≤ fs.length := by
  obtain ⟨h1, h2⟩ := afnd_some h
  have : (adel f.nm fs).length < fs.length := by
    unfold adel
    rw [List.length_filter_lt_length_iff_exists]
    exact ⟨g, h1, by simp [h2]⟩
  unfold aput
  rw [ains_lenK]
  omega
set_option maxRecDepth 100000 in
/-- Cut, as the plain state has it. -/
theorem rv_cut {F : Nat → Prop} {w : World} (hF : ∀ k, F k → k < w.heap.size) {v : Value} {S : Ab} (hb : S.lf ≤ 9223372036854775807) (h : Rv F w v S) (nm : ByteArray) (n : Int) (hn1 : -9223372036854775808 ≤ n ∧ n ≤ 9223372036854775807) (hu : ∀ f ∈ S.fs, f.bs.length ≤ 16777216) :
    Calls Try.prog 17 #[v, .string nm, .int .i64 n] w fun e w' =>
      ∃ v', e = .returned (.tuple #[v', .int .i64 (S.cut nm.data.toList n).1]) ∧ Rv F w' v' (S.cut nm.data.toList n).2 ∧ Fr No w w' := by
  obtain ⟨A, c, fs, rfl, hk, hm, hr, hl, ho⟩ := h
  have HOO := Lib.hid ho
  have HNF := Lib.hid hF
  clear ho hF
  have HM := Lib.hid hm
  have HR := Lib.hid hr
  have HL := Lib.hid hl
  have HB := Lib.hid hb
  obtain ⟨lf, HLF⟩ : ∃ lf : Int, Hid ((if S.bd then (S.lf : Int) else -1) = lf) := ⟨_, rfl⟩
  have HV0 := Lib.hid (show Rv F w (.agg #[.int .i64 (S.mo : Int), .slice A fs.length c, .int .i64 lf, .bool S.fl]) S from by rw [← HLF.out]; exact ⟨A, c, fs, rfl, hk, hm, hr, hl, HOO.out⟩)
  rw [HLF.out]
  have hf0 : Fr No w ((w.alloc (.cells #[.int .i64 (S.mo : Int), .slice A fs.length c, .int .i64 lf, .bool S.fl] 29)).alloc (.cells #[.int .i64 0, .slice none 0 0, .int .i64 0, .bool false] 29)) := (Fr.alloc No w _).no_trans (Fr.alloc No _ _)
  have HAS := Lib.hid (rask_any (c := c) (hk.no hf0) (by omega) (S.mo : Int) lf S.fl nm)
  have HF0 := Lib.hid hf0
  have HK := Lib.hid hk
  clear hk hm hr hl hb hf0
  go_enter Try.func17, Try.ntmps17
  go_wp2_with fail
  refine HAS.out.mono ?_
  rintro e w1 ⟨z, rfl, hf, hz⟩
  obtain ⟨P, HP⟩ : ∃ P, Hid (w.heap.size = P) := ⟨_, rfl⟩
  have hD : w1.heap[P]? = some (.cells #[.int .i64 (S.mo : Int), .slice A fs.length c, .int .i64 lf, .bool S.fl] 29 (0, 0)) := by
    rw [← HP.out]
    exact (hf.block _ (by simp; omega) (fun e => e)).trans ((Below.heap_alloc _ _ _ (by simp)).trans (heap_alloc_new w _))
  have hR2 : w1.heap[P + 1]? = some (.cells #[.int .i64 0, .slice none 0 0, .int .i64 0, .bool false] 29 (0, 0)) := by
    rw [← HP.out]
    exact (hf.block _ (by simp) (fun e => e)).trans (heap2' w _ _)
  have HF := Lib.hid (HF0.out.no_trans hf)
  have HK1 := Lib.hid (HK.out.no HF.out)
  have HZ := Lib.hid (ask_ab HM.out HR.out hz)
  clear hz hf HAS HF0
  rw [HP.out]
  have d0 : w1.cell? ⟨P, 0, none⟩ = some (.int .i64 (S.mo : Int)) := by unfold World.cell?; rw [hD]; rfl
  have d1 : w1.cell? ⟨P, 1, none⟩ = some (.slice A fs.length c) := by unfold World.cell?; rw [hD]; rfl
  have d2 : w1.cell? ⟨P, 2, none⟩ = some (.int .i64 lf) := by unfold World.cell?; rw [hD]; rfl
  have d3 : w1.cell? ⟨P, 3, none⟩ = some (.bool S.fl) := by unfold World.cell?; rw [hD]; rfl
  have r0 : w1.cell? ⟨P + 1, 0, none⟩ = some (.int .i64 0) := by unfold World.cell?; rw [hR2]; rfl
  have z0 : w1.frozen? ⟨P + 1, 0, none⟩ = false := by unfold World.frozen?; rw [hR2]; rfl
  have r1 : w1.cell? ⟨P + 1, 1, none⟩ = some (.slice none 0 0) := by unfold World.cell?; rw [hR2]; rfl
  have z1 : w1.frozen? ⟨P + 1, 1, none⟩ = false := by unfold World.frozen?; rw [hR2]; rfl
  have r2 : w1.cell? ⟨P + 1, 2, none⟩ = some (.int .i64 0) := by unfold World.cell?; rw [hR2]; rfl
  have z2 : w1.frozen? ⟨P + 1, 2, none⟩ = false := by unfold World.frozen?; rw [hR2]; rfl
  have r3 : w1.cell? ⟨P + 1, 3, none⟩ = some (.bool false) := by unfold World.cell?; rw [hR2]; rfl
  have z3 : w1.frozen? ⟨P + 1, 3, none⟩ = false := by unfold World.frozen?; rw [hR2]; rfl
  cases hfl : S.fl with
  | true =>
    have he : S.cut nm.data.toList n = (15, S) := by unfold Ab.cut Ab.err; rw [hfl]; rfl
    rw [hfl] at hD d3
    go_wp2_with fail
    refine bodyPost_ret (results_cell_tmp_row (p := 6) rfl _ _ (P + 1) 29 #[.int .i64 (S.mo : Int), .slice A fs.length c, .int .i64 lf, .bool true] (0, 0) _ rfl (four_set hR2 _ _ _ _).1 Try.underlying29 rfl (by kernel_rfl)) rfl ?_
    have hfr := HF.out.trans (four_set hR2 (.int .i64 (S.mo : Int)) (.slice A fs.length c) (.int .i64 lf) (.bool true)).2 (fun k hk e => by have := HP.out; omega)
    have hv := HV0.out.no hfr
    rw [hfl] at hv
    exact ⟨.agg #[.int .i64 (S.mo : Int), .slice A fs.length c, .int .i64 lf, .bool true], by rw [he]; rfl, by rw [he]; exact hv, hfr⟩
  | false =>
    rcases HZ.out with ⟨rfl, hno⟩ | ⟨i, f, hi, hfn, rfl, haf, hao⟩
    · have he : S.cut nm.data.toList n = (13, S) := by unfold Ab.cut Ab.err; rw [hfl, hno]; rfl
      rw [hfl] at hD d3
      have hd : (if false = true then (15 : Int) else if (-1 : Int) < 0 then 13 else 0) = 13 := rfl
      rw [hd]
      go_wp2_with fail
      refine bodyPost_ret (results_cell_tmp_row (p := 6) rfl _ _ (P + 1) 29 #[.int .i64 (S.mo : Int), .slice A fs.length c, .int .i64 lf, .bool false] (0, 0) _ rfl (four_set hR2 _ _ _ _).1 Try.underlying29 rfl (by kernel_rfl)) rfl ?_
      have hfr := HF.out.trans (four_set hR2 (.int .i64 (S.mo : Int)) (.slice A fs.length c) (.int .i64 lf) (.bool false)).2 (fun k hk e => by have := HP.out; omega)
      have hv := HV0.out.no hfr
      rw [hfl] at hv
      exact ⟨.agg #[.int .i64 (S.mo : Int), .slice A fs.length c, .int .i64 lf, .bool false], by rw [he]; rfl, by rw [he]; exact hv, hfr⟩
    · have he : S.err nm.data.toList = 0 := by unfold Ab.err; rw [hfl, haf]; rfl
      have hd : (if false = true then (15 : Int) else if ((i : Nat) : Int) < 0 then 13 else 0) = 0 := by
        rw [if_neg (by simp), if_neg (by omega)]
      rw [hd]
      have hin : i < fs.length := (List.getElem?_eq_some_iff.1 hi).1
      obtain ⟨b, o, rfl, hb, hc⟩ := HK.out.at_ (by omega)
      obtain ⟨c0, c1, c2⟩ := hc i f hi
      have hbP : b ≠ P + 1 := by have := HP.out; omega
      have c0 := HF.out.cell c0 (fun e => e)
      have c1 := HF.out.cell c1 (fun e => e)
      have c2 := HF.out.cell c2 (fun e => e)
      have hi1 : (i : Int) < (fs.length : Int) := by omega
      have HE0 := Lib.hid he
      have HAO := Lib.hid hao
      have HFN := Lib.hid hfn
      rw [hfl] at hD d3
      have hlen : f.bs.length ≤ 16777216 := by
        have h1 : f.ab ∈ S.fs := by rw [← HM.out]; exact List.mem_map.2 ⟨f, List.mem_of_getElem? hi, rfl⟩
        exact hu _ h1
      by_cases hbad : n < 0 ∨ (f.bs.length : Int) < n
      · have HBD := Lib.hid (show S.cut nm.data.toList n = (2, S) from by
          unfold Ab.cut
          rw [HE0.out, if_neg (by simp), HAO.out, if_pos (show n < 0 ∨ (f.ab.bs.length : Int) < n from hbad)])
        rcases Classical.em (n < 0) with hneg | hneg
        · have hdn : decide (n < 0) = true := by rw [decide_eq_true_eq]; exact hneg
          clear hfn hao hbad
          go_wp2_with fail
          refine bodyPost_ret (results_cell_tmp_row (p := 6) rfl _ _ (P + 1) 29 #[.int .i64 (S.mo : Int), .slice (some ⟨b, o, none⟩) fs.length c, .int .i64 lf, .bool false] (0, 0) _ rfl (four_set hR2 _ _ _ _).1 Try.underlying29 rfl (by kernel_rfl)) rfl ?_
          have hfr := HF.out.trans (four_set hR2 (.int .i64 (S.mo : Int)) (.slice (some ⟨b, o, none⟩) fs.length c) (.int .i64 lf) (.bool false)).2 (fun k hk e => by have := HP.out; omega)
          have hv := HV0.out.no hfr
          rw [hfl] at hv
          have her := HBD.out
          exact ⟨.agg #[.int .i64 (S.mo : Int), .slice (some ⟨b, o, none⟩) fs.length c, .int .i64 lf, .bool false], by rw [her]; rfl, by rw [her]; exact hv, hfr⟩
        · have hdn : decide (n < 0) = false := by rw [decide_eq_false_iff_not]; exact hneg
          have hdm : decide ((f.bs.length : Int) < n) = true := by rw [decide_eq_true_eq]; omega
          clear hfn hao hbad
          go_wp2_with fail
          refine bodyPost_ret (results_cell_tmp_row (p := 6) rfl _ _ (P + 1) 29 #[.int .i64 (S.mo : Int), .slice (some ⟨b, o, none⟩) fs.length c, .int .i64 lf, .bool false] (0, 0) _ rfl (four_set hR2 _ _ _ _).1 Try.underlying29 rfl (by kernel_rfl)) rfl ?_
          have hfr := HF.out.trans (four_set hR2 (.int .i64 (S.mo : Int)) (.slice (some ⟨b, o, none⟩) fs.length c) (.int .i64 lf) (.bool false)).2 (fun k hk e => by have := HP.out; omega)
          have hv := HV0.out.no hfr
          rw [hfl] at hv
          have her := HBD.out
          exact ⟨.agg #[.int .i64 (S.mo : Int), .slice (some ⟨b, o, none⟩) fs.length c, .int .i64 lf, .bool false], by rw [her]; rfl, by rw [her]; exact hv, hfr⟩
      · have hdn : decide (n < 0) = false := by rw [decide_eq_false_iff_not]; omega
        have hdm : decide ((f.bs.length : Int) < n) = false := by rw [decide_eq_false_iff_not]; omega
        obtain ⟨m, rfl⟩ : ∃ m : Nat, n = (m : Int) := ⟨n.toNat, by omega⟩
        have hml : m ≤ f.bs.length := by omega
        have hcut : S.cut nm.data.toList (m : Int) = (if S.fails then 15 else 0, if S.fails then S.step else { S.step with fs := aput ⟨nm.data.toList, f.bs.take m, m⟩ S.fs }) := by
          unfold Ab.cut
          rw [HE0.out, if_neg (by simp), HAO.out, if_neg (show ¬((m : Int) < 0 ∨ (f.ab.bs.length : Int) < (m : Int)) from hbad), Int.toNat_natCast]
          cases S.fails <;> rfl
        obtain ⟨x, HX⟩ : ∃ x : Int, Hid ((if S.fails then 15 else 0) = x) := ⟨_, rfl⟩
        obtain ⟨S', HS'⟩ : ∃ S', Hid ((if S.fails then S.step else { S.step with fs := aput ⟨nm.data.toList, f.bs.take m, m⟩ S.fs }) = S') := ⟨_, rfl⟩
        rw [HX.out, HS'.out] at hcut
        have HE := Lib.hid hcut
        obtain ⟨LL, HLL⟩ : ∃ LL : Option Addr → Nat → List Fl, Hid ((fun X c' => losF nm.data.toList fs ++ (if false then [] else [(⟨nm.data.toList, X, c', f.bs.take m, m⟩ : Fl)]) ++ hisF nm.data.toList fs) = LL) := ⟨_, rfl⟩
        have hm2 : ∀ X c', (LL X c').map Fl.ab = aput ⟨nm.data.toList, f.bs.take m, m⟩ S.fs := fun X c' => by
          rw [← HLL.out, List.map_append, List.map_append, los_ab, his_ab, HM.out, if_neg (by simp)]
          exact rput_ab (f := ⟨nm.data.toList, f.bs.take m, m⟩) HR.out
        have hl2 : ∀ X c', (LL X c').length ≤ 200 := fun X c' => by
          have h1 : ((LL X c').map Fl.ab).length = (aput ⟨nm.data.toList, f.bs.take m, m⟩ S.fs).length := by rw [hm2]
          have h2 : (aput ⟨nm.data.toList, f.bs.take m, m⟩ S.fs).length ≤ S.fs.length := aput_len (f := ⟨nm.data.toList, f.bs.take m, m⟩) haf
          have h3 : (fs.map Fl.ab).length = S.fs.length := by rw [HM.out]
          rw [List.length_map] at h1 h3
          have := HL.out
          omega
        have hfi : ∀ W, Fr No w1 W → Calls Try.prog 43 #[.string nm, .slice f.A f.bs.length f.c, .int .i64 (m : Int), .int .i64 (m : Int)] W fun e w' => ∃ X c', e = .returned (.agg #[.string nm, .slice X m c', .int .i64 (m : Int)]) ∧ Rd w' w'.heap.size X m (f.bs.take m) ∧ Fr No W w' ∧ Nf F X := fun W hW =>
          (rfirst_fr ((hW.rd (Nat.le_refl _) (HK1.out.rd f (List.mem_of_getElem? hi))).more hW.size) nm m hml (by omega) (m : Int)).mono fun _ _ ⟨X, c', h1, h2, h3, h4⟩ => ⟨X, c', h1, h2, h3, nf_new HNF.out (Nat.le_trans HF.out.size hW.size) h4⟩
        have hpu : ∀ W X c', Fr No w1 W → Rd W W.heap.size X m (f.bs.take m) → Calls Try.prog 42 #[.agg #[.int .i64 (S.mo : Int), .slice (some ⟨b, o, none⟩) fs.length c, .int .i64 lf, .bool false], .agg #[.string nm, .slice X m c', .int .i64 (m : Int)], .bool false] W (PutN F W (S.mo : Int) lf false (LL X c')) := fun W X c' hW hr => by
          rw [← HLL.out]
          have hlm : (f.bs.take m).length = m := hr.1
          have := rput_n HNF.out (Nat.le_trans HF.out.size hW.size) (HK1.out.no hW) (c := c) (by have := HL.out; omega) (S.mo : Int) lf false (⟨nm.data.toList, X, c', f.bs.take m, m⟩ : Fl) (by rw [show (⟨nm.data.toList, X, c', f.bs.take m, m⟩ : Fl).bs.length = m from hlm]; exact hr) false
          rw [show (⟨nm.data.toList, X, c', f.bs.take m, m⟩ : Fl).bs.length = m from hlm] at this
          exact this
        have hst : ∀ W X c' (A2 : Option Addr) (c2 : Nat), Fr No w1 W → Rk W A2 (LL X c').length (LL X c') → Nf F X → Nf F A2 → Calls Try.prog 41 #[.agg #[.int .i64 (S.mo : Int), .slice (some ⟨b, o, none⟩) fs.length c, .int .i64 lf, .bool false], .agg #[.int .i64 (S.mo : Int), .slice A2 (LL X c').length c2, .int .i64 lf, .bool false]] W fun e w' =>
            ∃ v, e = .returned (.tuple #[v, .int .i64 x]) ∧ Rv F w' v S' ∧ Fr No W w' := fun W X c' A2 c2 hW hk2 hnX hn2 => by
          have := rv_step (c := c) (c2 := c2) HB.out (HK1.out.no hW) HM.out HR.out HL.out hk2 (hm2 X c') (ris_put HR.out) (hl2 X c') HOO.out ⟨fun _ => hn2, by rw [← HLL.out]; exact off_put HOO.out.2 nm.data.toList (off_one (fun _ => hnX))⟩
          rw [hfl, HLF.out, HX.out, HS'.out] at this
          exact this
        have HFI := Lib.hid hfi
        have HPU := Lib.hid hpu
        have HST := Lib.hid hst
        have hs1 : ∀ W, Fr No w1 W → W.cell? ⟨P, 0, none⟩ = some (.int .i64 (S.mo : Int)) ∧ W.cell? ⟨P, 1, none⟩ = some (.slice (some ⟨b, o, none⟩) fs.length c) ∧ W.cell? ⟨P, 2, none⟩ = some (.int .i64 lf) ∧ W.cell? ⟨P, 3, none⟩ = some (.bool false) ∧ W.cell? ⟨b, o + i * 3 + 1, none⟩ = some (.slice f.A f.bs.length f.c) := fun W hW =>
          ⟨hW.cell d0 (fun e => e), hW.cell d1 (fun e => e), hW.cell d2 (fun e => e), hW.cell d3 (fun e => e), hW.cell c1 (fun e => e)⟩
        have hs3 : ∀ W, Fr No w1 W → W.heap[P + 1]? = some (.cells #[.int .i64 0, .slice none 0 0, .int .i64 0, .bool false] 29 (0, 0)) := fun W hW => (hW.block _ (Array.getElem?_eq_some_iff.1 hR2).1 (fun e => e)).trans hR2
        have HS1 := Lib.hid hs1
        have HS3 := Lib.hid hs3
        have HLEN := Lib.hid hlen
        clear hfi hpu hst hcut hm2 hl2 hD HZ hc haf hao he hd hi hfn hu hs1 hs3 hml hlen
        go_wp2_with fail
        clear hbad d0 d1 d2 d3 c0 c1 c2 r0 r1 r2 r3 z0 z1 z2 z3
        obtain ⟨u0, HU0⟩ : ∃ u, Hid (w1.drew = u) := ⟨_, rfl⟩
        have HFU := Lib.hid (show Fr No w1 u0 from by rw [← HU0.out]; exact Fr.drew No w1)
        have hq0 := HS1.out u0 HFU.out
        have HQ := Lib.hid (show ∀ W, Fr (fun k => k = P + 1) u0 W → W.cell? ⟨P, 0, none⟩ = some (.int .i64 (S.mo : Int)) ∧ W.cell? ⟨P, 1, none⟩ = some (.slice (some ⟨b, o, none⟩) fs.length c) ∧ W.cell? ⟨P, 2, none⟩ = some (.int .i64 lf) ∧ W.cell? ⟨P, 3, none⟩ = some (.bool false) ∧ W.cell? ⟨b, o + i * 3 + 1, none⟩ = some (.slice f.A f.bs.length f.c) from fun W hW => by
          obtain ⟨d0, d1, d2, d3, c1⟩ := hq0
          have hP : P ≠ P + 1 := by omega
          exact ⟨hW.cell d0 hP, hW.cell d1 hP, hW.cell d2 hP, hW.cell d3 hP, hW.cell c1 hbP⟩)
        clear hq0
        refine wp_region_held_drew (S := fun W => Fr (fun k => k = P + 1) u0 W) (by kernel_rfl) (by rw [HU0.out]; exact Fr.refl _ _) (fun hHeld => ?_)
        rw [HU0.out] at hHeld ⊢
        refine wpAnyH_take (i := 0) (oi := _) (v := .agg #[.int .i64 (S.mo : Int), .slice (some ⟨b, o, none⟩) fs.length c, .int .i64 lf, .bool false]) rfl (by kernel_rfl) (by kernel_rfl) (by kernel_rfl) (fun _ _ _ h => h) (Or.inl ⟨by rfl, fun W hS => by obtain ⟨q0, q1, q2, q3, q5⟩ := HQ.out W hS; go_simp⟩) hHeld ?_
        try simp only [Act.put, List.getElem_toArray, List.getElem_cons_zero, List.setIfInBounds_toArray, List.set_cons_zero, List.set_cons_succ]
        refine wpAnyH_take (i := 1) (oi := _) (v := .agg #[.int .i64 (S.mo : Int), .slice (some ⟨b, o, none⟩) fs.length c, .int .i64 lf, .bool false]) rfl (by kernel_rfl) (by kernel_rfl) (by kernel_rfl) (fun _ _ _ h => h) (Or.inl ⟨by rfl, fun W hS => by obtain ⟨q0, q1, q2, q3, q5⟩ := HQ.out W hS; go_simp⟩) hHeld ?_
        try simp only [Act.put, List.getElem_toArray, List.getElem_cons_zero, List.getElem_cons_succ, List.setIfInBounds_toArray, List.set_cons_zero, List.set_cons_succ]
        refine wpAnyH_take (i := 2) (oi := _) (v := .string nm) rfl (by kernel_rfl) (by kernel_rfl) (by kernel_rfl) (fun _ _ _ h => h) (Or.inl ⟨by rfl, fun W hS => by rfl⟩) hHeld ?_
        try simp only [Act.put, List.getElem_toArray, List.getElem_cons_zero, List.getElem_cons_succ, List.setIfInBounds_toArray, List.set_cons_zero, List.set_cons_succ]
        refine wpAnyH_take (i := 3) (oi := _) (v := .pointer (some ⟨P, 1, none⟩)) rfl (by kernel_rfl) (by kernel_rfl) (by kernel_rfl) (fun _ _ _ h => h) (Or.inl ⟨by rfl, fun W hS => by rfl⟩) hHeld ?_
        try simp only [Act.put, List.getElem_toArray, List.getElem_cons_zero, List.getElem_cons_succ, List.setIfInBounds_toArray, List.set_cons_zero, List.set_cons_succ]
        refine wpAnyH_take (i := 4) (oi := _) (v := .slice (some ⟨b, o, none⟩) fs.length c) rfl (by kernel_rfl) (by kernel_rfl) (by kernel_rfl) (fun _ _ _ h => h) (Or.inl ⟨by rfl, fun W hS => by obtain ⟨q0, q1, q2, q3, q5⟩ := HQ.out W hS; go_simp⟩) hHeld ?_
        try simp only [Act.put, List.getElem_toArray, List.getElem_cons_zero, List.getElem_cons_succ, List.setIfInBounds_toArray, List.set_cons_zero, List.set_cons_succ]
        refine wpAnyH_take (i := 5) (oi := _) (v := .int .i64 (i : Int)) rfl (by kernel_rfl) (by kernel_rfl) (by kernel_rfl) (fun _ _ _ h => h) (Or.inl ⟨by rfl, fun W hS => by rfl⟩) hHeld ?_
        try simp only [Act.put, List.getElem_toArray, List.getElem_cons_zero, List.getElem_cons_succ, List.setIfInBounds_toArray, List.set_cons_zero, List.set_cons_succ]
        refine wpAnyH_take (i := 6) (oi := _) (v := .pointer (some ⟨b, o + i * 3, none⟩)) rfl (by kernel_rfl) (by kernel_rfl) (by kernel_rfl) (fun _ _ _ h => h) (Or.inl ⟨by rfl, fun W hS => by go_simp⟩) hHeld ?_
        try simp only [Act.put, List.getElem_toArray, List.getElem_cons_zero, List.getElem_cons_succ, List.setIfInBounds_toArray, List.set_cons_zero, List.set_cons_succ]
        refine wpAnyH_take (i := 7) (oi := _) (v := .pointer (some ⟨b, o + i * 3 + 1, none⟩)) rfl (by kernel_rfl) (by kernel_rfl) (by kernel_rfl) (fun _ _ _ h => h) (Or.inl ⟨by rfl, fun W hS => by rfl⟩) hHeld ?_
        try simp only [Act.put, List.getElem_toArray, List.getElem_cons_zero, List.getElem_cons_succ, List.setIfInBounds_toArray, List.set_cons_zero, List.set_cons_succ]
        refine wpAnyH_take (i := 8) (oi := _) (v := .slice f.A f.bs.length f.c) rfl (by kernel_rfl) (by kernel_rfl) (by kernel_rfl) (fun _ _ _ h => h) (Or.inl ⟨by rfl, fun W hS => by obtain ⟨q0, q1, q2, q3, q5⟩ := HQ.out W hS; go_simp⟩) hHeld ?_
        try simp only [Act.put, List.getElem_toArray, List.getElem_cons_zero, List.getElem_cons_succ, List.setIfInBounds_toArray, List.set_cons_zero, List.set_cons_succ]
        refine wpAnyH_take (i := 9) (oi := _) (v := .int .i64 (m : Int)) rfl (by kernel_rfl) (by kernel_rfl) (by kernel_rfl) (fun _ _ _ h => h) (Or.inl ⟨by rfl, fun W hS => by rfl⟩) hHeld ?_
        try simp only [Act.put, List.getElem_toArray, List.getElem_cons_zero, List.getElem_cons_succ, List.setIfInBounds_toArray, List.set_cons_zero, List.set_cons_succ]
        refine wpAnyH_take (i := 10) (oi := _) (v := .int .i64 (m : Int)) rfl (by kernel_rfl) (by kernel_rfl) (by kernel_rfl) (fun _ _ _ h => h) (Or.inl ⟨by rfl, fun W hS => by rfl⟩) hHeld ?_
        try simp only [Act.put, List.getElem_toArray, List.getElem_cons_zero, List.getElem_cons_succ, List.setIfInBounds_toArray, List.set_cons_zero, List.set_cons_succ]
        refine wpAnyH_ready (rs := [11]) (by kernel_rfl) (by simp) ?_
        refine AllReadyH.cons (o := _) rfl (fun K hK => ?_) AllReadyH.nil
        rw [if_pos (by rfl)]
        go_wp2_with fail
        refine (HFI.out _ HFU.out).mono ?_
        rintro e w2 ⟨X, c1', rfl, hr2, hf2, hn2⟩
        have HNX := Lib.hid hn2
        clear hn2
        have HRX := Lib.hid hr2
        have HF2 := Lib.hid (HFU.out.no_trans hf2)
        refine hK.out _ _ (hHeld.trans hf2 (fun _ _ e => e.elim)) (fun hHeld => ?_)
        clear hK K hr2 hf2
        try simp only [Act.put, List.getElem_toArray, List.getElem_cons_zero, List.getElem_cons_succ, List.setIfInBounds_toArray, List.set_cons_zero, List.set_cons_succ]
        refine wpAnyH_ready (rs := [12]) (by kernel_rfl) (by simp) ?_
        refine AllReadyH.cons (o := _) rfl (fun K hK => ?_) AllReadyH.nil
        rw [if_pos (by rfl)]
        go_wp2_with fail
        refine (HPU.out _ _ _ HF2.out HRX.out).mono ?_
        rintro e w5 ⟨A2, c2', rfl, hk5, hf5, hn5⟩
        have HN5 := Lib.hid hn5
        clear hn5
        have HK5 := Lib.hid hk5
        have HF5 := Lib.hid (HF2.out.no_trans hf5)
        refine hK.out _ _ (hHeld.trans hf5 (fun _ _ e => e.elim)) (fun hHeld => ?_)
        clear hK K hk5 hf5
        try simp only [Act.put, List.getElem_toArray, List.getElem_cons_zero, List.getElem_cons_succ, List.setIfInBounds_toArray, List.set_cons_zero, List.set_cons_succ]
        refine wpAnyH_ready (rs := [13]) (by kernel_rfl) (by simp) ?_
        refine AllReadyH.cons (o := _) rfl (fun K hK => ?_) AllReadyH.nil
        rw [if_pos (by rfl)]
        go_wp2_with fail
        refine (HST.out _ _ _ _ _ HF5.out HK5.out HNX.out HN5.out).mono ?_
        rintro e w3 ⟨v3, rfl, hv3, hf3⟩
        have HV3 := Lib.hid hv3
        have HF3 := Lib.hid (HF5.out.no_trans hf3)
        refine hK.out _ _ (hHeld.trans hf3 (fun _ _ e => e.elim)) (fun hHeld => ?_)
        obtain ⟨A3, c3, fs3, rfl, _, _, _, _⟩ := hv3
        clear hK K hf3
        try simp only [Act.put, List.getElem_toArray, List.getElem_cons_zero, List.getElem_cons_succ, List.setIfInBounds_toArray, List.set_cons_zero, List.set_cons_succ]
        refine wpAnyH_take (i := 14) (oi := _) (v := .agg #[.int .i64 (S'.mo : Int), .slice A3 fs3.length c3, .int .i64 (if S'.bd then (S'.lf : Int) else -1), .bool S'.fl]) rfl (by kernel_rfl) (by kernel_rfl) (by kernel_rfl) (fun _ _ _ h => h) (Or.inl ⟨by rfl, fun W hS => by rfl⟩) hHeld ?_
        try simp only [Act.put, List.getElem_toArray, List.getElem_cons_zero, List.getElem_cons_succ, List.setIfInBounds_toArray, List.set_cons_zero, List.set_cons_succ]
        refine wpAnyH_take (i := 15) (oi := _) (v := .int .i64 x) rfl (by kernel_rfl) (by kernel_rfl) (by kernel_rfl) (fun _ _ _ h => h) (Or.inl ⟨by rfl, fun W hS => by rfl⟩) hHeld ?_
        try simp only [Act.put, List.getElem_toArray, List.getElem_cons_zero, List.getElem_cons_succ, List.setIfInBounds_toArray, List.set_cons_zero, List.set_cons_succ]
        have hR3 := HS3.out _ HF3.out
        have r0 : w3.cell? ⟨P + 1, 0, none⟩ = some (.int .i64 0) := by unfold World.cell?; rw [hR3]; rfl
        have r1 : w3.cell? ⟨P + 1, 1, none⟩ = some (.slice none 0 0) := by unfold World.cell?; rw [hR3]; rfl
        have r2 : w3.cell? ⟨P + 1, 2, none⟩ = some (.int .i64 0) := by unfold World.cell?; rw [hR3]; rfl
        have r3 : w3.cell? ⟨P + 1, 3, none⟩ = some (.bool false) := by unfold World.cell?; rw [hR3]; rfl
        have z0 : w3.frozen? ⟨P + 1, 0, none⟩ = false := by unfold World.frozen?; rw [hR3]; rfl
        have z1 : w3.frozen? ⟨P + 1, 1, none⟩ = false := by unfold World.frozen?; rw [hR3]; rfl
        have z2 : w3.frozen? ⟨P + 1, 2, none⟩ = false := by unfold World.frozen?; rw [hR3]; rfl
        have z3 : w3.frozen? ⟨P + 1, 3, none⟩ = false := by unfold World.frozen?; rw [hR3]; rfl
        obtain ⟨l3, hl3⟩ : ∃ l3 : Int, (if S'.bd then (S'.lf : Int) else -1) = l3 := ⟨_, rfl⟩
        rw [hl3] at HV3 ⊢
        clear hl3
        refine wpAnyH_ready (rs := [16]) (by kernel_rfl) (by simp) ?_
        refine AllReadyH.cons (o := _) rfl (fun K hK => ?_) AllReadyH.nil
        rw [if_pos (by rfl)]
        go_wp2_with fail
        have h4 := four_set hR3 (.int .i64 (S'.mo : Int)) (.slice A3 fs3.length c3) (.int .i64 l3) (.bool S'.fl)
        have H4 := Lib.hid h4
        refine hK.out _ _ (hHeld.trans h4.2 (fun _ _ e => e)) (fun hHeld => ?_)
        clear hK K
        try simp only [Act.put, List.getElem_toArray, List.getElem_cons_zero, List.getElem_cons_succ, List.setIfInBounds_toArray, List.set_cons_zero, List.set_cons_succ]
        obtain ⟨w4, hw4⟩ : ∃ w4, (((w3.setCell ⟨P + 1, 0, none⟩ (.int .i64 (S'.mo : Int))).setCell ⟨P + 1, 1, none⟩ (.slice A3 fs3.length c3)).setCell ⟨P + 1, 2, none⟩ (.int .i64 l3)).setCell ⟨P + 1, 3, none⟩ (.bool S'.fl) = w4 := ⟨_, rfl⟩
        rw [hw4] at H4 hHeld ⊢
        clear hw4 h4
        refine wpAnyH_take (i := 17) (oi := _) (v := .int .i64 x) rfl (by kernel_rfl) (by kernel_rfl) (by kernel_rfl) (fun _ _ _ h => h) (Or.inl ⟨by rfl, fun W hS => by rfl⟩) hHeld ?_
        try simp only [Act.put, List.getElem_toArray, List.getElem_cons_zero, List.getElem_cons_succ, List.setIfInBounds_toArray, List.set_cons_zero, List.set_cons_succ]
        refine wpAnyH_done (by kernel_rfl) ?_ _
        clear hHeld
        go_wp2_with fail
        refine bodyPost_ret (results_cell_tmp_row (p := 6) rfl _ _ (P + 1) 29 #[.int .i64 (S'.mo : Int), .slice A3 fs3.length c3, .int .i64 l3, .bool S'.fl] (0, 0) _ rfl H4.out.1 Try.underlying29 rfl (by kernel_rfl)) rfl ?_
        have hfr := (HF.out.no_trans HF3.out).trans H4.out.2 (fun k hk e => by have := HP.out; omega)
        have her := HE.out
        refine ⟨.agg #[.int .i64 (S'.mo : Int), .slice A3 fs3.length c3, .int .i64 l3, .bool S'.fl], by rw [her]; rfl, ?_, hfr⟩
        rw [her]
        exact HV3.out.blank hR3 H4.out.2
end Go.Proofs.Ytnkgcafebmacjaa

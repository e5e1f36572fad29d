/-
  NetOrder: the walk. No statement of the seat is proved here.
-/
import Derived.Test.YtndanonhkjgmhaaNtV
import Derived.Test.YtndanonhkjgmhaaNtP
import Derived.Test.YtndanonhkjgmhaaFrameG
import Derived.Deep.CutBlock
import Derived.Deep.RegionHeld3
import Derived.BigQuiet
import Derived.BigRegion
namespace Go.Proofs.Ytndanonhkjgmhaa
open Go.RowKit

set_option maxRecDepth 100000 in
theorem info_here : (Try.prog.info? 60).map (fun i => i.zero) = some (some (.agg (List.replicate 90 (Value.bool false)).toArray)) := by kernel_rfl
set_option maxRecDepth 100000 in
theorem info_sent : (Try.prog.info? 61).map (fun i => i.zero) = some (some (.agg ((List.replicate 90 [Value.int .i64 0, Value.int .i64 0, Value.slice none 0 0]).flatten).toArray)) := by kernel_rfl
theorem zero_of {t : TypeId} {cs : Array Value} (h : (Try.prog.info? t).map (fun i => i.zero) = some (some (.agg cs))) (W : World) : (zeroValue t).run Try.prog W = .ok (.agg cs) W := by
  cases hi : Try.prog.info? t with
  | none => rw [hi] at h; cases h
  | some i =>
    rw [hi] at h
    have hz : i.zero = some (.agg cs) := by simpa using h
    simp [zeroValue, typeInfo, hi, hz]
theorem zero_here : ∃ Z : Array Value, (∀ W, (zeroValue 60).run Try.prog W = .ok (.agg Z) W) ∧ ∀ k, k < 90 → Z[k]? = some (.bool false) := by
  refine ⟨_, zero_of info_here, fun k hk => ?_⟩
  rw [List.getElem?_toArray, List.getElem?_replicate, if_pos hk]
theorem zero_sent : ∃ Z : Array Value, (∀ W, (zeroValue 61).run Try.prog W = .ok (.agg Z) W) ∧ Z.size = 270 := by
  refine ⟨_, zero_of info_sent, ?_⟩
  rw [List.size_toArray, List.length_flatten, List.map_replicate]
  rfl
theorem two_new (w : World) (x y : Obj) : ((w.alloc x).alloc y).drew.heap[w.heap.size]? = some x ∧ ((w.alloc x).alloc y).drew.heap[w.heap.size + 1]? = some y ∧ Fr No w ((w.alloc x).alloc y).drew :=
  ⟨(show ((w.alloc x).alloc y).heap[w.heap.size]? = some x from blk_no (Fr.alloc No (w.alloc x) y) (heap_alloc_new w x)), heap2 w x y, ((Fr.alloc No w x).no_trans (Fr.alloc No _ y)).no_trans (Fr.drew No _)⟩
theorem gr_of {x : Gr} {g : Gm} (h : x.gm = g) : x.fr = g.fr ∧ x.to = g.to ∧ x.l = g.ds.data.toList := by
  subst h
  exact ⟨rfl, rfl, by simp [Gr.gm]⟩
set_option maxHeartbeats 4000000 in
set_option maxRecDepth 100000 in
theorem order_walk {w : World} {A : Option Addr} {n : Nat} {xs : List De} (c : Nat) (hx : RowOf w 5 (DeAt w) A n xs) :
    Calls Try.prog 6 #[.slice A n c] w fun e w' => e = .returned (.bool true) ∧ Below w.heap.size w w' := by
  have HX := Lib.hid hx
  have HXL := Lib.hid hx.1
  clear hx
  go_enter Try.func6, Try.ntmps6
  go_wp2_with fail
  refine (new_ok 4 w (by decide) (by decide)).mono ?_
  rintro e w1 ⟨rfl, hn, hf⟩
  have HN1 := Lib.hid hn
  have HF1 := Lib.hid hf
  clear hn hf
  obtain ⟨Z1, hz1, hz1'⟩ := zero_here
  obtain ⟨Z2, hz2, hz2'⟩ := zero_sent
  have HI0 : Hid (Inv ((w1.alloc (.cells Z1 60)).alloc (.cells Z2 61)) (fun k => k = w.heap.size ∨ k = w1.heap.size ∨ k = w1.heap.size + 1) w.heap.size w1.heap.size (w1.heap.size + 1) 0 ((w1.alloc (.cells Z1 60)).alloc (.cells Z2 61))) := by
    have hf2 := (Fr.alloc No w1 (.cells Z1 60)).no_trans (Fr.alloc No _ (.cells Z2 61))
    have hP := HN1.out.lt (.inl rfl)
    have e0 : ord (fun _ => false) = [] := by unfold ord; rw [List.filter_eq_nil_iff]; intro k _ e; cases e
    refine ⟨fun _ => False, fun _ => false, fun _ => false, fun _ => (0, 0, 0), ⟨.slice none 0 0, by rw [e0]; exact HN1.out.no hf2, fun k hk => ?_, (fun k hk => hk.elim), by omega, ⟨Z1, blk_no (Fr.alloc No _ _) (heap_alloc_new w1 _), hz1'⟩, ⟨Z2, heap2 w1 _ _, hz2', (fun k hk e => by cases e)⟩, (fun k hk e => by cases e), Fr.refl _ _, fun k hk => .inl ?_⟩, (fun k e => e), (fun k e => by cases e)⟩
    · have := foot_nil hk
      exact ⟨fun e => e, by omega, by omega⟩
    · rcases hk with e | e | e
      · exact .inl (foot_nil e)
      · exact .inr (.inl e)
      · exact .inr (.inr e)
  have HF3 := Lib.hid (show Fr No w ((w1.alloc (.cells Z1 60)).alloc (.cells Z2 61)) from (HF1.out.no_trans (Fr.alloc No _ _)).no_trans (Fr.alloc No _ _))
  have HSZ := Lib.hid (show w.heap.size ≤ w1.heap.size from HF1.out.size)
  clear hz1' hz2'
  go_wp2_with fail
  generalize (w1.alloc (.cells Z1 60)).alloc (.cells Z2 61) = w3 at *
  generalize hff : (fun k => k = w.heap.size ∨ k = w1.heap.size ∨ k = w1.heap.size + 1) = f at HI0
  have HF : Hid (∀ k, f k → w.heap.size ≤ k) := fun k hk => by
    rw [← hff] at hk
    have := HSZ.out
    rcases hk with e | e | e <;> omega
  generalize hHB : w1.heap.size = HB at *
  generalize hSB : HB + 1 = SB at *
  have HB3 : Hid (∀ i W, Inv w3 f w.heap.size HB SB i W → Below w.heap.size w W) := fun i W hW => by
    obtain ⟨S, h, t, sg, o, _⟩ := hW
    exact HF3.out.noBelow.trans (o.fr.below HF3.out.size HF.out)
  clear hff hHB hSB hz1 hz2 HN1 HF1
  go_loopw [7] (fun v7 wr => ∃ i : Nat, i ≤ n ∧ i ≤ 90 ∧ v7 = .int .i64 (i : Int) ∧ Inv w3 f w.heap.size HB SB i wr) (fun v7 _ => n - (intOf v7).toNat)
  case atStart => exact ⟨0, by omega, by omega, rfl, HI0.out⟩
  case round =>
    obtain ⟨i, hin, hi90, rfl, hI⟩ := hrel
    have HI := Lib.hid hI
    clear hI
    have HBW := Lib.hid (HB3.out i wr HI.out)
    by_cases hlt : i < n
    · have hltI : (i : Int) < (n : Int) := by omega
      by_cases h90 : i < 90
      · have h90I : (i : Int) < 90 := by omega
        have hi0 : (0 : Int) ≤ (i : Int) := by omega
        have hwi : IntKind.i64.wrap ((i : Int) + 1) = ((i + 1 : Nat) : Int) := by
          rw [show ((i : Int) + 1) = ((i + 1 : Nat) : Int) by omega]
          exact IntWalk.i64_in _ (by omega)
        obtain ⟨bb, oo, rfl, hbb, hcc⟩ := (deeds_no HX.out (HBW.out.mono (Nat.le_refl _))).2 (by omega)
        have hdx := hcc i (by rw [HXL.out]; exact hlt)
        clear hcc
        generalize xs[i]'(by rw [HXL.out]; exact hlt) = d at *
        obtain ⟨d0, d1, d2, d3, d4, dw, dn, dr, db⟩ := hdx
        rw [Addr.add_lit] at d1 d2 d3 d4
        go_wp2_with fail
        obtain ⟨wD, hwD⟩ : ∃ u, wr.alloc (.cells #[.int .u8 (d.what : Int), .int .i64 d.fr, .int .i64 d.to, .int .i64 d.pl, .slice d.A d.n d.c] 46) = u := ⟨_, rfl⟩
        obtain ⟨D, hD⟩ : ∃ u, wr.heap.size = u := ⟨_, rfl⟩
        have HDB := Lib.hid (show wD.heap[D]? = some (.cells #[.int .u8 (d.what : Int), .int .i64 d.fr, .int .i64 d.to, .int .i64 d.pl, .slice d.A d.n d.c] 46 (0, 0)) by rw [← hwD, ← hD]; exact heap_alloc_new wr _)
        have HFD := Lib.hid (show Fr No wr wD by rw [← hwD]; exact Fr.alloc _ _ _)
        have HDD := Lib.hid (show D ≤ wr.heap.size ∧ wr.heap.size ≤ D by omega)
        rw [hwD, hD]
        clear hwD hD d0 d1 d2 d3 d4 dr
        obtain ⟨S, h, t, sg, ho, hht, htt⟩ := HI.out
        have HHT := Lib.hid hht
        have HTT := Lib.hid htt
        have HO := Lib.hid ho
        clear ho hht htt
        refine (or_all (HO.out.no HFD.out)).mono ?_
        rintro e w4 ⟨r, M, rfl, hr, hM, hf4⟩
        obtain ⟨A4, c4, e, hc4⟩ := hr.sl
        subst e
        obtain ⟨N, HNL⟩ : ∃ N, Hid ((ord h).length = N) := ⟨_, rfl⟩
        have hML : M.length = N := by rw [← HNL.out, ← List.length_map (f := gmOf sg), ← hM, List.length_map]
        have hN90 : N ≤ 90 := by rw [← HNL.out]; exact ord_len h
        have HO4 := Lib.hid (HO.out.lend (HFD.out.no_trans hf4))
        have HR4 := Lib.hid hr
        have HM := Lib.hid hM
        have HML := Lib.hid hML
        have HD4 := Lib.hid (blk_no hf4 HDB.out)
        rw [hML] at hc4 ⊢
        have HDS : Hid ((fun k => S k ∨ (wr.heap.size ≤ k ∧ k < w4.heap.size)) D) := .inr ⟨HDD.out.2, (Array.getElem?_eq_some_iff.1 HD4.out).1⟩
        have HRS : Hid (∀ k, wD.heap.size ≤ k → k < w4.heap.size → (fun k => S k ∨ (wr.heap.size ≤ k ∧ k < w4.heap.size)) k) := fun k h1 h2 => .inr ⟨Nat.le_trans HFD.out.size h1, h2⟩
        generalize (fun k => S k ∨ (wr.heap.size ≤ k ∧ k < w4.heap.size)) = S4 at HO4 HDS HRS
        have HD : Hid (∀ W, Ag S4 w4 W → W.cell? ⟨D, 0, none⟩ = some (.int .u8 (d.what : Int)) ∧ W.cell? ⟨D, 1, none⟩ = some (.int .i64 d.fr) ∧ W.cell? ⟨D, 2, none⟩ = some (.int .i64 d.to) ∧ W.cell? ⟨D, 3, none⟩ = some (.int .i64 d.pl)) := fun W hW => by
          have hb := (hW.2 D HDS.out).trans HD4.out
          exact ⟨blk_cell hb 0, blk_cell hb 1, blk_cell hb 2, blk_cell hb 3⟩
        have HRW : Hid (∀ W, Ag S4 w4 W → Rw wD.heap.size W (.slice A4 M.length c4) M) := fun W hW => rw_agree HR4.out HRS.out hW
        clear hr hM hf4 hML HDS HRS HD4 HDB HR4
        obtain ⟨c0, c1, c2, c3⟩ := HD.out w4 (Ag.refl _ _)
        go_upto_block 2 with fail
        go_cut [] from 35 to 178 (fun wx => Inv w3 f w.heap.size HB SB (i + 1) wx)
        case first =>
          by_cases hw3 : d.what ≤ 3
          · as_aux_lemma =>
              go_upto_if 43 with fail
              go_cut [43] from 35 to 47 (fun v43 wx => v43 = .bool true ∧ wx = w4)
              case first =>
                have hw4 : d.what = 0 ∨ d.what = 1 ∨ d.what = 2 ∨ d.what = 3 := by omega
                rcases hw4 with hw | hw | hw | hw
                all_goals (
                  rw [hw]
                  go_wp2_with fail
                  go_meet
                  case rel => exact ⟨by first | rfl | (simp [hw]), rfl⟩)
              case rest =>
                obtain ⟨hv, hw⟩ := hcut
                subst hv
                rw [hw]
                clear hw
                have hwu : IntKind.u8.wrap (i : Int) = (i : Int) := IntWalk.u8_in _ (by omega)
                have c1' : w4.drew.cell? ⟨D, 1, none⟩ = some (.int .i64 d.fr) := c1
                have c2' : w4.drew.cell? ⟨D, 2, none⟩ = some (.int .i64 d.to) := c2
                have hD4 : D < w4.heap.size := World.block_lt_of_cell? w4 (a := ⟨D, 1, none⟩) c1
                have HKP : Hid (∀ W, Fr No w4 W → W.cell? ⟨D, 1, none⟩ = some (.int .i64 d.fr) ∧ W.cell? ⟨D, 2, none⟩ = some (.int .i64 d.to) ∧ Fr No w4 W) := fun W hW =>
                  ⟨(hW.cell (p := ⟨D, 1, none⟩) hD4 (fun e => e)).trans c1, (hW.cell (p := ⟨D, 2, none⟩) hD4 (fun e => e)).trans c2, hW⟩
                have HFO : Hid (∀ W, (W.cell? ⟨D, 1, none⟩ = some (.int .i64 d.fr) ∧ W.cell? ⟨D, 2, none⟩ = some (.int .i64 d.to) ∧ Fr No w4 W) → Fr No w4 W) := fun W h => h.2.2
                go_upto_region 16 with fail
                go_cut [10] from 35 to 57 (fun v10 wx => ∃ G B : Nat, v10 = .pointer (some ⟨G, 0, none⟩) ∧ wx.heap[G]? = some (.cells #[.int .i64 (pick d.fr 4 : Int), .int .i64 (pick d.to 4 : Int), .slice (some ⟨B, 0, none⟩) 1 1] 30 (0, 0)) ∧ wx.heap[B]? = some (.cells #[.int .u8 (i : Int)] 5 (0, 0)) ∧ w4.heap.size ≤ B ∧ w4.heap.size ≤ G ∧ Fr No w4 wx)
                case first =>
                  go_region_held3 (fun W => W.cell? ⟨D, 1, none⟩ = some (.int .i64 d.fr) ∧ W.cell? ⟨D, 2, none⟩ = some (.int .i64 d.to) ∧ Fr No w4 W)
                    (first | exact ⟨c1', c2', Fr.drew No w4⟩ | exact HKP.out _ ((HFO.out _ (by assumption)).no_trans (Fr.alloc No _ _)) | exact HKP.out _ ((Fr.alloc No w4 _).no_trans (Fr.drew No _)) | exact HKP.out _ (((Fr.alloc No w4 _).no_trans (Fr.alloc No _ _)).no_trans (Fr.drew No _)))
                    (first | (go_at_call 30; refine (pick_any _ _ 4 (by omega) (by omega)).mono ?_; rintro e w5 ⟨rfl, rfl⟩))
                  all_goals (
                    go_wp2_with fail
                    go_meet
                    case rel => first
                      | exact ⟨w4.heap.size + 1, w4.heap.size, rfl, (two_new w4 _ _).2.1, (two_new w4 _ _).1, Nat.le_refl _, Nat.le_succ _, (two_new w4 _ _).2.2⟩
                      | exact ⟨w4.heap.size, w4.heap.size + 1, rfl, (two_new w4 _ _).1, (two_new w4 _ _).2.1, Nat.le_succ _, Nat.le_refl _, (two_new w4 _ _).2.2⟩)
                case rest =>
                  obtain ⟨G, B, rfl, hG, hB, hB4, hG4, hf5⟩ := hcut
                  have HO5 := Lib.hid (HO4.out.lend hf5)
                  have HSG : Hid ((fun k => S4 k ∨ (w4.heap.size ≤ k ∧ k < wc.heap.size)) G) := .inr ⟨hG4, (Array.getElem?_eq_some_iff.1 hG).1⟩
                  have HSB : Hid ((fun k => S4 k ∨ (w4.heap.size ≤ k ∧ k < wc.heap.size)) B) := .inr ⟨hB4, (Array.getElem?_eq_some_iff.1 hB).1⟩
                  generalize (fun k => S4 k ∨ (w4.heap.size ≤ k ∧ k < wc.heap.size)) = S5 at HO5 HSG HSB
                  have hRB : Rd wc wc.heap.size (some ⟨B, 0, none⟩) 1 [UInt8.ofNat i] := ⟨rfl, fun _ => ⟨B, 0, rfl, (Array.getElem?_eq_some_iff.1 hB).1, fun j hj => by
                    have hj0 : j = 0 := by simp at hj; omega
                    subst hj0
                    refine (blk_cell hB 0).trans ?_
                    simp
                    omega⟩⟩
                  have HRB := Lib.hid hRB
                  have HG5 := Lib.hid hG
                  have HB5 := Lib.hid hB
                  have g0 : wc.cell? ⟨G, 0, none⟩ = some (.int .i64 (pick d.fr 4 : Int)) := blk_cell hG 0
                  have g1 : wc.cell? ⟨G, 1, none⟩ = some (.int .i64 (pick d.to 4 : Int)) := blk_cell hG 1
                  have g2 : wc.cell? ⟨G, 2, none⟩ = some (.slice (some ⟨B, 0, none⟩) 1 1) := blk_cell hG 2
                  have hpf : isN 4 (pick d.fr 4 : Int) = true := by
                    have := pick_lt d.fr (n := 4) (by omega)
                    unfold isN
                    rw [Bool.and_eq_true, decide_eq_true_iff, decide_eq_true_iff]
                    omega
                  have hpt : isN 4 (pick d.to 4 : Int) = true := by
                    have := pick_lt d.to (n := 4) (by omega)
                    unfold isN
                    rw [Bool.and_eq_true, decide_eq_true_iff, decide_eq_true_iff]
                    omega
                  have HPF := Lib.hid hpf
                  have HPT := Lib.hid hpt
                  generalize (pick d.fr 4 : Int) = pf at *
                  generalize (pick d.to 4 : Int) = pt at *
                  clear hG hB hRB hf5 hpf hpt c0 c1 c2 c3 c1' c2' hB4 hG4
                  go_wp2_with fail
                  refine (or_send HO5.out (by rw [List.length_map, HNL.out]; omega) pf pt HPF.out HPT.out (some ⟨B, 0, none⟩) 1 1 (by decide) [UInt8.ofNat i] HRB.out).mono ?_
                  rintro e w6 ⟨rfl, ho6, hag6⟩
                  have HO6 := Lib.hid ho6
                  have hG6 := (hag6.2 G HSG.out).trans HG5.out
                  have HBC := Lib.hid (show w6.cell? ⟨B, 0, none⟩ = some (.int .u8 (i : Int)) from blk_cell ((hag6.2 B HSB.out).trans HB5.out) 0)
                  have g0' : w6.cell? ⟨G, 0, none⟩ = some (.int .i64 pf) := blk_cell hG6 0
                  have g1' : w6.cell? ⟨G, 1, none⟩ = some (.int .i64 pt) := blk_cell hG6 1
                  have g2' : w6.cell? ⟨G, 2, none⟩ = some (.slice (some ⟨B, 0, none⟩) 1 1) := blk_cell hG6 2
                  obtain ⟨hb0, hb1⟩ := HO6.out.hcell h90
                  obtain ⟨⟨u0, hs0⟩, hs0'⟩ := HO6.out.sfree (k := i * 3) (by omega)
                  obtain ⟨⟨u1, hs1⟩, hs1'⟩ := HO6.out.sfree (k := i * 3 + 1) (by omega)
                  obtain ⟨⟨u2', hs2⟩, hs2'⟩ := HO6.out.sfree (k := i * 3 + 2) (by omega)
                  have hap := HO6.out.apart
                  have hGH : ∀ u, (w6.setCell ⟨HB, i, none⟩ u).heap[G]? = w6.heap[G]? := fun u => (Fr.setCell (F := fun j => j = HB) w6 ⟨HB, i, none⟩ u rfl).block G (Array.getElem?_eq_some_iff.1 hG6).1 (hap.2 G HSG.out).1
                  have k0 : (w6.setCell ⟨HB, i, none⟩ (.bool true)).cell? ⟨G, 0, none⟩ = some (.int .i64 pf) := blk_cell ((hGH _).trans hG6) 0
                  have k1 : (w6.setCell ⟨HB, i, none⟩ (.bool true)).cell? ⟨G, 1, none⟩ = some (.int .i64 pt) := blk_cell ((hGH _).trans hG6) 1
                  have k2 : (w6.setCell ⟨HB, i, none⟩ (.bool true)).cell? ⟨G, 2, none⟩ = some (.slice (some ⟨B, 0, none⟩) 1 1) := blk_cell ((hGH _).trans hG6) 2
                  have HOH := Lib.hid (HO6.out.setH h90 true)
                  obtain ⟨⟨v0, hv0⟩, hv0'⟩ := HOH.out.sfree (k := i * 3) (by omega)
                  obtain ⟨⟨v1, hv1⟩, hv1'⟩ := HOH.out.sfree (k := i * 3 + 1) (by omega)
                  obtain ⟨⟨v2, hv2⟩, hv2'⟩ := HOH.out.sfree (k := i * 3 + 2) (by omega)
                  have HOS := Lib.hid (HO6.out.setS h90 pf pt B HSB.out HBC.out)
                  obtain ⟨hbs0, hbs1⟩ := HOS.out.hcell h90
                  have hne := hap.1
                  clear ho6 hag6 hG6 g0 g1 g2 hap hGH
                  go_wp2_with fail
                  go_region
                  all_goals (
                    have HIE : Hid (Inv w3 f w.heap.size HB SB (i + 1) (((((w6.setCell ⟨HB, i, none⟩ (.bool true)).setCell ⟨SB, i * 3, none⟩ (.int .i64 pf)).setCell ⟨SB, i * 3 + 1, none⟩ (.int .i64 pt)).setCell ⟨SB, i * 3 + 2, none⟩ (.slice (some ⟨B, 0, none⟩) 1 1)).drew)) := by
                      have q := (HOH.out.setS h90 pf pt B HSB.out (((Fr.setCell (F := fun j => j = HB) w6 ⟨HB, i, none⟩ (.bool true) rfl).cell (p := ⟨B, 0, none⟩) (World.block_lt_of_cell? w6 (a := ⟨B, 0, none⟩) HBC.out) (HO6.out.apart.2 B HSB.out).1).trans HBC.out)).no (Fr.drew No _)
                      have e := gms_new sg h i (pf, pt, B) h90 (fun k hk => HTT.out k (HHT.out k hk))
                      refine ⟨S5, upd h i true, upd t i true, updS sg i (pf, pt, B), ?_, fun k hk => ?_, fun k hk => ?_⟩
                      · rw [e]; exact q
                      · unfold upd at hk ⊢
                        by_cases e : k = i
                        · rw [if_pos e]
                        · rw [if_neg e] at hk ⊢; exact HHT.out k hk
                      · unfold upd at hk
                        by_cases e : k = i
                        · omega
                        · rw [if_neg e] at hk; have := HTT.out k hk; omega
                    go_wp2_with fail
                    go_meet
                    case rel => exact HIE.out)
          · have hn0 : ¬ ((d.what : Int) = 0) := by omega
            have hn1 : ¬ ((d.what : Int) = 1) := by omega
            have hn2 : ¬ ((d.what : Int) = 2) := by omega
            have hn3 : ¬ ((d.what : Int) = 3) := by omega
            by_cases hw4 : d.what = 4
            · have hq4 : (d.what : Int) = 4 := by omega
              by_cases hv : 0 ≤ d.pl ∧ d.pl < (N : Int)
              · as_aux_lemma =>
                  obtain ⟨a, ha⟩ : ∃ a : Nat, d.pl = (a : Int) := ⟨d.pl.toNat, by omega⟩
                  have haN : a < N := by omega
                  obtain ⟨k, hk, hk90, hkh, hlk⟩ := gms_look sg h a (by rw [HNL.out]; exact haN)
                  have HK := Lib.hid hk
                  have hat : (M.map Gr.gm)[a]? = some (gmOf sg k) := by rw [HM.out, List.getElem?_map, hk]; rfl
                  obtain ⟨b4, o4, bd, yc, rfl, hy⟩ := was_all hk90 HRW.out (by rw [HML.out]; exact haN) hat
                  have HY := Lib.hid hy
                  have HLK := Lib.hid hlk
                  rw [ha] at c3
                  have HD3 : Hid (∀ W, Ag S4 w4 W → W.cell? ⟨D, 3, none⟩ = some (.int .i64 (a : Int))) := fun W hW => by rw [← ha]; exact (HD.out W hW).2.2.2
                  have haI : (a : Int) < (N : Int) := by omega
                  have ha0 : (0 : Int) ≤ (a : Int) := by omega
                  have hkI : (k : Int) < 90 := by omega
                  have hk0 : (0 : Int) ≤ (k : Int) := by omega
                  clear hv ha hy hlk hat hk
                  go_wp2_with fail
                  refine (or_take_gm HO4.out HLK.out).mono ?_
                  rintro e w5 ⟨A5, c5, rfl, hc5, hb5, ho5, hag5⟩
                  have HO5 := Lib.hid ho5
                  have hfz := Fr.alloc No w5 (.cells #[.int .i64 (sg k).1, .int .i64 (sg k).2.1, .slice A5 1 c5] 30)
                  have hagz := hag5.trans (ho5.ag_no hfz)
                  obtain ⟨wz, hwz⟩ : ∃ u, w5.alloc (.cells #[.int .i64 (sg k).1, .int .i64 (sg k).2.1, .slice A5 1 c5] 30) = u := ⟨_, rfl⟩
                  obtain ⟨T, hT⟩ : ∃ u, w5.heap.size = u := ⟨_, rfl⟩
                  have htb : wz.heap[T]? = some (.cells #[.int .i64 (sg k).1, .int .i64 (sg k).2.1, .slice A5 1 c5] 30 (0, 0)) := by rw [← hwz, ← hT]; exact heap_alloc_new w5 _
                  have HBX := Lib.hid (hb5.no hfz)
                  rw [hwz] at hfz hagz HBX
                  have HOz := Lib.hid (ho5.no hfz)
                  have HAz := Lib.hid hagz
                  obtain ⟨y0, y1, y2, y3, y4⟩ := HY.out wz hagz
                  have x3 := HD3.out wz hagz
                  have t0 : wz.cell? ⟨T, 0, none⟩ = some (.int .i64 (sg k).1) := blk_cell htb 0
                  have t1 : wz.cell? ⟨T, 1, none⟩ = some (.int .i64 (sg k).2.1) := blk_cell htb 1
                  have t2 : wz.cell? ⟨T, 2, none⟩ = some (.slice A5 1 c5) := blk_cell htb 2
                  have y0' : wz.drew.cell? ⟨b4, o4 + a * 3, none⟩ = some (.int .i64 (sg k).1) := y0
                  have y1' : wz.drew.cell? ⟨b4, o4 + a * 3 + 1, none⟩ = some (.int .i64 (sg k).2.1) := y1
                  have y2' : wz.drew.cell? ⟨b4, o4 + a * 3 + 2, none⟩ = some (.slice (some ⟨bd, 0, none⟩) 1 yc) := y2
                  have x3' : wz.drew.cell? ⟨D, 3, none⟩ = some (.int .i64 (a : Int)) := x3
                  have t0' : wz.drew.cell? ⟨T, 0, none⟩ = some (.int .i64 (sg k).1) := t0
                  have t1' : wz.drew.cell? ⟨T, 1, none⟩ = some (.int .i64 (sg k).2.1) := t1
                  have t2' : wz.drew.cell? ⟨T, 2, none⟩ = some (.slice A5 1 c5) := t2
                  have HEQ := Lib.hid (equal_yes wz.drew (sg k).1 (sg k).2.1 A5 (some ⟨bd, 0, none⟩) 1 1 c5 yc [UInt8.ofNat k] (show Rd wz wz.heap.size A5 1 [UInt8.ofNat k] from HBX.out.rd) y4)
                  clear hc5 hb5 ho5 hag5 hfz hagz htb y4
                  go_upto_region 22 with fail
                  clear hwz hT
                  go_still_tail 21, (by kernel_rfl)
                  change wpList _ _ _ _ _ wz.drew
                  go_wp2_with fail
                  refine HEQ.out.mono ?_
                  rintro e w6 ⟨rfl, hf6⟩
                  have hf6' := (Fr.drew No wz).no_trans hf6
                  have HO6 := Lib.hid (HOz.out.no hf6')
                  have hag6 := HAz.out.trans (HOz.out.ag_no hf6')
                  obtain ⟨z0, z1, z2, z3, z4⟩ := HY.out w6 hag6
                  have x36 := HD3.out w6 hag6
                  obtain ⟨hh0, hh1⟩ := HO6.out.hcell hk90
                  clear hf6 hf6' hag6 z4
                  go_wp2_with fail
                  go_meet
                  case rel => exact inv_gone HO6.out HK.out HHT.out HTT.out
              · as_aux_lemma =>
                  have hl : look ((ord h).map (gmOf sg)) d.pl = none := look_out _ _ (by rw [List.length_map, HNL.out]; omega)
                  have HL := Lib.hid hl
                  have hv' : (¬ (0 ≤ d.pl) ∧ decide (0 ≤ d.pl) = false) ∨ (0 ≤ d.pl ∧ ¬ (d.pl < (N : Int)) ∧ decide (d.pl < (N : Int)) = false) := by
                    by_cases h0 : 0 ≤ d.pl
                    · have : ¬ (d.pl < (N : Int)) := fun e => hv ⟨h0, e⟩
                      exact .inr ⟨h0, this, decide_eq_false this⟩
                    · exact .inl ⟨h0, decide_eq_false h0⟩
                  clear hl hv
                  go_wp2_with fail
                  refine (or_take_no HO4.out HL.out).mono ?_
                  rintro e w5 ⟨rfl, hf5⟩
                  have hfz := hf5.no_trans (Fr.alloc No w5 (.cells #[.int .i64 0, .int .i64 0, .slice none 0 0] 30))
                  obtain ⟨wz, HWZ⟩ : ∃ u, Hid (w5.alloc (.cells #[.int .i64 0, .int .i64 0, .slice none 0 0] 30) = u) := ⟨_, rfl⟩
                  rw [HWZ.out] at hfz
                  have HOz := Lib.hid (HO4.out.no hfz)
                  have x3 := (HD.out wz (HO4.out.ag_no hfz)).2.2.2
                  clear hf5 hfz
                  go_upto_region 22 with fail
                  rw [HWZ.out]
                  rcases hv' with ⟨hz1, hz2⟩ | ⟨hz1, hz2, hz3⟩
                  all_goals (
                    go_quiet (fail)
                    have HOq := Lib.hid (HOz.out.no (Fr.drewN No wz nq))
                    go_wp2_with fail
                    go_meet
                    case rel => exact inv_same HOq.out HHT.out HTT.out)
            · have hq4 : ¬ ((d.what : Int) = 4) := by omega
              by_cases hw5 : d.what = 5
              · have hq5 : (d.what : Int) = 5 := by omega
                by_cases hv : 0 ≤ d.pl ∧ d.pl < (N : Int)
                · as_aux_lemma =>
                    obtain ⟨a, ha⟩ : ∃ a : Nat, d.pl = (a : Int) := ⟨d.pl.toNat, by omega⟩
                    have haN : a < N := by omega
                    obtain ⟨k, hk, hk90, hkh, hlk⟩ := gms_look sg h a (by rw [HNL.out]; exact haN)
                    have HK := Lib.hid hk
                    have hat : (M.map Gr.gm)[a]? = some (gmOf sg k) := by rw [HM.out, List.getElem?_map, hk]; rfl
                    obtain ⟨b4, o4, bd, yc, rfl, hy⟩ := was_all hk90 HRW.out (by rw [HML.out]; exact haN) hat
                    have HY := Lib.hid hy
                    have HLK := Lib.hid hlk
                    rw [ha] at c3
                    have HD3 : Hid (∀ W, Ag S4 w4 W → W.cell? ⟨D, 3, none⟩ = some (.int .i64 (a : Int))) := fun W hW => by rw [← ha]; exact (HD.out W hW).2.2.2
                    have haI : (a : Int) < (N : Int) := by omega
                    have ha0 : (0 : Int) ≤ (a : Int) := by omega
                    have hkI : (k : Int) < 90 := by omega
                    have hk0 : (0 : Int) ≤ (k : Int) := by omega
                    have c3' : w4.drew.cell? ⟨D, 3, none⟩ = some (.int .i64 (a : Int)) := c3
                    have HOd := Lib.hid (HO4.out.no (Fr.drew No w4))
                    have HAd := Lib.hid (HO4.out.ag_no (Fr.drew No w4))
                    clear hv ha hy hlk hat hk
                    go_upto_region 27 with fail
                    go_region_held3 (fun W => W.cell? ⟨D, 3, none⟩ = some (.int .i64 (a : Int)))
                      (first | exact c3' | exact x35)
                      (first | (go_at_call 14; refine (or_drop_yes HOd.out HLK.out).mono ?_; rintro e w5 ⟨rfl, ho5, hag5⟩; have HO5 := Lib.hid ho5; have HA5 := Lib.hid (HAd.out.trans hag5); have x35 := HD3.out w5 (HAd.out.trans hag5); clear ho5 hag5))
                    all_goals (
                      obtain ⟨z0, z1, z2, z3, z4⟩ := HY.out w5 HA5.out
                      obtain ⟨hh0, hh1⟩ := HO5.out.hcell hk90
                      clear z4
                      go_wp2_with fail
                      go_meet
                      case rel => exact inv_gone HO5.out HK.out HHT.out HTT.out)
                · as_aux_lemma =>
                    have hl : look ((ord h).map (gmOf sg)) d.pl = none := look_out _ _ (by rw [List.length_map, HNL.out]; omega)
                    have HL := Lib.hid hl
                    have hv' : ∃ z : Int, d.pl = z ∧ ((∃ m, z = Int.negSucc m) ∨ ∃ a : Nat, z = (a : Int) ∧ ¬ ((a : Int) < (N : Int))) := by
                      refine ⟨d.pl, rfl, ?_⟩
                      cases hz : d.pl with
                      | negSucc m => exact .inl ⟨m, rfl⟩
                      | ofNat a =>
                        refine .inr ⟨a, rfl, fun e => hv ⟨?_, ?_⟩⟩
                        · rw [hz]; exact Int.natCast_nonneg a
                        · rw [hz]; exact e
                    obtain ⟨z, hz, hv'⟩ := hv'
                    have HD3 : Hid (∀ W, Ag S4 w4 W → W.cell? ⟨D, 3, none⟩ = some (.int .i64 z)) := fun W hW => by rw [← hz]; exact (HD.out W hW).2.2.2
                    have HLZ := Lib.hid (show look ((ord h).map (gmOf sg)) z = none by rw [← hz]; exact HL.out)
                    rw [hz] at c3
                    have HOd := Lib.hid (HO4.out.no (Fr.drew No w4))
                    have HAd := Lib.hid (HO4.out.ag_no (Fr.drew No w4))
                    clear hl hv hz HL
                    rcases hv' with ⟨m, rfl⟩ | ⟨a, rfl, hz2⟩
                    case' inl =>
                      have c3' : w4.drew.cell? ⟨D, 3, none⟩ = some (.int .i64 (Int.negSucc m)) := c3
                      have hng : decide ((0 : Int) ≤ Int.negSucc m) = false := rfl
                      go_upto_region 27 with fail
                      refine wp_region_held_drew (S := fun W => W.cell? ⟨D, 3, none⟩ = some (.int .i64 (Int.negSucc m))) (by kernel_rfl) c3' (fun hHeld => ?_)
                      refine wpAnyH_take (i := 0) (oi := _) (v := .pointer (some ⟨w.heap.size, 0, none⟩)) rfl (by kernel_rfl) (by kernel_rfl) (by kernel_rfl) (fun _ _ _ h => h) (Or.inl ⟨by rfl, fun W hS => by rfl⟩) hHeld ?_
                      try simp only [Act.put, List.getElem_toArray, List.getElem_cons_zero, List.setIfInBounds_toArray, List.set_cons_zero, List.set_cons_succ]
                      refine wpAnyH_take (i := 1) (oi := _) (v := .pointer (some ⟨D, 3, none⟩)) rfl (by kernel_rfl) (by kernel_rfl) (by kernel_rfl) (fun _ _ _ h => h) (Or.inl ⟨by rfl, fun W hS => by go_simp⟩) hHeld ?_
                      try simp only [Act.put, List.getElem_toArray, List.getElem_cons_zero, List.getElem_cons_succ, List.setIfInBounds_toArray, List.set_cons_zero, List.set_cons_succ]
                      refine wpAnyH_take (i := 2) (oi := _) (v := .int .i64 (Int.negSucc m)) rfl (by kernel_rfl) (by kernel_rfl) (by kernel_rfl) (fun _ _ _ h => h) (Or.inl ⟨by rfl, fun W hS => by go_simp⟩) hHeld ?_
                      try simp only [Act.put, List.getElem_toArray, List.getElem_cons_zero, List.getElem_cons_succ, List.setIfInBounds_toArray, List.set_cons_zero, List.set_cons_succ]
                      refine wpAnyH_take (i := 4) (oi := _) (v := .pointer (some ⟨D, 3, none⟩)) rfl (by kernel_rfl) (by kernel_rfl) (by kernel_rfl) (fun _ _ _ h => h) (Or.inl ⟨by rfl, fun W hS => by go_simp⟩) hHeld ?_
                      try simp only [Act.put, List.getElem_toArray, List.getElem_cons_zero, List.getElem_cons_succ, List.setIfInBounds_toArray, List.set_cons_zero, List.set_cons_succ]
                      refine wpAnyH_take (i := 5) (oi := _) (v := .int .i64 (Int.negSucc m)) rfl (by kernel_rfl) (by kernel_rfl) (by kernel_rfl) (fun _ _ _ h => h) (Or.inl ⟨by rfl, fun W hS => by go_simp⟩) hHeld ?_
                      try simp only [Act.put, List.getElem_toArray, List.getElem_cons_zero, List.getElem_cons_succ, List.setIfInBounds_toArray, List.set_cons_zero, List.set_cons_succ]
                      refine wpAnyH_take (i := 6) (oi := _) (v := .bool false) rfl (by kernel_rfl) (by kernel_rfl) (by kernel_rfl) (fun _ _ _ h => h) (Or.inl ⟨by rfl, fun W hS => by go_simp⟩) hHeld ?_
                      try simp only [Act.put, List.getElem_toArray, List.getElem_cons_zero, List.getElem_cons_succ, List.setIfInBounds_toArray, List.set_cons_zero, List.set_cons_succ]
                      clear hHeld
                      refine wpAnyH_ready (rs := [3]) (by kernel_rfl) (by simp) ?_
                      refine AllReadyH.cons (o := _) rfl (fun K hK => ?_) AllReadyH.nil
                      rw [if_pos (by rfl)]
                      go_wp2_with fail
                      refine (or_drop_no HOd.out HLZ.out).mono ?_
                      rintro e w5 ⟨rfl, ho5, hag5⟩
                      have HO5 := Lib.hid ho5
                      have x35 := HD3.out w5 (HAd.out.trans hag5)
                      clear ho5 hag5
                      go_wp2_with fail
                      refine hK.out _ _ x35 (fun hHeld => ?_)
                      clear hK K
                      try simp only [Act.put, List.getElem_toArray, List.getElem_cons_zero, List.getElem_cons_succ, List.setIfInBounds_toArray, List.set_cons_zero, List.set_cons_succ]
                      refine wpAnyH_take (i := 7) (oi := _) (v := .bool false) rfl (by kernel_rfl) (by kernel_rfl) (by kernel_rfl) (fun _ _ _ h => h) (Or.inl ⟨by rfl, fun W hS => by rfl⟩) hHeld ?_
                      try simp only [Act.put, List.getElem_toArray, List.getElem_cons_zero, List.getElem_cons_succ, List.setIfInBounds_toArray, List.set_cons_zero, List.set_cons_succ]
                      refine wpAnyH_take (i := 8) (oi := _) (v := undef) rfl (by kernel_rfl) (by kernel_rfl) (by kernel_rfl) (fun _ _ _ h => h) (Or.inr ⟨by rfl, rfl⟩) hHeld ?_
                      try simp only [Act.put, List.getElem_toArray, List.getElem_cons_zero, List.getElem_cons_succ, List.setIfInBounds_toArray, List.set_cons_zero, List.set_cons_succ]
                      refine wpAnyH_take (i := 9) (oi := _) (v := undef) rfl (by kernel_rfl) (by kernel_rfl) (by kernel_rfl) (fun _ _ _ h => h) (Or.inr ⟨by rfl, rfl⟩) hHeld ?_
                      try simp only [Act.put, List.getElem_toArray, List.getElem_cons_zero, List.getElem_cons_succ, List.setIfInBounds_toArray, List.set_cons_zero, List.set_cons_succ]
                      refine wpAnyH_take (i := 10) (oi := _) (v := undef) rfl (by kernel_rfl) (by kernel_rfl) (by kernel_rfl) (fun _ _ _ h => h) (Or.inr ⟨by rfl, rfl⟩) hHeld ?_
                      try simp only [Act.put, List.getElem_toArray, List.getElem_cons_zero, List.getElem_cons_succ, List.setIfInBounds_toArray, List.set_cons_zero, List.set_cons_succ]
                      refine wpAnyH_take (i := 11) (oi := _) (v := undef) rfl (by kernel_rfl) (by kernel_rfl) (by kernel_rfl) (fun _ _ _ h => h) (Or.inr ⟨by rfl, rfl⟩) hHeld ?_
                      try simp only [Act.put, List.getElem_toArray, List.getElem_cons_zero, List.getElem_cons_succ, List.setIfInBounds_toArray, List.set_cons_zero, List.set_cons_succ]
                      refine wpAnyH_take (i := 12) (oi := _) (v := undef) rfl (by kernel_rfl) (by kernel_rfl) (by kernel_rfl) (fun _ _ _ h => h) (Or.inr ⟨by rfl, rfl⟩) hHeld ?_
                      try simp only [Act.put, List.getElem_toArray, List.getElem_cons_zero, List.getElem_cons_succ, List.setIfInBounds_toArray, List.set_cons_zero, List.set_cons_succ]
                      refine wpAnyH_take (i := 13) (oi := _) (v := .bool false) rfl (by kernel_rfl) (by kernel_rfl) (by kernel_rfl) (fun _ _ _ h => h) (Or.inl ⟨by rfl, fun W hS => by go_simp⟩) hHeld ?_
                      try simp only [Act.put, List.getElem_toArray, List.getElem_cons_zero, List.getElem_cons_succ, List.setIfInBounds_toArray, List.set_cons_zero, List.set_cons_succ]
                      refine wpAnyH_take (i := 14) (oi := _) (v := .bool false) rfl (by kernel_rfl) (by kernel_rfl) (by kernel_rfl) (fun _ _ _ h => h) (Or.inl ⟨by rfl, fun W hS => by go_simp⟩) hHeld ?_
                      try simp only [Act.put, List.getElem_toArray, List.getElem_cons_zero, List.getElem_cons_succ, List.setIfInBounds_toArray, List.set_cons_zero, List.set_cons_succ]
                      refine wpAnyH_done (by kernel_rfl) ?_ _
                    case' inr =>
                      have ha0 : (0 : Int) ≤ (a : Int) := by omega
                      have c3' : w4.drew.cell? ⟨D, 3, none⟩ = some (.int .i64 (a : Int)) := c3
                      go_upto_region 27 with fail
                      go_region_held3 (fun W => W.cell? ⟨D, 3, none⟩ = some (.int .i64 (a : Int)))
                        (first | exact c3' | exact x35)
                        (first | (go_at_call 14; refine (or_drop_no HOd.out HLZ.out).mono ?_; rintro e w5 ⟨rfl, ho5, hag5⟩; have HO5 := Lib.hid ho5; have HA5 := Lib.hid (HAd.out.trans hag5); have x35 := HD3.out w5 (HAd.out.trans hag5); clear ho5 hag5))
                    all_goals (
                      go_wp2_with fail
                      go_meet
                      case rel => exact inv_same HO5.out HHT.out HTT.out)
              · have hq5 : ¬ ((d.what : Int) = 5) := by omega
                by_cases hw7 : d.what = 7
                · as_aux_lemma =>
                    have hq7 : (d.what : Int) = 7 := by omega
                    clear hn0 hn1 hn2 hn3 hw3
                    go_wp2_with fail
                    go_loopw [13, 156] (fun v13 v156 wz => ∃ j : Nat, j ≤ N ∧ v156 = .int .i64 (j : Int) ∧ v13 = .int .i64 (cntT h sg d.to j : Int) ∧ Or w3 f w.heap.size HB SB S4 ((ord h).map (gmOf sg)) (hjs h sg d.to j) t sg wz ∧ Ag S4 w4 wz) (fun _ v156 _ => N - (intOf v156).toNat)
                    case atStart => exact ⟨0, by omega, rfl, by rw [cntT_zero]; rfl, by rw [hjs_zero]; exact HO4.out, Ag.refl _ _⟩
                    case round =>
                      obtain ⟨j, hj, rfl, rfl, hoj, hagj⟩ := hrel
                      have HOJ := Lib.hid hoj
                      have HAJ := Lib.hid hagj
                      clear hoj hagj
                      have hcl := cntT_le h sg d.to j
                      by_cases hjN : j < N
                      · obtain ⟨k, hk, hk90, hkh, _⟩ := gms_look sg h j (by rw [HNL.out]; exact hjN)
                        have HK := Lib.hid hk
                        have hat : (M.map Gr.gm)[j]? = some (gmOf sg k) := by rw [HM.out, List.getElem?_map, hk]; rfl
                        obtain ⟨b4, o4, bd, yc, rfl, hy⟩ := was_all hk90 HRW.out (by rw [HML.out]; exact hjN) hat
                        have HY := Lib.hid hy
                        have hjI : (j : Int) < (N : Int) := by omega
                        have hj0 : (0 : Int) ≤ (j : Int) := by omega
                        have hkI : (k : Int) < 90 := by omega
                        have hk0 : (0 : Int) ≤ (k : Int) := by omega
                        have hwj : IntKind.i64.wrap ((j : Int) + 1) = ((j + 1 : Nat) : Int) := by
                          rw [show ((j : Int) + 1) = ((j + 1 : Nat) : Int) by omega]
                          exact IntWalk.i64_in _ (by omega)
                        have hwc : IntKind.i64.wrap ((cntT h sg d.to j : Int) + 1) = ((cntT h sg d.to j + 1 : Nat) : Int) := by
                          rw [show ((cntT h sg d.to j : Int) + 1) = ((cntT h sg d.to j + 1 : Nat) : Int) by omega]
                          exact IntWalk.i64_in _ (by omega)
                        obtain ⟨y0, y1, y2, _, _⟩ := HY.out wr HAJ.out
                        clear hy hat hk
                        go_upto_region 36 with fail
                        have hfz := Fr.alloc No wr (.cells #[.int .i64 (sg k).1, .int .i64 (sg k).2.1, .slice (some ⟨bd, 0, none⟩) 1 yc] 30)
                        obtain ⟨wz, hwz⟩ : ∃ u, wr.alloc (.cells #[.int .i64 (sg k).1, .int .i64 (sg k).2.1, .slice (some ⟨bd, 0, none⟩) 1 yc] 30) = u := ⟨_, rfl⟩
                        obtain ⟨T, hT⟩ : ∃ u, wr.heap.size = u := ⟨_, rfl⟩
                        have htb : wz.heap[T]? = some (.cells #[.int .i64 (sg k).1, .int .i64 (sg k).2.1, .slice (some ⟨bd, 0, none⟩) 1 yc] 30 (0, 0)) := by rw [← hwz, ← hT]; exact heap_alloc_new wr _
                        rw [hwz] at hfz ⊢
                        rw [hT]
                        have HOz := Lib.hid (HOJ.out.no hfz)
                        have HAz := Lib.hid (HAJ.out.trans (HOJ.out.ag_no hfz))
                        clear hwz hT y0 y1 y2 hfz
                        have t1 : wz.cell? ⟨T, 1, none⟩ = some (.int .i64 (sg k).2.1) := blk_cell htb 1
                        have t2 : wz.cell? ⟨T, 2, none⟩ = some (.slice (some ⟨bd, 0, none⟩) 1 yc) := blk_cell htb 2
                        have x2 := (HD.out wz HAz.out).2.2.1
                        obtain ⟨_, _, _, z3, _⟩ := HY.out wz HAz.out
                        obtain ⟨hh0, hh1⟩ := HOz.out.hcell hk90
                        clear htb
                        by_cases hto : (sg k).2.1 = d.to
                        · have HB1 := Lib.hid (show ((sg k).2.1 == d.to) = true by rw [hto]; exact beq_self_eq_true _)
                          have HCY := Lib.hid (cntT_yes HK.out HB1.out)
                          have HHY := Lib.hid (hjs_yes HK.out HB1.out)
                          rw [hto] at t1
                          go_wp2_with fail
                          go_roundw
                          case rel => exact ⟨j + 1, by omega, by go_num, by rw [HCY.out]; rfl, by rw [HHY.out]; exact HOz.out.setH hk90 false, HAz.out.trans (HOz.out.ag_set k (.bool false)).1⟩
                          case measure => simp [intOf]; omega
                        · have HB1 := Lib.hid (show ((sg k).2.1 == d.to) = false from beq_eq_false_iff_ne.2 hto)
                          have HCN := Lib.hid (cntT_no HK.out HB1.out)
                          have HHN := Lib.hid (hjs_no HK.out HB1.out)
                          go_wp2_with fail
                          go_roundw
                          case rel => exact ⟨j + 1, by omega, by go_num, by rw [HCN.out], by rw [HHN.out]; exact HOz.out, HAz.out⟩
                          case measure => simp [intOf]; omega
                      · have hjN2 : j = N := by omega
                        subst hjN2
                        have hjI : ¬ ((j : Int) < (j : Int)) := by omega
                        have x2 := (HD.out wr HAJ.out).2.2.1
                        obtain ⟨cn, HCN⟩ : ∃ cn, Hid (cntT h sg d.to j = cn) := ⟨_, rfl⟩
                        rw [HCN.out]
                        go_wp2_with fail
                        refine (or_forget_all HOJ.out d.to HNL.out).mono ?_
                        rintro e w5 ⟨rfl, ho5, hag5⟩
                        rw [HCN.out]
                        have HO5 := Lib.hid ho5
                        clear ho5 hag5 x2
                        go_wp2_with fail
                        go_meet
                        case rel => exact inv_same HO5.out (fun k hk => HHT.out k (hjs_le hk)) HTT.out
                · have hq7 : ¬ ((d.what : Int) = 7) := by omega
                  go_wp2_with fail
                  go_meet
                  case rel => exact inv_same HO4.out HHT.out HTT.out
        case rest =>
          as_aux_lemma =>
            obtain ⟨S5, h5, t5, sg5, ho5, hht5, htt5⟩ := hcut
            have HO5 := Lib.hid ho5
            clear ho5 c0 c1 c2 c3
            go_wp2_with fail
            refine (or_all HO5.out).mono ?_
            rintro e w7 ⟨r7, M7, rfl, hr7, hM7, hf7⟩
            obtain ⟨A7, c7, e, hc7⟩ := hr7.sl
            subst e
            obtain ⟨N7, HN7⟩ : ∃ N, Hid ((ord h5).length = N) := ⟨_, rfl⟩
            have hML7 : M7.length = N7 := by rw [← HN7.out, ← List.length_map (f := gmOf sg5), ← hM7, List.length_map]
            have hN790 : N7 ≤ 90 := by rw [← HN7.out]; exact ord_len h5
            have HO7 := Lib.hid (HO5.out.no hf7)
            have HS7 := Lib.hid hr7.of
            have HM7 := Lib.hid hM7
            have HML7 := Lib.hid hML7
            have HHT5 := Lib.hid hht5
            have HTT5 := Lib.hid htt5
            rw [hML7] at hc7 HS7 ⊢
            clear hr7 hM7 hf7 hML7 hht5 htt5
            go_wp2_with fail
            go_loopw [17, 181] (fun v17 v181 wz => ∃ k : Nat, k ≤ 90 ∧ v181 = .int .i64 (k : Int) ∧ v17 = .int .i64 ((((List.range k).filter h5).length : Nat) : Int) ∧ Fr No w7 wz) (fun _ v181 _ => 90 - (intOf v181).toNat)
            case atStart => exact ⟨0, by omega, rfl, rfl, Fr.refl _ _⟩
            case round =>
              obtain ⟨k, hk, rfl, rfl, hf⟩ := hrel
              have HFK := Lib.hid hf
              clear hf
              obtain ⟨a, HA⟩ : ∃ a, Hid (((List.range k).filter h5).length = a) := ⟨_, rfl⟩
              rw [HA.out]
              by_cases hk90 : k < 90
              · have hkI : (k : Int) < 90 := by omega
                have hk0 : (0 : Int) ≤ (k : Int) := by omega
                have hwk : IntKind.i64.wrap ((k : Int) + 1) = ((k + 1 : Nat) : Int) := by
                  rw [show ((k : Int) + 1) = ((k + 1 : Nat) : Int) by omega]
                  exact IntWalk.i64_in _ (by omega)
                have hcell := ((HO7.out.no HFK.out).hcell hk90).1
                have HA2 : Hid (((List.range (k + 1)).filter h5).length = a + if h5 k then 1 else 0) := by
                  show _ = _
                  rw [List.range_succ, List.filter_append, List.length_append, HA.out, List.filter_cons]
                  cases h5 k <;> rfl
                cases hb : h5 k with
                | false =>
                  rw [hb] at hcell HA2
                  go_wp2_with fail
                  go_roundw
                  case rel => exact ⟨k + 1, by omega, by go_num, by rw [HA2.out]; rfl, HFK.out⟩
                  case measure => simp [intOf]; omega
                | true =>
                  rw [hb] at hcell HA2
                  have hat := ord_at h5 k hk90 hb
                  rw [HA.out] at hat
                  have haN : a < N7 := by rw [← HN7.out]; exact (List.getElem?_eq_some_iff.1 hat).1
                  obtain ⟨s0, s1, s2, s3⟩ := (HO7.out.no HFK.out).scell hk90 (HHT5.out k hb)
                  obtain ⟨b7, o7, rfl, hb7, hc7'⟩ := (HS7.out.no HFK.out).2 (by omega)
                  have hx7 := hc7' a (by rw [HML7.out]; exact haN)
                  have hgm : (M7[a]'(by rw [HML7.out]; exact haN)).gm = gmOf sg5 k := by
                    have e := congrArg (fun l => l[a]?) HM7.out
                    simp only [List.getElem?_map, hat, List.getElem?_eq_getElem (show a < M7.length by rw [HML7.out]; exact haN), Option.map_some, Option.some.injEq] at e
                    exact e
                  generalize M7[a]'(by rw [HML7.out]; exact haN) = y at *
                  obtain ⟨e1, e2, e3⟩ := gr_of hgm
                  have e3' : y.l = [UInt8.ofNat k] := e3
                  obtain ⟨r0, r1, r2⟩ := hx7.at_
                  have hrd := hx7.2.2.2.2
                  have en : y.n = 1 := by have := hrd.1; rw [e3'] at this; exact this.symm
                  have e1' : y.fr = (sg5 k).1 := e1
                  have e2' : y.to = (sg5 k).2.1 := e2
                  rw [e1'] at r0
                  rw [e2'] at r1
                  rw [e3', en] at hrd
                  rw [en] at r2
                  have HEQ := Lib.hid (fun W (hW : Fr No wr W) => equal_yes W (sg5 k).1 (sg5 k).2.1 y.A (some ⟨(sg5 k).2.2, 0, none⟩) 1 1 y.c 1 [UInt8.ofNat k] ((hW.rd (Nat.le_refl _) hrd).more hW.size) ((hW.rd (Nat.le_refl _) s3).more hW.size))
                  have HDR := Lib.hid (Fr.drew No wr)
                  have haI : (a : Int) < (N7 : Int) := by omega
                  have ha0 : (0 : Int) ≤ (a : Int) := by omega
                  have hge : decide ((N7 : Int) ≤ (a : Int)) = false := by rw [decide_eq_false_iff_not]; omega
                  have hwa : IntKind.i64.wrap ((a : Int) + 1) = ((a + 1 : Nat) : Int) := by
                    rw [show ((a : Int) + 1) = ((a + 1 : Nat) : Int) by omega]
                    exact IntWalk.i64_in _ (by omega)
                  clear hgm e1 e2 e3 e3' en e1' e2' hrd s3 hx7 hc7' hat
                  have s0' : wr.drew.cell? ⟨SB, k * 3, none⟩ = some (.int .i64 (sg5 k).1) := s0
                  have s1' : wr.drew.cell? ⟨SB, k * 3 + 1, none⟩ = some (.int .i64 (sg5 k).2.1) := s1
                  have s2' : wr.drew.cell? ⟨SB, k * 3 + 2, none⟩ = some (.slice (some ⟨(sg5 k).2.2, 0, none⟩) 1 1) := s2
                  have r0' : wr.drew.cell? ⟨b7, o7 + a * 3, none⟩ = some (.int .i64 (sg5 k).1) := r0
                  have r1' : wr.drew.cell? ⟨b7, o7 + a * 3 + 1, none⟩ = some (.int .i64 (sg5 k).2.1) := r1
                  have r2' : wr.drew.cell? ⟨b7, o7 + a * 3 + 2, none⟩ = some (.slice y.A 1 y.c) := r2
                  go_wp2_with fail
                  go_still_tail 12, (by kernel_rfl)
                  change wpList _ _ _ _ _ wr.drew
                  go_wp2_with fail
                  refine (HEQ.out _ HDR.out).mono ?_
                  rintro e w8 ⟨rfl, hf8⟩
                  have HF8 := Lib.hid hf8
                  clear hf8
                  go_wp2_with fail
                  go_roundw
                  case rel => exact ⟨k + 1, by omega, by go_num, by rw [HA2.out]; rfl, (HFK.out.no_trans HDR.out).no_trans HF8.out⟩
                  case measure => simp [intOf]; omega
              · have hk9 : k = 90 := by omega
                subst hk9
                have hkI : ¬ (((90 : Nat) : Int) < 90) := by omega
                have haN : a = N7 := by rw [← HA.out, ← HN7.out]; rfl
                subst haN
                go_wp2_with fail
                go_roundw
                case rel => exact ⟨i + 1, by omega, by omega, by go_num, S5, h5, t5, sg5, HO7.out.no HFK.out, HHT5.out, HTT5.out⟩
                case measure => simp [intOf]; omega
      · have hi90' : i = 90 := by omega
        have h90I : ¬ ((i : Int) < 90) := by omega
        clear hi90'
        go_wp2_with fail
        refine (awake_any _).mono ?_
        rintro e w5 ⟨rfl, hb⟩
        have HB5 := Lib.hid (HBW.out.trans (hb.mono HBW.out.size))
        clear hb
        go_wp2_with fail
        go_ret
        exact ⟨rfl, HB5.out⟩
    · have hltI : ¬ ((i : Int) < (n : Int)) := by omega
      go_wp2_with fail
      refine (awake_any _).mono ?_
      rintro e w5 ⟨rfl, hb⟩
      have HB5 := Lib.hid (HBW.out.trans (hb.mono HBW.out.size))
      clear hb
      go_wp2_with fail
      go_ret
      exact ⟨rfl, HB5.out⟩
end Go.Proofs.Ytndanonhkjgmhaa

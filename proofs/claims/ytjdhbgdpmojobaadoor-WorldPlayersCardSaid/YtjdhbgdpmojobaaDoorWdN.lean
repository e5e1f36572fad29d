/-
  A chunk put into a world: the walk. No statement of the seat is proved here.
-/
import Derived.Test.YtjdhbgdpmojobaaDoorWdMa
namespace Go.Proofs.YtjdhbgdpmojobaaDoor
open Go.RowKit Go.Deep

set_option maxRecDepth 100000 in
set_option maxHeartbeats 3200000 in
theorem wput_any {w : World} {d : Wd} {C : Ch} (ht : ItT w) (h : InW w d) (z : SzW d) (hC : InC w C) : Calls Tryd.prog 10 #[d.val, C.val] w fun e w' => ∃ d' : Wd, e = .returned (.tuple #[d'.val, .int .i64 (putE d.v C.ck)]) ∧ d'.v = putV d.v C.ck ∧ OwW w.heap.size w' d' ∧ Fr No w w' := by
  have HOWN := Lib.hid (fun W (hW : Fr No w W) => wown_x (h.no hW) z)
  have HRT := Lib.hid (fun W (hW : Fr No w W) => wright_any (ht.no hW) (h.no hW))
  have HRC := Lib.hid (fun W (hW : Fr No w W) => rchunk_any (ht.no hW) (hC.no hW) d.size)
  have HIT := Lib.hid ht
  have HINC := Lib.hid hC
  have HPE : Hid (putE d.v C.ck = if rgtW d.v = true then (if rgtCW d.size C.ck = true then 0 else 101) else 113) := Lib.hid rfl
  have HPV : Hid (putV d.v C.ck = if rgtW d.v = true then (if rgtCW d.size C.ck = true then ⟨d.size, d.sd, d.tick, putC d.sd d.v.cs C.ck, d.v.ps⟩ else d.v) else d.v) := Lib.hid rfl
  have HR1 : Hid (rgtW d.v = true → RgtW d.v) := Lib.hid rgtW_iff.1
  have HR2 : Hid (rgtCW d.size C.ck = true → Rgt C.ck) := Lib.hid (fun q => (rgtCW_iff.1 q).1)
  obtain ⟨p, hp⟩ : ∃ p, rgtW d.v = p := ⟨_, rfl⟩
  obtain ⟨q, hq⟩ : ∃ q, rgtCW d.size C.ck = q := ⟨_, rfl⟩
  rw [hp] at HRT HPE HPV HR1
  rw [hq] at HRC HPE HPV HR2
  obtain ⟨E, hE⟩ : ∃ E, putE d.v C.ck = E := ⟨_, rfl⟩
  obtain ⟨V, hV⟩ : ∃ V, putV d.v C.ck = V := ⟨_, rfl⟩
  rw [hE] at HPE ⊢
  rw [hV] at HPV ⊢
  clear hp hq hE hV ht h z hC
  obtain ⟨SV, hSV⟩ : ∃ SV, (d.sd.toNat : Int) = SV := ⟨_, rfl⟩
  have HSV := Lib.hid hSV
  obtain ⟨size, sd, tick, A3, n3, c3, cs, A4, n4, c4, ps⟩ := d
  obtain ⟨x, y, B1, m1, e1, xs, B2, m2, e2, hps, B3, m3, e3, bs⟩ := C
  dsimp only [Wd.val, Ch.val, u64v] at *
  rw [hSV] at HOWN HRT ⊢
  clear hSV
  have hb0 := heap_alloc_new w (.cells #[.int .i64 size, .int .u64 SV, .int .i64 tick, .slice A3 n3 c3, .slice A4 n4 c4] 26)
  have hf0 := Fr.alloc No w (.cells #[.int .i64 size, .int .u64 SV, .int .i64 tick, .slice A3 n3 c3, .slice A4 n4 c4] 26)
  have hb1 := heap_alloc_new (w.alloc (.cells #[.int .i64 size, .int .u64 SV, .int .i64 tick, .slice A3 n3 c3, .slice A4 n4 c4] 26)) (.cells #[.int .i64 x, .int .i64 y, .slice B1 m1 e1, .slice B2 m2 e2, .slice B3 m3 e3] 31)
  have hf1 := Fr.alloc No (w.alloc (.cells #[.int .i64 size, .int .u64 SV, .int .i64 tick, .slice A3 n3 c3, .slice A4 n4 c4] 26)) (.cells #[.int .i64 x, .int .i64 y, .slice B1 m1 e1, .slice B2 m2 e2, .slice B3 m3 e3] 31)
  have hb2 := heap_alloc_new ((w.alloc (.cells #[.int .i64 size, .int .u64 SV, .int .i64 tick, .slice A3 n3 c3, .slice A4 n4 c4] 26)).alloc (.cells #[.int .i64 x, .int .i64 y, .slice B1 m1 e1, .slice B2 m2 e2, .slice B3 m3 e3] 31)) (.cells #[.int .i64 0, .int .u64 0, .int .i64 0, .slice none 0 0, .slice none 0 0] 26)
  have hf2 := Fr.alloc No ((w.alloc (.cells #[.int .i64 size, .int .u64 SV, .int .i64 tick, .slice A3 n3 c3, .slice A4 n4 c4] 26)).alloc (.cells #[.int .i64 x, .int .i64 y, .slice B1 m1 e1, .slice B2 m2 e2, .slice B3 m3 e3] 31)) (.cells #[.int .i64 0, .int .u64 0, .int .i64 0, .slice none 0 0, .slice none 0 0] 26)
  have hbD := blk_no (hf1.no_trans hf2) hb0
  have hbC := blk_no hf2 hb1
  have HFX := Lib.hid ((hf0.no_trans hf1).no_trans hf2)
  simp only [World.size_alloc] at hbC hb2
  clear hb0 hb1 hf0 hf1 hf2
  go_enter Tryd.func10, Tryd.ntmps10
  go_upto_region 1 with fail
  obtain ⟨D, hD⟩ : ∃ D, w.heap.size = D := ⟨_, rfl⟩
  have HD := Lib.hid hD
  try simp only [World.size_alloc]
  rw [hD] at hbD hbC hb2 ⊢
  clear hD
  generalize ((w.alloc (.cells #[.int .i64 size, .int .u64 SV, .int .i64 tick, .slice A3 n3 c3, .slice A4 n4 c4] 26)).alloc (.cells #[.int .i64 x, .int .i64 y, .slice B1 m1 e1, .slice B2 m2 e2, .slice B3 m3 e3] 31)).alloc (.cells #[.int .i64 0, .int .u64 0, .int .i64 0, .slice none 0 0, .slice none 0 0] 26) = wx at *
  have HBD := Lib.hid hbD
  have HBC := Lib.hid hbC
  have HB2 := Lib.hid hb2
  obtain ⟨k0, k1, k2, k3, k4⟩ := cells5 hbD
  clear hbD hbC hb2
  go_upto_region 2 with (go_at_call 27; refine (HOWN.out _ HFX.out).mono ?_; rintro e w1 ⟨A3', c3', cs', A4', c4', ps', rfl, hv, ho, hf⟩; have HV1 := Lib.hid hv; have HO1 := Lib.hid ho; have HF1 := Lib.hid hf; clear hv ho hf k0 k1 k2 k3 k4)
  have hbG := heap_alloc_new w1 (.cells #[.int .i64 size, .int .u64 SV, .int .i64 tick, .slice A3' n3 c3', .slice A4' n4 c4'] 26)
  have hfG := Fr.alloc No w1 (.cells #[.int .i64 size, .int .u64 SV, .int .i64 tick, .slice A3' n3 c3', .slice A4' n4 c4'] 26)
  obtain ⟨G, hG⟩ : ∃ G, w1.heap.size = G := ⟨_, rfl⟩
  have HGD : Hid (D + 1 + 1 < G) := Lib.hid (by have := (Array.getElem?_eq_some_iff.1 HB2.out).1; have := HF1.out.size; omega)
  have HLO : Hid (D + 1 + 1 + 1 ≤ wx.heap.size) := Lib.hid (by have := (Array.getElem?_eq_some_iff.1 HB2.out).1; omega)
  rw [hG] at hbG ⊢
  clear hG
  have HP : Hid (PutS w D G #[.int .i64 size, .int .u64 SV, .int .i64 tick, .slice A3 n3 c3, .slice A4 n4 c4] #[.int .i64 x, .int .i64 y, .slice B1 m1 e1, .slice B2 m2 e2, .slice B3 m3 e3] 31 ⟨size, sd, tick, A3', n3, c3', cs', A4', n4, c4', ps'⟩ (w1.alloc (.cells #[.int .i64 size, .int .u64 SV, .int .i64 tick, .slice A3' n3 c3', .slice A4' n4 c4'] 26))) := Lib.hid ⟨blk_no (HF1.out.no_trans hfG) HBD.out, blk_no (HF1.out.no_trans hfG) HBC.out, blk_no (HF1.out.no_trans hfG) HB2.out, by dsimp only; rw [HSV.out]; exact hbG, HGD.out, HD.out, (HO1.out.low HLO.out).no hfG, (HFX.out.no_trans HF1.out).no_trans hfG⟩
  generalize w1.alloc (.cells #[.int .i64 size, .int .u64 SV, .int .i64 tick, .slice A3' n3 c3', .slice A4' n4 c4'] 26) = wy at *
  clear hbG hfG HBD HBC HB2 HO1 HF1 HLO HGD HFX
  obtain ⟨k0, k1, k2, k3, k4⟩ := cells5 HP.out.h0
  have HVV : Hid ((cs'.map Ch.ck = cs.map Ch.ck) ∧ ps'.map Pl.py = ps.map Pl.py) := Lib.hid HV1.out
  clear HV1
  have HSAME : Hid (Wd.v ⟨size, sd, tick, A3', n3, c3', cs', A4', n4, c4', ps'⟩ = Wd.v ⟨size, sd, tick, A3, n3, c3, cs, A4, n4, c4, ps⟩) := Lib.hid (by unfold Wd.v; dsimp only; rw [HVV.out.1, HVV.out.2])
  cases p with
  | false =>
    have HE : Hid (E = 113) := Lib.hid (by rw [HPE.out]; rfl)
    have HV : Hid (V = Wd.v ⟨size, sd, tick, A3, n3, c3, cs, A4, n4, c4, ps⟩) := Lib.hid (by rw [HPV.out]; rfl)
    clear HPE HPV HR1 HR2 HOWN HRC
    go_upto_region 3 with (go_at_call 8; refine (HRT.out _ HP.out.fr).mono ?_; rintro e w2 ⟨rfl, hf⟩; have HP2 := Lib.hid (HP.out.no hf); clear hf k0 k1 k2 k3 k4)
    obtain ⟨r0, r1, r2, r3, r4⟩ := cells5 HP2.out.hG
    obtain ⟨s0, s1, s2, s3, s4⟩ := cells5 HP2.out.h2
    obtain ⟨z0, z1, z2, z3, z4⟩ := free5 HP2.out.h2
    dsimp only at r0 r1 r2 r3 r4
    rw [HSV.out] at r1
    go_wp2_with fail
    have hfin := HP2.out.fin
    dsimp only at hfin
    rw [HSV.out] at hfin
    refine bodyPost_ret (results_cell_tmp_rowC (p := 4) rfl _ _ (D + 1 + 1) 26 #[.int .i64 size, .int .u64 SV, .int .i64 tick, .slice A3' n3 c3', .slice A4' n4 c4'] (0, 0) _ rfl hfin.1 Tryd.underlying26 rfl (by kernel_rfl)) rfl ?_
    exact ⟨_, by first | rfl | (show _ = Ending.returned (.tuple #[.agg #[_, .int .u64 (sd.toNat : Int), _, _, _], _]); rw [HSV.out, HE.out]; rfl), by rw [HV.out]; exact HSAME.out, hfin.2.1, hfin.2.2⟩
  | true =>
  have HRW := Lib.hid (HR1.out rfl)
  clear HR1
  go_upto_region 4 with (go_at_call 8; refine (HRT.out _ HP.out.fr).mono ?_; rintro e w2 ⟨rfl, hf⟩; have HP2 := Lib.hid (HP.out.no hf); clear hf k0 k1 k2 k3 k4)
  obtain ⟨k0, k1, k2, k3, k4⟩ := cells5 HP2.out.h0
  obtain ⟨j0, j1, j2, j3, j4⟩ := cells5 HP2.out.h1
  clear HP HRT HOWN
  cases q with
  | false =>
    have HE : Hid (E = 101) := Lib.hid (by rw [HPE.out]; rfl)
    have HV : Hid (V = Wd.v ⟨size, sd, tick, A3, n3, c3, cs, A4, n4, c4, ps⟩) := Lib.hid (by rw [HPV.out]; rfl)
    clear HPE HPV HR2
    go_upto_region 5 with (go_at_call 28; refine (HRC.out _ HP2.out.fr).mono ?_; rintro e w3 ⟨rfl, hf⟩; have HP3 := Lib.hid (HP2.out.no hf); clear hf k0 k1 k2 k3 k4 j0 j1 j2 j3 j4)
    obtain ⟨r0, r1, r2, r3, r4⟩ := cells5 HP3.out.hG
    obtain ⟨s0, s1, s2, s3, s4⟩ := cells5 HP3.out.h2
    obtain ⟨z0, z1, z2, z3, z4⟩ := free5 HP3.out.h2
    dsimp only at r0 r1 r2 r3 r4
    rw [HSV.out] at r1
    go_wp2_with fail
    have hfin := HP3.out.fin
    dsimp only at hfin
    rw [HSV.out] at hfin
    refine bodyPost_ret (results_cell_tmp_rowC (p := 4) rfl _ _ (D + 1 + 1) 26 #[.int .i64 size, .int .u64 SV, .int .i64 tick, .slice A3' n3 c3', .slice A4' n4 c4'] (0, 0) _ rfl hfin.1 Tryd.underlying26 rfl (by kernel_rfl)) rfl ?_
    exact ⟨_, by first | rfl | (show _ = Ending.returned (.tuple #[.agg #[_, .int .u64 (sd.toNat : Int), _, _, _], _]); rw [HSV.out, HE.out]; rfl), by rw [HV.out]; exact HSAME.out, hfin.2.1, hfin.2.2⟩
  | true =>
  have HRGC := Lib.hid (HR2.out rfl)
  have HE : Hid (E = 0) := Lib.hid (by rw [HPE.out]; rfl)
  have HV : Hid (V = ⟨size, sd, tick, putC sd (cs.map Ch.ck) (Ch.ck ⟨x, y, B1, m1, e1, xs, B2, m2, e2, hps, B3, m3, e3, bs⟩), ps.map Pl.py⟩) := Lib.hid (by rw [HPV.out]; rfl)
  clear HPE HPV HR2
  go_upto_region 6 with (go_at_call 28; refine (HRC.out _ HP2.out.fr).mono ?_; rintro e w3 ⟨rfl, hf⟩; have HP3 := Lib.hid (HP2.out.no hf); clear hf k0 k1 k2 k3 k4 j0 j1 j2 j3 j4)
  clear HP2 HRC
  have HXY : Hid (0 ≤ x ∧ x < 16 ∧ 0 ≤ y ∧ y < 16) := Lib.hid HRGC.out.plc
  have HPL : Hid (∀ W, Calls Tryd.prog 30 #[.agg #[.int .i64 x, .int .i64 y, .slice B1 m1 e1, .slice B2 m2 e2, .slice B3 m3 e3]] W fun e w' => e = .returned (.int .i64 (y * 16 + x)) ∧ Fr No W w') := Lib.hid (fun W => place_any HXY.out.1 HXY.out.2.1 HXY.out.2.2.1 HXY.out.2.2.2 _ _ _ _ _ _ _ _ _ W)
  have HCS : Hid (cs'.length = n3) := Lib.hid HP3.out.own.e3
  have HN3 : Hid (n3 ≤ 1000) := Lib.hid (by
    have h1 := HRW.out.cr.le (m := 256) (fun z hz => by
      obtain ⟨c, hc, rfl⟩ := List.mem_map.1 hz
      have := (HRW.out.c c hc).1
      have a0 := this.x0
      have a1 := this.x1
      have a2 := this.y0
      have a3 := this.y1
      unfold plcK
      omega)
    have h2 : (Wd.v ⟨size, sd, tick, A3, n3, c3, cs, A4, n4, c4, ps⟩).cs = cs'.map Ch.ck := HVV.out.1.symm
    rw [h2, List.length_map, List.length_map] at h1
    have := HCS.out
    omega)
  have HRISE : Hid (Rise (cs'.map (fun C => plcK C.ck))) := Lib.hid (by
    have h1 := HRW.out.cr
    have h2 : (Wd.v ⟨size, sd, tick, A3, n3, c3, cs, A4, n4, c4, ps⟩).cs = cs'.map Ch.ck := HVV.out.1.symm
    rw [h2, List.map_map] at h1
    exact h1)
  have HPLC : Hid (∀ C ∈ cs', 0 ≤ C.x ∧ C.x < 16 ∧ 0 ≤ C.y ∧ C.y < 16) := Lib.hid (fun C hC => by
    have h2 : (Wd.v ⟨size, sd, tick, A3, n3, c3, cs, A4, n4, c4, ps⟩).cs = cs'.map Ch.ck := HVV.out.1.symm
    exact (HRW.out.c C.ck (by rw [h2]; exact List.mem_map_of_mem hC)).1.plc)
  have HSR : Hid (∀ W, Fr No w3 W → Calls Tryd.prog 29 #[.slice A3' n3 c3', .func (.func 30) #[] #[], .int .i64 (y * 16 + x)] W fun e w' =>
      ∃ (k : Nat) (f : Bool), e = .returned (.tuple #[.int .i64 (k : Int), .bool f]) ∧ (f = if h : k < cs'.length then decide (plcK cs'[k].ck = y * 16 + x) else false) ∧ AtB (cs'.map (fun C => plcK C.ck)) (y * 16 + x) k ∧ Fr No W w') := Lib.hid (fun W hW => search_ck (HP3.out.no hW).own.r3 HPLC.out c3' (by have := HN3.out; dsimp only; omega) (y * 16 + x) (fun i j h hij => by
    have := HRISE.out.lt i j (by simpa using h) hij
    rw [List.getElem_map, List.getElem_map] at this
    exact this))
  have hALL : Hid (∀ W, Fr No w3 W → W.cell? ⟨G, 3, none⟩ = some (.slice A3' n3 c3') ∧ W.cell? ⟨D + 1, 0, none⟩ = some (.int .i64 x) ∧ W.cell? ⟨D + 1, 1, none⟩ = some (.int .i64 y) ∧ W.cell? ⟨D + 1, 2, none⟩ = some (.slice B1 m1 e1) ∧ W.cell? ⟨D + 1, 3, none⟩ = some (.slice B2 m2 e2) ∧ W.cell? ⟨D + 1, 4, none⟩ = some (.slice B3 m3 e3)) := Lib.hid (fun W hW => ⟨(cells5 (HP3.out.no hW).hG).2.2.2.1, cells5 (HP3.out.no hW).h1⟩)
  have d0 := hALL.out _ (Fr.refl No w3)
  have dd := hALL.out _ (Fr.drew No w3)
  go_region_held3 (fun W => W.cell? ⟨G, 3, none⟩ = some (.slice A3' n3 c3') ∧ W.cell? ⟨D + 1, 0, none⟩ = some (.int .i64 x) ∧ W.cell? ⟨D + 1, 1, none⟩ = some (.int .i64 y) ∧ W.cell? ⟨D + 1, 2, none⟩ = some (.slice B1 m1 e1) ∧ W.cell? ⟨D + 1, 3, none⟩ = some (.slice B2 m2 e2) ∧ W.cell? ⟨D + 1, 4, none⟩ = some (.slice B3 m3 e3))
    (first | exact d6 | exact d5 | exact dd | exact d0)
    (first
      | (go_at_call 30; refine (HPL.out _).mono ?_; rintro e w5 ⟨rfl, hf⟩; have HF5 := Lib.hid ((Fr.drew No w3).no_trans hf); have d5 := hALL.out w5 HF5.out; clear hf)
      | (go_at_call 29; refine (HSR.out _ HF5.out).mono ?_; rintro e w6 ⟨k, f, rfl, hff, hk, hf⟩; have HFF := Lib.hid hff; have HAT := Lib.hid hk; have HF6 := Lib.hid (HF5.out.no_trans hf); have d6 := hALL.out w6 HF6.out; clear hf hff hk))
  have HP6 := Lib.hid (HP3.out.no HF6.out)
  clear d0 dd d5 d6 hALL HSR HPL HP3 HF5 HF6
  have HKN : Hid (k ≤ n3) := Lib.hid (by have := HAT.out.1; rw [List.length_map] at this; have := HCS.out; omega)
  go_upto_if 31 with fail
  go_cut [7] from 31 to 39 (fun v7 wz => v7 = .int .i64 (k : Int) ∧ ∃ A' n' c' l', PutS w D G #[.int .i64 size, .int .u64 SV, .int .i64 tick, .slice A3 n3 c3, .slice A4 n4 c4] #[.int .i64 x, .int .i64 y, .slice B1 m1 e1, .slice B2 m2 e2, .slice B3 m3 e3] 31 ⟨size, sd, tick, A', n', c', l', A4', n4, c4', ps'⟩ wz ∧ k ≤ n' ∧ n' ≤ 1000 ∧ ∀ new : List Ch, (l'.take k ++ (new ++ l'.drop k)).map Ch.ck = putL plcK (cs.map Ch.ck) (y * 16 + x) (new.map Ch.ck))
  case first =>
    have HMAP : Hid (∀ new : List Ch, (putL (fun C : Ch => plcK C.ck) cs' (y * 16 + x) new).map Ch.ck = putL plcK (cs.map Ch.ck) (y * 16 + x) (new.map Ch.ck)) := Lib.hid (fun new => by rw [putL_map Ch.ck plcK (fun _ => rfl) new, HVV.out.1])
    cases f with
    | false =>
      have HNO : Hid (∀ h : k < cs'.length, plcK cs'[k].ck ≠ y * 16 + x) := Lib.hid (fun h e => by
        have := HFF.out
        rw [dif_pos h, decide_eq_true e] at this
        exact absurd this (by decide))
      have HM : Hid (∀ new : List Ch, (cs'.take k ++ (new ++ cs'.drop k)).map Ch.ck = putL plcK (cs.map Ch.ck) (y * 16 + x) (new.map Ch.ck)) := Lib.hid (fun new => by rw [← HMAP.out new, putL_no (key := fun C : Ch => plcK C.ck) HAT.out HNO.out HRISE.out new])
      go_wp2_with fail
      go_meet
      exact ⟨rfl, A3', n3, c3', cs', HP6.out, HKN.out, HN3.out, HM.out⟩
    | true =>
      have HYES : Hid (∃ h : k < cs'.length, plcK cs'[k].ck = y * 16 + x) := Lib.hid (by
        have := HFF.out
        by_cases h : k < cs'.length
        · rw [dif_pos h] at this
          exact ⟨h, of_decide_eq_true this.symm⟩
        · rw [dif_neg h] at this
          exact absurd this (by decide))
      have HK2 : Hid (k < n3) := Lib.hid (by obtain ⟨h, _⟩ := HYES.out; rw [HCS.out] at h; exact h)
      have HM : Hid (∀ new : List Ch, ((cs'.take k ++ cs'.drop (k + 1)).take k ++ (new ++ (cs'.take k ++ cs'.drop (k + 1)).drop k)).map Ch.ck = putL plcK (cs.map Ch.ck) (y * 16 + x) (new.map Ch.ck)) := Lib.hid (fun new => by
        obtain ⟨h, he⟩ := HYES.out
        have hl : (cs'.take k).length = k := by rw [List.length_take]; omega
        rw [← HMAP.out new, putL_yes (key := fun C : Ch => plcK C.ck) HAT.out h he HRISE.out new, List.take_append_of_le_length (by omega), List.take_of_length_le (by omega), List.drop_append_of_le_length (by omega), List.drop_of_length_le (by omega), List.nil_append])
      have HDL := Lib.hid (delete_any_ck (i := k) HP6.out.own.o3 (chL_one cs') HK2.out HN3.out)
      have HROW : Hid (∀ w7, w7.ownsRow (D + 1 + 1 + 1) 31 5 (.slice A3' (n3 - 1) c3') (n3 - 1) ((chL cs').take (k * 5) ++ (chL cs').drop (k * 5 + 5)) → Fr (fun k => (Value.slice A3' n3 c3').ownBlock = some k) w6 w7 →
          PutS w D G #[.int .i64 size, .int .u64 SV, .int .i64 tick, .slice A3 n3 c3, .slice A4 n4 c4] #[.int .i64 x, .int .i64 y, .slice B1 m1 e1, .slice B2 m2 e2, .slice B3 m3 e3] 31 ⟨size, sd, tick, A3', n3 - 1, c3', cs'.take k ++ cs'.drop (k + 1), A4', n4, c4', ps'⟩ (w7.setCell ⟨G, 3, none⟩ (.slice A3' (n3 - 1) c3')) ∧ w7.heap[G]? = some (.cells #[.int .i64 size, .int .u64 SV, .int .i64 tick, .slice A3' n3 c3', .slice A4' n4 c4'] 26 (0, 0))) := Lib.hid (fun w7 ho hf => by
        have h := HP6.out.row (l' := cs'.take k ++ cs'.drop (k + 1)) hf (by
          rw [chL_append, ← chL_take, ← chL_drop, show (k + 1) * 5 = k * 5 + 5 by omega]
          exact ho) (by have a := HK2.out; have b := HCS.out; rw [List.length_append, List.length_take, List.length_drop]; omega) (fun C hC => HP6.out.own.oc C (by
          rcases List.mem_append.1 hC with q | q
          · exact List.mem_of_mem_take q
          · exact List.mem_of_mem_drop q))
        dsimp only at h
        rw [HSV.out] at h
        exact h)
      obtain ⟨g0, g1, g2, g3, g4⟩ := cells5 HP6.out.hG
      dsimp only at g0 g1 g2 g3 g4
      have hw1 : IntKind.i64.wrap ((k : Int) + 1) = (k : Int) + 1 := by have a := HK2.out; have b := HN3.out; rw [IntKind.wrap_i64]; omega
      go_wp2_with (go_at_call 31; refine HDL.out.mono ?_; rintro e w7 ⟨rfl, ho7, hf7⟩; obtain ⟨hP7, hg7⟩ := HROW.out w7 ho7 hf7; have HP7 := Lib.hid hP7; clear g0 g1 g2 g3 g4; obtain ⟨g0, g1, g2, g3, g4⟩ := cells5 hg7; obtain ⟨z0, z1, z2, z3, z4⟩ := free5 hg7; clear ho7 hf7 hP7 hg7)
      go_meet
      exact ⟨rfl, A3', n3 - 1, c3', _, HP7.out, by have := HK2.out; omega, by have := HN3.out; omega, HM.out⟩
  case rest =>
  obtain ⟨rfl, A', n', c', l', hP, hkn, hnn, hM⟩ := hcut
  have HPZ := Lib.hid hP
  have HM := Lib.hid hM
  have HKN2 := Lib.hid hkn
  have HNN := Lib.hid hnn
  clear hP hM hkn hnn HP6 HFF HAT HKN HRISE HPLC HCS HN3 HRW HSAME
  have HIF := Lib.hid (fun W (hW : Fr No w W) => isfirst_any (HINC.out.no hW).rd HINC.out.sm.s1 HXY.out.1 HXY.out.2.1 HXY.out.2.2.1 HXY.out.2.2.2 sd)
  dsimp only [Ch.val, u64v] at HIF
  rw [HSV.out] at HIF
  have HPC : Hid (putC sd (cs.map Ch.ck) (Ch.ck ⟨x, y, B1, m1, e1, xs, B2, m2, e2, hps, B3, m3, e3, bs⟩) = putL plcK (cs.map Ch.ck) (y * 16 + x) (if firstB sd (Ch.ck ⟨x, y, B1, m1, e1, xs, B2, m2, e2, hps, B3, m3, e3, bs⟩) = true then [] else [Ch.ck ⟨x, y, B1, m1, e1, xs, B2, m2, e2, hps, B3, m3, e3, bs⟩])) := Lib.hid rfl
  obtain ⟨r, hr⟩ : ∃ r, firstB sd (Ch.ck ⟨x, y, B1, m1, e1, xs, B2, m2, e2, hps, B3, m3, e3, bs⟩) = r := ⟨_, rfl⟩
  rw [hr] at HIF HPC
  clear hr
  obtain ⟨k0, k1, k2, k3, k4⟩ := cells5 HPZ.out.h0
  obtain ⟨j0, j1, j2, j3, j4⟩ := cells5 HPZ.out.h1
  cases r with
  | true =>
    have HV2 : Hid (V = Wd.v ⟨size, sd, tick, A', n', c', l', A4', n4, c4', ps'⟩) := Lib.hid (by
      rw [HV.out, HPC.out]
      have := HM.out []
      rw [List.nil_append, List.take_append_drop] at this
      unfold Wd.v
      dsimp only
      rw [this, HVV.out.2]
      rfl)
    go_upto_region 11 with (go_at_call 32; refine (HIF.out _ HPZ.out.fr).mono ?_; rintro e w8 ⟨rfl, hf⟩; have HP8 := Lib.hid (HPZ.out.no hf); clear hf k0 k1 k2 k3 k4 j0 j1 j2 j3 j4)
    obtain ⟨r0, r1, r2, r3, r4⟩ := cells5 HP8.out.hG
    obtain ⟨s0, s1, s2, s3, s4⟩ := cells5 HP8.out.h2
    obtain ⟨z0, z1, z2, z3, z4⟩ := free5 HP8.out.h2
    dsimp only at r0 r1 r2 r3 r4
    rw [HSV.out] at r1
    go_wp2_with fail
    have hfin := HP8.out.fin
    dsimp only at hfin
    rw [HSV.out] at hfin
    refine bodyPost_ret (results_cell_tmp_rowC (p := 4) rfl _ _ (D + 1 + 1) 26 #[.int .i64 size, .int .u64 SV, .int .i64 tick, .slice A' n' c', .slice A4' n4 c4'] (0, 0) _ rfl hfin.1 Tryd.underlying26 rfl (by kernel_rfl)) rfl ?_
    exact ⟨_, by first | rfl | (show _ = Ending.returned (.tuple #[.agg #[_, .int .u64 (sd.toNat : Int), _, _, _], _]); rw [HSV.out, HE.out]; rfl), HV2.out.symm, hfin.2.1, hfin.2.2⟩
  | false =>
    go_upto_region 10 with (go_at_call 32; refine (HIF.out _ HPZ.out.fr).mono ?_; rintro e w8 ⟨rfl, hf⟩; have HP8 := Lib.hid (HPZ.out.no hf); clear hf k0 k1 k2 k3 k4 j0 j1 j2 j3 j4)
    clear HPZ HIF
    go_cut [7] from 44 to 52 (fun v7 wz => ∃ A2 n2 c2 l2, PutS w D G #[.int .i64 size, .int .u64 SV, .int .i64 tick, .slice A3 n3 c3, .slice A4 n4 c4] #[.int .i64 x, .int .i64 y, .slice B1 m1 e1, .slice B2 m2 e2, .slice B3 m3 e3] 31 ⟨size, sd, tick, A2, n2, c2, l2, A4', n4, c4', ps'⟩ wz ∧ l2.map Ch.ck = putL plcK (cs.map Ch.ck) (y * 16 + x) [Ch.ck ⟨x, y, B1, m1, e1, xs, B2, m2, e2, hps, B3, m3, e3, bs⟩])
    case first =>
      have HOX : Hid (∀ W, Fr No w W → Calls Tryd.prog 34 #[.agg #[.int .i64 x, .int .i64 y, .slice B1 m1 e1, .slice B2 m2 e2, .slice B3 m3 e3]] W fun e w' => ∃ Cn : Ch, e = .returned (.agg #[.int .i64 Cn.x, .int .i64 Cn.y, .slice Cn.A1 Cn.n1 Cn.c1, .slice Cn.A2 Cn.n2 Cn.c2, .slice Cn.A3 Cn.n3 Cn.c3]) ∧ Cn.ck = Ch.ck ⟨x, y, B1, m1, e1, xs, B2, m2, e2, hps, B3, m3, e3, bs⟩ ∧ OwC W.heap.size w' Cn ∧ Fr No W w') := Lib.hid (fun W hW => by
        obtain ⟨s1, s2, s3, s4⟩ := HINC.out.small HRGC.out
        exact (own_c (HINC.out.no hW).rd (by omega) (by omega) (by omega) (fun b hb => by have := s4 b hb; omega)).mono (fun e w' ⟨Cn, h1, h2, _, h4, h5⟩ => ⟨Cn, h1, h2, h4, h5⟩))
      have HINS : Hid (∀ (W : World) (V : Nat) (Cn : Ch), Fr No w8 W → W.heap[V]? = some (.cells #[.int .i64 Cn.x, .int .i64 Cn.y, .slice Cn.A1 Cn.n1 Cn.c1, .slice Cn.A2 Cn.n2 Cn.c2, .slice Cn.A3 Cn.n3 Cn.c3] 31 (0, 0)) → w8.heap.size ≤ V →
          Calls Tryd.prog 33 #[.slice A' n' c', .int .i64 (k : Int), .slice (some ⟨V, 0, none⟩) 1 1] W (InsP_ck W (D + 1 + 1 + 1) A' n' c' k (chL l') Cn.cells)) := Lib.hid (fun W V Cn hW hv hV => insert_any_ck (i := k) (vb := V) (us := Cn.cells) (HP8.out.no hW).own.o3 (chL_one l') HKN2.out HNN.out (by have := (Array.getElem?_eq_some_iff.1 (HP8.out.no hW).h2).1; omega) hv (fun hq => by have := (HP8.out.own.o3.lt V hq).2; omega) rfl (fun u hu => by
        simp only [Ch.cells, List.mem_cons, List.not_mem_nil, or_false] at hu
        rcases hu with rfl | rfl | rfl | rfl | rfl <;> rfl))
      have HROW : Hid (∀ W w7 A2 c2 (Cn : Ch), Fr No w8 W → OwC (D + 1 + 1 + 1) W Cn → Cn.ck = Ch.ck ⟨x, y, B1, m1, e1, xs, B2, m2, e2, hps, B3, m3, e3, bs⟩ → w7.ownsRow (D + 1 + 1 + 1) 31 5 (.slice A2 (n' + 1) c2) (n' + 1) ((chL l').take (k * 5) ++ (Cn.cells ++ (chL l').drop (k * 5))) → Fr (fun k => (Value.slice A' n' c').ownBlock = some k) W w7 →
          PutS w D G #[.int .i64 size, .int .u64 SV, .int .i64 tick, .slice A3 n3 c3, .slice A4 n4 c4] #[.int .i64 x, .int .i64 y, .slice B1 m1 e1, .slice B2 m2 e2, .slice B3 m3 e3] 31 ⟨size, sd, tick, A2, n' + 1, c2, l'.take k ++ ([Cn] ++ l'.drop k), A4', n4, c4', ps'⟩ (w7.setCell ⟨G, 3, none⟩ (.slice A2 (n' + 1) c2)) ∧ (l'.take k ++ ([Cn] ++ l'.drop k)).map Ch.ck = putL plcK (cs.map Ch.ck) (y * 16 + x) [Ch.ck ⟨x, y, B1, m1, e1, xs, B2, m2, e2, hps, B3, m3, e3, bs⟩] ∧ w7.heap[G]? = some (.cells #[.int .i64 size, .int .u64 SV, .int .i64 tick, .slice A' n' c', .slice A4' n4 c4'] 26 (0, 0))) := Lib.hid (fun W w7 A2 c2 Cn hW hoc hck ho hf => by
        have hlen : l'.length = n' := HP8.out.own.e3
        have h := (HP8.out.no hW).row (l' := l'.take k ++ ([Cn] ++ l'.drop k)) hf (by
          rw [chL_append, chL_append, ← chL_take, ← chL_drop, show chL [Cn] = Cn.cells from List.append_nil _]
          exact ho) (by have a := HKN2.out; rw [List.length_append, List.length_append, List.length_take, List.length_drop]; simp only [List.length_singleton]; omega) (fun C hC => by
          rcases List.mem_append.1 hC with q | q
          · exact (HP8.out.no hW).own.oc C (List.mem_of_mem_take q)
          · rcases List.mem_append.1 q with q | q
            · rw [List.mem_singleton.1 q]; exact hoc
            · exact (HP8.out.no hW).own.oc C (List.mem_of_mem_drop q))
        dsimp only at h
        rw [HSV.out] at h
        exact ⟨h.1, by rw [HM.out [Cn]]; show putL _ _ _ [Cn.ck] = _; rw [hck], h.2⟩)
      have HLO8 : Hid (D + 1 + 1 + 1 ≤ w8.heap.size) := Lib.hid (by have := (Array.getElem?_eq_some_iff.1 HP8.out.h2).1; omega)
      have hALL : Hid (∀ W, Fr No w8 W → W.cell? ⟨G, 3, none⟩ = some (.slice A' n' c') ∧ W.cell? ⟨D + 1, 0, none⟩ = some (.int .i64 x) ∧ W.cell? ⟨D + 1, 1, none⟩ = some (.int .i64 y) ∧ W.cell? ⟨D + 1, 2, none⟩ = some (.slice B1 m1 e1) ∧ W.cell? ⟨D + 1, 3, none⟩ = some (.slice B2 m2 e2) ∧ W.cell? ⟨D + 1, 4, none⟩ = some (.slice B3 m3 e3)) := Lib.hid (fun W hW => ⟨(cells5 (HP8.out.no hW).hG).2.2.2.1, cells5 (HP8.out.no hW).h1⟩)
      obtain ⟨q0, q1, q2, q3, q4, q5⟩ := hALL.out _ (Fr.drew No w8)
      go_region_with (first
        | (go_at_call 34; refine (HOX.out _ (HP8.out.fr.no_trans (Fr.drew No w8))).mono ?_; rintro e w5 ⟨Cn, rfl, hck, ho, hf⟩; have HCK := Lib.hid hck; have HOC := Lib.hid ho; have HF5 := Lib.hid ((Fr.drew No w8).no_trans hf); obtain ⟨y0, y1, y2, y3, y4, y5⟩ := hALL.out _ HF5.out; have hv := heap_alloc_new w5 (.cells #[.int .i64 Cn.x, .int .i64 Cn.y, .slice Cn.A1 Cn.n1 Cn.c1, .slice Cn.A2 Cn.n2 Cn.c2, .slice Cn.A3 Cn.n3 Cn.c3] 31); have hfv := Fr.alloc No w5 (.cells #[.int .i64 Cn.x, .int .i64 Cn.y, .slice Cn.A1 Cn.n1 Cn.c1, .slice Cn.A2 Cn.n2 Cn.c2, .slice Cn.A3 Cn.n3 Cn.c3] 31); have HVB := Lib.hid hv; have HFV := Lib.hid (HF5.out.no_trans hfv); have HOC2 := Lib.hid (HOC.out.no hfv); obtain ⟨v0, v1, v2, v3, v4, v5⟩ := hALL.out _ HFV.out; clear hck ho hf hv hfv)
        | (go_at_call 33; refine (HINS.out _ _ Cn HFV.out HVB.out HF5.out.size).mono ?_; rintro e w7 ⟨A2, c2, rfl, ho7, hf7⟩; obtain ⟨hP7, hM7, hg7⟩ := HROW.out _ w7 A2 c2 Cn HFV.out (HOC2.out.low (Nat.le_trans HLO8.out (Fr.drew No w8).size)) HCK.out ho7 hf7; have HP7 := Lib.hid hP7; have HM7 := Lib.hid hM7; obtain ⟨g0, g1, g2, g3, g4⟩ := cells5 hg7; obtain ⟨z0, z1, z2, z3, z4⟩ := free5 hg7; clear ho7 hf7 hP7 hg7 hM7))
      all_goals (
        go_wp2_with fail
        go_meet
        exact ⟨A2, n' + 1, c2, _, HP7.out, HM7.out⟩)
    case rest =>
    obtain ⟨A2, n2, c2, l2, hP, hM⟩ := hcut
    have HP9 := Lib.hid hP
    have HV2 : Hid (V = Wd.v ⟨size, sd, tick, A2, n2, c2, l2, A4', n4, c4', ps'⟩) := Lib.hid (by
      rw [HV.out, HPC.out, if_neg (by decide), ← hM]
      unfold Wd.v
      dsimp only
      rw [HVV.out.2])
    clear hP hM
    go_upto_region 11 with fail
    obtain ⟨r0, r1, r2, r3, r4⟩ := cells5 HP9.out.hG
    obtain ⟨s0, s1, s2, s3, s4⟩ := cells5 HP9.out.h2
    obtain ⟨z0, z1, z2, z3, z4⟩ := free5 HP9.out.h2
    dsimp only at r0 r1 r2 r3 r4
    rw [HSV.out] at r1
    go_wp2_with fail
    have hfin := HP9.out.fin
    dsimp only at hfin
    rw [HSV.out] at hfin
    refine bodyPost_ret (results_cell_tmp_rowC (p := 4) rfl _ _ (D + 1 + 1) 26 #[.int .i64 size, .int .u64 SV, .int .i64 tick, .slice A2 n2 c2, .slice A4' n4 c4'] (0, 0) _ rfl hfin.1 Tryd.underlying26 rfl (by kernel_rfl)) rfl ?_
    exact ⟨_, by first | rfl | (show _ = Ending.returned (.tuple #[.agg #[_, .int .u64 (sd.toNat : Int), _, _, _], _]); rw [HSV.out, HE.out]; rfl), HV2.out.symm, hfin.2.1, hfin.2.2⟩
end Go.Proofs.YtjdhbgdpmojobaaDoor

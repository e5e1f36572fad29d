/-
  Two chunks that are the same. No statement of the seat is proved here.
-/
import Derived.Test.YtjdhbgdpmojobaaDoorChG
import Derived.Deep.CutBlock
namespace Go.Proofs.YtjdhbgdpmojobaaDoor
open Go.RowKit Go.Deep

section
variable {w w' : World} {lo : Nat}
set_option maxRecDepth 100000 in
set_option maxHeartbeats 6400000 in
theorem chsame_yes {C E : Ch} (hC : RdC w C) (hE : RdC w E) (he : C.ck = E.ck) (hs1 : C.n1 ≤ 100000) (hs2 : C.n2 ≤ 100000) (hs3 : C.n3 ≤ 100000) (hs4 : ∀ b ∈ C.bs, b.l.length ≤ 100000) : Calls Tryd.prog 35 #[C.val, E.val] w fun e w' => e = .returned (.bool true) ∧ Fr No w w' := by
  obtain ⟨x, y, A1, n1, c1, cs, A2, n2, c2, hps, A3, n3, c3, bs⟩ := C
  obtain ⟨x', y', B1, m1, d1, cs', B2, m2, d2, hps', B3, m3, d3, bs'⟩ := E
  dsimp only [Ch.ck] at he hs1 hs2 hs3 hs4
  injection he with q1 q2 q3 q4 q5
  subst q1 q2 q3 q4
  have hl1 := hC.r1.1
  have hl2 := hC.r2.1
  have hl3 := hC.r3.1
  have hm1 := hE.r1.1
  have hm2 := hE.r2.1
  have hm3 := hE.r3.1
  dsimp only at hl1 hl2 hl3 hm1 hm2 hm3
  have hbl : bs.length = bs'.length := by
    have := congrArg List.length q5
    rw [List.length_map, List.length_map] at this
    exact this
  obtain rfl : m1 = n1 := by omega
  obtain rfl : m2 = n2 := by omega
  obtain rfl : m3 = n3 := by omega
  have HC := Lib.hid (fun W (hW : Fr No w W) => hC.no hW)
  have HE := Lib.hid (fun W (hW : Fr No w W) => hE.no hW)
  have HL1 := Lib.hid hl1
  have HL2 := Lib.hid hl2
  have HL3 := Lib.hid hl3
  have HBL := Lib.hid hbl
  have HQ5 := Lib.hid q5
  have HS4 := Lib.hid hs4
  clear hC hE hl1 hl2 hl3 hm1 hm2 hm3 hbl q5 hs4
  dsimp only [Ch.val]
  have hb0 := heap_alloc_new w (.cells #[.int .i64 x, .int .i64 y, .slice A1 m1 c1, .slice A2 m2 c2, .slice A3 m3 c3] 31)
  have f0 := Fr.alloc No w (.cells #[.int .i64 x, .int .i64 y, .slice A1 m1 c1, .slice A2 m2 c2, .slice A3 m3 c3] 31)
  have hb1 := heap_alloc_new (w.alloc (.cells #[.int .i64 x, .int .i64 y, .slice A1 m1 c1, .slice A2 m2 c2, .slice A3 m3 c3] 31)) (.cells #[.int .i64 x, .int .i64 y, .slice B1 m1 d1, .slice B2 m2 d2, .slice B3 m3 d3] 31)
  have f1 := Fr.alloc No (w.alloc (.cells #[.int .i64 x, .int .i64 y, .slice A1 m1 c1, .slice A2 m2 c2, .slice A3 m3 c3] 31)) (.cells #[.int .i64 x, .int .i64 y, .slice B1 m1 d1, .slice B2 m2 d2, .slice B3 m3 d3] 31)
  rw [World.size_alloc] at hb1
  replace hb0 := blk_no f1 hb0
  have HF := Lib.hid (f0.no_trans f1)
  clear f0 f1
  go_enter Tryd.func35, Tryd.ntmps35
  go_upto_region 1 with fail
  obtain ⟨D, hD⟩ : ∃ D, w.heap.size = D := ⟨_, rfl⟩
  rw [hD] at hb0 hb1 ⊢
  clear hD
  generalize (w.alloc (.cells #[.int .i64 x, .int .i64 y, .slice A1 m1 c1, .slice A2 m2 c2, .slice A3 m3 c3] 31)).alloc (.cells #[.int .i64 x, .int .i64 y, .slice B1 m1 d1, .slice B2 m2 d2, .slice B3 m3 d3] 31) = w1 at *
  have HK : Hid (∀ W, Fr No w1 W → W.heap[D]? = some (.cells #[.int .i64 x, .int .i64 y, .slice A1 m1 c1, .slice A2 m2 c2, .slice A3 m3 c3] 31 (0, 0)) ∧ W.heap[D + 1]? = some (.cells #[.int .i64 x, .int .i64 y, .slice B1 m1 d1, .slice B2 m2 d2, .slice B3 m3 d3] 31 (0, 0))) := Lib.hid (fun W hW => ⟨blk_no hW hb0, blk_no hW hb1⟩)
  obtain ⟨g0, g1, g2, g3, g4⟩ := cells5 hb0
  obtain ⟨k0, k1, k2, k3, k4⟩ := cells5 hb1
  clear hb0 hb1
  go_wp2_with fail
  clear g0 g1 g2 g3 g4 k0 k1 k2 k3 k4
  go_loopw [50] (fun v50 wr => ∃ i : Nat, i ≤ m1 ∧ v50 = .int .i64 (i : Int) ∧ Fr No w1 wr) (fun v50 _ => m1 - (intOf v50).toNat)
  case atStart => exact ⟨0, by omega, rfl, Fr.refl _ _⟩
  case round =>
    obtain ⟨i, hi, rfl, hf⟩ := hrel
    have HFr := Lib.hid hf
    obtain ⟨hd, hd'⟩ := HK.out wr hf
    obtain ⟨g0, g1, g2, g3, g4⟩ := cells5 hd
    obtain ⟨k0, k1, k2, k3, k4⟩ := cells5 hd'
    clear hf hd hd'
    by_cases hlt : i < m1
    · have hil : i < cs.length := by have := HL1.out; omega
      obtain ⟨b, o, hA, _, hc⟩ := (HC.out wr (HF.out.no_trans HFr.out)).r1.2 (show 0 < m1 by omega)
      obtain ⟨b', o', hB, _, hc'⟩ := (HE.out wr (HF.out.no_trans HFr.out)).r1.2 (show 0 < m1 by omega)
      dsimp only at hA hB
      subst hA hB
      have z0 : wr.cell? ⟨b, o + i, none⟩ = some (.int .u8 (cs[i] : Int)) := by have := hc i hil; rw [Nat.mul_one] at this; exact this
      have z1 : wr.cell? ⟨b', o' + i, none⟩ = some (.int .u8 (cs[i] : Int)) := by have := hc' i hil; rw [Nat.mul_one] at this; exact this
      clear hc hc'
      generalize (cs[i] : Int) = p at *
      have hwi : IntKind.i64.wrap ((i : Int) + 1) = ((i + 1 : Nat) : Int) := by
        rw [show ((i : Int) + 1) = ((i + 1 : Nat) : Int) by omega]
        exact IntWalk.i64_in _ (by omega)
      go_wp2_with fail
      go_quiet (fail)
      go_wp2_with fail
      go_roundw
      case rel => exact ⟨i + 1, by omega, by go_num, HFr.out.no_trans (Fr.drewN No _ _)⟩
      case measure => simp [intOf]; omega
    · have hin : i = m1 := by omega
      subst hin
      go_wp2_with fail
      clear g0 g1 g2 g3 g4 k0 k1 k2 k3 k4
      have HFr1 := HFr
      clear HFr
      go_loopw [68] (fun v68 wr => ∃ j : Nat, j ≤ m2 ∧ v68 = .int .i64 (j : Int) ∧ Fr No w1 wr) (fun v68 _ => m2 - (intOf v68).toNat)
      case atStart => exact ⟨0, by omega, rfl, HFr1.out⟩
      case round =>
        obtain ⟨j, hj, rfl, hf⟩ := hrel
        have HFr := Lib.hid hf
        obtain ⟨hd, hd'⟩ := HK.out _ hf
        obtain ⟨g0, g1, g2, g3, g4⟩ := cells5 hd
        obtain ⟨k0, k1, k2, k3, k4⟩ := cells5 hd'
        clear hf hd hd'
        by_cases hlt2 : j < m2
        · have hil : j < hps.length := by have := HL2.out; omega
          obtain ⟨b, o, hA, _, hc⟩ := (HC.out _ (HF.out.no_trans HFr.out)).r2.2 (show 0 < m2 by omega)
          obtain ⟨b', o', hB, _, hc'⟩ := (HE.out _ (HF.out.no_trans HFr.out)).r2.2 (show 0 < m2 by omega)
          dsimp only at hA hB
          subst hA hB
          obtain ⟨z0, z1, z2⟩ := hc j hil
          obtain ⟨y0, y1, y2⟩ := hc' j hil
          rw [Addr.add_lit] at z1 z2 y1 y2
          clear hc hc'
          generalize hps[j].1 = p at *
          generalize (hps[j].2.1 : Int) = q at *
          generalize hps[j].2.2 = r at *
          have hwi : IntKind.i64.wrap ((j : Int) + 1) = ((j + 1 : Nat) : Int) := by
            rw [show ((j : Int) + 1) = ((j + 1 : Nat) : Int) by omega]
            exact IntWalk.i64_in _ (by omega)
          go_wp2_with fail
          go_quiet (fail)
          go_wp2_with fail
          go_roundw
          case rel => exact ⟨j + 1, by omega, by go_num, HFr.out.no_trans (Fr.drewN No _ _)⟩
          case measure => simp [intOf]; omega
        · have hjn : j = m2 := by omega
          subst hjn
          go_wp2_with fail
          clear g0 g1 g2 g3 g4 k0 k1 k2 k3 k4
          have HFr2 := HFr
          clear HFr
          go_loopw [86] (fun v86 wr => ∃ k : Nat, k ≤ m3 ∧ v86 = .int .i64 (k : Int) ∧ Fr No w1 wr) (fun v86 _ => m3 - (intOf v86).toNat)
          case atStart => exact ⟨0, by omega, rfl, HFr2.out⟩
          case round =>
            obtain ⟨k, hk, rfl, hf⟩ := hrel
            have HFr := Lib.hid hf
            obtain ⟨hd, hd'⟩ := HK.out _ hf
            obtain ⟨g0, g1, g2, g3, g4⟩ := cells5 hd
            obtain ⟨k0, k1, k2, k3, k4⟩ := cells5 hd'
            clear hf hd hd'
            by_cases hlt3 : k < m3
            · have hil : k < bs.length := by have := HL3.out; omega
              have hil' : k < bs'.length := by have := HBL.out; omega
              obtain ⟨b, o, hA, _, hc⟩ := (HC.out _ (HF.out.no_trans HFr.out)).r3.2 (show 0 < m3 by omega)
              obtain ⟨b', o', hB, _, hc'⟩ := (HE.out _ (HF.out.no_trans HFr.out)).r3.2 (show 0 < m3 by omega)
              dsimp only at hA hB
              subst hA hB
              obtain ⟨z0, z1, z2⟩ := hc k hil
              obtain ⟨y0, y1, y2⟩ := hc' k hil'
              rw [Addr.add_lit] at z1 y1
              have hbp : bs[k].bp = bs'[k].bp := by
                have e1 : (bs.map Bx.bp)[k]'(by rw [List.length_map]; exact hil) = bs[k].bp := List.getElem_map _
                have e2 : (bs'.map Bx.bp)[k]'(by rw [List.length_map]; exact hil') = bs'[k].bp := List.getElem_map _
                rw [← e1, ← e2]
                congr 1
                try exact HQ5.out
              have hcell : bs'[k].cell = bs[k].cell := (congrArg Prod.fst hbp).symm
              have hbag : bs'[k].l = bs[k].l := (congrArg Prod.snd hbp).symm
              rw [hcell] at y0
              rw [hbag] at y2
              have hnn : bs'[k].n = bs[k].n := y2.1.symm.trans z2.1
              rw [hnn] at y1 y2
              have hsm : bs[k].n ≤ 100000 := by rw [← z2.1]; exact HS4.out _ (List.getElem_mem hil)
              have z2' : RdS wr bs[k].A bs[k].n bs[k].l := z2
              have y2' : RdS wr bs'[k].A bs[k].n bs[k].l := y2
              have HSM := Lib.hid (fun (W : World) (hW : Fr No wr W) => same_yes (z2'.no hW) (y2'.no hW) bs[k].c bs'[k].c hsm)
              clear z2' y2'
              have hbw : b < wr.heap.size := World.block_lt_of_cell? wr _ z0
              have hbw' : b' < wr.heap.size := World.block_lt_of_cell? wr _ y0
              have hwi : IntKind.i64.wrap ((k : Int) + 1) = ((k + 1 : Nat) : Int) := by
                rw [show ((k : Int) + 1) = ((k + 1 : Nat) : Int) by omega]
                exact IntWalk.i64_in _ (by omega)
              clear hc hc' hbp hcell hbag hnn z2 y2 hsm
              generalize bs[k].cell = p at *
              generalize bs[k].A = bA at *
              generalize bs'[k].A = bA' at *
              generalize bs[k].n = bn at *
              generalize bs[k].c = bc at *
              generalize bs'[k].c = bc' at *
              go_wp2_with fail
              have hWS : Hid (∀ W, Fr No wr W → W.cell? ⟨D, 4, none⟩ = some (.slice (some ⟨b, o, none⟩) m3 c3) ∧ W.cell? ⟨D + 1, 4, none⟩ = some (.slice (some ⟨b', o', none⟩) m3 d3) ∧ W.cell? ⟨b, o + k * 2, none⟩ = some (.int .i64 p) ∧ W.cell? ⟨b, o + k * 2 + 1, none⟩ = some (.slice bA bn bc) ∧ W.cell? ⟨b', o' + k * 2, none⟩ = some (.int .i64 p) ∧ W.cell? ⟨b', o' + k * 2 + 1, none⟩ = some (.slice bA' bn bc')) := Lib.hid (fun W hW => by
                obtain ⟨hd, hd'⟩ := HK.out W (HFr.out.no_trans hW)
                exact ⟨(cells5 hd).2.2.2.2, (cells5 hd').2.2.2.2, (cell_no hW hbw _).trans z0, (cell_no hW hbw _).trans z1, (cell_no hW hbw' _).trans y0, (cell_no hW hbw' _).trans y1⟩)
              have d0 := hWS.out wr (Fr.refl No wr)
              have dd := hWS.out wr.drew (Fr.drew No wr)
              clear hbw hbw'
              go_region_held3 (fun W => W.cell? ⟨D, 4, none⟩ = some (.slice (some ⟨b, o, none⟩) m3 c3) ∧ W.cell? ⟨D + 1, 4, none⟩ = some (.slice (some ⟨b', o', none⟩) m3 d3) ∧ W.cell? ⟨b, o + k * 2, none⟩ = some (.int .i64 p) ∧ W.cell? ⟨b, o + k * 2 + 1, none⟩ = some (.slice bA bn bc) ∧ W.cell? ⟨b', o' + k * 2, none⟩ = some (.int .i64 p) ∧ W.cell? ⟨b', o' + k * 2 + 1, none⟩ = some (.slice bA' bn bc'))
                (first | exact d5 | exact dd | exact d0)
                (first
                  | (go_at_call 49; refine (HSM.out _ (Fr.drew No wr)).mono ?_; rintro e w5 ⟨rfl, hf⟩; have HF5 := Lib.hid ((Fr.drew No wr).no_trans hf); have d5 := hWS.out w5 HF5.out; clear hf))
              go_wp2_with fail
              go_roundw
              case rel => exact ⟨k + 1, by omega, by go_num, HFr.out.no_trans HF5.out⟩
              case measure => simp [intOf]; omega
            · have hkn : k = m3 := by omega
              subst hkn
              go_wp2_with fail
              go_ret
              exact ⟨rfl, HF.out.no_trans HFr.out⟩
end
end Go.Proofs.YtjdhbgdpmojobaaDoor

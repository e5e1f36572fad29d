/-
  WorldPuts: the walk. No statement of the seat is proved here but as a walk.
-/
import Derived.Test.YtjdhbgdpmojobaaDoorWdV
namespace Go.Proofs.YtjdhbgdpmojobaaDoor
open Go.RowKit Go.Deep

/-- A world at hand: in a block of the law's, in memory of the law's own. -/
structure At5 (lo : Nat) (W : World) (E : Nat) (a : Wd) (sv : Int) : Prop where
  hE : W.heap[E]? = some (.cells #[.int .i64 a.size, .int .u64 sv, .int .i64 a.tick, .slice a.A3 a.n3 a.c3, .slice a.A4 a.n4 a.c4] 26 (0, 0))
  hs : (a.sd.toNat : Int) = sv
  ow : OwW lo W a
  bt : ByW a.v
  r : RgtW a.v
section
variable {w w' : World} {lo E : Nat} {a : Wd} {sv : Int}
theorem At5.no (h : At5 lo w E a sv) (hf : Fr No w w') : At5 lo w' E a sv := ⟨blk_no hf h.hE, h.hs, h.ow.no hf, h.bt, h.r⟩
theorem At5.oth (h : At5 lo w E a sv) {E' : Nat} {cur : Array Value} (hne : ¬ E = E') (hE : w.heap[E']? = some (.cells cur 26 (0, 0))) (hf : Fr (fun i => i = E') w w') : At5 lo w' E a sv := ⟨hf.blk h.hE hne, h.hs, h.ow.at_ hE hf, h.bt, h.r⟩
theorem At5.inW (h : At5 lo w E a sv) : InW w a := h.ow.inW h.bt
/-- What Put, Set tell: a world, and a number. -/
def PutQ (W : World) (v : Wv) (z : Int) (e : Ending) (w' : World) : Prop := ∃ (a : Wd) (sv : Int), e = .returned (.tuple #[.agg #[.int .i64 a.size, .int .u64 sv, .int .i64 a.tick, .slice a.A3 a.n3 a.c3, .slice a.A4 a.n4 a.c4], .int .i64 z]) ∧ ((a.sd.toNat : Int) = sv ∧ a.v = v ∧ OwW W.heap.size w' a ∧ ByW a.v ∧ RgtW a.v) ∧ Fr No W w'
theorem putQ {C : Ch} {z : Int} (ht : ItT w) (h : InW w a) (r : RgtW a.v) (hs : (a.sd.toNat : Int) = sv) (hC : InC w C) (hz : (if rgtCW a.v.size C.ck = true then (0 : Int) else 101) = z) : Calls Tryd.prog 10 #[.agg #[.int .i64 a.size, .int .u64 sv, .int .i64 a.tick, .slice a.A3 a.n3 a.c3, .slice a.A4 a.n4 a.c4], .agg #[.int .i64 C.x, .int .i64 C.y, .slice C.A1 C.n1 C.c1, .slice C.A2 C.n2 C.c2, .slice C.A3 C.n3 C.c3]] w (PutQ w (putV a.v C.ck) z) := by
  subst hs hz
  refine (wput_any ht h (h.sz r) hC).mono ?_
  rintro e w' ⟨d', rfl, hv, ho, hf⟩
  exact ⟨d', _, by rw [putE_r r]; rfl, ⟨rfl, hv, ho, by rw [hv]; exact h.by.put hC.bt, by rw [hv]; exact r.put⟩, hf⟩
theorem setQ {P : Pl} {z : Int} (ht : ItT w) (h : InW w a) (r : RgtW a.v) (hl : Sok a.v P.py) (hs : (a.sd.toNat : Int) = sv) (hP : InP w P) (hz : (if rgtP a.v.size P.py = true then (0 : Int) else 110) = z) : Calls Tryd.prog 12 #[.agg #[.int .i64 a.size, .int .u64 sv, .int .i64 a.tick, .slice a.A3 a.n3 a.c3, .slice a.A4 a.n4 a.c4], .agg #[.int .i64 P.id, .int .i64 P.x, .int .i64 P.y, .slice P.A1 P.n1 P.c1, .int .i64 P.wi, .slice P.A2 P.n2 P.c2, .bool P.ag]] w (PutQ w (setV a.v P.py) z) := by
  subst hs hz
  refine (wset_any ht h r hP).mono ?_
  rintro e w' ⟨d', rfl, hv, ho, hf⟩
  exact ⟨d', _, by rw [setE_s hl]; rfl, ⟨rfl, hv, ho, by rw [hv]; exact h.by.set ⟨hP.b1, hP.b2⟩, by rw [hv]; exact r.set hl⟩, hf⟩
/-- Two worlds at hand that are one. -/
theorem At5.same {E' : Nat} {b : Wd} {sv' : Int} (h : At5 lo w E a sv) (k : At5 lo w E' b sv') (he : a.v = b.v) : Calls Tryd.prog 11 #[.agg #[.int .i64 a.size, .int .u64 sv, .int .i64 a.tick, .slice a.A3 a.n3 a.c3, .slice a.A4 a.n4 a.c4], .agg #[.int .i64 b.size, .int .u64 sv', .int .i64 b.tick, .slice b.A3 b.n3 b.c3, .slice b.A4 b.n4 b.c4]] w fun e w' => e = .returned (.bool true) ∧ Fr No w w' := by
  have h1 := h.hs
  have h2 := k.hs
  subst h1 h2
  exact wsame_yes h.ow.r3 h.ow.r4 k.ow.r3 k.ow.r4 (h.inW.sz h.r) he
end
set_option maxRecDepth 100000 in
set_option maxHeartbeats 12800000 in
theorem wputs_walk {w : World} {d : Wd} {C0 C1 : Ch} {P0 P1 : Pl} (ht : ItT w) (h : InW w d) (hC0 : InC w C0) (hC1 : InC w C1) (hP0 : InP w P0) (hP1 : InP w P1) : Calls Tryd.prog 3 #[d.val, .agg #[.int .i64 C0.x, .int .i64 C0.y, .slice C0.A1 C0.n1 C0.c1, .slice C0.A2 C0.n2 C0.c2, .slice C0.A3 C0.n3 C0.c3, .int .i64 C1.x, .int .i64 C1.y, .slice C1.A1 C1.n1 C1.c1, .slice C1.A2 C1.n2 C1.c2, .slice C1.A3 C1.n3 C1.c3], .agg #[.int .i64 P0.id, .int .i64 P0.x, .int .i64 P0.y, .slice P0.A1 P0.n1 P0.c1, .int .i64 P0.wi, .slice P0.A2 P0.n2 P0.c2, .bool P0.ag, .int .i64 P1.id, .int .i64 P1.x, .int .i64 P1.y, .slice P1.A1 P1.n1 P1.c1, .int .i64 P1.wi, .slice P1.A2 P1.n2 P1.c2, .bool P1.ag]] w fun e w' => e = .returned (.bool true) ∧ Fr No w w' := by
  have HT := Lib.hid (fun W (hW : Fr No w W) => ht.no hW)
  have HIN := Lib.hid (fun W (hW : Fr No w W) => h.no hW)
  have HC0 := Lib.hid (fun W (hW : Fr No w W) => hC0.no hW)
  have HC1 := Lib.hid (fun W (hW : Fr No w W) => hC1.no hW)
  have HP0 := Lib.hid (fun W (hW : Fr No w W) => hP0.no hW)
  have HP1 := Lib.hid (fun W (hW : Fr No w W) => hP1.no hW)
  have HAW := Lib.hid (fun W (hW : Fr No w W) => wawake_any (ht.no hW))
  have HGR := Lib.hid (fun W (hW : Fr No w W) => wgreat_any (h.no hW))
  have HRT := Lib.hid (fun W (hW : Fr No w W) => wright_any (ht.no hW) (h.no hW))
  have HRR : Hid (rgtW d.v = true → RgtW d.v) := Lib.hid rgtW_iff.1
  have HPL : Hid (d.v.ps.length = d.n4) := Lib.hid (by have := h.r4.2.1; show (d.ps.map Pl.py).length = _; rw [List.length_map]; exact this)
  obtain ⟨p, hp⟩ : ∃ p, rgtW d.v = p := ⟨_, rfl⟩
  rw [hp] at HRT HRR
  obtain ⟨SV, hSV⟩ : ∃ SV, (d.sd.toNat : Int) = SV := ⟨_, rfl⟩
  have HSV := Lib.hid hSV
  obtain ⟨VV, hVV⟩ : ∃ VV, d.v = VV := ⟨_, rfl⟩
  have HVV := Lib.hid hVV
  rw [hVV] at HRR HPL
  clear ht h hC0 hC1 hP0 hP1 hp hVV
  obtain ⟨size, sd, tick, A3, n3, c3, cs, A4, n4, c4, ps⟩ := d
  dsimp only [Wd.val, u64v] at *
  rw [hSV] at HGR HRT ⊢
  clear hSV
  have hb0 := heap_alloc_new w (.cells #[.int .i64 size, .int .u64 SV, .int .i64 tick, .slice A3 n3 c3, .slice A4 n4 c4] 26)
  have hf0 := Fr.alloc No w (.cells #[.int .i64 size, .int .u64 SV, .int .i64 tick, .slice A3 n3 c3, .slice A4 n4 c4] 26)
  have hb1 := heap_alloc_new (w.alloc (.cells #[.int .i64 size, .int .u64 SV, .int .i64 tick, .slice A3 n3 c3, .slice A4 n4 c4] 26)) (.cells #[.int .i64 C0.x, .int .i64 C0.y, .slice C0.A1 C0.n1 C0.c1, .slice C0.A2 C0.n2 C0.c2, .slice C0.A3 C0.n3 C0.c3, .int .i64 C1.x, .int .i64 C1.y, .slice C1.A1 C1.n1 C1.c1, .slice C1.A2 C1.n2 C1.c2, .slice C1.A3 C1.n3 C1.c3] 32)
  have hf1 := Fr.alloc No (w.alloc (.cells #[.int .i64 size, .int .u64 SV, .int .i64 tick, .slice A3 n3 c3, .slice A4 n4 c4] 26)) (.cells #[.int .i64 C0.x, .int .i64 C0.y, .slice C0.A1 C0.n1 C0.c1, .slice C0.A2 C0.n2 C0.c2, .slice C0.A3 C0.n3 C0.c3, .int .i64 C1.x, .int .i64 C1.y, .slice C1.A1 C1.n1 C1.c1, .slice C1.A2 C1.n2 C1.c2, .slice C1.A3 C1.n3 C1.c3] 32)
  have hb2 := heap_alloc_new ((w.alloc (.cells #[.int .i64 size, .int .u64 SV, .int .i64 tick, .slice A3 n3 c3, .slice A4 n4 c4] 26)).alloc (.cells #[.int .i64 C0.x, .int .i64 C0.y, .slice C0.A1 C0.n1 C0.c1, .slice C0.A2 C0.n2 C0.c2, .slice C0.A3 C0.n3 C0.c3, .int .i64 C1.x, .int .i64 C1.y, .slice C1.A1 C1.n1 C1.c1, .slice C1.A2 C1.n2 C1.c2, .slice C1.A3 C1.n3 C1.c3] 32)) (.cells #[.int .i64 P0.id, .int .i64 P0.x, .int .i64 P0.y, .slice P0.A1 P0.n1 P0.c1, .int .i64 P0.wi, .slice P0.A2 P0.n2 P0.c2, .bool P0.ag, .int .i64 P1.id, .int .i64 P1.x, .int .i64 P1.y, .slice P1.A1 P1.n1 P1.c1, .int .i64 P1.wi, .slice P1.A2 P1.n2 P1.c2, .bool P1.ag] 36)
  have hf2 := Fr.alloc No ((w.alloc (.cells #[.int .i64 size, .int .u64 SV, .int .i64 tick, .slice A3 n3 c3, .slice A4 n4 c4] 26)).alloc (.cells #[.int .i64 C0.x, .int .i64 C0.y, .slice C0.A1 C0.n1 C0.c1, .slice C0.A2 C0.n2 C0.c2, .slice C0.A3 C0.n3 C0.c3, .int .i64 C1.x, .int .i64 C1.y, .slice C1.A1 C1.n1 C1.c1, .slice C1.A2 C1.n2 C1.c2, .slice C1.A3 C1.n3 C1.c3] 32)) (.cells #[.int .i64 P0.id, .int .i64 P0.x, .int .i64 P0.y, .slice P0.A1 P0.n1 P0.c1, .int .i64 P0.wi, .slice P0.A2 P0.n2 P0.c2, .bool P0.ag, .int .i64 P1.id, .int .i64 P1.x, .int .i64 P1.y, .slice P1.A1 P1.n1 P1.c1, .int .i64 P1.wi, .slice P1.A2 P1.n2 P1.c2, .bool P1.ag] 36)
  have hbD := blk_no (hf1.no_trans hf2) hb0
  have hbC := blk_no hf2 hb1
  have HFX := Lib.hid ((hf0.no_trans hf1).no_trans hf2)
  simp only [World.size_alloc] at hbC hb2
  clear hb0 hb1 hf0 hf1 hf2
  go_enter Tryd.func3, Tryd.ntmps3
  go_upto_region 1 with fail
  obtain ⟨D, hD⟩ : ∃ D, w.heap.size = D := ⟨_, rfl⟩
  try simp only [World.size_alloc]
  rw [hD] at hbD hbC hb2 ⊢
  clear hD
  generalize ((w.alloc (.cells #[.int .i64 size, .int .u64 SV, .int .i64 tick, .slice A3 n3 c3, .slice A4 n4 c4] 26)).alloc (.cells #[.int .i64 C0.x, .int .i64 C0.y, .slice C0.A1 C0.n1 C0.c1, .slice C0.A2 C0.n2 C0.c2, .slice C0.A3 C0.n3 C0.c3, .int .i64 C1.x, .int .i64 C1.y, .slice C1.A1 C1.n1 C1.c1, .slice C1.A2 C1.n2 C1.c2, .slice C1.A3 C1.n3 C1.c3] 32)).alloc (.cells #[.int .i64 P0.id, .int .i64 P0.x, .int .i64 P0.y, .slice P0.A1 P0.n1 P0.c1, .int .i64 P0.wi, .slice P0.A2 P0.n2 P0.c2, .bool P0.ag, .int .i64 P1.id, .int .i64 P1.x, .int .i64 P1.y, .slice P1.A1 P1.n1 P1.c1, .int .i64 P1.wi, .slice P1.A2 P1.n2 P1.c2, .bool P1.ag] 36) = wx at *
  obtain ⟨LO, hLO⟩ : ∃ LO, wx.heap.size = LO := ⟨_, rfl⟩
  have HLO := Lib.hid hLO
  clear hLO
  have hW0 : Hid (∀ W, Fr No wx W → W.cell? ⟨D, 0, none⟩ = some (.int .i64 size) ∧ W.cell? ⟨D, 1, none⟩ = some (.int .u64 SV) ∧ W.cell? ⟨D, 2, none⟩ = some (.int .i64 tick) ∧ W.cell? ⟨D, 3, none⟩ = some (.slice A3 n3 c3) ∧ W.cell? ⟨D, 4, none⟩ = some (.slice A4 n4 c4)) := Lib.hid (fun W hW => cells5 (blk_no hW hbD))
  have hWC : Hid (∀ W, Fr No wx W → (W.cell? ⟨D + 1, 0, none⟩ = some (.int .i64 C0.x) ∧ W.cell? ⟨D + 1, 1, none⟩ = some (.int .i64 C0.y) ∧ W.cell? ⟨D + 1, 2, none⟩ = some (.slice C0.A1 C0.n1 C0.c1) ∧ W.cell? ⟨D + 1, 3, none⟩ = some (.slice C0.A2 C0.n2 C0.c2) ∧ W.cell? ⟨D + 1, 4, none⟩ = some (.slice C0.A3 C0.n3 C0.c3) ∧ W.cell? ⟨D + 1, 5, none⟩ = some (.int .i64 C1.x) ∧ W.cell? ⟨D + 1, 6, none⟩ = some (.int .i64 C1.y) ∧ W.cell? ⟨D + 1, 7, none⟩ = some (.slice C1.A1 C1.n1 C1.c1) ∧ W.cell? ⟨D + 1, 8, none⟩ = some (.slice C1.A2 C1.n2 C1.c2) ∧ W.cell? ⟨D + 1, 9, none⟩ = some (.slice C1.A3 C1.n3 C1.c3))) := Lib.hid (fun W hW => ⟨(blk_cell (blk_no hW hbC) 0).trans (by simp), (blk_cell (blk_no hW hbC) 1).trans (by simp), (blk_cell (blk_no hW hbC) 2).trans (by simp), (blk_cell (blk_no hW hbC) 3).trans (by simp), (blk_cell (blk_no hW hbC) 4).trans (by simp), (blk_cell (blk_no hW hbC) 5).trans (by simp), (blk_cell (blk_no hW hbC) 6).trans (by simp), (blk_cell (blk_no hW hbC) 7).trans (by simp), (blk_cell (blk_no hW hbC) 8).trans (by simp), (blk_cell (blk_no hW hbC) 9).trans (by simp)⟩)
  have hWP : Hid (∀ W, Fr No wx W → (W.cell? ⟨D + 1 + 1, 0, none⟩ = some (.int .i64 P0.id) ∧ W.cell? ⟨D + 1 + 1, 1, none⟩ = some (.int .i64 P0.x) ∧ W.cell? ⟨D + 1 + 1, 2, none⟩ = some (.int .i64 P0.y) ∧ W.cell? ⟨D + 1 + 1, 3, none⟩ = some (.slice P0.A1 P0.n1 P0.c1) ∧ W.cell? ⟨D + 1 + 1, 4, none⟩ = some (.int .i64 P0.wi) ∧ W.cell? ⟨D + 1 + 1, 5, none⟩ = some (.slice P0.A2 P0.n2 P0.c2) ∧ W.cell? ⟨D + 1 + 1, 6, none⟩ = some (.bool P0.ag) ∧ W.cell? ⟨D + 1 + 1, 7, none⟩ = some (.int .i64 P1.id) ∧ W.cell? ⟨D + 1 + 1, 8, none⟩ = some (.int .i64 P1.x) ∧ W.cell? ⟨D + 1 + 1, 9, none⟩ = some (.int .i64 P1.y) ∧ W.cell? ⟨D + 1 + 1, 10, none⟩ = some (.slice P1.A1 P1.n1 P1.c1) ∧ W.cell? ⟨D + 1 + 1, 11, none⟩ = some (.int .i64 P1.wi) ∧ W.cell? ⟨D + 1 + 1, 12, none⟩ = some (.slice P1.A2 P1.n2 P1.c2) ∧ W.cell? ⟨D + 1 + 1, 13, none⟩ = some (.bool P1.ag))) := Lib.hid (fun W hW => ⟨(blk_cell (blk_no hW hb2) 0).trans (by simp), (blk_cell (blk_no hW hb2) 1).trans (by simp), (blk_cell (blk_no hW hb2) 2).trans (by simp), (blk_cell (blk_no hW hb2) 3).trans (by simp), (blk_cell (blk_no hW hb2) 4).trans (by simp), (blk_cell (blk_no hW hb2) 5).trans (by simp), (blk_cell (blk_no hW hb2) 6).trans (by simp), (blk_cell (blk_no hW hb2) 7).trans (by simp), (blk_cell (blk_no hW hb2) 8).trans (by simp), (blk_cell (blk_no hW hb2) 9).trans (by simp), (blk_cell (blk_no hW hb2) 10).trans (by simp), (blk_cell (blk_no hW hb2) 11).trans (by simp), (blk_cell (blk_no hW hb2) 12).trans (by simp), (blk_cell (blk_no hW hb2) 13).trans (by simp)⟩)
  clear hbD hbC hb2
  obtain ⟨k0, k1, k2, k3, k4⟩ := hW0.out _ (Fr.refl No wx)
  go_wp2_with fail
  refine (HGR.out _ HFX.out).mono ?_
  rintro e w1 ⟨g, rfl, hf⟩
  have HF1 := Lib.hid hf
  clear hf k0 k1 k2 k3 k4
  obtain ⟨k0, k1, k2, k3, k4⟩ := hW0.out _ HF1.out
  cases g with
  | true =>
    go_wp2_with (go_at_call 9; refine (HAW.out _ (HFX.out.no_trans HF1.out)).mono ?_; rintro e w2 ⟨rfl, hf⟩; have HF2 := Lib.hid (HF1.out.no_trans hf); clear hf)
    go_ret
    exact ⟨rfl, HFX.out.no_trans HF2.out⟩
  | false =>
  cases p with
  | false =>
    go_wp2_with (first
      | (go_at_call 8; refine (HRT.out _ (HFX.out.no_trans HF1.out)).mono ?_; rintro e w2 ⟨rfl, hf⟩; have HF2 := Lib.hid (HF1.out.no_trans hf); clear hf)
      | (go_at_call 9; refine (HAW.out _ (HFX.out.no_trans HF2.out)).mono ?_; rintro e w3 ⟨rfl, hf⟩; have HF3 := Lib.hid (HF2.out.no_trans hf); clear hf))
    go_ret
    exact ⟨rfl, HFX.out.no_trans HF3.out⟩
  | true =>
  have HRW := Lib.hid (HRR.out rfl)
  clear HRR HGR
  by_cases h30 : (n4 : Int) > 30
  · go_wp2_with (first
      | (go_at_call 8; refine (HRT.out _ (HFX.out.no_trans HF1.out)).mono ?_; rintro e w2 ⟨rfl, hf⟩; have HF2 := Lib.hid (HF1.out.no_trans hf); clear hf k0 k1 k2 k3 k4; obtain ⟨k0, k1, k2, k3, k4⟩ := hW0.out _ HF2.out)
      | (go_at_call 9; refine (HAW.out _ (HFX.out.no_trans HF2.out)).mono ?_; rintro e w3 ⟨rfl, hf⟩; have HF3 := Lib.hid (HF2.out.no_trans hf); clear hf))
    go_ret
    exact ⟨rfl, HFX.out.no_trans HF3.out⟩
  · have HL30 : Hid (VV.ps.length ≤ 30) := Lib.hid (by have := HPL.out; omega)
    have HVS : Hid (∀ W, Fr No w W → InW W ⟨size, sd, tick, A3, n3, c3, cs, A4, n4, c4, ps⟩) := HIN
    go_upto_region 3 with (go_at_call 8; refine (HRT.out _ (HFX.out.no_trans HF1.out)).mono ?_; rintro e w2 ⟨rfl, hf⟩; have HF2 := Lib.hid (HF1.out.no_trans hf); clear hf k0 k1 k2 k3 k4; obtain ⟨k0, k1, k2, k3, k4⟩ := hW0.out _ HF2.out)
    clear HF1 HRT HPL k0 k1 k2 k3 k4 h30
    have HZ : Hid (∀ v : Wv, v.size = VV.size → ((if rgtCW v.size C0.ck = true then (0 : Int) else 101) = if rgtCW VV.size C0.ck = true then 0 else 101) ∧ ((if rgtCW v.size C1.ck = true then (0 : Int) else 101) = if rgtCW VV.size C1.ck = true then 0 else 101)) := Lib.hid (fun v hv => by rw [hv]; exact ⟨rfl, rfl⟩)
    obtain ⟨q0, hq0⟩ : ∃ q, rgtCW VV.size C0.ck = q := ⟨_, rfl⟩
    obtain ⟨q1, hq1⟩ : ∃ q, rgtCW VV.size C1.ck = q := ⟨_, rfl⟩
    have HQ0 := Lib.hid hq0
    have HQ1 := Lib.hid hq1
    rw [hq0, hq1] at HZ
    obtain ⟨z0, hz0⟩ : ∃ z : Int, (if q0 = true then (0 : Int) else 101) = z := ⟨_, rfl⟩
    obtain ⟨z1, hz1⟩ : ∃ z : Int, (if q1 = true then (0 : Int) else 101) = z := ⟨_, rfl⟩
    have HZ0 := Lib.hid hz0
    have HZ1 := Lib.hid hz1
    rw [hz0, hz1] at HZ
    clear hq0 hq1 hz0 hz1
    go_cut [7, 8] from 34 to 41 (fun o7 o8 wz => ∃ E a sv, o7 = .pointer (some ⟨E, 0, none⟩) ∧ o8 = .int .i64 z0 ∧ At5 LO wz E a sv ∧ a.v = putV VV C0.ck ∧ LO ≤ E ∧ Fr No wx wz)
    case first =>
      obtain ⟨m0, m1, m2, m3, m4, m5, m6, m7, m8, m9⟩ := hWC.out _ HF2.out
      obtain ⟨k0, k1, k2, k3, k4⟩ := hW0.out _ HF2.out
      go_wp2_with fail
      refine ((putQ (z := z0) (a := ⟨size, sd, tick, A3, n3, c3, cs, A4, n4, c4, ps⟩) (HT.out _ (HFX.out.no_trans HF2.out)) (HVS.out _ (HFX.out.no_trans HF2.out)) (by rw [HVV.out]; exact HRW.out) HSV.out (HC0.out _ (HFX.out.no_trans HF2.out)) (by rw [HVV.out]; exact (HZ.out _ rfl).1))).mono ?_
      rintro e wn ⟨an, svn, rfl, ⟨hs1, hs2, hs3, hs4, hs5⟩, hf⟩
      have HNW := Lib.hid (show At5 LO (wn.alloc (.cells #[.int .i64 an.size, .int .u64 svn, .int .i64 an.tick, .slice an.A3 an.n3 an.c3, .slice an.A4 an.n4 an.c4] 26)) wn.heap.size an svn from ⟨heap_alloc_new _ _, hs1, (hs3.low (by have := (HF2.out).size; have := HLO.out; omega)).no (Fr.alloc No _ _), hs4, hs5⟩)
      have HNV := Lib.hid hs2
      have HNF := Lib.hid ((HF2.out).no_trans hf)
      have HNFE := Lib.hid hf
      clear hs1 hs2 hs3 hs4 hs5 hf
      go_wp2_with fail
      go_meet
      exact ⟨_, an, svn, rfl, rfl, HNW.out, HNV.out.trans (by rw [HVV.out]), by have := HNF.out.size; have := HLO.out; omega, HNF.out.no_trans (Fr.alloc No _ _)⟩
    case rest =>
    obtain ⟨E7, a0, sa0, rfl, rfl, hat, hv, hge, hf⟩ := hcut
    have HA0 := Lib.hid hat
    have HVA0 := Lib.hid hv
    have HGEE7 := Lib.hid hge
    have HFA := Lib.hid hf
    clear hat hv hge hf
    go_upto_region 4 with fail
    go_cut [9] from 41 to 48 (fun o9 wz => ∃ a sv, o9 = .int .i64 z1 ∧ At5 LO wz E7 a sv ∧ a.v = putV (putV VV C0.ck) C1.ck ∧ Fr No wx wz)
    case first =>
      obtain ⟨m0, m1, m2, m3, m4, m5, m6, m7, m8, m9⟩ := hWC.out _ HFA.out
      obtain ⟨k0, k1, k2, k3, k4⟩ := cells5 HA0.out.hE
      go_wp2_with fail
      refine ((putQ (z := z1) (HT.out _ (HFX.out.no_trans HFA.out)) HA0.out.inW HA0.out.r HA0.out.hs (HC1.out _ (HFX.out.no_trans HFA.out)) (by rw [HVA0.out]; exact (HZ.out _ (by first | exact putV_keep.1 | exact putV_keep.1.trans putV_keep.1 | exact (putV_keep.1.trans putV_keep.1).trans putV_keep.1)).2))).mono ?_
      rintro e wn ⟨an, svn, rfl, ⟨hs1, hs2, hs3, hs4, hs5⟩, hf⟩
      have hEn := (HA0.out.no hf).hE
      have HNW := Lib.hid (show At5 LO (set5 wn E7 (.int .i64 an.size) (.int .u64 svn) (.int .i64 an.tick) (.slice an.A3 an.n3 an.c3) (.slice an.A4 an.n4 an.c4)) E7 an svn from ⟨set5_heap hEn _ _ _ _ _, hs1, (hs3.low (by have := (HFA.out).size; have := HLO.out; omega)).at_ hEn (set5_fr _ _ _ _ _ _ _), hs4, hs5⟩)
      have HNV := Lib.hid hs2
      have HNF := Lib.hid ((HFA.out).no_trans hf)
      have HNFE := Lib.hid hf
      obtain ⟨s0, s1, s2, s3, s4⟩ := cells5 hEn
      obtain ⟨y0, y1, y2, y3, y4⟩ := free5 hEn
      have HEN := Lib.hid hEn
      clear hs1 hs2 hs3 hs4 hs5 hf hEn
      go_wp2_with fail
      go_meet
      exact ⟨an, svn, rfl, HNW.out, HNV.out.trans (by rw [HVA0.out]), HNF.out.then_new (set5_fr _ _ _ _ _ _ _) (fun j hj => by have e : j = E7 := hj; rw [e, HLO.out]; exact HGEE7.out)⟩
    case rest =>
    obtain ⟨a1, sa1, rfl, hat, hv, hf⟩ := hcut
    have HA1 := Lib.hid hat
    have HVA1 := Lib.hid hv
    have HFB := Lib.hid hf
    clear hat hv hf HA0 HVA0 HFA
    go_upto_region 5 with fail
    go_cut [10, 11] from 48 to 55 (fun o10 o11 wz => ∃ E a sv, o10 = .pointer (some ⟨E, 0, none⟩) ∧ o11 = .int .i64 z1 ∧ At5 LO wz E a sv ∧ a.v = putV VV C1.ck ∧ LO ≤ E ∧ Fr No wx wz ∧ At5 LO wz E7 a1 sa1 ∧ ¬ E7 = E)
    case first =>
      obtain ⟨m0, m1, m2, m3, m4, m5, m6, m7, m8, m9⟩ := hWC.out _ HFB.out
      obtain ⟨k0, k1, k2, k3, k4⟩ := hW0.out _ HFB.out
      go_wp2_with fail
      refine ((putQ (z := z1) (a := ⟨size, sd, tick, A3, n3, c3, cs, A4, n4, c4, ps⟩) (HT.out _ (HFX.out.no_trans HFB.out)) (HVS.out _ (HFX.out.no_trans HFB.out)) (by rw [HVV.out]; exact HRW.out) HSV.out (HC1.out _ (HFX.out.no_trans HFB.out)) (by rw [HVV.out]; exact (HZ.out _ rfl).2))).mono ?_
      rintro e wn ⟨an, svn, rfl, ⟨hs1, hs2, hs3, hs4, hs5⟩, hf⟩
      have HNW := Lib.hid (show At5 LO (wn.alloc (.cells #[.int .i64 an.size, .int .u64 svn, .int .i64 an.tick, .slice an.A3 an.n3 an.c3, .slice an.A4 an.n4 an.c4] 26)) wn.heap.size an svn from ⟨heap_alloc_new _ _, hs1, (hs3.low (by have := (HFB.out).size; have := HLO.out; omega)).no (Fr.alloc No _ _), hs4, hs5⟩)
      have HNV := Lib.hid hs2
      have HNF := Lib.hid ((HFB.out).no_trans hf)
      have HNFE := Lib.hid hf
      clear hs1 hs2 hs3 hs4 hs5 hf
      go_wp2_with fail
      go_meet
      exact ⟨_, an, svn, rfl, rfl, HNW.out, HNV.out.trans (by rw [HVV.out]), by have := HNF.out.size; have := HLO.out; omega, HNF.out.no_trans (Fr.alloc No _ _), (HA1.out.no HNFE.out).no (Fr.alloc No _ _), fun e => by have h1 := (Array.getElem?_eq_some_iff.1 (HA1.out.no HNFE.out).hE).1; omega⟩
    case rest =>
    obtain ⟨E10, b0, sb0, rfl, rfl, hat, hv, hge, hf, hold, hne⟩ := hcut
    have HB0 := Lib.hid hat
    have HVB0 := Lib.hid hv
    have HGEE10 := Lib.hid hge
    have HFD := Lib.hid hf
    have HA2 := Lib.hid hold
    have HNE := Lib.hid hne
    clear hat hv hge hf hold hne HA1 HFB
    go_upto_region 6 with fail
    go_cut [12] from 55 to 61 (fun o12 wz => ∃ a sv, o12 = .int .i64 z0 ∧ At5 LO wz E10 a sv ∧ a.v = putV (putV VV C1.ck) C0.ck ∧ Fr No wx wz ∧ At5 LO wz E7 a1 sa1)
    case first =>
      obtain ⟨m0, m1, m2, m3, m4, m5, m6, m7, m8, m9⟩ := hWC.out _ HFD.out
      obtain ⟨k0, k1, k2, k3, k4⟩ := cells5 HB0.out.hE
      go_wp2_with fail
      refine ((putQ (z := z0) (HT.out _ (HFX.out.no_trans HFD.out)) HB0.out.inW HB0.out.r HB0.out.hs (HC0.out _ (HFX.out.no_trans HFD.out)) (by rw [HVB0.out]; exact (HZ.out _ (by first | exact putV_keep.1 | exact putV_keep.1.trans putV_keep.1 | exact (putV_keep.1.trans putV_keep.1).trans putV_keep.1)).1))).mono ?_
      rintro e wn ⟨an, svn, rfl, ⟨hs1, hs2, hs3, hs4, hs5⟩, hf⟩
      have hEn := (HB0.out.no hf).hE
      have HNW := Lib.hid (show At5 LO (set5 wn E10 (.int .i64 an.size) (.int .u64 svn) (.int .i64 an.tick) (.slice an.A3 an.n3 an.c3) (.slice an.A4 an.n4 an.c4)) E10 an svn from ⟨set5_heap hEn _ _ _ _ _, hs1, (hs3.low (by have := (HFD.out).size; have := HLO.out; omega)).at_ hEn (set5_fr _ _ _ _ _ _ _), hs4, hs5⟩)
      have HNV := Lib.hid hs2
      have HNF := Lib.hid ((HFD.out).no_trans hf)
      have HNFE := Lib.hid hf
      obtain ⟨s0, s1, s2, s3, s4⟩ := cells5 hEn
      obtain ⟨y0, y1, y2, y3, y4⟩ := free5 hEn
      have HEN := Lib.hid hEn
      clear hs1 hs2 hs3 hs4 hs5 hf hEn
      go_wp2_with fail
      go_meet
      exact ⟨an, svn, rfl, HNW.out, HNV.out.trans (by rw [HVB0.out]), HNF.out.then_new (set5_fr _ _ _ _ _ _ _) (fun j hj => by have e : j = E10 := hj; rw [e, HLO.out]; exact HGEE10.out), (HA2.out.no HNFE.out).oth HNE.out HEN.out (set5_fr _ _ _ _ _ _ _)⟩
    case rest =>
    obtain ⟨b1, sb1, rfl, hat, hv, hf, hold⟩ := hcut
    have HB1 := Lib.hid hat
    have HVB1 := Lib.hid hv
    have HFE := Lib.hid hf
    have HA3 := Lib.hid hold
    clear hat hv hf hold HA2 HB0 HVB0 HFD
    go_upto_region 7 with fail
    go_cut [92] from 61 to 93 (fun o92 wz => o92 = .bool false ∧ Fr No wc wz)
    case first =>
      obtain ⟨m0, m1, m2, m3, m4, m5, m6, m7, m8, m9⟩ := hWC.out _ HFE.out
      obtain ⟨k0, k1, k2, k3, k4⟩ := cells5 HA3.out.hE
      obtain ⟨j0, j1, j2, j3, j4⟩ := cells5 HB1.out.hE
      have hz0 := HZ0.out
      have hz1 := HZ1.out
      cases q0 with
      | false =>
        obtain rfl : z0 = 101 := hz0.symm
        cases q1 with
        | false =>
          obtain rfl : z1 = 101 := hz1.symm
          go_wp2_with fail
          go_meet
          exact ⟨rfl, Fr.refl _ _⟩
        | true =>
          obtain rfl : z1 = 0 := hz1.symm
          go_wp2_with fail
          go_meet
          exact ⟨rfl, Fr.refl _ _⟩
      | true =>
        obtain rfl : z0 = 0 := hz0.symm
        cases q1 with
        | false =>
          obtain rfl : z1 = 101 := hz1.symm
          go_wp2_with fail
          go_meet
          exact ⟨rfl, Fr.refl _ _⟩
        | true =>
          obtain rfl : z1 = 0 := hz1.symm
          by_cases hx : C0.x = C1.x
          · have hx' : (C0.x != C1.x) = false := by rw [hx]; simp
            by_cases hy : C0.y = C1.y
            · have hy' : (C0.y != C1.y) = false := by rw [hy]; simp
              clear hx hy
              go_wp2_with fail
              go_meet
              exact ⟨rfl, Fr.refl _ _⟩
            · have HEQ := Lib.hid ((HVA1.out.trans (put_comm HRW.out HQ0.out HQ1.out (by
          have r0 := (rgtCW_iff.1 HQ0.out).1.plc
          have r1 := (rgtCW_iff.1 HQ1.out).1.plc
          show C0.y * 16 + C0.x ≠ C1.y * 16 + C1.x
          omega))).trans HVB1.out.symm)
              have hy' : (C0.y != C1.y) = true := by simp [hy]
              clear hx
              go_wp2_with (go_at_call 11; refine (HA3.out.same HB1.out HEQ.out).mono ?_; rintro e wn ⟨rfl, hf⟩; have HNF := Lib.hid hf; clear hf)
              go_meet
              exact ⟨rfl, HNF.out⟩
          · have HEQ := Lib.hid ((HVA1.out.trans (put_comm HRW.out HQ0.out HQ1.out (by
          have r0 := (rgtCW_iff.1 HQ0.out).1.plc
          have r1 := (rgtCW_iff.1 HQ1.out).1.plc
          show C0.y * 16 + C0.x ≠ C1.y * 16 + C1.x
          omega))).trans HVB1.out.symm)
            have hx' : (C0.x != C1.x) = true := by simp [hx]
            go_wp2_with (go_at_call 11; refine (HA3.out.same HB1.out HEQ.out).mono ?_; rintro e wn ⟨rfl, hf⟩; have HNF := Lib.hid hf; clear hf)
            go_meet
            exact ⟨rfl, HNF.out⟩
    case rest =>
    obtain ⟨rfl, hf⟩ := hcut
    have HFG := Lib.hid (HFE.out.no_trans hf)
    have HB2 := Lib.hid (HB1.out.no hf)
    clear hf HFE HA3 HB1 HVA1
    go_upto_region 9 with fail
    go_cut [13, 14] from 94 to 100 (fun o13 o14 wz => ∃ E a sv, o13 = .pointer (some ⟨E, 0, none⟩) ∧ o14 = .int .i64 z0 ∧ At5 LO wz E a sv ∧ a.v = putV (putV (putV VV C1.ck) C0.ck) C0.ck ∧ LO ≤ E ∧ Fr No wx wz ∧ At5 LO wz E10 b1 sb1 ∧ ¬ E10 = E)
    case first =>
      obtain ⟨m0, m1, m2, m3, m4, m5, m6, m7, m8, m9⟩ := hWC.out _ HFG.out
      obtain ⟨k0, k1, k2, k3, k4⟩ := cells5 HB2.out.hE
      go_wp2_with fail
      refine ((putQ (z := z0) (HT.out _ (HFX.out.no_trans HFG.out)) HB2.out.inW HB2.out.r HB2.out.hs (HC0.out _ (HFX.out.no_trans HFG.out)) (by rw [HVB1.out]; exact (HZ.out _ (by first | exact putV_keep.1 | exact putV_keep.1.trans putV_keep.1 | exact (putV_keep.1.trans putV_keep.1).trans putV_keep.1)).1))).mono ?_
      rintro e wn ⟨an, svn, rfl, ⟨hs1, hs2, hs3, hs4, hs5⟩, hf⟩
      have HNW := Lib.hid (show At5 LO (wn.alloc (.cells #[.int .i64 an.size, .int .u64 svn, .int .i64 an.tick, .slice an.A3 an.n3 an.c3, .slice an.A4 an.n4 an.c4] 26)) wn.heap.size an svn from ⟨heap_alloc_new _ _, hs1, (hs3.low (by have := (HFG.out).size; have := HLO.out; omega)).no (Fr.alloc No _ _), hs4, hs5⟩)
      have HNV := Lib.hid hs2
      have HNF := Lib.hid ((HFG.out).no_trans hf)
      have HNFE := Lib.hid hf
      clear hs1 hs2 hs3 hs4 hs5 hf
      go_wp2_with fail
      go_meet
      exact ⟨_, an, svn, rfl, rfl, HNW.out, HNV.out.trans (by rw [HVB1.out]), by have := HNF.out.size; have := HLO.out; omega, HNF.out.no_trans (Fr.alloc No _ _), (HB2.out.no HNFE.out).no (Fr.alloc No _ _), fun e => by have h1 := (Array.getElem?_eq_some_iff.1 (HB2.out.no HNFE.out).hE).1; omega⟩
    case rest =>
    obtain ⟨E13, g0, sg0, rfl, rfl, hat, hv, hge, hf, hold, hne⟩ := hcut
    have HG0 := Lib.hid hat
    have HVG0 := Lib.hid hv
    have HFH := Lib.hid hf
    have HB3 := Lib.hid hold
    clear hat hv hge hf hold hne HB2 HFG
    go_upto_region 10 with fail
    go_cut [111] from 100 to 112 (fun o111 wz => o111 = .bool false ∧ Fr No wc wz)
    case first =>
      obtain ⟨k0, k1, k2, k3, k4⟩ := cells5 HG0.out.hE
      obtain ⟨j0, j1, j2, j3, j4⟩ := cells5 HB3.out.hE
      have hz0 := HZ0.out
      cases q0 with
      | false =>
        obtain rfl : z0 = 101 := hz0.symm
        go_wp2_with fail
        go_meet
        exact ⟨rfl, Fr.refl _ _⟩
      | true =>
        obtain rfl : z0 = 0 := hz0.symm
        have HEQ := Lib.hid ((HVG0.out.trans (put_again HRW.out.put (by rw [putV_keep.1]; exact HQ0.out))).trans HVB1.out.symm)
        go_wp2_with (go_at_call 11; refine (HG0.out.same HB3.out HEQ.out).mono ?_; rintro e wn ⟨rfl, hf⟩; have HNF := Lib.hid hf; clear hf)
        go_meet
        exact ⟨rfl, HNF.out⟩
    case rest =>
    obtain ⟨rfl, hf⟩ := hcut
    have HFC := Lib.hid (HFH.out.no_trans hf)
    clear hf HFH HG0 HB3 HVB1 HVG0 HZ HZ0 HZ1 HQ0 HQ1 HNE HGEE7 HGEE10 HF2
    go_upto_region 12 with fail
    have HZ : Hid (∀ v : Wv, v.size = VV.size → ((if rgtP v.size P0.py = true then (0 : Int) else 110) = if rgtP VV.size P0.py = true then 0 else 110) ∧ ((if rgtP v.size P1.py = true then (0 : Int) else 110) = if rgtP VV.size P1.py = true then 0 else 110)) := Lib.hid (fun v hv => by rw [hv]; exact ⟨rfl, rfl⟩)
    obtain ⟨q0, hq0⟩ : ∃ q, rgtP VV.size P0.py = q := ⟨_, rfl⟩
    obtain ⟨q1, hq1⟩ : ∃ q, rgtP VV.size P1.py = q := ⟨_, rfl⟩
    have HQ0 := Lib.hid hq0
    have HQ1 := Lib.hid hq1
    rw [hq0, hq1] at HZ
    obtain ⟨z0, hz0⟩ : ∃ z : Int, (if q0 = true then (0 : Int) else 110) = z := ⟨_, rfl⟩
    obtain ⟨z1, hz1⟩ : ∃ z : Int, (if q1 = true then (0 : Int) else 110) = z := ⟨_, rfl⟩
    have HZ0 := Lib.hid hz0
    have HZ1 := Lib.hid hz1
    rw [hz0, hz1] at HZ
    clear hq0 hq1 hz0 hz1
    go_cut [15, 8] from 113 to 120 (fun o15 o8 wz => ∃ E a sv, o15 = .pointer (some ⟨E, 0, none⟩) ∧ o8 = .int .i64 z0 ∧ At5 LO wz E a sv ∧ a.v = setV VV P0.py ∧ LO ≤ E ∧ Fr No wx wz)
    case first =>
      obtain ⟨m0, m1, m2, m3, m4, m5, m6, m7, m8, m9, m10, m11, m12, m13⟩ := hWP.out _ HFC.out
      obtain ⟨k0, k1, k2, k3, k4⟩ := hW0.out _ HFC.out
      go_wp2_with fail
      refine ((setQ (z := z0) (a := ⟨size, sd, tick, A3, n3, c3, cs, A4, n4, c4, ps⟩) (HT.out _ (HFX.out.no_trans HFC.out)) (HVS.out _ (HFX.out.no_trans HFC.out)) (by rw [HVV.out]; exact HRW.out) (by rw [HVV.out]; exact .inl (by have := HL30.out; omega)) HSV.out (HP0.out _ (HFX.out.no_trans HFC.out)) (by rw [HVV.out]; exact (HZ.out _ rfl).1))).mono ?_
      rintro e wn ⟨an, svn, rfl, ⟨hs1, hs2, hs3, hs4, hs5⟩, hf⟩
      have HNW := Lib.hid (show At5 LO (wn.alloc (.cells #[.int .i64 an.size, .int .u64 svn, .int .i64 an.tick, .slice an.A3 an.n3 an.c3, .slice an.A4 an.n4 an.c4] 26)) wn.heap.size an svn from ⟨heap_alloc_new _ _, hs1, (hs3.low (by have := (HFC.out).size; have := HLO.out; omega)).no (Fr.alloc No _ _), hs4, hs5⟩)
      have HNV := Lib.hid hs2
      have HNF := Lib.hid ((HFC.out).no_trans hf)
      have HNFE := Lib.hid hf
      clear hs1 hs2 hs3 hs4 hs5 hf
      go_wp2_with fail
      go_meet
      exact ⟨_, an, svn, rfl, rfl, HNW.out, HNV.out.trans (by rw [HVV.out]), by have := HNF.out.size; have := HLO.out; omega, HNF.out.no_trans (Fr.alloc No _ _)⟩
    case rest =>
    obtain ⟨E15, a0, sa0, rfl, rfl, hat, hv, hge, hf⟩ := hcut
    have HA0 := Lib.hid hat
    have HVA0 := Lib.hid hv
    have HGEE15 := Lib.hid hge
    have HFA := Lib.hid hf
    clear hat hv hge hf
    go_upto_region 13 with fail
    go_cut [9] from 120 to 127 (fun o9 wz => ∃ a sv, o9 = .int .i64 z1 ∧ At5 LO wz E15 a sv ∧ a.v = setV (setV VV P0.py) P1.py ∧ Fr No wx wz)
    case first =>
      obtain ⟨m0, m1, m2, m3, m4, m5, m6, m7, m8, m9, m10, m11, m12, m13⟩ := hWP.out _ HFA.out
      obtain ⟨k0, k1, k2, k3, k4⟩ := cells5 HA0.out.hE
      go_wp2_with fail
      refine ((setQ (z := z1) (HT.out _ (HFX.out.no_trans HFA.out)) HA0.out.inW HA0.out.r (by rw [HVA0.out]; first | exact Sok.again (.inl (by have := HL30.out; have := setV_len (v := VV) (p := P1.py) (by omega); omega)) | exact .inl (by have := HL30.out; have := setV_len (v := VV) (p := P0.py) (by omega); have := setV_len (v := VV) (p := P1.py) (by omega); omega)) HA0.out.hs (HP1.out _ (HFX.out.no_trans HFA.out)) (by rw [HVA0.out]; exact (HZ.out _ (by first | exact setV_keep | exact setV_keep.trans setV_keep | exact (setV_keep.trans setV_keep).trans setV_keep)).2))).mono ?_
      rintro e wn ⟨an, svn, rfl, ⟨hs1, hs2, hs3, hs4, hs5⟩, hf⟩
      have hEn := (HA0.out.no hf).hE
      have HNW := Lib.hid (show At5 LO (set5 wn E15 (.int .i64 an.size) (.int .u64 svn) (.int .i64 an.tick) (.slice an.A3 an.n3 an.c3) (.slice an.A4 an.n4 an.c4)) E15 an svn from ⟨set5_heap hEn _ _ _ _ _, hs1, (hs3.low (by have := (HFA.out).size; have := HLO.out; omega)).at_ hEn (set5_fr _ _ _ _ _ _ _), hs4, hs5⟩)
      have HNV := Lib.hid hs2
      have HNF := Lib.hid ((HFA.out).no_trans hf)
      have HNFE := Lib.hid hf
      obtain ⟨s0, s1, s2, s3, s4⟩ := cells5 hEn
      obtain ⟨y0, y1, y2, y3, y4⟩ := free5 hEn
      have HEN := Lib.hid hEn
      clear hs1 hs2 hs3 hs4 hs5 hf hEn
      go_wp2_with fail
      go_meet
      exact ⟨an, svn, rfl, HNW.out, HNV.out.trans (by rw [HVA0.out]), HNF.out.then_new (set5_fr _ _ _ _ _ _ _) (fun j hj => by have e : j = E15 := hj; rw [e, HLO.out]; exact HGEE15.out)⟩
    case rest =>
    obtain ⟨a1, sa1, rfl, hat, hv, hf⟩ := hcut
    have HA1 := Lib.hid hat
    have HVA1 := Lib.hid hv
    have HFB := Lib.hid hf
    clear hat hv hf HA0 HVA0 HFA
    go_upto_region 14 with fail
    go_cut [16, 11] from 127 to 134 (fun o16 o11 wz => ∃ E a sv, o16 = .pointer (some ⟨E, 0, none⟩) ∧ o11 = .int .i64 z1 ∧ At5 LO wz E a sv ∧ a.v = setV VV P1.py ∧ LO ≤ E ∧ Fr No wx wz ∧ At5 LO wz E15 a1 sa1 ∧ ¬ E15 = E)
    case first =>
      obtain ⟨m0, m1, m2, m3, m4, m5, m6, m7, m8, m9, m10, m11, m12, m13⟩ := hWP.out _ HFB.out
      obtain ⟨k0, k1, k2, k3, k4⟩ := hW0.out _ HFB.out
      go_wp2_with fail
      refine ((setQ (z := z1) (a := ⟨size, sd, tick, A3, n3, c3, cs, A4, n4, c4, ps⟩) (HT.out _ (HFX.out.no_trans HFB.out)) (HVS.out _ (HFX.out.no_trans HFB.out)) (by rw [HVV.out]; exact HRW.out) (by rw [HVV.out]; exact .inl (by have := HL30.out; omega)) HSV.out (HP1.out _ (HFX.out.no_trans HFB.out)) (by rw [HVV.out]; exact (HZ.out _ rfl).2))).mono ?_
      rintro e wn ⟨an, svn, rfl, ⟨hs1, hs2, hs3, hs4, hs5⟩, hf⟩
      have HNW := Lib.hid (show At5 LO (wn.alloc (.cells #[.int .i64 an.size, .int .u64 svn, .int .i64 an.tick, .slice an.A3 an.n3 an.c3, .slice an.A4 an.n4 an.c4] 26)) wn.heap.size an svn from ⟨heap_alloc_new _ _, hs1, (hs3.low (by have := (HFB.out).size; have := HLO.out; omega)).no (Fr.alloc No _ _), hs4, hs5⟩)
      have HNV := Lib.hid hs2
      have HNF := Lib.hid ((HFB.out).no_trans hf)
      have HNFE := Lib.hid hf
      clear hs1 hs2 hs3 hs4 hs5 hf
      go_wp2_with fail
      go_meet
      exact ⟨_, an, svn, rfl, rfl, HNW.out, HNV.out.trans (by rw [HVV.out]), by have := HNF.out.size; have := HLO.out; omega, HNF.out.no_trans (Fr.alloc No _ _), (HA1.out.no HNFE.out).no (Fr.alloc No _ _), fun e => by have h1 := (Array.getElem?_eq_some_iff.1 (HA1.out.no HNFE.out).hE).1; omega⟩
    case rest =>
    obtain ⟨E16, b0, sb0, rfl, rfl, hat, hv, hge, hf, hold, hne⟩ := hcut
    have HB0 := Lib.hid hat
    have HVB0 := Lib.hid hv
    have HGEE16 := Lib.hid hge
    have HFD := Lib.hid hf
    have HA2 := Lib.hid hold
    have HNE := Lib.hid hne
    clear hat hv hge hf hold hne HA1 HFB
    go_upto_region 15 with fail
    go_cut [12] from 134 to 140 (fun o12 wz => ∃ a sv, o12 = .int .i64 z0 ∧ At5 LO wz E16 a sv ∧ a.v = setV (setV VV P1.py) P0.py ∧ Fr No wx wz ∧ At5 LO wz E15 a1 sa1)
    case first =>
      obtain ⟨m0, m1, m2, m3, m4, m5, m6, m7, m8, m9, m10, m11, m12, m13⟩ := hWP.out _ HFD.out
      obtain ⟨k0, k1, k2, k3, k4⟩ := cells5 HB0.out.hE
      go_wp2_with fail
      refine ((setQ (z := z0) (HT.out _ (HFX.out.no_trans HFD.out)) HB0.out.inW HB0.out.r (by rw [HVB0.out]; first | exact Sok.again (.inl (by have := HL30.out; have := setV_len (v := VV) (p := P1.py) (by omega); omega)) | exact .inl (by have := HL30.out; have := setV_len (v := VV) (p := P0.py) (by omega); have := setV_len (v := VV) (p := P1.py) (by omega); omega)) HB0.out.hs (HP0.out _ (HFX.out.no_trans HFD.out)) (by rw [HVB0.out]; exact (HZ.out _ (by first | exact setV_keep | exact setV_keep.trans setV_keep | exact (setV_keep.trans setV_keep).trans setV_keep)).1))).mono ?_
      rintro e wn ⟨an, svn, rfl, ⟨hs1, hs2, hs3, hs4, hs5⟩, hf⟩
      have hEn := (HB0.out.no hf).hE
      have HNW := Lib.hid (show At5 LO (set5 wn E16 (.int .i64 an.size) (.int .u64 svn) (.int .i64 an.tick) (.slice an.A3 an.n3 an.c3) (.slice an.A4 an.n4 an.c4)) E16 an svn from ⟨set5_heap hEn _ _ _ _ _, hs1, (hs3.low (by have := (HFD.out).size; have := HLO.out; omega)).at_ hEn (set5_fr _ _ _ _ _ _ _), hs4, hs5⟩)
      have HNV := Lib.hid hs2
      have HNF := Lib.hid ((HFD.out).no_trans hf)
      have HNFE := Lib.hid hf
      obtain ⟨s0, s1, s2, s3, s4⟩ := cells5 hEn
      obtain ⟨y0, y1, y2, y3, y4⟩ := free5 hEn
      have HEN := Lib.hid hEn
      clear hs1 hs2 hs3 hs4 hs5 hf hEn
      go_wp2_with fail
      go_meet
      exact ⟨an, svn, rfl, HNW.out, HNV.out.trans (by rw [HVB0.out]), HNF.out.then_new (set5_fr _ _ _ _ _ _ _) (fun j hj => by have e : j = E16 := hj; rw [e, HLO.out]; exact HGEE16.out), (HA2.out.no HNFE.out).oth HNE.out HEN.out (set5_fr _ _ _ _ _ _ _)⟩
    case rest =>
    obtain ⟨b1, sb1, rfl, hat, hv, hf, hold⟩ := hcut
    have HB1 := Lib.hid hat
    have HVB1 := Lib.hid hv
    have HFE := Lib.hid hf
    have HA3 := Lib.hid hold
    clear hat hv hf hold HA2 HB0 HVB0 HFD
    go_upto_region 16 with fail
    go_cut [162] from 140 to 163 (fun o162 wz => o162 = .bool false ∧ Fr No wc wz)
    case first =>
      obtain ⟨m0, m1, m2, m3, m4, m5, m6, m7, m8, m9, m10, m11, m12, m13⟩ := hWP.out _ HFE.out
      obtain ⟨k0, k1, k2, k3, k4⟩ := cells5 HA3.out.hE
      obtain ⟨j0, j1, j2, j3, j4⟩ := cells5 HB1.out.hE
      have hz0 := HZ0.out
      have hz1 := HZ1.out
      cases q0 with
      | false =>
        obtain rfl : z0 = 110 := hz0.symm
        cases q1 with
        | false =>
          obtain rfl : z1 = 110 := hz1.symm
          go_wp2_with fail
          go_meet
          exact ⟨rfl, Fr.refl _ _⟩
        | true =>
          obtain rfl : z1 = 0 := hz1.symm
          go_wp2_with fail
          go_meet
          exact ⟨rfl, Fr.refl _ _⟩
      | true =>
        obtain rfl : z0 = 0 := hz0.symm
        cases q1 with
        | false =>
          obtain rfl : z1 = 110 := hz1.symm
          go_wp2_with fail
          go_meet
          exact ⟨rfl, Fr.refl _ _⟩
        | true =>
          obtain rfl : z1 = 0 := hz1.symm
          by_cases hx : P0.id = P1.id
          · have hx' : (P0.id != P1.id) = false := by rw [hx]; simp
            clear hx
            go_wp2_with fail
            go_meet
            exact ⟨rfl, Fr.refl _ _⟩
          · have HEQ := Lib.hid ((HVA1.out.trans (set_comm HL30.out HQ0.out HQ1.out (show P0.py.id ≠ P1.py.id from hx))).trans HVB1.out.symm)
            have hx' : (P0.id != P1.id) = true := by simp [hx]
            go_wp2_with (go_at_call 11; refine (HA3.out.same HB1.out HEQ.out).mono ?_; rintro e wn ⟨rfl, hf⟩; have HNF := Lib.hid hf; clear hf)
            go_meet
            exact ⟨rfl, HNF.out⟩
    case rest =>
    obtain ⟨rfl, hf⟩ := hcut
    have HFG := Lib.hid (HFE.out.no_trans hf)
    have HB2 := Lib.hid (HB1.out.no hf)
    clear hf HFE HA3 HB1 HVA1
    go_upto_region 18 with fail
    go_cut [17, 18] from 164 to 170 (fun o17 o18 wz => ∃ E a sv, o17 = .pointer (some ⟨E, 0, none⟩) ∧ o18 = .int .i64 z0 ∧ At5 LO wz E a sv ∧ a.v = setV (setV (setV VV P1.py) P0.py) P0.py ∧ LO ≤ E ∧ Fr No wx wz ∧ At5 LO wz E16 b1 sb1 ∧ ¬ E16 = E)
    case first =>
      obtain ⟨m0, m1, m2, m3, m4, m5, m6, m7, m8, m9, m10, m11, m12, m13⟩ := hWP.out _ HFG.out
      obtain ⟨k0, k1, k2, k3, k4⟩ := cells5 HB2.out.hE
      go_wp2_with fail
      refine ((setQ (z := z0) (HT.out _ (HFX.out.no_trans HFG.out)) HB2.out.inW HB2.out.r (by rw [HVB1.out]; first | exact Sok.again (.inl (by have := HL30.out; have := setV_len (v := VV) (p := P1.py) (by omega); omega)) | exact .inl (by have := HL30.out; have := setV_len (v := VV) (p := P0.py) (by omega); have := setV_len (v := VV) (p := P1.py) (by omega); omega)) HB2.out.hs (HP0.out _ (HFX.out.no_trans HFG.out)) (by rw [HVB1.out]; exact (HZ.out _ (by first | exact setV_keep | exact setV_keep.trans setV_keep | exact (setV_keep.trans setV_keep).trans setV_keep)).1))).mono ?_
      rintro e wn ⟨an, svn, rfl, ⟨hs1, hs2, hs3, hs4, hs5⟩, hf⟩
      have HNW := Lib.hid (show At5 LO (wn.alloc (.cells #[.int .i64 an.size, .int .u64 svn, .int .i64 an.tick, .slice an.A3 an.n3 an.c3, .slice an.A4 an.n4 an.c4] 26)) wn.heap.size an svn from ⟨heap_alloc_new _ _, hs1, (hs3.low (by have := (HFG.out).size; have := HLO.out; omega)).no (Fr.alloc No _ _), hs4, hs5⟩)
      have HNV := Lib.hid hs2
      have HNF := Lib.hid ((HFG.out).no_trans hf)
      have HNFE := Lib.hid hf
      clear hs1 hs2 hs3 hs4 hs5 hf
      go_wp2_with fail
      go_meet
      exact ⟨_, an, svn, rfl, rfl, HNW.out, HNV.out.trans (by rw [HVB1.out]), by have := HNF.out.size; have := HLO.out; omega, HNF.out.no_trans (Fr.alloc No _ _), (HB2.out.no HNFE.out).no (Fr.alloc No _ _), fun e => by have h1 := (Array.getElem?_eq_some_iff.1 (HB2.out.no HNFE.out).hE).1; omega⟩
    case rest =>
    obtain ⟨E17, g0, sg0, rfl, rfl, hat, hv, hge, hf, hold, hne⟩ := hcut
    have HG0 := Lib.hid hat
    have HVG0 := Lib.hid hv
    have HFH := Lib.hid hf
    have HB3 := Lib.hid hold
    clear hat hv hge hf hold hne HB2 HFG
    go_upto_region 19 with fail
    obtain ⟨k0, k1, k2, k3, k4⟩ := cells5 HG0.out.hE
    obtain ⟨j0, j1, j2, j3, j4⟩ := cells5 HB3.out.hE
    have hz0 := HZ0.out
    cases q0 with
    | false =>
      obtain rfl : z0 = 110 := hz0.symm
      go_wp2_with (go_at_call 9; refine (HAW.out _ (HFX.out.no_trans HFH.out)).mono ?_; rintro e wn ⟨rfl, hf⟩; have HNF := Lib.hid (HFH.out.no_trans hf); clear hf)
      go_ret
      exact ⟨rfl, HFX.out.no_trans HNF.out⟩
    | true =>
      obtain rfl : z0 = 0 := hz0.symm
      have HEQ := Lib.hid ((HVG0.out.trans (set_twice (.inl (by have := HL30.out; have := setV_len (v := VV) (p := P1.py) (by omega); omega)))).trans HVB1.out.symm)
      go_wp2_with (first
        | (go_at_call 11; refine (HG0.out.same HB3.out HEQ.out).mono ?_; rintro e wn ⟨rfl, hf⟩; have HNF := Lib.hid (HFH.out.no_trans hf); clear hf)
        | (go_at_call 9; refine (HAW.out _ (HFX.out.no_trans HNF.out)).mono ?_; rintro e wm ⟨rfl, hf⟩; have HNG := Lib.hid (HNF.out.no_trans hf); clear hf))
      go_ret
      exact ⟨rfl, HFX.out.no_trans HNG.out⟩
theorem wputs_call {w : World} {d : Wd} {C0 C1 : Ch} {P0 P1 : Pl} (ht : ItT w) (h : InW w d) (hC0 : InC w C0) (hC1 : InC w C1) (hP0 : InP w P0) (hP1 : InP w P1) : Calls Tryd.prog 3 #[d.val, .agg #[.int .i64 C0.x, .int .i64 C0.y, .slice C0.A1 C0.n1 C0.c1, .slice C0.A2 C0.n2 C0.c2, .slice C0.A3 C0.n3 C0.c3, .int .i64 C1.x, .int .i64 C1.y, .slice C1.A1 C1.n1 C1.c1, .slice C1.A2 C1.n2 C1.c2, .slice C1.A3 C1.n3 C1.c3], .agg #[.int .i64 P0.id, .int .i64 P0.x, .int .i64 P0.y, .slice P0.A1 P0.n1 P0.c1, .int .i64 P0.wi, .slice P0.A2 P0.n2 P0.c2, .bool P0.ag, .int .i64 P1.id, .int .i64 P1.x, .int .i64 P1.y, .slice P1.A1 P1.n1 P1.c1, .int .i64 P1.wi, .slice P1.A2 P1.n2 P1.c2, .bool P1.ag]] w fun e w' => e = .returned (.bool true) ∧ Below w.heap.size w w' := (wputs_walk ht h hC0 hC1 hP0 hP1).mono fun _ _ ⟨h1, h2⟩ => ⟨h1, h2.noBelow⟩
end Go.Proofs.YtjdhbgdpmojobaaDoor

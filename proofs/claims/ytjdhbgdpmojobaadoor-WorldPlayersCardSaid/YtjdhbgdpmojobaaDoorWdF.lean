/-
  A world in memory of its own: the walk. No statement of the seat is proved here.
-/
import Derived.Test.YtjdhbgdpmojobaaDoorWdE
namespace Go.Proofs.YtjdhbgdpmojobaaDoor
open Go.RowKit Go.Deep

section
variable {w w' : World} {lo : Nat}
def OwnW (w : World) (d : Wd) (e : Ending) (w' : World) : Prop := ∃ d' : Wd, e = .returned d'.val ∧ d'.v = d.v ∧ d'.n3 = d.n3 ∧ d'.n4 = d.n4 ∧ OwW w.heap.size w' d' ∧ Fr No w w'
theorem wown_first {D n3 n4 c3' c4' : Nat} {wx w1 w2 : World} {V0 V1 V2 : Value} {A3 A4 B3 B4 : Option Addr} {d3 d4 : Nat} {T T1 T2 : TypeId} {L1 L2 : List Value}
    (hb : w2.heap[D]? = some (.cells #[V0, V1, V2, .slice A3 n3 c3', .slice A4 n4 c4'] T (0, 0)))
    (h1 : w1.ownsRow (D + 1) T1 5 (.slice B3 n3 d3) n3 L1) (h2 : w2.ownsRow (D + 1) T2 7 (.slice B4 n4 d4) n4 L2) (f2 : Fr No w1 w2) (fx : Fr No wx w2) :
    ∃ B1' d1' B2' d2', ((w2.setCell ⟨D, 3, none⟩ (.slice B3 n3 d3)).setCell ⟨D, 4, none⟩ (.slice B4 n4 d4)).heap[D]? = some (.cells #[V0, V1, V2, .slice B1' n3 d1', .slice B2' n4 d2'] T (0, 0)) ∧
      ((w2.setCell ⟨D, 3, none⟩ (.slice B3 n3 d3)).setCell ⟨D, 4, none⟩ (.slice B4 n4 d4)).ownsRow D T1 5 (.slice B1' n3 d1') n3 L1 ∧
      ((w2.setCell ⟨D, 3, none⟩ (.slice B3 n3 d3)).setCell ⟨D, 4, none⟩ (.slice B4 n4 d4)).ownsRow D T2 7 (.slice B2' n4 d2') n4 L2 ∧
      Fr (fun i => i = D) wx ((w2.setCell ⟨D, 3, none⟩ (.slice B3 n3 d3)).setCell ⟨D, 4, none⟩ (.slice B4 n4 d4)) := by
  have q1 : Fr (fun i => i = D) w2 (w2.setCell ⟨D, 3, none⟩ (.slice B3 n3 d3)) := Fr.setCell _ _ _ rfl
  have q2 : Fr (fun i => i = D) (w2.setCell ⟨D, 3, none⟩ (.slice B3 n3 d3)) ((w2.setCell ⟨D, 3, none⟩ (.slice B3 n3 d3)).setCell ⟨D, 4, none⟩ (.slice B4 n4 d4)) := Fr.setCell _ _ _ rfl
  have q := q1.trans q2 (fun _ _ e => e)
  have ap : ∀ {W : World} {T e : TypeId} {size n : Nat} {v : Value} {L : List Value}, W.ownsRow (D + 1) e size v n L → ∀ k, v.ownBlock = some k → ¬ k = D := fun h k hk e => by have := (h.lt k hk).1; omega
  refine ⟨B3, d3, B4, d4, ?_, own_low (own_fr (own_no h1 f2) q (ap (T := T) h1)) (by omega), own_low (own_fr h2 q (ap (T := T) h2)) (by omega), (fx.any).trans q (fun _ _ e => e)⟩
  rw [heap_cells_set _ D 4 _ _ _ (heap_cells_set _ D 3 _ _ _ hb)]
  rfl
set_option maxRecDepth 100000 in
set_option maxHeartbeats 3200000 in
theorem wown_any {d : Wd} (hx3 : RdCs w d.A3 d.n3 d.cs) (hx4 : RdPs w d.A4 d.n4 d.ps) (z : SzW d) : Calls Tryd.prog 27 #[d.val] w (OwnW w d) := by
  obtain ⟨size, sd, tick, A3, n3, c3, cs, A4, n4, c4, ps⟩ := d
  have H1 := Lib.hid (fun W (hW : Fr No w W) => fresh_ck (hx3.no hW).1 (chL_one _) c3 (show n3 ≤ 1000000 by have := z.z3; dsimp only at this; omega))
  have H2 := Lib.hid (fun W (hW : Fr No w W) => fresh_py (hx4.no hW).1 (plL_one _) c4 (show n4 ≤ 1000000 by have := z.z4; dsimp only at this; omega))
  have HL3 : Hid (cs.length = n3) := Lib.hid hx3.2.1
  have HL4 : Hid (ps.length = n4) := Lib.hid hx4.2.1
  have HX3 := Lib.hid (fun W (hW : Fr No w W) => hx3.no hW)
  have HX4 := Lib.hid (fun W (hW : Fr No w W) => hx4.no hW)
  have HZ := Lib.hid z
  have hz3 : n3 ≤ 100000 := z.z3
  have hz4 : n4 ≤ 100000 := z.z4
  have HU : Hid (u64v sd = .int .u64 (sd.toNat : Int)) := Lib.hid rfl
  obtain ⟨sv, hsv⟩ : ∃ sv, (sd.toNat : Int) = sv := ⟨_, rfl⟩
  rw [hsv] at HU
  dsimp only [Wd.val] at *
  rw [HU.out]
  clear hx3 hx4 z hsv
  have hb0 := heap_alloc_new w (.cells #[.int .i64 size, .int .u64 sv, .int .i64 tick, .slice A3 n3 c3, .slice A4 n4 c4] 26)
  have HF0 := Lib.hid (Fr.alloc No w (.cells #[.int .i64 size, .int .u64 sv, .int .i64 tick, .slice A3 n3 c3, .slice A4 n4 c4] 26))
  go_enter Tryd.func27, Tryd.ntmps27
  go_wp2_with fail
  have hbE := heap_alloc_new (w.alloc (.cells #[.int .i64 size, .int .u64 sv, .int .i64 tick, .slice A3 n3 c3, .slice A4 n4 c4] 26)) (.cells #[.int .i64 0, .int .u64 0, .int .i64 0, .slice none 0 0, .slice none 0 0] 26)
  have HFE := Lib.hid (Fr.alloc No (w.alloc (.cells #[.int .i64 size, .int .u64 sv, .int .i64 tick, .slice A3 n3 c3, .slice A4 n4 c4] 26)) (.cells #[.int .i64 0, .int .u64 0, .int .i64 0, .slice none 0 0, .slice none 0 0] 26))
  have hbD := blk_no HFE.out hb0
  rw [World.size_alloc] at hbE
  have HFX := Lib.hid (HF0.out.no_trans HFE.out)
  clear HF0 HFE hb0
  obtain ⟨D, hD⟩ : ∃ D, w.heap.size = D := ⟨_, rfl⟩
  have HDW := Lib.hid hD
  rw [hD] at hbD hbE ⊢
  generalize (w.alloc (.cells #[.int .i64 size, .int .u64 sv, .int .i64 tick, .slice A3 n3 c3, .slice A4 n4 c4] 26)).alloc (.cells #[.int .i64 0, .int .u64 0, .int .i64 0, .slice none 0 0, .slice none 0 0] 26) = wx at *
  have HBE := Lib.hid hbE
  have HBD := Lib.hid hbD
  clear hbE hbD
  go_cut [7] from 7 to 15 (fun v7 wy => ∃ B3 d3 B4 d4, wy.heap[D]? = some (.cells #[.int .i64 size, .int .u64 sv, .int .i64 tick, .slice B3 n3 d3, .slice B4 n4 d4] 26 (0, 0)) ∧ wy.ownsRow D 31 5 (.slice B3 n3 d3) n3 (chL cs) ∧ wy.ownsRow D 35 7 (.slice B4 n4 d4) n4 (plL ps) ∧ Fr (fun i => i = D) wx wy)
  case first =>
    have HFD := Lib.hid (HFX.out.no_trans (Fr.drew No wx))
    have hW : Hid (∀ W, Fr No wx W → W.heap[D]? = some (.cells #[.int .i64 size, .int .u64 sv, .int .i64 tick, .slice A3 n3 c3, .slice A4 n4 c4] 26 (0, 0))) := Lib.hid (fun W hW => blk_no hW HBD.out)
    have hC : Hid (∀ W, Fr No wx W → W.cell? ⟨D, 3, none⟩ = some (.slice A3 n3 c3) ∧ W.cell? ⟨D, 4, none⟩ = some (.slice A4 n4 c4)) := Lib.hid (fun W h => ⟨(blk_cell (hW.out W h) 3).trans (by simp), (blk_cell (hW.out W h) 4).trans (by simp)⟩)
    obtain ⟨g3, g4⟩ := hC.out _ (Fr.drew No wx)
    have HDS : Hid (D + 1 ≤ wx.drew.heap.size) := Lib.hid (by have := (Array.getElem?_eq_some_iff.1 HBE.out).1; exact Nat.le_of_lt this)
    clear hD
    go_region_with (first
      | (go_at_call 57; refine (H1.out _ HFD.out).mono ?_; rintro e w1 ⟨B1, d1, rfl, ho1, hf1⟩; have HO1 := Lib.hid ho1; have HF1 := Lib.hid hf1; obtain ⟨k3, k4⟩ := hC.out _ ((Fr.drew No wx).no_trans hf1); clear ho1 hf1)
      | (go_at_call 58; refine (H2.out _ (HFD.out.no_trans HF1.out)).mono ?_; rintro e w2 ⟨B2, d2, rfl, ho2, hf2⟩; have HO2 := Lib.hid ho2; have HF2 := Lib.hid (HF1.out.no_trans hf2); have HF12 := Lib.hid hf2; have HB2 := Lib.hid (hW.out _ ((Fr.drew No wx).no_trans HF2.out)); obtain ⟨m3, m4⟩ := hC.out _ ((Fr.drew No wx).no_trans HF2.out); have z3 := blk_free HB2.out 3; have z4 := blk_free HB2.out 4; clear ho2 hf2))
    all_goals (go_wp2_with fail; go_meet; exact wown_first HB2.out (own_low HO1.out HDS.out) (own_low HO2.out (Nat.le_trans HDS.out HF1.out.size)) HF12.out ((Fr.drew No wx).no_trans HF2.out))
  case rest =>
  obtain ⟨B3, d3, B4, d4, hbD, ho1, ho2, hfx⟩ := hcut
  have hbE := (hfx.block (D + 1) (Array.getElem?_eq_some_iff.1 HBE.out).1 (fun (e : D + 1 = D) => by omega)).trans HBE.out
  have HO : Hid (Owl2 w D ⟨size, sd, tick, A3, n3, c3, cs, A4, n4, c4, ps⟩ B3 B4 d3 d4 0 0 cs ps wc) := Lib.hid ⟨HL3.out, HL4.out, by rw [HU.out]; exact hbD, hbE, ho1, ho2, rfl, rfl, fun _ _ _ _ => rfl, fun _ _ h => absurd h (by omega), fun _ _ _ _ => rfl, fun _ _ h => absurd h (by omega), HFX.out.then_new hfx (fun i hi => by have e : i = D := hi; rw [e]; exact Nat.le_of_eq HDW.out)⟩
  have g3 : wc.cell? ⟨D, 3, none⟩ = some (.slice B3 n3 d3) := (blk_cell hbD 3).trans (by simp)
  clear hbD hbE ho1 ho2 hfx HBE HBD HFX H1 H2 hD
  go_wp2_with fail
  go_loopw [18] (fun v18 wr => ∃ k bk, k ≤ n3 ∧ v18 = .int .i64 (k : Int) ∧ Owl2 w D ⟨size, sd, tick, A3, n3, c3, cs, A4, n4, c4, ps⟩ B3 B4 d3 d4 k 0 bk ps wr) (fun v18 _ => n3 - (intOf v18).toNat)
  case atStart => exact ⟨0, cs, by omega, rfl, HO.out⟩
  case round =>
    obtain ⟨k, bk, hk, rfl, ho⟩ := hrel
    have HO := Lib.hid ho
    clear ho
    by_cases hlt : k < n3
    · have hkl : k < cs.length := by rw [HL3.out]; exact hlt
      have hkb : k < bk.length := by have h : bk.length = n3 := HO.out.l1; omega
      have hbk : bk[k] = cs[k] := HO.out.old k hkb hkl (Nat.le_refl k)
      obtain ⟨g, hB3, hglo, hgs, ⟨cur, hcur⟩, _⟩ := own_put5 HO.out.o1 HO.out.l1 k hlt
      subst hB3
      obtain ⟨b', o', hb', _, hc⟩ := (own_rc HO.out.o1).2 (show 0 < n3 by omega)
      injection hb' with hb'
      injection hb' with e1 e2
      subst e1 e2
      obtain ⟨q0, q1, q2, q3, q4⟩ := chL_at bk k hkb
      have y0 := hc _ _ q0
      have y1 := hc _ _ q1
      have y2 := hc _ _ q2
      have y3 := hc _ _ q3
      have y4 := hc _ _ q4
      rw [Nat.zero_add] at y0 y1 y2 y3 y4
      rw [hbk] at y0 y1 y2 y3 y4
      have hrk : RdC wr cs[k] := (HX3.out wr HO.out.fr).2.2 _ (List.getElem_mem hkl)
      have hzk := HZ.out.zc _ (List.getElem_mem hkl)
      have HR : Hid (∀ W, Fr No wr W → Calls Tryd.prog 34 #[.agg #[.int .i64 cs[k].x, .int .i64 cs[k].y, .slice cs[k].A1 cs[k].n1 cs[k].c1, .slice cs[k].A2 cs[k].n2 cs[k].c2, .slice cs[k].A3 cs[k].n3 cs[k].c3]] W fun e w' => ∃ C : Ch, e = .returned (.agg #[.int .i64 C.x, .int .i64 C.y, .slice C.A1 C.n1 C.c1, .slice C.A2 C.n2 C.c2, .slice C.A3 C.n3 C.c3]) ∧ C.ck = cs[k].ck ∧ OwC W.heap.size w' C ∧ Fr No W w') :=
        Lib.hid (fun W hW => (own_c (hrk.no hW) hzk.z1 hzk.z2 hzk.z3 hzk.z4).mono (fun e w' ⟨C, h1, h2, _, h4, h5⟩ => ⟨C, h1, h2, h4, h5⟩))
      have HST : Hid (∀ wz C lo, Fr No wr wz → D ≤ lo → C.ck = cs[k].ck → OwC lo wz C → ∃ bk', Owl2 w D ⟨size, sd, tick, A3, n3, c3, cs, A4, n4, c4, ps⟩ (some ⟨g, 0, none⟩) B4 d3 d4 (k + 1) 0 bk' ps (put5 wz g (k * 5) (.int .i64 C.x) (.int .i64 C.y) (.slice C.A1 C.n1 C.c1) (.slice C.A2 C.n2 C.c2) (.slice C.A3 C.n3 C.c3))) :=
        Lib.hid (fun wz C lo hf hlo hck ho => (HO.out.no hf).step HDW.out hkl HL3.out hlo rfl hck ho)
      have hwk : IntKind.i64.wrap ((k : Int) + 1) = ((k + 1 : Nat) : Int) := by
        rw [show ((k : Int) + 1) = ((k + 1 : Nat) : Int) by omega]
        exact IntWalk.i64_in _ (by omega)
      have HSZ : Hid (D ≤ wr.heap.size) := Lib.hid (by rw [← HDW.out]; exact HO.out.fr.size)
      have HDD : Hid (∀ W, Fr No wr W → W.cell? ⟨D, 3, none⟩ = some (.slice (some ⟨g, 0, none⟩) n3 d3) ∧ (W.frozen? ⟨g, k * 5, none⟩ = false ∧ W.frozen? ⟨g, k * 5 + 1, none⟩ = false ∧ W.frozen? ⟨g, k * 5 + 2, none⟩ = false ∧ W.frozen? ⟨g, k * 5 + 3, none⟩ = false ∧ W.frozen? ⟨g, k * 5 + 4, none⟩ = false) ∧
          W.cell? ⟨g, k * 5, none⟩ = some (.int .i64 cs[k].x) ∧ W.cell? ⟨g, k * 5 + 1, none⟩ = some (.int .i64 cs[k].y) ∧ W.cell? ⟨g, k * 5 + 2, none⟩ = some (.slice cs[k].A1 cs[k].n1 cs[k].c1) ∧ W.cell? ⟨g, k * 5 + 3, none⟩ = some (.slice cs[k].A2 cs[k].n2 cs[k].c2) ∧ W.cell? ⟨g, k * 5 + 4, none⟩ = some (.slice cs[k].A3 cs[k].n3 cs[k].c3)) := Lib.hid (fun W hW => by
        have h1 := HO.out.no hW
        have h2 := blk_no hW hcur
        have q : ∀ o, W.cell? ⟨g, o, none⟩ = wr.cell? ⟨g, o, none⟩ := fun o => hW.cell (p := ⟨g, o, none⟩) hgs (fun e => e)
        exact ⟨(blk_cell h1.hD 3).trans (by simp), ⟨blk_free h2 _, blk_free h2 _, blk_free h2 _, blk_free h2 _, blk_free h2 _⟩, (q _).trans y0, (q _).trans y1, (q _).trans y2, (q _).trans y3, (q _).trans y4⟩)
      clear hrk hzk q0 q1 q2 q3 q4 hc hbk hcur g3
      generalize cs[k].x = a0 at *
      generalize cs[k].y = a1 at *
      generalize cs[k].A1 = bA1 at *
      generalize cs[k].n1 = bn1 at *
      generalize cs[k].c1 = bc1 at *
      generalize cs[k].A2 = bA2 at *
      generalize cs[k].n2 = bn2 at *
      generalize cs[k].c2 = bc2 at *
      generalize cs[k].A3 = bA3 at *
      generalize cs[k].n3 = bn3 at *
      generalize cs[k].c3 = bc3 at *
      have hEE := heap_alloc_new wr (.cells #[.int .i64 a0, .int .i64 a1, .slice bA1 bn1 bc1, .slice bA2 bn2 bc2, .slice bA3 bn3 bc3] 31)
      have HFA := Lib.hid (Fr.alloc No wr (.cells #[.int .i64 a0, .int .i64 a1, .slice bA1 bn1 bc1, .slice bA2 bn2 bc2, .slice bA3 bn3 bc3] 31))
      go_upto_region 5 with fail
      obtain ⟨E, hE⟩ : ∃ E, wr.heap.size = E := ⟨_, rfl⟩
      rw [hE] at hEE ⊢
      clear hE
      generalize wr.alloc (.cells #[.int .i64 a0, .int .i64 a1, .slice bA1 bn1 bc1, .slice bA2 bn2 bc2, .slice bA3 bn3 bc3] 31) = wA at *
      have HEE : Hid (∀ W, Fr No wA W → W.heap[E]? = some (.cells #[.int .i64 a0, .int .i64 a1, .slice bA1 bn1 bc1, .slice bA2 bn2 bc2, .slice bA3 bn3 bc3] 31 (0, 0))) := Lib.hid (fun W hW => blk_no hW hEE)
      have HFD := Lib.hid (HFA.out.no_trans (Fr.drew No wA))
      obtain ⟨s0, s1, s2, s3, s4⟩ := cells5 (HEE.out _ (Fr.drew No wA))
      obtain ⟨t0, ⟨z0, z1, z2, z3, z4⟩, t1, t2, t3, t4, t5⟩ := HDD.out _ HFD.out
      have hin : (k : Int) < (n3 : Int) := by omega
      have hi0 : (0 : Int) ≤ (k : Int) := by omega
      clear y0 y1 y2 y3 y4 hEE
      go_region_with (go_at_call 34; (refine (HR.out _ HFD.out).mono ?_); rintro e w5 ⟨C, rfl, hck, ho5, hf5⟩; have HCK := Lib.hid hck; have HO5 := Lib.hid ho5; have HF5 := Lib.hid (HFD.out.no_trans hf5); obtain ⟨r0, ⟨p0, p1, p2, p3, p4⟩, r1, r2, r3, r4, r5⟩ := HDD.out _ HF5.out; clear ho5 hf5 hck)
      all_goals (
        go_wp2_with fail
        go_roundw
        case rel =>
          obtain ⟨bk', h'⟩ := HST.out _ C _ HF5.out (Nat.le_trans HSZ.out HFD.out.size) HCK.out HO5.out
          exact ⟨k + 1, bk', by omega, by go_num, h'⟩
        case measure => simp [intOf]; omega)
    · have hkn : k = n3 := by omega
      subst hkn
      have u4 := HO.out.hD
      have v4 := (blk_cell u4 4).trans (by simp : _ = some (.slice B4 n4 d4))
      clear u4
      go_wp2_with fail
      go_loopw [33] (fun v33 wr => ∃ q pk, q ≤ n4 ∧ v33 = .int .i64 (q : Int) ∧ Owl2 w D ⟨size, sd, tick, A3, k, c3, cs, A4, n4, c4, ps⟩ B3 B4 d3 d4 k q bk pk wr) (fun v33 _ => n4 - (intOf v33).toNat)
      case atStart => exact ⟨0, ps, by omega, rfl, HO.out⟩
      case round =>
        obtain ⟨q, pk, hq, rfl, ho⟩ := hrel
        have HO := Lib.hid ho
        clear ho
        by_cases hlt : q < n4
        · have hkl : q < ps.length := by rw [HL4.out]; exact hlt
          have hkb : q < pk.length := by have h : pk.length = n4 := HO.out.l2; omega
          have hbk : pk[q] = ps[q] := HO.out.oldp q hkb hkl (Nat.le_refl q)
          obtain ⟨g, hB4, hglo, hgs, ⟨cur, hcur⟩, _⟩ := own_put7 HO.out.o2 HO.out.l2 q hlt
          subst hB4
          obtain ⟨b', o', hb', _, hc⟩ := (own_rc HO.out.o2).2 (show 0 < n4 by omega)
          injection hb' with hb'
          injection hb' with e1 e2
          subst e1 e2
          obtain ⟨q0, q1, q2, q3, q4, q5, q6⟩ := plL_at pk q hkb
          have y0 := hc _ _ q0
          have y1 := hc _ _ q1
          have y2 := hc _ _ q2
          have y3 := hc _ _ q3
          have y4 := hc _ _ q4
          have y5 := hc _ _ q5
          have y6 := hc _ _ q6
          rw [Nat.zero_add] at y0 y1 y2 y3 y4 y5 y6
          rw [hbk] at y0 y1 y2 y3 y4 y5 y6
          have hrk : RdP wr ps[q] := (HX4.out wr HO.out.fr).2.2 _ (List.getElem_mem hkl)
          have hzk := HZ.out.zp _ (List.getElem_mem hkl)
          have HR : Hid (∀ W, Fr No wr W → Calls Tryd.prog 39 #[.agg #[.int .i64 ps[q].id, .int .i64 ps[q].x, .int .i64 ps[q].y, .slice ps[q].A1 ps[q].n1 ps[q].c1, .int .i64 ps[q].wi, .slice ps[q].A2 ps[q].n2 ps[q].c2, .bool ps[q].ag]] W fun e w' => ∃ C : Pl, e = .returned (.agg #[.int .i64 C.id, .int .i64 C.x, .int .i64 C.y, .slice C.A1 C.n1 C.c1, .int .i64 C.wi, .slice C.A2 C.n2 C.c2, .bool C.ag]) ∧ C.py = ps[q].py ∧ OwP W.heap.size w' C ∧ Fr No W w') :=
            Lib.hid (fun W hW => (pown_any (hrk.no hW) hzk.1 hzk.2).mono (fun e w' ⟨C, h1, h2, _, _, h4, h5⟩ => ⟨C, h1, h2, h4, h5⟩))
          have HST : Hid (∀ wz C lo, Fr No wr wz → D ≤ lo → C.py = ps[q].py → OwP lo wz C → ∃ pk', Owl2 w D ⟨size, sd, tick, A3, k, c3, cs, A4, n4, c4, ps⟩ B3 (some ⟨g, 0, none⟩) d3 d4 k (q + 1) bk pk' (put7 wz g (q * 7) (.int .i64 C.id) (.int .i64 C.x) (.int .i64 C.y) (.slice C.A1 C.n1 C.c1) (.int .i64 C.wi) (.slice C.A2 C.n2 C.c2) (.bool C.ag))) :=
            Lib.hid (fun wz C lo hf hlo hck ho => (HO.out.no hf).stepp HDW.out hkl HL4.out hlo rfl hck ho)
          have hwk : IntKind.i64.wrap ((q : Int) + 1) = ((q + 1 : Nat) : Int) := by
            rw [show ((q : Int) + 1) = ((q + 1 : Nat) : Int) by omega]
            exact IntWalk.i64_in _ (by omega)
          have HSZ : Hid (D ≤ wr.heap.size) := Lib.hid (by rw [← HDW.out]; exact HO.out.fr.size)
          have HDD : Hid (∀ W, Fr No wr W → W.cell? ⟨D, 4, none⟩ = some (.slice (some ⟨g, 0, none⟩) n4 d4) ∧ (W.frozen? ⟨g, q * 7, none⟩ = false ∧ W.frozen? ⟨g, q * 7 + 1, none⟩ = false ∧ W.frozen? ⟨g, q * 7 + 2, none⟩ = false ∧ W.frozen? ⟨g, q * 7 + 3, none⟩ = false ∧ W.frozen? ⟨g, q * 7 + 4, none⟩ = false ∧ W.frozen? ⟨g, q * 7 + 5, none⟩ = false ∧ W.frozen? ⟨g, q * 7 + 6, none⟩ = false) ∧
              W.cell? ⟨g, q * 7, none⟩ = some (.int .i64 ps[q].id) ∧ W.cell? ⟨g, q * 7 + 1, none⟩ = some (.int .i64 ps[q].x) ∧ W.cell? ⟨g, q * 7 + 2, none⟩ = some (.int .i64 ps[q].y) ∧ W.cell? ⟨g, q * 7 + 3, none⟩ = some (.slice ps[q].A1 ps[q].n1 ps[q].c1) ∧ W.cell? ⟨g, q * 7 + 4, none⟩ = some (.int .i64 ps[q].wi) ∧ W.cell? ⟨g, q * 7 + 5, none⟩ = some (.slice ps[q].A2 ps[q].n2 ps[q].c2) ∧ W.cell? ⟨g, q * 7 + 6, none⟩ = some (.bool ps[q].ag)) := Lib.hid (fun W hW => by
            have h1 := HO.out.no hW
            have h2 := blk_no hW hcur
            have q : ∀ o, W.cell? ⟨g, o, none⟩ = wr.cell? ⟨g, o, none⟩ := fun o => hW.cell (p := ⟨g, o, none⟩) hgs (fun e => e)
            exact ⟨(blk_cell h1.hD 4).trans (by simp), ⟨blk_free h2 _, blk_free h2 _, blk_free h2 _, blk_free h2 _, blk_free h2 _, blk_free h2 _, blk_free h2 _⟩, (q _).trans y0, (q _).trans y1, (q _).trans y2, (q _).trans y3, (q _).trans y4, (q _).trans y5, (q _).trans y6⟩)
          clear hrk hzk q0 q1 q2 q3 q4 q5 q6 hc hbk hcur v4
          generalize ps[q].id = a0 at *
          generalize ps[q].x = a1 at *
          generalize ps[q].y = a2 at *
          generalize ps[q].wi = a3 at *
          generalize ps[q].ag = a4 at *
          generalize ps[q].A1 = bA1 at *
          generalize ps[q].n1 = bn1 at *
          generalize ps[q].c1 = bc1 at *
          generalize ps[q].A2 = bA2 at *
          generalize ps[q].n2 = bn2 at *
          generalize ps[q].c2 = bc2 at *
          have hEE := heap_alloc_new wr (.cells #[.int .i64 a0, .int .i64 a1, .int .i64 a2, .slice bA1 bn1 bc1, .int .i64 a3, .slice bA2 bn2 bc2, .bool a4] 35)
          have HFA := Lib.hid (Fr.alloc No wr (.cells #[.int .i64 a0, .int .i64 a1, .int .i64 a2, .slice bA1 bn1 bc1, .int .i64 a3, .slice bA2 bn2 bc2, .bool a4] 35))
          go_upto_region 10 with fail
          obtain ⟨E, hE⟩ : ∃ E, wr.heap.size = E := ⟨_, rfl⟩
          rw [hE] at hEE ⊢
          clear hE
          generalize wr.alloc (.cells #[.int .i64 a0, .int .i64 a1, .int .i64 a2, .slice bA1 bn1 bc1, .int .i64 a3, .slice bA2 bn2 bc2, .bool a4] 35) = wA at *
          have HEE : Hid (∀ W, Fr No wA W → W.heap[E]? = some (.cells #[.int .i64 a0, .int .i64 a1, .int .i64 a2, .slice bA1 bn1 bc1, .int .i64 a3, .slice bA2 bn2 bc2, .bool a4] 35 (0, 0))) := Lib.hid (fun W hW => blk_no hW hEE)
          have HFD := Lib.hid (HFA.out.no_trans (Fr.drew No wA))
          obtain ⟨s0, s1, s2, s3, s4, s5, s6⟩ := cells7 (HEE.out _ (Fr.drew No wA))
          obtain ⟨t0, ⟨z0, z1, z2, z3, z4, z5, z6⟩, t1, t2, t3, t4, t5, t6, t7⟩ := HDD.out _ HFD.out
          have hin : (q : Int) < (n4 : Int) := by omega
          have hi0 : (0 : Int) ≤ (q : Int) := by omega
          clear y0 y1 y2 y3 y4 y5 y6 hEE
          go_region_with (go_at_call 39; (refine (HR.out _ HFD.out).mono ?_); rintro e w5 ⟨C, rfl, hck, ho5, hf5⟩; have HCK := Lib.hid hck; have HO5 := Lib.hid ho5; have HF5 := Lib.hid (HFD.out.no_trans hf5); obtain ⟨r0, ⟨p0, p1, p2, p3, p4, p5, p6⟩, r1, r2, r3, r4, r5, r6, r7⟩ := HDD.out _ HF5.out; clear ho5 hf5 hck)
          all_goals (
            go_wp2_with fail
            go_roundw
            case rel =>
              obtain ⟨pk', h'⟩ := HST.out _ C _ HF5.out (Nat.le_trans HSZ.out HFD.out.size) HCK.out HO5.out
              exact ⟨q + 1, pk', by omega, by go_num, h'⟩
            case measure => simp [intOf]; omega)
        · have hqn : q = n4 := by omega
          subst hqn
          have hDD := HO.out.hD
          rw [show u64v (Wd.sd ⟨size, sd, tick, A3, k, c3, cs, A4, q, c4, ps⟩) = .int .u64 sv from HU.out] at hDD
          have HDB := Lib.hid hDD
          have HEB := Lib.hid HO.out.hE
          obtain ⟨y0, y1, y2, y3, y4⟩ := cells5 hDD
          obtain ⟨z0, z1, z2, z3, z4⟩ := free5 HO.out.hE
          obtain ⟨x0, x1, x2, x3, x4⟩ := cells5 HO.out.hE
          dsimp only at y0 y1 y2 y3 y4
          clear hDD v4
          go_wp2_with fail
          refine bodyPost_ret (results_cell_row (p := 2) rfl _ _ (D + 1) 26 #[.int .i64 size, .int .u64 sv, .int .i64 tick, .slice B3 k d3, .slice B4 q d4] (0, 0) _ rfl (set5_heap HEB.out _ _ _ _ _) Tryd.underlying26 rfl (by kernel_rfl)) rfl ?_
          refine ⟨⟨size, sd, tick, B3, k, d3, bk, B4, q, d4, pk⟩, by show _ = Ending.returned (.agg #[_, u64v sd, _, _, _]); rw [HU.out], ?_, rfl, rfl, ?_, HO.out.fr.then_new (set5_fr wr (D + 1) _ _ _ _ _) (fun i hi => by have e : i = D + 1 := hi; rw [e, HDW.out]; omega)⟩
          · show Wv.mk size sd tick (bk.map Ch.ck) (pk.map Pl.py) = Wv.mk size sd tick (cs.map Ch.ck) (ps.map Pl.py)
            rw [HO.out.bp, HO.out.pp]
          · rw [HDW.out]
            exact HO.out.oww.at_ HEB.out (set5_fr wr (D + 1) _ _ _ _ _)
end
end Go.Proofs.YtjdhbgdpmojobaaDoor

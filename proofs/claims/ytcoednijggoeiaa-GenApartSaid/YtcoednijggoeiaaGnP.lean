/-
  Chunks whatever others are asked ahead of them: the walk of GenApart. No statement of the seat is proved here.
-/
import Derived.Test.YtcoednijggoeiaaGnE
namespace Go.Proofs.Ytcoednijggoeiaa
open Go.RowKit Go.Deep

section
variable {w w' : World} {s : W64}
/-- A chunk's cells, of how many they are. -/
theorem gchunk_n (s : W64) (x y : Int) : ∃ (n : Nat) (L : List Nat) (X Y : Int), ((n = 64 ∧ gin x y) ∨ (n = 0 ∧ ¬ gin x y)) ∧ ∀ W, Calls Try.prog 12 #[u64v s, .int .i64 x, .int .i64 y] W
    fun e w' => ∃ A c, e = .returned (.agg #[.int .i64 X, .int .i64 Y, .slice A n c, .slice none 0 0, .slice none 0 0]) ∧ RwK w' 1 (ItAt w') A n L ∧ Fr No W w' := by
  by_cases h : gin x y
  · refine ⟨64, cellsL s x.toNat y.toNat, x, y, .inl ⟨rfl, h⟩, fun W => (gchunk_any W s x y).mono ?_⟩
    rintro e w' ⟨A, c, rfl, ho, hf⟩
    rw [gchC_in h] at ho
    rw [gchC_in h]
    exact ⟨A, c, rfl, ho.rd.r1, hf⟩
  · refine ⟨0, [], 0, 0, .inr ⟨rfl, h⟩, fun W => (gchunk_any W s x y).mono ?_⟩
    rintro e w' ⟨A, c, rfl, ho, hf⟩
    rw [gchC_out h]
    exact ⟨none, 0, rfl, RwK.nil _ _ _ _, hf⟩
set_option maxRecDepth 100000 in
set_option maxHeartbeats 1600000 in
theorem gapart_walk (s : W64) (a0 a1 b0 b1 : Int) (w : World) : Calls Try.prog 6 #[u64v s, .agg #[.int .i64 a0, .int .i64 a1], .agg #[.int .i64 b0, .int .i64 b1]] w fun e w' => e = .returned (.bool true) ∧ Fr No w w' := by
  have ha := heap_alloc_new w (.cells #[.int .i64 a0, .int .i64 a1] 23)
  have hfa := Fr.alloc No w (.cells #[.int .i64 a0, .int .i64 a1] 23)
  have hb := heap_alloc_new (w.alloc (.cells #[.int .i64 a0, .int .i64 a1] 23)) (.cells #[.int .i64 b0, .int .i64 b1] 23)
  have hfb := Fr.alloc No (w.alloc (.cells #[.int .i64 a0, .int .i64 a1] 23)) (.cells #[.int .i64 b0, .int .i64 b1] 23)
  rw [World.size_alloc] at hb
  replace ha := blk_no hfb ha
  have HF0 := Lib.hid (hfa.no_trans hfb)
  clear hfa hfb
  obtain ⟨n, L, X, Y, hn, hk⟩ := gchunk_n s a0 a1
  have HN := Lib.hid hn
  have HK := Lib.hid hk
  have HB1 : Hid (∀ W, Calls Try.prog 12 #[.int .u64 (IntKind.u64.wrap ((s.toNat : Int) + 1)), .int .i64 b0, .int .i64 b1] W fun e w' => ∃ v, e = .returned v ∧ Fr No W w') := Lib.hid (fun W => by
    have e : IntKind.u64.wrap ((s.toNat : Int) + 1) = ((s + 1).toNat : Int) := add_w s 1#64
    rw [e]
    exact (gchunk_any W (s + 1) b0 b1).mono (fun e w' ⟨A, c, h1, _, h3⟩ => ⟨_, h1, h3⟩))
  have HB2 : Hid (∀ W, Calls Try.prog 12 #[.int .u64 (s.toNat : Int), .int .i64 b0, .int .i64 b1] W fun e w' => ∃ v, e = .returned v ∧ Fr No W w') := Lib.hid (fun W => (gchunk_any W s b0 b1).mono (fun e w' ⟨A, c, h1, _, h3⟩ => ⟨_, h1, h3⟩))
  have HC := Lib.hid (fun W => gcell_any s b0 b1 W)
  have HAW := Lib.hid (fun W => gawake_any W)
  have HCO := Lib.hid (fun h => cellZ_out (s := s) (x := b0) (y := b1) h)
  clear hn hk
  unfold u64v at *
  obtain ⟨sz, hsz⟩ : ∃ z : Int, (s.toNat : Int) = z := ⟨_, rfl⟩
  rw [hsz] at HK HB1 HB2 HC ⊢
  clear hsz
  go_enter Try.func6, Try.ntmps6
  go_upto_region 1 with fail
  obtain ⟨D, hD⟩ : ∃ D, w.heap.size = D := ⟨_, rfl⟩
  rw [hD] at ha hb ⊢
  clear hD
  generalize (w.alloc (.cells #[.int .i64 a0, .int .i64 a1] 23)).alloc (.cells #[.int .i64 b0, .int .i64 b1] 23) = w0 at *
  have HS : Hid (∀ W, Fr No w0 W → W.cell? ⟨D, 0, none⟩ = some (.int .i64 a0) ∧ W.cell? ⟨D, 1, none⟩ = some (.int .i64 a1) ∧ W.cell? ⟨D + 1, 0, none⟩ = some (.int .i64 b0) ∧ W.cell? ⟨D + 1, 1, none⟩ = some (.int .i64 b1)) := Lib.hid (fun W hW => ⟨(blk_cell (blk_no hW ha) 0).trans (by simp), (blk_cell (blk_no hW ha) 1).trans (by simp), (blk_cell (blk_no hW hb) 0).trans (by simp), (blk_cell (blk_no hW hb) 1).trans (by simp)⟩)
  clear ha hb
  obtain ⟨c0, c1, c2, c3⟩ := HS.out w0 (Fr.refl No w0)
  go_wp2_with fail
  refine (HK.out _).mono ?_
  rintro e w1 ⟨A, c, rfl, hr, hf⟩
  have HR1 := Lib.hid hr
  have HF1 := Lib.hid hf
  have hfa := Fr.alloc No w1 (.cells #[.int .i64 X, .int .i64 Y, .slice A n c, .slice none 0 0, .slice none 0 0] 32)
  have hb2 := heap_alloc_new w1 (.cells #[.int .i64 X, .int .i64 Y, .slice A n c, .slice none 0 0, .slice none 0 0] 32)
  clear hr hf c0 c1 c2 c3
  go_upto_region 2 with fail
  have HF2 := Lib.hid (HF1.out.no_trans hfa)
  have HR2 := Lib.hid (fun W (hW : Fr No (w1.alloc (.cells #[.int .i64 X, .int .i64 Y, .slice A n c, .slice none 0 0, .slice none 0 0] 32)) W) => RwK.no (At := ItAt) (fun _ _ _ hb => ItAt.no (hfa.no_trans hW) _ _ _ hb) (hfa.no_trans hW).size HR1.out)
  obtain ⟨E, hE⟩ : ∃ E, w1.heap.size = E := ⟨_, rfl⟩
  rw [hE] at hb2 ⊢
  clear hE HF1 HR1 hfa
  generalize w1.alloc (.cells #[.int .i64 X, .int .i64 Y, .slice A n c, .slice none 0 0, .slice none 0 0] 32) = w2 at *
  have HB2a := Lib.hid hb2
  clear hb2
  obtain ⟨c0, c1, c2, c3⟩ := HS.out w2 HF2.out
  go_wp2_with fail
  refine (HB1.out _).mono ?_
  rintro e w3 ⟨v3, rfl, hf⟩
  have HG3 := Lib.hid hf
  clear hf c0 c1 c2 c3
  obtain ⟨c0, c1, c2, c3⟩ := HS.out w3 (HF2.out.no_trans HG3.out)
  go_wp2_with fail
  refine (HB2.out _).mono ?_
  rintro e w4 ⟨v4, rfl, hf⟩
  have HG4 := Lib.hid (HG3.out.no_trans hf)
  clear hf c0 c1 c2 c3 HG3
  obtain ⟨c0, c1, c2, c3⟩ := HS.out w4 (HF2.out.no_trans HG4.out)
  go_wp2_with fail
  refine (HK.out _).mono ?_
  rintro e w5 ⟨A', c', rfl, hr, hf⟩
  have HR5 := Lib.hid hr
  have HG5 := Lib.hid (HG4.out.no_trans hf)
  have hfa := Fr.alloc No w5 (.cells #[.int .i64 X, .int .i64 Y, .slice A' n c', .slice none 0 0, .slice none 0 0] 32)
  have hb6 := heap_alloc_new w5 (.cells #[.int .i64 X, .int .i64 Y, .slice A' n c', .slice none 0 0, .slice none 0 0] 32)
  clear hr hf c0 c1 c2 c3 HG4
  go_upto_region 5 with fail
  have HG6 := Lib.hid (HG5.out.no_trans hfa)
  have HR6 := Lib.hid (fun W (hW : Fr No (w5.alloc (.cells #[.int .i64 X, .int .i64 Y, .slice A' n c', .slice none 0 0, .slice none 0 0] 32)) W) => RwK.no (At := ItAt) (fun _ _ _ hb => ItAt.no (hfa.no_trans hW) _ _ _ hb) (hfa.no_trans hW).size HR5.out)
  obtain ⟨G, hG⟩ : ∃ G, w5.heap.size = G := ⟨_, rfl⟩
  rw [hG] at hb6 ⊢
  clear hG HG5 HR5 hfa
  generalize w5.alloc (.cells #[.int .i64 X, .int .i64 Y, .slice A' n c', .slice none 0 0, .slice none 0 0] 32) = w6 at *
  have HB6 := Lib.hid hb6
  clear hb6
  go_cut [9] from 36 to 53 (fun v9 W => v9 = .bool (decide (gin a0 a1)) ∧ W = w6)
  case first =>
    obtain ⟨c0, c1, c2, c3⟩ := HS.out w6 (HF2.out.no_trans HG6.out)
    have hcase : ¬ a0 ≥ 0 ∨ (a0 ≥ 0 ∧ ¬ a0 < 16) ∨ (a0 ≥ 0 ∧ a0 < 16 ∧ ¬ a1 ≥ 0) ∨ (a0 ≥ 0 ∧ a0 < 16 ∧ a1 ≥ 0 ∧ ¬ a1 < 16) ∨ (a0 ≥ 0 ∧ a0 < 16 ∧ a1 ≥ 0 ∧ a1 < 16) := by omega
    rcases hcase with h1 | ⟨h1, h2⟩ | ⟨h1, h2, h3⟩ | ⟨h1, h2, h3, h4⟩ | ⟨h1, h2, h3, h4⟩
    · have HDC : Hid (decide (gin a0 a1) = false) := Lib.hid (decide_eq_false (fun h => h1 h.1))
      go_wp2_with fail
      go_meet
      exact ⟨by rw [HDC.out], rfl⟩
    · have HDC : Hid (decide (gin a0 a1) = false) := Lib.hid (decide_eq_false (fun h => h2 h.2.1))
      go_wp2_with fail
      go_meet
      exact ⟨by rw [HDC.out], rfl⟩
    · have HDC : Hid (decide (gin a0 a1) = false) := Lib.hid (decide_eq_false (fun h => h3 h.2.2.1))
      go_wp2_with fail
      go_meet
      exact ⟨by rw [HDC.out], rfl⟩
    · have HDC : Hid (decide (gin a0 a1) = false) := Lib.hid (decide_eq_false (fun h => h4 h.2.2.2))
      go_wp2_with fail
      go_meet
      exact ⟨by rw [HDC.out], rfl⟩
    · have HDC : Hid (decide (gin a0 a1) = true) := Lib.hid (decide_eq_true (show gin a0 a1 from ⟨h1, h2, h3, h4⟩))
      go_wp2_with fail
      go_meet
      exact ⟨by rw [HDC.out], rfl⟩
  case rest =>
  obtain ⟨rfl, rfl⟩ := hcut
  have hcb : ¬ b0 ≥ 0 ∨ (b0 ≥ 0 ∧ ¬ b1 ≥ 0) ∨ (b0 ≥ 0 ∧ b1 ≥ 0) := by omega
  have HCB := Lib.hid hcb
  clear hcb
  have hn := HN.out
  rcases hn with ⟨rfl, hg⟩ | ⟨rfl, hg⟩
  · rw [decide_eq_true hg]
    have HL := Lib.hid (HR6.out wc (Fr.refl No wc)).1
    clear hg HK HB1 HB2 HN
    obtain ⟨k0, k1, k2, k3, k4⟩ := cells5 HB6.out
    obtain ⟨g0, g1, g2, g3, g4⟩ := cells5 (blk_no HG6.out HB2a.out)
    go_wp2_with fail
    clear k0 k1 k2 k3 k4 g0 g1 g2 g3 g4
    go_loopw [72] (fun v72 wr => ∃ i : Nat, i ≤ 64 ∧ v72 = .int .i64 (i : Int) ∧ Fr No wc wr) (fun v72 _ => 64 - (intOf v72).toNat)
    case atStart => exact ⟨0, by omega, rfl, Fr.refl _ _⟩
    case round =>
      obtain ⟨i, hi, rfl, hf⟩ := hrel
      have HFr := Lib.hid hf
      clear hf
      obtain ⟨k0, k1, k2, k3, k4⟩ := cells5 (blk_no HFr.out HB6.out)
      obtain ⟨g0, g1, g2, g3, g4⟩ := cells5 (blk_no (HG6.out.no_trans HFr.out) HB2a.out)
      by_cases hlt : i < 64
      · have hil : i < L.length := by have := HL.out; omega
        obtain ⟨b, o, hA, _, hc⟩ := (HR2.out wr (HG6.out.no_trans HFr.out)).2 (by omega)
        obtain ⟨b', o', hB, _, hc'⟩ := (HR6.out wr HFr.out).2 (by omega)
        subst hA hB
        have z0 : wr.cell? ⟨b, o + i, none⟩ = some (.int .u8 (L[i] : Int)) := by have := hc i hil; rw [Nat.mul_one] at this; exact this
        have z1 : wr.cell? ⟨b', o' + i, none⟩ = some (.int .u8 (L[i] : Int)) := by have := hc' i hil; rw [Nat.mul_one] at this; exact this
        clear hc hc'
        generalize (L[i] : Int) = p at *
        have hwi : IntKind.i64.wrap ((i : Int) + 1) = ((i + 1 : Nat) : Int) := by
          rw [show ((i : Int) + 1) = ((i + 1 : Nat) : Int) by omega]
          exact IntWalk.i64_in _ (by omega)
        go_wp2_with fail
        go_quiet (fail)
        go_wp2_with fail
        go_roundw
        case rel => exact ⟨i + 1, by omega, by go_num, HFr.out.no_trans (Fr.drewN No _ _)⟩
        case measure => simp [intOf]; omega
      · have hin : i = 64 := by omega
        subst hin
        obtain ⟨c0, c1, c2, c3⟩ := HS.out wr (HF2.out.no_trans (HG6.out.no_trans HFr.out))
        have HFw := Lib.hid ((HF0.out.no_trans HF2.out).no_trans (HG6.out.no_trans HFr.out))
        have hcb := HCB.out
        rcases hcb with h1 | ⟨h1, h2⟩ | ⟨h1, h2⟩
        · rw [HCO.out (by omega)] at HC
          go_wp2_with fail
          refine (HC.out _).mono ?_
          rintro e w7 ⟨rfl, hf7⟩
          go_wp2_with fail
          refine (HAW.out _).mono ?_
          rintro e w8 ⟨rfl, hf8⟩
          go_wp2_with fail
          go_ret
          exact ⟨rfl, (HFw.out.no_trans hf7).no_trans hf8⟩
        · rw [HCO.out (by omega)] at HC
          go_wp2_with fail
          refine (HC.out _).mono ?_
          rintro e w7 ⟨rfl, hf7⟩
          go_wp2_with fail
          refine (HAW.out _).mono ?_
          rintro e w8 ⟨rfl, hf8⟩
          go_wp2_with fail
          go_ret
          exact ⟨rfl, (HFw.out.no_trans hf7).no_trans hf8⟩
        · go_wp2_with fail
          refine (HAW.out _).mono ?_
          rintro e w8 ⟨rfl, hf8⟩
          go_wp2_with fail
          go_ret
          exact ⟨rfl, HFw.out.no_trans hf8⟩
  · rw [decide_eq_false hg]
    clear hg HK HB1 HB2 HN
    obtain ⟨k0, k1, k2, k3, k4⟩ := cells5 HB6.out
    obtain ⟨g0, g1, g2, g3, g4⟩ := cells5 (blk_no HG6.out HB2a.out)
    go_wp2_with fail
    clear k0 k1 k2 k3 k4 g0 g1 g2 g3 g4
    go_loopw [72] (fun v72 wr => v72 = .int .i64 0 ∧ wr = wc) (fun v72 _ => 0)
    case atStart => exact ⟨rfl, rfl⟩
    case round =>
      obtain ⟨rfl, rfl⟩ := hrel
      obtain ⟨c0, c1, c2, c3⟩ := HS.out _ (HF2.out.no_trans HG6.out)
      have HFw := Lib.hid ((HF0.out.no_trans HF2.out).no_trans HG6.out)
      have hcb := HCB.out
      rcases hcb with h1 | ⟨h1, h2⟩ | ⟨h1, h2⟩
      · rw [HCO.out (by omega)] at HC
        go_wp2_with fail
        refine (HC.out _).mono ?_
        rintro e w7 ⟨rfl, hf7⟩
        go_wp2_with fail
        refine (HAW.out _).mono ?_
        rintro e w8 ⟨rfl, hf8⟩
        go_wp2_with fail
        go_ret
        exact ⟨rfl, (HFw.out.no_trans hf7).no_trans hf8⟩
      · rw [HCO.out (by omega)] at HC
        go_wp2_with fail
        refine (HC.out _).mono ?_
        rintro e w7 ⟨rfl, hf7⟩
        go_wp2_with fail
        refine (HAW.out _).mono ?_
        rintro e w8 ⟨rfl, hf8⟩
        go_wp2_with fail
        go_ret
        exact ⟨rfl, (HFw.out.no_trans hf7).no_trans hf8⟩
      · go_wp2_with fail
        refine (HAW.out _).mono ?_
        rintro e w8 ⟨rfl, hf8⟩
        go_wp2_with fail
        go_ret
        exact ⟨rfl, HFw.out.no_trans hf8⟩
theorem gapart_call {a : Int} (a0 a1 b0 b1 : Int) (w : World) (ha : 0 ≤ a) (ha' : a ≤ 18446744073709551615) :
    Calls Try.prog 6 #[.int .u64 a, .agg #[.int .i64 a0, .int .i64 a1], .agg #[.int .i64 b0, .int .i64 b1]] w fun e w' => e = .returned (.bool true) ∧ Below w.heap.size w w' := by
  obtain ⟨s, rfl⟩ := w64_of ha ha'
  exact (gapart_walk s a0 a1 b0 b1 w).mono (fun e w' h => ⟨h.1, h.2.noBelow⟩)
end
end Go.Proofs.Ytcoednijggoeiaa

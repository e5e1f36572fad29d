/-
  Right, Great, isEmpty of any; where a box stands. No statement of the seat is proved here.
-/
import Derived.Test.YtjdhbgdpmojobaaDoorChC
namespace Go.Proofs.YtjdhbgdpmojobaaDoor
open Go.RowKit Go.Deep

section
variable {w w' : World} {A : Option Addr} {n c lo : Nat}
def withC (n : Int) : Bool := decide (0 ≤ n) && decide (n < 16)
set_option maxRecDepth 100000 in
theorem within_any (c : Int) : Calls Tryd.prog 86 #[.int .i64 c] w fun e w' => e = .returned (.bool (withC c)) ∧ Fr No w w' := by
  have HP : Hid (∀ p q, decide (0 ≤ c) = p → decide (c < 16) = q → withC c = (p && q)) := Lib.hid (fun p q h1 h2 => by unfold withC; rw [h1, h2])
  by_cases h0 : 0 ≤ c
  · have e0 : (0 ≤ c) := h0
    by_cases h1 : c < 16
    · have HP2 := Lib.hid (HP.out true true (decide_eq_true h0) (decide_eq_true h1))
      clear HP
      go_enter Tryd.func86, Tryd.ntmps86
      go_wp2_with fail
      go_ret
      exact ⟨by rw [HP2.out]; rfl, Fr.refl _ _⟩
    · have HP2 := Lib.hid (HP.out true false (decide_eq_true h0) (decide_eq_false h1))
      clear HP
      go_enter Tryd.func86, Tryd.ntmps86
      go_wp2_with fail
      go_ret
      exact ⟨by rw [HP2.out]; rfl, Fr.refl _ _⟩
  · have HP2 := Lib.hid (HP.out false _ (decide_eq_false h0) rfl)
    clear HP
    go_enter Tryd.func86, Tryd.ntmps86
    go_wp2_with fail
    go_ret
    exact ⟨by rw [HP2.out]; rfl, Fr.refl _ _⟩
set_option maxRecDepth 100000 in
set_option maxHeartbeats 1600000 in
/-- Right, of any chunk. -/
theorem cright_any {C : Ch} (ht : ItT w) (hx : RdC w C) (hb : ByC C.ck) (hs : SmC C) (hc3 : C.n3 ≤ C.c3) : Calls Tryd.prog 59 #[C.val] w fun e w' => e = .returned (.bool (rgtC C.ck)) ∧ Fr No w w' := by
  have HBX := Lib.hid (fun W (hW : Fr No w W) => rightboxes_any (ht.no hW) (hx.no hW) hb hs hc3)
  have HCS := Lib.hid (fun W (hW : Fr No w W) => rightcells_any (ht.no hW) (fun W' hW' => (hx.no (hW.no_trans hW')).r1) hb.b1 C.c1 hs.s1)
  have HHS := Lib.hid (fun W (hW : Fr No w W) => rightheaps_any (ht.no hW) (fun W' hW' => (hx.no (hW.no_trans hW')).r2) hb.b2 C.c2 hs.s2)
  have HWI := Lib.hid (fun c W => within_any (w := W) c)
  have HE : Hid (∀ p1 p2 p3 p4 p5, withC C.x = p1 → withC C.y = p2 → (decide (C.cs.length = 64) && C.cs.all mayC) = p3 → (decide (C.hs.length ≤ 32) && C.hs.all hpC) = p4 → bxC 0 C.cs (C.bs.map Bx.bp) = p5 → rgtC C.ck = (p1 && p2 && p3 && p4 && p5)) :=
    Lib.hid (fun p1 p2 p3 p4 p5 h1 h2 h3 h4 h5 => by subst h1 h2 h3 h4 h5; rfl)
  obtain ⟨p3, h3⟩ : ∃ p, (decide (C.cs.length = 64) && C.cs.all mayC) = p := ⟨_, rfl⟩
  obtain ⟨p4, h4⟩ : ∃ p, (decide (C.hs.length ≤ 32) && C.hs.all hpC) = p := ⟨_, rfl⟩
  obtain ⟨p5, h5⟩ : ∃ p, bxC 0 C.cs (C.bs.map Bx.bp) = p := ⟨_, rfl⟩
  have h4' : (decide (C.ck.hs.length ≤ 32) && C.ck.hs.all hpC) = p4 := h4
  have h3' : (decide (C.ck.cs.length = 64) && C.ck.cs.all mayC) = p3 := h3
  have HE2 := Lib.hid (fun p1 p2 h1 h2 => HE.out p1 p2 p3 p4 p5 h1 h2 h3 h4 h5)
  rw [h5] at HBX
  rw [h4] at HHS
  rw [h3] at HCS
  clear HE h3 h4 h5 h3' h4' ht hx hb hs hc3
  obtain ⟨x, y, A1, n1, c1, cs, A2, n2, c2, hps, A3, n3, c3, bs⟩ := C
  dsimp only [Ch.val] at *
  obtain ⟨R, hR⟩ : ∃ R, rgtC (Ch.ck ⟨x, y, A1, n1, c1, cs, A2, n2, c2, hps, A3, n3, c3, bs⟩) = R := ⟨_, rfl⟩
  rw [hR] at HE2 ⊢
  clear hR
  have HX := Lib.hid (HWI.out x)
  have HY := Lib.hid (HWI.out y)
  obtain ⟨p1, h1⟩ : ∃ p, withC x = p := ⟨_, rfl⟩
  obtain ⟨p2, h2⟩ : ∃ p, withC y = p := ⟨_, rfl⟩
  have HE := Lib.hid (HE2.out p1 p2 h1 h2)
  rw [h1] at HX
  rw [h2] at HY
  clear HE2 HWI h1 h2
  have hb0 := heap_alloc_new w (.cells #[.int .i64 x, .int .i64 y, .slice A1 n1 c1, .slice A2 n2 c2, .slice A3 n3 c3] 31)
  have HF0 := Lib.hid (Fr.alloc No w (.cells #[.int .i64 x, .int .i64 y, .slice A1 n1 c1, .slice A2 n2 c2, .slice A3 n3 c3] 31))
  go_enter Tryd.func59, Tryd.ntmps59
  go_wp2_with fail
  obtain ⟨D, hD⟩ : ∃ D, w.heap.size = D := ⟨_, rfl⟩
  rw [hD] at hb0 ⊢
  clear hD
  generalize w.alloc (.cells #[.int .i64 x, .int .i64 y, .slice A1 n1 c1, .slice A2 n2 c2, .slice A3 n3 c3] 31) = wx at *
  have hW : Hid (∀ W, Fr No wx W → W.cell? ⟨D, 0, none⟩ = some (.int .i64 x) ∧ W.cell? ⟨D, 1, none⟩ = some (.int .i64 y) ∧ W.cell? ⟨D, 2, none⟩ = some (.slice A1 n1 c1) ∧ W.cell? ⟨D, 3, none⟩ = some (.slice A2 n2 c2) ∧ W.cell? ⟨D, 4, none⟩ = some (.slice A3 n3 c3)) := fun W hW => ⟨(blk_cell (blk_no hW hb0) 0).trans (by simp), (blk_cell (blk_no hW hb0) 1).trans (by simp), (blk_cell (blk_no hW hb0) 2).trans (by simp), (blk_cell (blk_no hW hb0) 3).trans (by simp), (blk_cell (blk_no hW hb0) 4).trans (by simp)⟩
  obtain ⟨g0, g1, g2, g3, g4⟩ := hW.out wx (Fr.refl No wx)
  clear hb0
  have HF := Lib.hid (Fr.refl No wx)
  cases p1 with
  | false =>
    go_wp2_with (first
      | (go_at_call_of 86 (Value.int .i64 x); refine (HX.out _).mono ?_; rintro e w1 ⟨rfl, hf⟩; clear g0 g1 g2 g3 g4; have HF := Lib.hid (HF.out.no_trans hf); obtain ⟨g0, g1, g2, g3, g4⟩ := hW.out _ HF.out; clear hf))
    go_ret
    exact ⟨by rw [HE.out]; rfl, HF0.out.no_trans HF.out⟩
  | true =>
  cases p2 with
  | false =>
    go_wp2_with (first
      | (go_at_call_of 86 (Value.int .i64 x); refine (HX.out _).mono ?_; rintro e w1 ⟨rfl, hf⟩; clear g0 g1 g2 g3 g4; have HF := Lib.hid (HF.out.no_trans hf); obtain ⟨g0, g1, g2, g3, g4⟩ := hW.out _ HF.out; clear hf)
      | (go_at_call_of 86 (Value.int .i64 y); refine (HY.out _).mono ?_; rintro e w2 ⟨rfl, hf⟩; clear g0 g1 g2 g3 g4; have HF := Lib.hid (HF.out.no_trans hf); obtain ⟨g0, g1, g2, g3, g4⟩ := hW.out _ HF.out; clear hf))
    go_ret
    exact ⟨by rw [HE.out]; rfl, HF0.out.no_trans HF.out⟩
  | true =>
  cases p3 with
  | false =>
    go_wp2_with (first
      | (go_at_call_of 86 (Value.int .i64 x); refine (HX.out _).mono ?_; rintro e w1 ⟨rfl, hf⟩; clear g0 g1 g2 g3 g4; have HF := Lib.hid (HF.out.no_trans hf); obtain ⟨g0, g1, g2, g3, g4⟩ := hW.out _ HF.out; clear hf)
      | (go_at_call_of 86 (Value.int .i64 y); refine (HY.out _).mono ?_; rintro e w2 ⟨rfl, hf⟩; clear g0 g1 g2 g3 g4; have HF := Lib.hid (HF.out.no_trans hf); obtain ⟨g0, g1, g2, g3, g4⟩ := hW.out _ HF.out; clear hf)
      | (go_at_call 87; refine (HCS.out _ (HF0.out.no_trans HF.out)).mono ?_; rintro e w3 ⟨rfl, hf⟩; clear g0 g1 g2 g3 g4; have HF := Lib.hid (HF.out.no_trans hf); obtain ⟨g0, g1, g2, g3, g4⟩ := hW.out _ HF.out; clear hf))
    go_ret
    exact ⟨by rw [HE.out]; rfl, HF0.out.no_trans HF.out⟩
  | true =>
  cases p4 with
  | false =>
    go_wp2_with (first
      | (go_at_call_of 86 (Value.int .i64 x); refine (HX.out _).mono ?_; rintro e w1 ⟨rfl, hf⟩; clear g0 g1 g2 g3 g4; have HF := Lib.hid (HF.out.no_trans hf); obtain ⟨g0, g1, g2, g3, g4⟩ := hW.out _ HF.out; clear hf)
      | (go_at_call_of 86 (Value.int .i64 y); refine (HY.out _).mono ?_; rintro e w2 ⟨rfl, hf⟩; clear g0 g1 g2 g3 g4; have HF := Lib.hid (HF.out.no_trans hf); obtain ⟨g0, g1, g2, g3, g4⟩ := hW.out _ HF.out; clear hf)
      | (go_at_call 87; refine (HCS.out _ (HF0.out.no_trans HF.out)).mono ?_; rintro e w3 ⟨rfl, hf⟩; clear g0 g1 g2 g3 g4; have HF := Lib.hid (HF.out.no_trans hf); obtain ⟨g0, g1, g2, g3, g4⟩ := hW.out _ HF.out; clear hf)
      | (go_at_call 88; refine (HHS.out _ (HF0.out.no_trans HF.out)).mono ?_; rintro e w4 ⟨rfl, hf⟩; clear g0 g1 g2 g3 g4; have HF := Lib.hid (HF.out.no_trans hf); obtain ⟨g0, g1, g2, g3, g4⟩ := hW.out _ HF.out; clear hf))
    go_ret
    exact ⟨by rw [HE.out]; rfl, HF0.out.no_trans HF.out⟩
  | true =>
  go_wp2_with (first
    | (go_at_call_of 86 (Value.int .i64 x); refine (HX.out _).mono ?_; rintro e w1 ⟨rfl, hf⟩; clear g0 g1 g2 g3 g4; have HF := Lib.hid (HF.out.no_trans hf); obtain ⟨g0, g1, g2, g3, g4⟩ := hW.out _ HF.out; clear hf)
    | (go_at_call_of 86 (Value.int .i64 y); refine (HY.out _).mono ?_; rintro e w2 ⟨rfl, hf⟩; clear g0 g1 g2 g3 g4; have HF := Lib.hid (HF.out.no_trans hf); obtain ⟨g0, g1, g2, g3, g4⟩ := hW.out _ HF.out; clear hf)
    | (go_at_call 87; refine (HCS.out _ (HF0.out.no_trans HF.out)).mono ?_; rintro e w3 ⟨rfl, hf⟩; clear g0 g1 g2 g3 g4; have HF := Lib.hid (HF.out.no_trans hf); obtain ⟨g0, g1, g2, g3, g4⟩ := hW.out _ HF.out; clear hf)
    | (go_at_call 88; refine (HHS.out _ (HF0.out.no_trans HF.out)).mono ?_; rintro e w4 ⟨rfl, hf⟩; clear g0 g1 g2 g3 g4; have HF := Lib.hid (HF.out.no_trans hf); obtain ⟨g0, g1, g2, g3, g4⟩ := hW.out _ HF.out; clear hf)
    | (go_at_call 89; refine (HBX.out _ (HF0.out.no_trans HF.out)).mono ?_; rintro e w5 ⟨rfl, hf⟩; have HF := Lib.hid (HF.out.no_trans hf); clear hf))
  go_ret
  exact ⟨by rw [HE.out]; rfl, HF0.out.no_trans HF.out⟩
end
end Go.Proofs.YtjdhbgdpmojobaaDoor

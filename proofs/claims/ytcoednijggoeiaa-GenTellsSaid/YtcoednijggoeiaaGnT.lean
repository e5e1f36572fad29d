/-
  The document's chunks, any of them; the walk of GenTells. No statement of the seat is proved here.
-/
import Derived.Test.YtcoednijggoeiaaGnR
import Derived.Test.YtcoednijggoeiaaChZ
namespace Go.Proofs.Ytcoednijggoeiaa
open Go.RowKit Go.Deep

section
variable {w w' : World} {s : W64}
set_option maxRecDepth 100000 in
theorem rchunk_out (w : World) (s : W64) (x y : Int) (h : ¬ gin x y) : Calls Try.prog 13 #[u64v s, .int .i64 x, .int .i64 y] w
    fun e w' => e = .returned (.agg #[.int .i64 0, .int .i64 0, .slice none 0 0, .slice none 0 0, .slice none 0 0]) ∧ Fr No w w' := by
  have hb0 := heap_alloc_new w (.cells #[.int .i64 0, .int .i64 0, .slice none 0 0, .slice none 0 0, .slice none 0 0] 32)
  have f0 := Fr.alloc No w (.cells #[.int .i64 0, .int .i64 0, .slice none 0 0, .slice none 0 0, .slice none 0 0] 32)
  unfold u64v
  unfold gin at h
  obtain ⟨R, hR⟩ : ∃ R, w.heap.size = R := ⟨_, rfl⟩
  have HR := Lib.hid hR
  rw [hR] at hb0
  obtain ⟨k0, k1, k2, k3, k4⟩ := cells5 hb0
  obtain ⟨z0, z1, z2, z3, z4⟩ := free5 hb0
  have HB0 := Lib.hid hb0
  have HF0 := Lib.hid f0
  clear hb0 f0
  have hcase : x < 0 ∨ (¬ x < 0 ∧ x > 15) ∨ (¬ x < 0 ∧ ¬ x > 15 ∧ y < 0) ∨ (¬ x < 0 ∧ ¬ x > 15 ∧ ¬ y < 0 ∧ y > 15) := by omega
  rcases hcase with h1 | ⟨h1, h2⟩ | ⟨h1, h2, h3⟩ | ⟨h1, h2, h3, h4⟩
  all_goals (
    clear h
    go_enter Try.func13, Try.ntmps13
    go_upto_region 1 with fail
    clear hR
    generalize w.alloc (.cells #[.int .i64 0, .int .i64 0, .slice none 0 0, .slice none 0 0, .slice none 0 0] 32) = w1 at *
    go_wp2_with fail
    refine bodyPost_ret (results_cell_row (p := 6) rfl _ _ R 32 #[.int .i64 0, .int .i64 0, .slice none 0 0, .slice none 0 0, .slice none 0 0] (0, 0) _ rfl (set5_heap HB0.out _ _ _ _ _) Try.underlying32 rfl (by kernel_rfl)) rfl ?_
    exact ⟨rfl, HF0.out.then_new (set5_fr _ R _ _ _ _ _) (fun i e => by have e' : i = R := e; have := HR.out; omega)⟩)
/-- Any chunk of the document's. -/
theorem rchunk_any (w : World) (s : W64) (x y : Int) : Calls Try.prog 13 #[u64v s, .int .i64 x, .int .i64 y] w (GchP w s x y) := by
  by_cases h : gin x y
  · obtain ⟨h1, h2, h3, h4⟩ := id h
    obtain ⟨X, rfl⟩ : ∃ X : Nat, x = (X : Int) := ⟨x.toNat, by omega⟩
    obtain ⟨Y, rfl⟩ : ∃ Y : Nat, y = (Y : Int) := ⟨y.toNat, by omega⟩
    refine (rchunk_in w s X Y (by omega) (by omega)).mono ?_
    rintro e w' ⟨A, c, rfl, ho, hf⟩
    refine ⟨A, c, ?_, ?_, hf⟩
    · rw [gchC_in h]; rfl
    · rw [gchC_in h]
      exact ⟨ho, World.ownsRow_nil _ _ _ _, World.ownsRow_nil _ _ _ _, fun b hb => by cases hb⟩
  · refine (rchunk_out w s x y h).mono ?_
    rintro e w' ⟨rfl, hf⟩
    refine ⟨none, 0, ?_, ?_, hf⟩
    · rw [gchC_out h]; rfl
    · rw [gchC_out h]
      exact ⟨World.ownsRow_nil _ _ _ _, World.ownsRow_nil _ _ _ _, World.ownsRow_nil _ _ _ _, fun b hb => by cases hb⟩
/-- Two chunks at first, of one place, are the same. -/
theorem gsame_yes {x y : Int} {A A' : Option Addr} {c c' lo lo' : Nat} (h : OwC lo w (gchC s x y A c)) (h' : OwC lo' w (gchC s x y A' c')) : Calls Try.prog 11 #[(gchC s x y A c).val, (gchC s x y A' c').val] w fun e w' => e = .returned (.bool true) ∧ Fr No w w' := by
  obtain ⟨h1, h2, h3, h4⟩ := gchC_small s x y A c
  exact chsame_yes h.rd h'.rd (gchC_ck s x y A A' c c') (by omega) (by omega) (by omega) (fun b hb => by rw [h4] at hb; cases hb)
set_option maxRecDepth 100000 in
set_option maxHeartbeats 1600000 in
theorem gtells_walk (s n : W64) (x y : Int) (w : World) : Calls Try.prog 3 #[u64v s, u64v n, .agg #[.int .i64 x, .int .i64 y]] w fun e w' => e = .returned (.bool true) ∧ Fr No w w' := by
  have hb := heap_alloc_new w (.cells #[.int .i64 x, .int .i64 y] 23)
  have hfa := Fr.alloc No w (.cells #[.int .i64 x, .int .i64 y] 23)
  have HM1 := Lib.hid (fun W => mix_any s n W)
  have HM2 := Lib.hid (fun W => rmix_any s n W)
  have HC1 := Lib.hid (fun W => gcell_any s x y W)
  have HC2 := Lib.hid (fun W => rcell_any s x y W)
  have HK1 := Lib.hid (fun W => gchunk_any W s x y)
  have HK2 := Lib.hid (fun W => rchunk_any W s x y)
  have HAW := Lib.hid (fun W => gawake_any W)
  unfold u64v at *
  go_enter Try.func3, Try.ntmps3
  go_upto_region 1 with fail
  obtain ⟨D, hD⟩ : ∃ D, w.heap.size = D := ⟨_, rfl⟩
  rw [hD] at hb ⊢
  clear hD
  generalize w.alloc (.cells #[.int .i64 x, .int .i64 y] 23) = w0 at *
  have HF0 := Lib.hid hfa
  have HS : Hid (∀ W, Fr No w0 W → W.cell? ⟨D, 0, none⟩ = some (.int .i64 x) ∧ W.cell? ⟨D, 1, none⟩ = some (.int .i64 y)) := Lib.hid (fun W hW => ⟨(blk_cell (blk_no hW hb) 0).trans (by simp), (blk_cell (blk_no hW hb) 1).trans (by simp)⟩)
  clear hb hfa
  have d0 := HS.out w0 (Fr.refl No w0)
  have dd := HS.out w0.drew (Fr.drew No w0)
  go_region_held3 (fun W => W.cell? ⟨D, 0, none⟩ = some (.int .i64 x) ∧ W.cell? ⟨D, 1, none⟩ = some (.int .i64 y))
    (first | exact d8 | exact d7 | exact d6 | exact d5 | exact d4 | exact d3 | exact dd | exact d0)
    (first
      | (go_at_call 7; refine (HM1.out _).mono ?_; rintro e w1 ⟨rfl, rfl⟩)
      | (go_at_call 8; refine (HM2.out _).mono ?_; rintro e w1 ⟨rfl, rfl⟩)
      | (go_at_call 9; refine (HC1.out _).mono ?_; rintro e w3 ⟨rfl, hf3⟩; have HF3 := Lib.hid ((Fr.drew No w0).no_trans hf3); have d3 := HS.out w3 HF3.out; clear hf3)
      | (go_at_call 10; refine (HC2.out _).mono ?_; rintro e w1 ⟨rfl, rfl⟩)
      | (go_at_call 12; refine (HK1.out _).mono ?_; rintro e w4 ⟨A, c, rfl, ho, hf4⟩; have HF4 := Lib.hid (HF3.out.no_trans hf4); have HO4 := Lib.hid ho; have d4 := HS.out w4 HF4.out; clear hf4 ho)
      | (go_at_call 13; refine (HK2.out _).mono ?_; rintro e w5 ⟨A', c', rfl, ho, hf5⟩; have HF5 := Lib.hid (HF4.out.no_trans hf5); have HO5 := Lib.hid ho; have HO4' := Lib.hid (HO4.out.no hf5); have d5 := HS.out w5 HF5.out; clear hf5 ho)
      | (go_at_call 11; refine (gsame_yes HO4'.out HO5.out).mono ?_; rintro e w6 ⟨rfl, hf6⟩; have HF6 := Lib.hid (HF5.out.no_trans hf6); have d6 := HS.out w6 HF6.out; clear hf6)
      | (go_at_call 14; refine (HAW.out _).mono ?_; rintro e w7 ⟨rfl, hf7⟩; have HF7 := Lib.hid (HF6.out.no_trans hf7); have d7 := HS.out w7 HF7.out; clear hf7))
  go_wp2_with fail
  go_ret
  exact ⟨rfl, HF0.out.no_trans HF7.out⟩
theorem gtells_call {a b : Int} (x y : Int) (w : World) (ha : 0 ≤ a) (ha' : a ≤ 18446744073709551615) (hb : 0 ≤ b) (hb' : b ≤ 18446744073709551615) :
    Calls Try.prog 3 #[.int .u64 a, .int .u64 b, .agg #[.int .i64 x, .int .i64 y]] w fun e w' => e = .returned (.bool true) ∧ Below w.heap.size w w' := by
  obtain ⟨s, rfl⟩ := w64_of ha ha'
  obtain ⟨n, rfl⟩ := w64_of hb hb'
  exact (gtells_walk s n x y w).mono (fun e w' h => ⟨h.1, h.2.noBelow⟩)
end
end Go.Proofs.Ytcoednijggoeiaa

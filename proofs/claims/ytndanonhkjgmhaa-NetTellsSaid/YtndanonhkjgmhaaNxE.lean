/-
  The document's net: Take. No statement of the seat is proved here.
-/
import Derived.Test.YtndanonhkjgmhaaNxD
namespace Go.Proofs.Ytndanonhkjgmhaa
open Go.RowKit

/-- Three results, the first two of which lie in cells. -/
theorem results_cell2_tmp_row {P : Program} {fn : Func} {p q u : Tmp} {ty tz : TypeId} (h : fn.results = #[.cell p ty, .cell q tz, .tmp u]) (tmps : Array Value) (w : World) (g g' : Nat) (t t' : TypeId) (cs cs' : Array Value) (fr fr' : Nat × Nat) (d d' : TypeDesc)
    (hp : tmps.getD p undef = .pointer (some ⟨g, 0, none⟩)) (hg : w.heap[g]? = some (.cells cs t fr))
    (hu : P.underlying ty = some d) (hd : (match d with | .struct _ | .array _ _ => true | _ => false) = true) (hi : (P.info? ty).map (·.size) = some cs.size)
    (hp' : tmps.getD q undef = .pointer (some ⟨g', 0, none⟩)) (hg' : w.heap[g']? = some (.cells cs' t' fr'))
    (hu' : P.underlying tz = some d') (hd' : (match d' with | .struct _ | .array _ _ => true | _ => false) = true) (hi' : (P.info? tz).map (·.size) = some cs'.size) :
    (results fn tmps).run P w = .ok (.tuple #[.agg cs, .agg cs', tmps.getD u undef]) w := by
  have e1 := run_loadVar_row w g t ty cs fr d hg hu hd hi
  have e2 := run_loadVar_row w g' t' tz cs' fr' d' hg' hu' hd' hi'
  simp only [results, h]
  simp [-Array.getD_eq_getD_getElem?, Sem.run_bind, Result.andThen, hp, hp', asAddr, e1, e2]
set_option maxRecDepth 100000 in
theorem takeS_no {w : World} {A : Option Addr} {n : Nat} {H : List St} (c : Nat) (h : RowOf w 4 (StAt w) A n H) (hd : Dsc H) (hn : n ≤ 10000) (N : Int) (E : Nat) (i : Int) (hi : fpos n i = -1) :
    Calls Try.prog 22 #[.agg #[.int .i64 N, .int .i64 (E : Int), .slice A n c], .int .i64 i] w fun e w' =>
      e = .returned (.tuple #[.agg #[.int .i64 N, .int .i64 (E : Int), .slice A n c], .agg #[.int .i64 0, .int .i64 0, .slice none 0 0], .bool false]) ∧ Fr No w w' := by
  have g0 := heap_alloc_new w (.cells #[.int .i64 N, .int .i64 (E : Int), .slice A n c] 42)
  have g1 := heap2 w (.cells #[.int .i64 N, .int .i64 (E : Int), .slice A n c] 42) (.cells #[.int .i64 0, .int .i64 0, .slice none 0 0] 42)
  have hfa := Fr.alloc No (w.alloc (.cells #[.int .i64 N, .int .i64 (E : Int), .slice A n c] 42)) (.cells #[.int .i64 0, .int .i64 0, .slice none 0 0] 42)
  have hfb := Fr.alloc No ((w.alloc (.cells #[.int .i64 N, .int .i64 (E : Int), .slice A n c] 42)).alloc (.cells #[.int .i64 0, .int .i64 0, .slice none 0 0] 42)) (.cells #[.int .i64 0, .int .i64 0, .slice none 0 0] 30)
  have g2 := heap_alloc_new ((w.alloc (.cells #[.int .i64 N, .int .i64 (E : Int), .slice A n c] 42)).alloc (.cells #[.int .i64 0, .int .i64 0, .slice none 0 0] 42)) (.cells #[.int .i64 0, .int .i64 0, .slice none 0 0] 30)
  rw [World.size_alloc, World.size_alloc] at g2
  have hf := ((Fr.alloc No w (.cells #[.int .i64 N, .int .i64 (E : Int), .slice A n c] 42)).no_trans hfa).no_trans hfb
  have HG0 := Lib.hid (blk_no hfb (blk_no hfa g0))
  have HG1 := Lib.hid (blk_no hfb g1)
  have HG2 := Lib.hid g2
  have HF := Lib.hid hf
  have HA := Lib.hid (find_any c (rowS_no h hf) hd hn N (E : Int) i)
  rw [hi] at HA
  clear h hf hd g0 g1 g2 hfa hfb
  go_enter Try.func22, Try.ntmps22
  go_wp2_with fail
  generalize ((w.alloc (.cells #[.int .i64 N, .int .i64 (E : Int), .slice A n c] 42)).alloc (.cells #[.int .i64 0, .int .i64 0, .slice none 0 0] 42)).alloc (.cells #[.int .i64 0, .int .i64 0, .slice none 0 0] 30) = w0 at *
  refine HA.out.mono ?_
  rintro e w1 ⟨rfl, hf⟩
  have HF1 := Lib.hid (HF.out.no_trans hf)
  have H0 := Lib.hid (blk_no hf HG0.out)
  have H1 := Lib.hid (blk_no hf HG1.out)
  have H2 := Lib.hid (blk_no hf HG2.out)
  clear hf
  have p0 := blk_cell H0.out 0
  have p1 := blk_cell H0.out 1
  have p2 := blk_cell H0.out 2
  have q0 := blk_cell H1.out 0
  have q1 := blk_cell H1.out 1
  have q2 := blk_cell H1.out 2
  have r0 := blk_cell H2.out 0
  have r1 := blk_cell H2.out 1
  have r2 := blk_cell H2.out 2
  have f0 := blk_free H1.out 0
  have f1 := blk_free H1.out 1
  have f2 := blk_free H1.out 2
  have e0 := blk_free H2.out 0
  have e1 := blk_free H2.out 1
  have e2 := blk_free H2.out 2
  go_wp2_with fail
  have hs1 := set3_fr w1 (w.heap.size + 1) (.int .i64 N) (.int .i64 (E : Int)) (.slice A n c)
  have hb1 := set3_blk H1.out (.int .i64 N) (.int .i64 (E : Int)) (.slice A n c)
  have hb2 := fr_blk hs1 (by omega) H2.out
  have hs2 := set3_fr (((w1.setCell ⟨w.heap.size + 1, 0, none⟩ (.int .i64 N)).setCell ⟨w.heap.size + 1, 1, none⟩ (.int .i64 (E : Int))).setCell ⟨w.heap.size + 1, 2, none⟩ (.slice A n c)) (w.heap.size + 1 + 1) (.int .i64 0) (.int .i64 0) (.slice none 0 0)
  refine bodyPost_ret (results_cell2_tmp_row (p := 4) (q := 5) rfl _ _ (w.heap.size + 1) (w.heap.size + 1 + 1) 42 30 #[.int .i64 N, .int .i64 (E : Int), .slice A n c] #[.int .i64 0, .int .i64 0, .slice none 0 0] (0, 0) (0, 0) _ _ rfl (fr_blk hs2 (by omega) hb1) Try.underlying42 rfl (by kernel_rfl) rfl (set3_blk hb2 _ _ _) Try.underlying30 rfl (by kernel_rfl)) rfl ?_
  exact ⟨rfl, fr_new (fr_new HF1.out hs1 (fun i hi => by omega)) hs2 (fun i hi => by omega)⟩
theorem rowS_take {w : World} {A : Option Addr} {n : Nat} {H : List St} (h : RowOf w 4 (StAt w) A n H) {i : Nat} (hi : i ≤ n) : RowOf w 4 (StAt w) A i (H.take i) := by
  refine ⟨by rw [List.length_take, h.1]; omega, fun h0 => ?_⟩
  obtain ⟨b, o, e, hb, hc⟩ := h.2 (by omega)
  refine ⟨b, o, e, hb, fun j hj => ?_⟩
  rw [List.getElem_take]
  exact hc j _
theorem rowS_drop {w : World} {b o n c k : Nat} {H : List St} (h : RowOf w 4 (StAt w) (some ⟨b, o, none⟩) n H) (hc : n ≤ c) (hk : k ≤ n) : RowOf w 4 (StAt w) (if c = k then some ⟨b, o, none⟩ else some ⟨b, o + k * 4, none⟩) (n - k) (H.drop k) := by
  refine ⟨by rw [List.length_drop, h.1], fun h0 => ?_⟩
  rw [if_neg (by omega)]
  obtain ⟨b', o', e, hb, hx⟩ := h.2 (by omega)
  injection e with e
  injection e with e1 e2
  subst e1 e2
  refine ⟨_, _, rfl, hb, fun j hj => ?_⟩
  rw [List.getElem_drop, Nat.add_assoc, ← Nat.add_mul]
  exact hx (k + j) _
set_option maxRecDepth 100000 in
/-- The rest of a slice, as the model cuts it; what it reads as. -/
theorem post_st {w : World} {b o n c k : Nat} {H : List St} (h : RowOf w 4 (StAt w) (some ⟨b, o, none⟩) n H) (hc : n ≤ c) (hk : k ≤ n) :
    ∃ A' c' n', (∀ W : World, (Instr.slice 40 (.slice (some ⟨b, o, none⟩) n c) (some (.int .i64 (k : Int))) none none).run Try.prog W = .ok (.slice A' n' c') W) ∧ n' = n - k ∧ RowOf w 4 (StAt w) A' n' (H.drop k) := by
  obtain ⟨i0, hi0, hz0, hz1, hz2⟩ := info_parts info_st
  refine ⟨_, c - k, n - k, fun W => ?_, rfl, rowS_drop h hc hk⟩
  rw [run_slice_l W 40 (some ⟨b, o, none⟩) n c Try.underlying40 .i64 (k : Int) (by omega) (by omega)]
  have he : Try.prog.elem 40 = 85 := by simp [Program.elem, Try.underlying40]
  rw [he]
  simp [sizeOf, typeInfo, hi0, hz1, sliced, Addr.add]
  rcases Nat.eq_zero_or_pos k with rfl | h0
  · simp
  · rw [if_neg (show ¬ k * 4 = 0 by omega)]
theorem erase_app {α : Type} (l : List α) (i : Nat) : l.take i ++ l.drop (i + 1) = l.eraseIdx i := (List.eraseIdx_eq_take_drop_succ l i).symm
end Go.Proofs.Ytndanonhkjgmhaa

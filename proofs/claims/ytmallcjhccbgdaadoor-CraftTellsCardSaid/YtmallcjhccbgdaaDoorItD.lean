/-
  The document's Recipe. No statement of the seat is proved here.
-/
import Derived.Test.YtmallcjhccbgdaaDoorItC
namespace Go.Proofs.YtmallcjhccbgdaaDoor
open Go.RowKit Go.Deep

/-- The world behind the eight rows that the document's Recipe lays. -/
def mkW (w : World) (b : Nat) : World := (((((((w.alloc (.cells (slC (ofR 0)).toArray 34)).alloc (.cells (slC (ofR 1)).toArray 34)).alloc (.cells (slC (ofR 2)).toArray 34)).alloc (.cells (slC (ofR 3)).toArray 34)).alloc (.cells (slC (ofR 4)).toArray 34)).alloc (.cells (slC (ofR 5)).toArray 34)).alloc (.cells (slC (ofR 6)).toArray 34)).alloc (.cells (rowsC b).toArray 54)
theorem mkW_is (w : World) (b : Nat) (hb : b = w.heap.size) : (mkW w b).heap[b + 7]? = some (.cells (rowsC b).toArray 54 (0, 0)) ∧ (∀ k, k < 7 → (mkW w b).heap[b + k]? = some (.cells (slC (ofR k)).toArray 34 (0, 0))) ∧ Fr No w (mkW w b) := by
  subst hb
  unfold mkW
  refine ⟨?_, ?_, ?_⟩
  · simp only [heap_pushI, World.size_alloc]
    repeat (first | rfl | rw [if_pos trivial] | rw [if_pos (by omega)] | rw [if_neg (by omega)])
  · intro k hk
    simp only [heap_pushI, World.size_alloc]
    have : k = 0 ∨ k = 1 ∨ k = 2 ∨ k = 3 ∨ k = 4 ∨ k = 5 ∨ k = 6 := by omega
    rcases this with rfl | rfl | rfl | rfl | rfl | rfl | rfl <;> repeat (first | rfl | rw [if_pos trivial] | rw [if_pos (by omega)] | rw [if_neg (by omega)])
  · exact ((((((((Fr.alloc No _ _).no_trans (Fr.alloc No _ _)).no_trans (Fr.alloc No _ _)).no_trans (Fr.alloc No _ _)).no_trans (Fr.alloc No _ _)).no_trans (Fr.alloc No _ _)).no_trans (Fr.alloc No _ _)).no_trans (Fr.alloc No _ _))
section
variable {w : World}
set_option maxRecDepth 100000 in
set_option maxHeartbeats 4000000 in
theorem rrecipe_yes {k : Nat} (hk : k < 7) : Calls Tryd.prog 20 #[.int .i64 (k : Int)] w fun e w' => ∃ b, e = .returned (.tuple #[.slice (some ⟨b, 0, none⟩) (ofR k).length (ofR k).length, .agg #[.int .u8 ((mkR k).1 : Int), .int .i64 (mkR k).2], .bool true]) ∧ w.heap.size ≤ b ∧
    w'.heap[b]? = some (.cells (slC (ofR k)).toArray 34 (0, 0)) ∧ Fr No w w' := by
  have e1 : ¬ ((k : Int) < 0) := by omega
  have e2 : ¬ ((7 : Int) ≤ (k : Int)) := by omega
  have HE1 := Lib.hid e1
  go_enter Tryd.func20, Tryd.ntmps20
  go_wp2_with fail
  obtain ⟨hr, hs, hf⟩ := mkW_is (w.alloc (.cells #[.int .u8 0, .int .i64 0] 34)) (w.heap.size + 1) (World.size_alloc _ _).symm
  have hb3 := blk_no hf (heap_alloc_new w (.cells #[.int .u8 0, .int .i64 0] 34))
  change Code.wp _ _ _ _ (mkW (w.alloc (.cells #[.int .u8 0, .int .i64 0] 34)) (w.heap.size + 1))
  have HF := Lib.hid ((Fr.alloc No w _).no_trans hf)
  generalize mkW (w.alloc (.cells #[.int .u8 0, .int .i64 0] 34)) (w.heap.size + 1) = w5 at *
  obtain ⟨R, hR⟩ : ∃ R, R = w.heap.size + 1 + 7 := ⟨_, rfl⟩
  have hR2 : w.heap.size + 1 + 1 + 1 + 1 + 1 + 1 + 1 + 1 = R := hR.symm
  rw [← hR] at hr
  rw [hR2]
  have hRw : w.heap.size < R := by omega
  have c0 : w5.cell? ⟨R, k * 3, none⟩ = some (.slice (some ⟨w.heap.size + 1 + k, 0, none⟩) (ofR k).length (ofR k).length) := (blk_cell hr _).trans (by simpa using rowsC_at (w.heap.size + 1) k 0 hk (by omega))
  have c1 : w5.cell? ⟨R, k * 3 + 1, none⟩ = some (.int .u8 ((mkR k).1 : Int)) := (blk_cell hr _).trans (by simpa using rowsC_at (w.heap.size + 1) k 1 hk (by omega))
  have c2 : w5.cell? ⟨R, k * 3 + 2, none⟩ = some (.int .i64 (mkR k).2) := (blk_cell hr _).trans (by simpa using rowsC_at (w.heap.size + 1) k 2 hk (by omega))
  have HS := Lib.hid (hs k hk)
  obtain ⟨m, hm⟩ : ∃ m, (ofR k).length = m := ⟨_, rfl⟩
  obtain ⟨x, hx⟩ : ∃ x, ((mkR k).1 : Int) = x := ⟨_, rfl⟩
  obtain ⟨y, hy⟩ : ∃ y, (mkR k).2 = y := ⟨_, rfl⟩
  rw [hm] at c0
  rw [hx] at c1
  rw [hy] at c2
  have HE := Lib.hid (And.intro hm (And.intro hx hy))
  have z30 := blk_free hb3 0
  have z31 := blk_free hb3 1
  have c30 := blk_cell hb3 0
  have c31 := blk_cell hb3 1
  have HB3 := Lib.hid hb3
  clear hr hs hf hm hx hy hb3 hR hR2
  simp at c30 c31
  have hk0 : (0 : Int) ≤ (k : Int) := by omega
  have hk7 : (k : Int) < 7 := by omega
  go_region
  go_wp2
  refine bodyPost_ret (results_tmp_cell_tmp_rowI (p := 3) rfl _ _ w.heap.size 34 #[.int .u8 x, .int .i64 y] (0, 0) _ rfl (heap_cells_set _ w.heap.size 1 _ _ (.int .i64 y) (heap_cells_set w5 w.heap.size 0 _ _ (.int .u8 x) HB3.out)) Tryd.underlying34 rfl (by kernel_rfl)) rfl ?_
  have f3 := (Fr.setCell (F := fun i => i = w.heap.size) w5 ⟨w.heap.size, 0, none⟩ (.int .u8 x) rfl).trans (Fr.setCell (F := fun i => i = w.heap.size) _ ⟨w.heap.size, 1, none⟩ (.int .i64 y) rfl) (fun _ _ e => e)
  rw [HE.out.1, HE.out.2.1, HE.out.2.2]
  refine ⟨_, rfl, by omega, (f3.block _ (Array.getElem?_eq_some_iff.1 HS.out).1 (by omega)).trans HS.out, (HF.out.then_new f3 (fun i e => by have e : i = _ := e; omega)).no_trans (Fr.drew No _)⟩
set_option maxRecDepth 100000 in
set_option maxHeartbeats 4000000 in
theorem rrecipe_no {n : Int} (hn : n < 0 ∨ 7 ≤ n) : Calls Tryd.prog 20 #[.int .i64 n] w fun e w' => e = .returned (.tuple #[.slice none 0 0, .agg #[.int .u8 0, .int .i64 0], .bool false]) ∧ Fr No w w' := by
  rcases hn with hn | hn
  all_goals
    go_enter Tryd.func20, Tryd.ntmps20
    go_wp2_with fail
    obtain ⟨_, _, hf⟩ := mkW_is (w.alloc (.cells #[.int .u8 0, .int .i64 0] 34)) (w.heap.size + 1) (World.size_alloc _ _).symm
    have hb3 := blk_no hf (heap_alloc_new w (.cells #[.int .u8 0, .int .i64 0] 34))
    change bodyPost _ _ _ _ _ (mkW (w.alloc (.cells #[.int .u8 0, .int .i64 0] 34)) (w.heap.size + 1))
    refine bodyPost_ret (results_tmp_cell_tmp_rowI (p := 3) rfl _ _ w.heap.size 34 #[.int .u8 0, .int .i64 0] (0, 0) _ rfl hb3 Tryd.underlying34 rfl (by kernel_rfl)) rfl ?_
    exact ⟨rfl, (Fr.alloc No w _).no_trans hf⟩
end
end Go.Proofs.YtmallcjhccbgdaaDoor

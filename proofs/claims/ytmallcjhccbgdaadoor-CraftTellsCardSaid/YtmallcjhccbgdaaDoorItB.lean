/-
  Recipes: their rows, Recipe of any number, Recipes; lists of slots held against one another; awake. No statement of the seat is proved here.
-/
import Derived.Test.YtmallcjhccbgdaaDoorSlR
import Derived.Deep.RegionHeld3
import Derived.BigRegion
import Derived.BigQuiet
import Derived.Deep.QuietTactic
import Derived.RegionCalls
namespace Go.Proofs.YtmallcjhccbgdaaDoor
open Go.RowKit Go.Deep

theorem heap_pushI (w : World) (o : Obj) (k : Nat) : (w.alloc o).heap[k]? = if k = w.heap.size then some o else w.heap[k]? := by
  show (w.heap.push o)[k]? = _
  rw [Array.getElem?_push]
/-- Three results, the second of which lies in a cell. -/
theorem results_tmp_cell_tmp_rowI {P : Program} {fn : Func} {p u v : Tmp} {ty : TypeId} (h : fn.results = #[.tmp u, .cell p ty, .tmp v]) (tmps : Array Value) (w : World) (g : Nat) (t : TypeId) (cs : Array Value) (fr : Nat × Nat) (d : TypeDesc)
    (hp : tmps.getD p undef = .pointer (some ⟨g, 0, none⟩)) (hg : w.heap[g]? = some (.cells cs t fr))
    (hu : P.underlying ty = some d) (hd : (match d with | .struct _ | .array _ _ => true | _ => false) = true) (hi : (P.info? ty).map (·.size) = some cs.size) :
    (results fn tmps).run P w = .ok (.tuple #[tmps.getD u undef, .agg cs, tmps.getD v undef]) w := by
  have e : (results fn tmps).run P w = ((asAddr (tmps.getD p undef)).run P w).andThen fun a w₁ => ((loadVar ty a).run P w₁).andThen fun x w₂ => .ok (.tuple #[tmps.getD u undef, x, tmps.getD v undef]) w₂ := by
    simp only [results, h]
    simp [Sem.run_bind, Result.andThen]
  rw [e, hp]
  simp [asAddr, run_loadVar_row w g t ty cs fr d hg hu hd hi]
theorem al3 (w : World) (a b c : Obj) : (((w.alloc a).alloc b).alloc c).heap[w.heap.size]? = some a ∧ (((w.alloc a).alloc b).alloc c).heap[w.heap.size + 1]? = some b ∧ (((w.alloc a).alloc b).alloc c).heap[w.heap.size + 1 + 1]? = some c := by
  simp only [heap_pushI, World.size_alloc]
  refine ⟨?_, ?_, ?_⟩ <;> repeat (first | rfl | rw [if_pos trivial] | rw [if_pos (by omega)] | rw [if_neg (by omega)])
/-- What a recipe is of. -/
def ofR (n : Nat) : List (Nat × Int) := ([[(3, 1)], [(5, 2)], [(5, 8)], [(6, 1), (7, 1)], [(7, 1), (3, 1)], [(6, 2), (8, 3)], [(2, 4), (1, 1)]] : List (List (Nat × Int))).getD n []
/-- What it makes. -/
def mkR (n : Nat) : Nat × Int := ([(5, 4), (6, 4), (9, 1), (10, 4), (8, 1), (12, 1), (7, 1)] : List (Nat × Int)).getD n (0, 0)
/-- The rows of the recipes as cells, what they are of lying from block b on. -/
def rowsC (b : Nat) : List Value := (List.range 7).flatMap fun k => [.slice (some ⟨b + k, 0, none⟩) (ofR k).length (ofR k).length, .int .u8 ((mkR k).1 : Int), .int .i64 (mkR k).2]
section
variable {w : World}
set_option maxRecDepth 100000 in
set_option maxHeartbeats 4000000 in
theorem rows_any : Calls Tryd.prog 36 #[] w fun e w' => e = .returned (.slice (some ⟨w.heap.size + 7, 0, none⟩) 7 7) ∧ w'.heap[w.heap.size + 7]? = some (.cells (rowsC w.heap.size).toArray 48 (0, 0)) ∧
    (∀ k, k < 7 → w'.heap[w.heap.size + k]? = some (.cells (slC (ofR k)).toArray 34 (0, 0))) ∧ Fr No w w' := by
  go_enter Tryd.func36, Tryd.ntmps36
  go_wp2
  go_ret
  refine ⟨rfl, ?_, ?_, ?_⟩
  · simp only [heap_pushI, World.size_alloc]
    repeat (first | rfl | rw [if_pos trivial] | rw [if_pos (by omega)] | rw [if_neg (by omega)])
  · intro k hk
    simp only [heap_pushI, World.size_alloc]
    have : k = 0 ∨ k = 1 ∨ k = 2 ∨ k = 3 ∨ k = 4 ∨ k = 5 ∨ k = 6 := by omega
    rcases this with rfl | rfl | rfl | rfl | rfl | rfl | rfl <;> repeat (first | rfl | rw [if_pos trivial] | rw [if_pos (by omega)] | rw [if_neg (by omega)])
  · exact ((((((((Fr.alloc No _ _).no_trans (Fr.alloc No _ _)).no_trans (Fr.alloc No _ _)).no_trans (Fr.alloc No _ _)).no_trans (Fr.alloc No _ _)).no_trans (Fr.alloc No _ _)).no_trans (Fr.alloc No _ _)).no_trans (Fr.alloc No _ _))
theorem rowsC_at (b k r : Nat) (hk : k < 7) (hr : r < 3) : (rowsC b)[k * 3 + r]? = ([.slice (some ⟨b + k, 0, none⟩) (ofR k).length (ofR k).length, .int .u8 ((mkR k).1 : Int), .int .i64 (mkR k).2] : List Value)[r]? := by
  have h1 : k = 0 ∨ k = 1 ∨ k = 2 ∨ k = 3 ∨ k = 4 ∨ k = 5 ∨ k = 6 := by omega
  have h2 : r = 0 ∨ r = 1 ∨ r = 2 := by omega
  rcases h1 with rfl | rfl | rfl | rfl | rfl | rfl | rfl <;> rcases h2 with rfl | rfl | rfl <;> rfl
set_option maxRecDepth 100000 in
set_option maxHeartbeats 1600000 in
theorem recipe_yes {k : Nat} (hk : k < 7) : Calls Tryd.prog 11 #[.int .i64 (k : Int)] w fun e w' => ∃ b, e = .returned (.tuple #[.slice (some ⟨b, 0, none⟩) (ofR k).length (ofR k).length, .agg #[.int .u8 ((mkR k).1 : Int), .int .i64 (mkR k).2], .bool true]) ∧ w.heap.size ≤ b ∧
    w'.heap[b]? = some (.cells (slC (ofR k)).toArray 34 (0, 0)) ∧ Fr No w w' := by
  have e1 : ¬ ((k : Int) < 0) := by omega
  have e2 : ¬ ((7 : Int) ≤ (k : Int)) := by omega
  go_enter Tryd.func11, Tryd.ntmps11
  go_wp2_with (first | (go_at_call 36; refine rows_any.mono ?_; rintro e w1 ⟨rfl, hr, hs, hf⟩; obtain ⟨hb3, hb5, hb6⟩ := al3 w (.cells #[.int .u8 0, .int .i64 0] 34) (.cells #[.slice none 0 0] 22) (.cells #[.int .u8 0, .int .i64 0] 34); replace hb3 := blk_no hf hb3; replace hb5 := blk_no hf hb5; replace hb6 := blk_no hf hb6; obtain ⟨P, hP⟩ : ∃ P, P = w.heap.size := ⟨_, rfl⟩; simp only [World.size_alloc, ← hP] at hr hs hb3 hb5 hb6 ⊢; have c0 : w1.cell? ⟨P + 1 + 1 + 1 + 7, k * 3, none⟩ = some (.slice (some ⟨P + 1 + 1 + 1 + k, 0, none⟩) (ofR k).length (ofR k).length) := (blk_cell hr _).trans (by simpa using rowsC_at (P + 1 + 1 + 1) k 0 hk (by omega)); have c1 : w1.cell? ⟨P + 1 + 1 + 1 + 7, k * 3 + 1, none⟩ = some (.int .u8 ((mkR k).1 : Int)) := (blk_cell hr _).trans (by simpa using rowsC_at (P + 1 + 1 + 1) k 1 hk (by omega)); have c2 : w1.cell? ⟨P + 1 + 1 + 1 + 7, k * 3 + 2, none⟩ = some (.int .i64 (mkR k).2) := (blk_cell hr _).trans (by simpa using rowsC_at (P + 1 + 1 + 1) k 2 hk (by omega)); have HB5 := Lib.hid hb5; have HB6 := Lib.hid hb6; have HB3 := Lib.hid hb3; have HS := Lib.hid (hs k hk); have HF := Lib.hid hf; have HP := Lib.hid hP; clear hr hs hf hb5 hb6 hb3 hP; obtain ⟨m, hm⟩ : ∃ m, (ofR k).length = m := ⟨_, rfl⟩; obtain ⟨x, hx⟩ : ∃ x, ((mkR k).1 : Int) = x := ⟨_, rfl⟩; obtain ⟨y, hy⟩ : ∃ y, (mkR k).2 = y := ⟨_, rfl⟩; rw [hm] at c0; rw [hx] at c1; rw [hy] at c2; have HE := Lib.hid (And.intro hm (And.intro hx hy)); clear hm hx hy) | go_in)
  obtain ⟨N, hN⟩ : ∃ N, N = w1.heap.size := ⟨_, rfl⟩
  have hNP : P + 1 + 1 + 1 ≤ N := by
    have := HF.out.size
    simp only [World.size_alloc] at this
    have := HP.out
    omega
  have hb := heap_alloc_new w1 (.cells #[.slice (some ⟨P + 1 + 1 + 1 + k, 0, none⟩) m m, .int .u8 x, .int .i64 y] 48)
  have hf2 := Fr.alloc No w1 (.cells #[.slice (some ⟨P + 1 + 1 + 1 + k, 0, none⟩) m m, .int .u8 x, .int .i64 y] 48)
  have hb5 := blk_no hf2 HB5.out
  have hb6 := blk_no hf2 HB6.out
  have hb3 := blk_no hf2 HB3.out
  have hs := blk_no hf2 HS.out
  have HF2 := Lib.hid ((((Fr.alloc No w _).no_trans (Fr.alloc No _ _)).no_trans (Fr.alloc No _ _)).no_trans (HF.out.no_trans hf2))
  rw [← hN] at hb ⊢
  clear hf2 hN HB5 HB6 HB3 HS HF
  generalize w1.alloc (.cells #[.slice (some ⟨P + 1 + 1 + 1 + k, 0, none⟩) m m, .int .u8 x, .int .i64 y] 48) = w2 at *
  have k0 := blk_cell hb 0
  have k1 := blk_cell hb 1
  have k2 := blk_cell hb 2
  have z5 := blk_free hb5 0
  have z60 := blk_free hb6 0
  have z61 := blk_free hb6 1
  have c5 := blk_cell hb5 0
  have c60 := blk_cell hb6 0
  have c61 := blk_cell hb6 1
  have HB := Lib.hid hb
  have HB5 := Lib.hid hb5
  have HB6 := Lib.hid hb6
  have HB3 := Lib.hid hb3
  have HS := Lib.hid hs
  clear hb hb5 hb6 hb3 hs
  simp only [List.getElem?_toArray, List.getElem?_cons_zero, List.getElem?_cons_succ] at k0 k1 k2 c5 c60 c61
  go_region
  clear z5 z60 z61 c5 c60 c61 k0 k1 k2
  have hb5 := (heap_cells_set w2 (P + 1) 0 _ _ (.slice (some ⟨P + 1 + 1 + 1 + k, 0, none⟩) m m) HB5.out)
  have f5 := Fr.setCell (F := fun i => i = P + 1) w2 ⟨P + 1, 0, none⟩ (.slice (some ⟨P + 1 + 1 + 1 + k, 0, none⟩) m m) rfl
  have l5 := (Array.getElem?_eq_some_iff.1 HB5.out).1
  have l6 := (Array.getElem?_eq_some_iff.1 HB6.out).1
  have l3 := (Array.getElem?_eq_some_iff.1 HB3.out).1
  have ls := (Array.getElem?_eq_some_iff.1 HS.out).1
  have hb6 := (f5.block (P + 1 + 1) l6 (by omega)).trans HB6.out
  have hb3 := (f5.block P l3 (by omega)).trans HB3.out
  have hs := (f5.block (P + 1 + 1 + 1 + k) ls (by omega)).trans HS.out
  have HF3 := Lib.hid (HF2.out.then_new f5 (fun i e => by have := HP.out; have e : i = _ := e; omega))
  clear HB5 HB6 HB3 HS HF2 f5
  generalize w2.setCell ⟨P + 1, 0, none⟩ (.slice (some ⟨P + 1 + 1 + 1 + k, 0, none⟩) m m) = w3 at *
  have hb6' := heap_cells_set _ (P + 1 + 1) 1 _ _ (.int .i64 y) (heap_cells_set w3 (P + 1 + 1) 0 _ _ (.int .u8 x) hb6)
  have f6 := (Fr.setCell (F := fun i => i = P + 1 + 1) w3 ⟨P + 1 + 1, 0, none⟩ (.int .u8 x) rfl).trans (Fr.setCell (F := fun i => i = P + 1 + 1) _ ⟨P + 1 + 1, 1, none⟩ (.int .i64 y) rfl) (fun _ _ e => e)
  have hb5' := (f6.block (P + 1) (Array.getElem?_eq_some_iff.1 hb5).1 (by omega)).trans hb5
  have hb3' := (f6.block P (Array.getElem?_eq_some_iff.1 hb3).1 (by omega)).trans hb3
  have hs' := (f6.block (P + 1 + 1 + 1 + k) (Array.getElem?_eq_some_iff.1 hs).1 (by omega)).trans hs
  have HF4 := Lib.hid (HF3.out.then_new f6 (fun i e => by have := HP.out; have e : i = _ := e; omega))
  clear hb5 hb6 hb3 hs HF3 f6
  generalize (w3.setCell ⟨P + 1 + 1, 0, none⟩ (.int .u8 x)).setCell ⟨P + 1 + 1, 1, none⟩ (.int .i64 y) = w4 at *
  replace HF4 := Lib.hid (HF4.out.no_trans (Fr.drew No w4))
  have hb5 : w4.drew.heap[P + 1]? = _ := hb5'
  have hb6 : w4.drew.heap[P + 1 + 1]? = _ := hb6'
  have hb3 : w4.drew.heap[P]? = _ := hb3'
  have hs : w4.drew.heap[P + 1 + 1 + 1 + k]? = _ := hs'
  clear hb5' hb6' hb3' hs' l5 l6 l3 ls
  generalize w4.drew = w5 at *
  have z30 := blk_free hb3 0
  have z31 := blk_free hb3 1
  have c5 := blk_cell hb5 0
  have c60 := blk_cell hb6 0
  have c61 := blk_cell hb6 1
  have c30 := blk_cell hb3 0
  have c31 := blk_cell hb3 1
  have HB3 := Lib.hid hb3
  have HS := Lib.hid hs
  clear hb5 hb6 hb3 hs
  simp at c5 c60 c61 c30 c31
  have e := HP.out
  subst e
  go_end0
  go_wp2
  go_region
  go_wp2
  refine bodyPost_ret (results_tmp_cell_tmp_rowI (p := 3) rfl _ _ w.heap.size 34 #[.int .u8 x, .int .i64 y] (0, 0) _ rfl (heap_cells_set _ w.heap.size 1 _ _ (.int .i64 y) (heap_cells_set w5 w.heap.size 0 _ _ (.int .u8 x) HB3.out)) Tryd.underlying34 rfl (by kernel_rfl)) rfl ?_
  have f3 := (Fr.setCell (F := fun i => i = w.heap.size) w5 ⟨w.heap.size, 0, none⟩ (.int .u8 x) rfl).trans (Fr.setCell (F := fun i => i = w.heap.size) _ ⟨w.heap.size, 1, none⟩ (.int .i64 y) rfl) (fun _ _ e => e)
  rw [HE.out.1, HE.out.2.1, HE.out.2.2]
  refine ⟨_, rfl, by omega, (f3.block _ (Array.getElem?_eq_some_iff.1 HS.out).1 (by omega)).trans HS.out, (HF4.out.then_new f3 (fun i e => by have e : i = _ := e; omega)).no_trans (Fr.drew No _)⟩
set_option maxRecDepth 100000 in
set_option maxHeartbeats 1600000 in
theorem recipe_no {n : Int} (hn : n < 0 ∨ 7 ≤ n) : Calls Tryd.prog 11 #[.int .i64 n] w fun e w' => e = .returned (.tuple #[.slice none 0 0, .agg #[.int .u8 0, .int .i64 0], .bool false]) ∧ Fr No w w' := by
  have key : ∀ w1, Fr No (((w.alloc (.cells #[.int .u8 0, .int .i64 0] 34)).alloc (.cells #[.slice none 0 0] 22)).alloc (.cells #[.int .u8 0, .int .i64 0] 34)) w1 → w1.heap[w.heap.size]? = some (.cells #[.int .u8 0, .int .i64 0] 34 (0, 0)) ∧ w1.heap[w.heap.size + 1]? = some (.cells #[.slice none 0 0] 22 (0, 0)) ∧ w1.heap[w.heap.size + 1 + 1]? = some (.cells #[.int .u8 0, .int .i64 0] 34 (0, 0)) := fun w1 hf => by
    obtain ⟨hb3, hb5, hb6⟩ := al3 w (.cells #[.int .u8 0, .int .i64 0] 34) (.cells #[.slice none 0 0] 22) (.cells #[.int .u8 0, .int .i64 0] 34)
    exact ⟨blk_no hf hb3, blk_no hf hb5, blk_no hf hb6⟩
  have KEY := Lib.hid key
  clear key
  have fin : ∀ w1 : World, Fr No (((w.alloc (.cells #[.int .u8 0, .int .i64 0] 34)).alloc (.cells #[.slice none 0 0] 22)).alloc (.cells #[.int .u8 0, .int .i64 0] 34)) w1 → Fr No w w1 := fun _ hf => (((Fr.alloc No w _).no_trans (Fr.alloc No _ _)).no_trans (Fr.alloc No _ _)).no_trans hf
  have FIN := Lib.hid fin
  clear fin
  rcases hn with hn | hn
  all_goals
    go_enter Tryd.func11, Tryd.ntmps11
    go_wp2_with (first | (go_at_call 36; refine rows_any.mono ?_; rintro e w1 ⟨rfl, hr, hs, hf⟩; obtain ⟨hb3, hb5, hb6⟩ := KEY.out _ hf; replace hf := FIN.out _ hf; have HF := Lib.hid hf; have HB3 := Lib.hid hb3; have HB5 := Lib.hid hb5; have HB6 := Lib.hid hb6; clear hr hs hf hb3 hb5 hb6) | go_in)
    have z30 := blk_free HB3.out 0
    have z31 := blk_free HB3.out 1
    have c5 := blk_cell HB5.out 0
    have c60 := blk_cell HB6.out 0
    have c61 := blk_cell HB6.out 1
    have c30 := blk_cell HB3.out 0
    have c31 := blk_cell HB3.out 1
    simp at c5 c60 c61 c30 c31
    go_region
    go_wp2
    refine bodyPost_ret (results_tmp_cell_tmp_rowI (p := 3) rfl _ _ w.heap.size 34 #[.int .u8 0, .int .i64 0] (0, 0) _ rfl (heap_cells_set _ w.heap.size 1 _ _ (.int .i64 0) (heap_cells_set w1 w.heap.size 0 _ _ (.int .u8 0) HB3.out)) Tryd.underlying34 rfl (by kernel_rfl)) rfl ?_
    have f3 := (Fr.setCell (F := fun i => i = w.heap.size) w1 ⟨w.heap.size, 0, none⟩ (.int .u8 0) rfl).trans (Fr.setCell (F := fun i => i = w.heap.size) _ ⟨w.heap.size, 1, none⟩ (.int .i64 0) rfl) (fun _ _ e => e)
    exact ⟨rfl, (HF.out.then_new f3 (fun i e => by have e : i = _ := e; omega)).no_trans (Fr.drew No _)⟩
set_option maxRecDepth 100000 in
theorem recipes_any : Calls Tryd.prog 24 #[] w fun e w' => e = .returned (.int .i64 7) ∧ Fr No w w' := by
  go_enter Tryd.func24, Tryd.ntmps24
  go_wp2_with (refine rows_any.mono ?_; rintro e w1 ⟨rfl, hr, hs, hf⟩; have HF := Lib.hid hf; clear hr hs hf)
  go_ret
  exact ⟨rfl, HF.out⟩
end
end Go.Proofs.YtmallcjhccbgdaaDoor

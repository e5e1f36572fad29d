/-
  The table of items as a world holds it; Stack, Block, Gives, Name of any number. No statement of the seat is proved here.
-/
import Derived.Test.YtjdhbgdpmojobaaDoorRows
import Derived.WalkKit
import Derived.WalkSpells
import Derived.WalkLawsBesides
import Derived.Deep.Draws
import Derived.Lib.Hide
import Derived.Deep.AppendLies
import Derived.Lib.LaidTab
import Derived.Lib.SmallJoins
namespace Go.Proofs.YtjdhbgdpmojobaaDoor
open Go.RowKit Go.Deep

/-! ### what has turned -/
/-- Nothing has turned but blocks of F; new ones may be there. -/
structure Fr (F : Nat → Prop) (w w' : World) : Prop where
  os : w'.os = w.os
  tape : w'.tape = w.tape
  output : w'.output = w.output
  size : w.heap.size ≤ w'.heap.size
  block : ∀ k, k < w.heap.size → ¬ F k → w'.heap[k]? = w.heap[k]?
/-- No block. -/
def No (_ : Nat) : Prop := False
section
variable {F G : Nat → Prop} {a b c w w' : World}
theorem Fr.refl (F : Nat → Prop) (w : World) : Fr F w w := ⟨rfl, rfl, rfl, Nat.le_refl _, fun _ _ _ => rfl⟩
theorem Fr.trans (h : Fr F a b) (k : Fr G b c) (hG : ∀ i, i < a.heap.size → G i → F i) : Fr F a c :=
  ⟨k.os.trans h.os, k.tape.trans h.tape, k.output.trans h.output, Nat.le_trans h.size k.size, fun i hi hF =>
    (k.block i (Nat.lt_of_lt_of_le hi h.size) (fun hg => hF (hG i hi hg))).trans (h.block i hi hF)⟩
theorem Fr.mono (h : Fr F w w') (hG : ∀ i, i < w.heap.size → F i → G i) : Fr G w w' := ⟨h.os, h.tape, h.output, h.size, fun i hi hg => h.block i hi (fun hf => hg (hG i hi hf))⟩
theorem Fr.alloc (F : Nat → Prop) (w : World) (o : Obj) : Fr F w (w.alloc o) := ⟨rfl, rfl, rfl, by simp, fun k hk _ => Below.heap_alloc _ _ _ hk⟩
theorem Fr.drew (F : Nat → Prop) (w : World) : Fr F w w.drew := ⟨rfl, rfl, rfl, Nat.le_refl _, fun _ _ _ => rfl⟩
theorem Fr.drewN (F : Nat → Prop) (w : World) (n : Nat) : Fr F w (w.drewN n) := ⟨rfl, rfl, rfl, Nat.le_refl _, fun _ _ _ => rfl⟩
theorem Fr.setCell (w : World) (p : Addr) (u : Value) (h : F p.block) : Fr F w (w.setCell p u) :=
  ⟨rfl, rfl, rfl, by simp, fun k _ hF => Below.heap_setCell _ _ _ _ (fun e => hF (e ▸ h))⟩
theorem Fr.grown {row : Option Nat} (hg : w.grownBy w' row) (h : ∀ k, row = some k → F k) : Fr F w w' :=
  ⟨hg.os, hg.tape, hg.output, hg.size, fun k hk hF => hg.block k hk (fun e => hF (h k e.symm))⟩
theorem Fr.of_below (h : Below w.heap.size w w') : Fr F w w' := ⟨h.os, h.tape, h.output, h.size, fun k hk _ => h.block k hk⟩
theorem Fr.below {B : Nat} (h : Fr F w w') (hB : B ≤ w.heap.size) (hF : ∀ k, F k → B ≤ k) : Below B w w' :=
  ⟨h.os, h.tape, h.output, h.size, fun k hk => h.block k (by omega) (fun e => by have := hF k e; omega)⟩
theorem Fr.noBelow (h : Fr No w w') : Below w.heap.size w w' := h.below (Nat.le_refl _) (fun _ e => e.elim)
theorem Fr.no_trans (h : Fr No a b) (k : Fr No b c) : Fr No a c := h.trans k (fun _ _ e => e)
theorem Fr.any (h : Fr No w w') : Fr F w w' := h.mono (fun _ _ e => e.elim)
theorem Fr.then_no (h : Fr F a b) (k : Fr No b c) : Fr F a c := h.trans k (fun _ _ e => e.elim)
theorem Fr.then_new (h : Fr F a b) (k : Fr G b c) (hG : ∀ i, G i → a.heap.size ≤ i) : Fr F a c := h.trans k (fun i hi hg => by have := hG i hg; omega)
theorem Fr.cell (h : Fr F w w') {p : Addr} (hp : p.block < w.heap.size) (hF : ¬ F p.block) : w'.cell? p = w.cell? p := World.cell?_of_block (h.block p.block hp hF)
theorem own_keep {base n : Nat} {e : TypeId} {size : Nat} {v : Value} {xs : List Value} (h : w.ownsRow base e size v n xs) (hb : ∀ k, v.ownBlock = some k → w'.heap[k]? = w.heap[k]?) : w'.ownsRow base e size v n xs := by
  refine ⟨h.1, ?_⟩
  rcases h.2 with hn | ⟨g, cap, cur, rfl, hbs, hgg, rest⟩
  · exact .inl hn
  · exact .inr ⟨g, cap, cur, rfl, hbs, (hb g rfl).trans hgg, rest⟩
end
theorem heap_cells_set (w : World) (D k : Nat) (cs : Array Value) (t : TypeId) (v : Value) (h : w.heap[D]? = some (.cells cs t (0, 0))) : (w.setCell ⟨D, k, none⟩ v).heap[D]? = some (.cells (cs.setIfInBounds k v) t (0, 0)) := by
  have hl := (Array.getElem?_eq_some_iff.1 h)
  simp only [World.setCell, Array.getElem?_modify, h]
  simp
theorem blk_cell {w : World} {b : Nat} {cs : Array Value} {t : TypeId} {fr : Nat × Nat} (h : w.heap[b]? = some (.cells cs t fr)) (k : Nat) : w.cell? ⟨b, k, none⟩ = cs[k]? := by
  unfold World.cell?
  rw [h]
  rfl
theorem blk_free {w : World} {b : Nat} {cs : Array Value} {t : TypeId} (h : w.heap[b]? = some (.cells cs t (0, 0))) (k : Nat) : w.frozen? ⟨b, k, none⟩ = false := by
  unfold World.frozen?
  rw [h]
  simp
theorem blk_no {w w' : World} {b : Nat} {o : Obj} (hf : Fr No w w') (h : w.heap[b]? = some o) : w'.heap[b]? = some o :=
  (hf.block b (Array.getElem?_eq_some_iff.1 h).1 (fun e => e)).trans h

/-! ### the table -/
def nmL (i : Nat) : List UInt8 := ([[], [100, 105, 114, 116], [115, 116, 111, 110, 101], [119, 111, 111, 100], [108, 101, 97, 102], [112, 108, 97, 110, 107], [115, 116, 105, 99, 107], [111, 114, 101], [105, 110, 103, 111, 116], [99, 104, 101, 115, 116], [116, 111, 114, 99, 104], [98, 101, 114, 114, 121], [112, 105, 99, 107]] : List (List UInt8)).getD i []
/-- The name of an item. -/
def nmI (i : Nat) : ByteArray := ⟨(nmL i).toArray⟩
/-- How many of it a slot holds. -/
def stI (i : Nat) : Int := ([0, 16, 16, 16, 16, 16, 16, 16, 16, 4, 16, 16, 1] : List Int).getD i 0
/-- Whether it is a block. -/
def blI (i : Nat) : Bool := [false, true, true, true, true, true, false, true, false, true, true, false, false].getD i false
/-- What it gives. -/
def gvI (i : Nat) : Nat := [0, 1, 2, 3, 11, 5, 0, 7, 0, 9, 10, 0, 0].getD i 0
def ItT (w : World) : Prop := ∀ i, i < 13 → w.cell? ⟨0, i * 4, none⟩ = some (.string (nmI i)) ∧ w.cell? ⟨0, i * 4 + 1, none⟩ = some (.int .i64 (stI i)) ∧
  w.cell? ⟨0, i * 4 + 2, none⟩ = some (.bool (blI i)) ∧ w.cell? ⟨0, i * 4 + 3, none⟩ = some (.int .u8 (gvI i : Int))
theorem ItT.pos {w : World} (h : ItT w) : 0 < w.heap.size := World.block_lt_of_cell? w _ (h 0 (by decide)).1
theorem ItT.no {w w' : World} (h : ItT w) (hf : Fr No w w') : ItT w' := fun i hi => by
  have e : ∀ k, w'.cell? ⟨0, k, none⟩ = w.cell? ⟨0, k, none⟩ := fun k => hf.cell h.pos (fun e => e)
  rw [e, e, e, e]
  exact h i hi
theorem ItT.bel {w w' : World} {B : Nat} (h : ItT w) (hf : Below B w w') (hB : 0 < B) : ItT w' := fun i hi => by
  have e : ∀ k, w'.cell? ⟨0, k, none⟩ = w.cell? ⟨0, k, none⟩ := fun k => hf.cell (p := ⟨0, k, none⟩) hB
  rw [e, e, e, e]
  exact h i hi
def itD (i : Nat) : DataW Unit := .agg [.lit (.string (nmL i)), .lit (.int .i64 (stI i)), .lit (.bool (blI i)), .lit (.int .u8 (gvI i : Int))]
theorem gIt : Tryd.prog.globalNamed "homestead/items.itemRows" = some 0 := by kernel_rfl
theorem gItType : (Tryd.prog.globals[0]?).map (·.type) = some 150 := by kernel_rfl
theorem cells_its : Tryd.prog.cellsOf 150 = 52 := by kernel_rfl
theorem cells_it : Tryd.prog.cellsOf 148 = 4 := by kernel_rfl
theorem cells_str : Tryd.prog.cellsOf 9 = 1 := by kernel_rfl
theorem cells_int : Tryd.prog.cellsOf 3 = 1 := by kernel_rfl
theorem cells_bool : Tryd.prog.cellsOf 4 = 1 := by kernel_rfl
theorem cells_item : Tryd.prog.cellsOf 50 = 1 := by kernel_rfl
theorem laid_is : (Rows.laid_homestead_items_itemRows : DataW Unit) = .agg ((List.range 13).map itD) := by kernel_rfl
set_option maxRecDepth 100000 in
/-- What the rows' list gives: the table's cells. -/
theorem table {W : World} (h0 : laidMetH Tryd.prog [("homestead/items.itemRows", Rows.laid_homestead_items_itemRows)] W) : ItT W := by
  have h : laidMet Tryd.prog [("homestead/items.itemRows", Rows.laid_homestead_items_itemRows)] W := h0
  obtain ⟨ps, ⟨g', t', cs, fuel, p, q, hg', ht', hvar, hd, _, _⟩, _⟩ := h
  obtain rfl := Option.some.inj (gIt.symm.trans hg')
  obtain rfl := Option.some.inj (gItType.symm.trans ht')
  rw [laid_is] at hd
  cases fuel with
  | zero => simp [DataW.trod] at hd
  | succ fuel =>
    simp only [DataW.trod, Tryd.underlying150, cells_it, cells_its] at hd
    split at hd
    · rename_i hl
      obtain ⟨xs, hm, hx⟩ := Option.map_eq_some_iff.1 hd
      have hxs : xs.map (·.1) = (List.range 13).map itD := by
        have := congrArg Prod.fst hx
        simpa using this
      intro i hi
      obtain ⟨b, hb, hf⟩ := Lib.mapM_at hm i i (by simp [hi])
      have hbi : b.1 = itD i := by
        have e := congrArg (·[i]?) hxs
        simp [hb, hi] at e
        exact e
      obtain ⟨y0, y1, y2, y3, n, rfl, hlen, f0, f1, f2, f3⟩ := Joins.trod_struct4 Tryd.underlying148 hf
      simp only [cells_str, cells_int, cells_bool, cells_item] at f0 f1 f2 f3
      obtain ⟨s, e0, rfl, _⟩ := DataW.trod_string Tryd.underlying9 f0
      obtain ⟨z, e1, rfl, _⟩ := DataW.trod_int Tryd.underlying3 f1
      obtain ⟨u, e2, rfl⟩ := DataW.trod_bool Tryd.underlying4 f2
      obtain ⟨v, e3, rfl, _⟩ := DataW.trod_int Tryd.underlying50 f3
      simp only [itD, DataW.agg.injEq, List.cons.injEq, DataW.lit.injEq, Lit.string.injEq, Lit.int.injEq, Lit.bool.injEq, true_and, and_true] at hbi
      obtain ⟨q0, q1, q2, q3⟩ := hbi
      have hc : ∀ j x, (cs[i * 4 + j]?) = some x → W.cell? ⟨0, i * 4 + j, none⟩ = some x := fun j x hj => by
        rw [World.var?_cell gIt hvar]
        simpa using hj
      have g0 : cs[i * 4 + 0]? = some (.string s) := by
        have := congrArg (·[0]?) e0
        simpa [List.getElem?_take, List.getElem?_drop] using this
      have g1 : cs[i * 4 + 1]? = some (.int .i64 z) := by
        have := congrArg (·[0]?) e1
        simpa [List.getElem?_take, List.getElem?_drop] using this
      have g2 : cs[i * 4 + 2]? = some (.bool u) := by
        have := congrArg (·[0]?) e2
        simpa [List.getElem?_take, List.getElem?_drop] using this
      have g3 : cs[i * 4 + 3]? = some (.int .u8 v) := by
        have := congrArg (·[0]?) e3
        simpa [List.getElem?_take, List.getElem?_drop] using this
      refine ⟨?_, ?_, ?_, ?_⟩
      · rw [show i * 4 = i * 4 + 0 from rfl, hc 0 _ g0]
        rw [nmI, ← q0]
      · rw [hc 1 _ g1, q1]
      · rw [hc 2 _ g2, q2]
      · rw [hc 3 _ g3, q3]
    · cases hd

section
variable {w : World} {i : Nat}
set_option maxRecDepth 100000 in
theorem stack_any (ht : ItT w) (hi : i < 256) : Calls Tryd.prog 105 #[.int .u8 (i : Int)] w fun e w' => e = .returned (.int .i64 (stI i)) ∧ Fr No w w' := by
  rcases (show i = 0 ∨ 13 ≤ i ∨ (0 < i ∧ i < 13) by omega) with rfl | h13 | ⟨h0, h13⟩
  · go_enter Tryd.func105, Tryd.ntmps105
    go_wp2
    go_end0
    go_wp2
    go_ret
    exact ⟨rfl, Fr.alloc _ _ _⟩
  · have E : Hid (stI i = 0) := by
      show stI i = 0
      unfold stI
      rw [List.getD_eq_getElem?_getD, List.getElem?_eq_none (by simpa using h13)]
      rfl
    have e1 : ((i : Int) == 0) = false := by rw [beq_eq_false_iff_ne]; omega
    have e2 : ¬ ((i : Int) < 13) := by omega
    go_enter Tryd.func105, Tryd.ntmps105
    go_wp2
    go_end0
    go_wp2
    go_ret
    exact ⟨by rw [E.out]; rfl, Fr.alloc _ _ _⟩
  · have HP := Lib.hid ht.pos
    obtain ⟨c0, c1, c2, c3⟩ := (ht.no (Fr.alloc No w (.cells #[.int .i64 0] 3))) i h13
    have e1 : ((i : Int) == 0) = false := by rw [beq_eq_false_iff_ne]; omega
    have e2 : (i : Int) < 13 := by omega
    generalize nmI i = nm at *
    generalize stI i = st at *
    generalize blI i = bl at *
    generalize gvI i = gv at *
    go_enter Tryd.func105, Tryd.ntmps105
    go_wp2
    go_end0
    go_wp2
    go_end0
    go_wp2
    go_ret
    exact ⟨rfl, (Fr.alloc No _ _).no_trans (Fr.alloc No _ _)⟩
set_option maxRecDepth 100000 in
theorem block_any (ht : ItT w) (hi : i < 256) : Calls Tryd.prog 108 #[.int .u8 (i : Int)] w fun e w' => e = .returned (.bool (blI i)) ∧ Fr No w w' := by
  rcases (show i = 0 ∨ 13 ≤ i ∨ (0 < i ∧ i < 13) by omega) with rfl | h13 | ⟨h0, h13⟩
  · go_enter Tryd.func108, Tryd.ntmps108
    go_wp2
    go_end0
    go_wp2
    go_ret
    exact ⟨rfl, Fr.alloc _ _ _⟩
  · have E : Hid (blI i = false) := by
      show blI i = false
      unfold blI
      rw [List.getD_eq_getElem?_getD, List.getElem?_eq_none (by simpa using h13)]
      rfl
    have e1 : ((i : Int) == 0) = false := by rw [beq_eq_false_iff_ne]; omega
    have e2 : ¬ ((i : Int) < 13) := by omega
    go_enter Tryd.func108, Tryd.ntmps108
    go_wp2
    go_end0
    go_wp2
    go_ret
    exact ⟨by rw [E.out]; rfl, Fr.alloc _ _ _⟩
  · have HP := Lib.hid ht.pos
    obtain ⟨c0, c1, c2, c3⟩ := (ht.no (Fr.alloc No w (.cells #[.bool false] 4))) i h13
    have e1 : ((i : Int) == 0) = false := by rw [beq_eq_false_iff_ne]; omega
    have e2 : (i : Int) < 13 := by omega
    generalize nmI i = nm at *
    generalize stI i = st at *
    generalize blI i = bl at *
    generalize gvI i = gv at *
    go_enter Tryd.func108, Tryd.ntmps108
    go_wp2
    go_end0
    go_wp2
    go_end0
    go_wp2
    go_ret
    exact ⟨rfl, (Fr.alloc No _ _).no_trans (Fr.alloc No _ _)⟩
end
end Go.Proofs.YtjdhbgdpmojobaaDoor

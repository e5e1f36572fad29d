/-
  The table of items as a world holds it; Stack, Block, Gives, Name of any number. No statement of the seat is proved here.
-/
import Derived.Test.YtcoednijggoeiaaRows
import Derived.WalkKit
import Derived.WalkSpells
import Derived.WalkLawsBesides
import Derived.Deep.Draws
import Derived.Lib.Hide
import Derived.Deep.AppendLies
import Derived.Lib.LaidTab
import Derived.Lib.SmallJoins
namespace Go.Proofs.Ytcoednijggoeiaa
open Go.RowKit Go.Deep

/-! ### what has turned -/
/-- Nothing has turned but blocks of F; new ones may be there. -/
structure Fr (F : Nat → Prop) (w w' : World) : Prop where
  os : w'.os = w.os
  tape : w'.tape = w.tape
  output : w'.output = w.output
  size : w.heap.size ≤ w'.heap.size
  block : ∀ k, k < w.heap.size → ¬ F k → w'.heap[k]? = w.heap[k]?
/-- No block. -/
def No (_ : Nat) : Prop := False
section
variable {F G : Nat → Prop} {a b c w w' : World}
theorem Fr.refl (F : Nat → Prop) (w : World) : Fr F w w := ⟨rfl, rfl, rfl, Nat.le_refl _, fun _ _ _ => rfl⟩
theorem Fr.trans (h : Fr F a b) (k : Fr G b c) (hG : ∀ i, i < a.heap.size → G i → F i) : Fr F a c :=
  ⟨k.os.trans h.os, k.tape.trans h.tape, k.output.trans h.output, Nat.le_trans h.size k.size, fun i hi hF =>
    (k.block i (Nat.lt_of_lt_of_le hi h.size) (fun hg => hF (hG i hi hg))).trans (h.block i hi hF)⟩
theorem Fr.mono (h : Fr F w w') (hG : ∀ i, i < w.heap.size → F i → G i) : Fr G w w' := ⟨h.os, h.tape, h.output, h.size, fun i hi hg => h.block i hi (fun hf => hg (hG i hi hf))⟩
theorem Fr.alloc (F : Nat → Prop) (w : World) (o : Obj) : Fr F w (w.alloc o) := ⟨rfl, rfl, rfl, by simp, fun k hk _ => Below.heap_alloc _ _ _ hk⟩
theorem Fr.drew (F : Nat → Prop) (w : World) : Fr F w w.drew := ⟨rfl, rfl, rfl, Nat.le_refl _, fun _ _ _ => rfl⟩
theorem Fr.drewN (F : Nat → Prop) (w : World) (n : Nat) : Fr F w (w.drewN n) := ⟨rfl, rfl, rfl, Nat.le_refl _, fun _ _ _ => rfl⟩
theorem Fr.setCell (w : World) (p : Addr) (u : Value) (h : F p.block) : Fr F w (w.setCell p u) :=
  ⟨rfl, rfl, rfl, by simp, fun k _ hF => Below.heap_setCell _ _ _ _ (fun e => hF (e ▸ h))⟩
theorem Fr.grown {row : Option Nat} (hg : w.grownBy w' row) (h : ∀ k, row = some k → F k) : Fr F w w' :=
  ⟨hg.os, hg.tape, hg.output, hg.size, fun k hk hF => hg.block k hk (fun e => hF (h k e.symm))⟩
theorem Fr.of_below (h : Below w.heap.size w w') : Fr F w w' := ⟨h.os, h.tape, h.output, h.size, fun k hk _ => h.block k hk⟩
theorem Fr.below {B : Nat} (h : Fr F w w') (hB : B ≤ w.heap.size) (hF : ∀ k, F k → B ≤ k) : Below B w w' :=
  ⟨h.os, h.tape, h.output, h.size, fun k hk => h.block k (by omega) (fun e => by have := hF k e; omega)⟩
theorem Fr.noBelow (h : Fr No w w') : Below w.heap.size w w' := h.below (Nat.le_refl _) (fun _ e => e.elim)
theorem Fr.no_trans (h : Fr No a b) (k : Fr No b c) : Fr No a c := h.trans k (fun _ _ e => e)
theorem Fr.any (h : Fr No w w') : Fr F w w' := h.mono (fun _ _ e => e.elim)
theorem Fr.then_no (h : Fr F a b) (k : Fr No b c) : Fr F a c := h.trans k (fun _ _ e => e.elim)
theorem Fr.then_new (h : Fr F a b) (k : Fr G b c) (hG : ∀ i, G i → a.heap.size ≤ i) : Fr F a c := h.trans k (fun i hi hg => by have := hG i hg; omega)
theorem Fr.cell (h : Fr F w w') {p : Addr} (hp : p.block < w.heap.size) (hF : ¬ F p.block) : w'.cell? p = w.cell? p := World.cell?_of_block (h.block p.block hp hF)
theorem own_keep {base n : Nat} {e : TypeId} {size : Nat} {v : Value} {xs : List Value} (h : w.ownsRow base e size v n xs) (hb : ∀ k, v.ownBlock = some k → w'.heap[k]? = w.heap[k]?) : w'.ownsRow base e size v n xs := by
  refine ⟨h.1, ?_⟩
  rcases h.2 with hn | ⟨g, cap, cur, rfl, hbs, hgg, rest⟩
  · exact .inl hn
  · exact .inr ⟨g, cap, cur, rfl, hbs, (hb g rfl).trans hgg, rest⟩
end
theorem heap_cells_set (w : World) (D k : Nat) (cs : Array Value) (t : TypeId) (v : Value) (h : w.heap[D]? = some (.cells cs t (0, 0))) : (w.setCell ⟨D, k, none⟩ v).heap[D]? = some (.cells (cs.setIfInBounds k v) t (0, 0)) := by
  have hl := (Array.getElem?_eq_some_iff.1 h)
  simp only [World.setCell, Array.getElem?_modify, h]
  simp
theorem blk_cell {w : World} {b : Nat} {cs : Array Value} {t : TypeId} {fr : Nat × Nat} (h : w.heap[b]? = some (.cells cs t fr)) (k : Nat) : w.cell? ⟨b, k, none⟩ = cs[k]? := by
  unfold World.cell?
  rw [h]
  rfl
theorem blk_free {w : World} {b : Nat} {cs : Array Value} {t : TypeId} (h : w.heap[b]? = some (.cells cs t (0, 0))) (k : Nat) : w.frozen? ⟨b, k, none⟩ = false := by
  unfold World.frozen?
  rw [h]
  simp
theorem blk_no {w w' : World} {b : Nat} {o : Obj} (hf : Fr No w w') (h : w.heap[b]? = some o) : w'.heap[b]? = some o :=
  (hf.block b (Array.getElem?_eq_some_iff.1 h).1 (fun e => e)).trans h

/-! ### the table -/
def nmL (i : Nat) : List UInt8 := ([[], [100, 105, 114, 116], [115, 116, 111, 110, 101], [119, 111, 111, 100], [108, 101, 97, 102], [112, 108, 97, 110, 107], [115, 116, 105, 99, 107], [111, 114, 101], [105, 110, 103, 111, 116], [99, 104, 101, 115, 116], [116, 111, 114, 99, 104], [98, 101, 114, 114, 121], [112, 105, 99, 107]] : List (List UInt8)).getD i []
/-- The name of an item. -/
def nmI (i : Nat) : ByteArray := ⟨(nmL i).toArray⟩
/-- How many of it a slot holds. -/
def stI (i : Nat) : Int := ([0, 16, 16, 16, 16, 16, 16, 16, 16, 4, 16, 16, 1] : List Int).getD i 0
/-- Whether it is a block. -/
def blI (i : Nat) : Bool := [false, true, true, true, true, true, false, true, false, true, true, false, false].getD i false
/-- What it gives. -/
def gvI (i : Nat) : Nat := [0, 1, 2, 3, 11, 5, 0, 7, 0, 9, 10, 0, 0].getD i 0
theorem cells_str : Try.prog.cellsOf 9 = 1 := by kernel_rfl
theorem cells_int : Try.prog.cellsOf 3 = 1 := by kernel_rfl
theorem cells_bool : Try.prog.cellsOf 4 = 1 := by kernel_rfl
theorem cells_item : Try.prog.cellsOf 25 = 1 := by kernel_rfl
section
variable {w : World} {i : Nat}
end
end Go.Proofs.Ytcoednijggoeiaa

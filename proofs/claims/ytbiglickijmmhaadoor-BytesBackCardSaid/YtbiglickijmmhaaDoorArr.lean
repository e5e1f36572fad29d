/-
  A block of cells that is known whole: what becomes of it. No statement of the seat is proved here.
-/
import Derived.Test.YtbiglickijmmhaaDoorPut
import Derived.Deep.WholeRow
namespace Go.Proofs.YtbiglickijmmhaaDoor
open Go.RowKit

/-- Block b of the world holds these cells, of this type, none of them frozen. -/
def Arr (w : World) (b : Nat) (t : TypeId) (c : Array Value) : Prop := w.heap[b]? = some (.cells c t (0, 0))
section
variable {w w' : World} {b B : Nat} {t : TypeId} {c : Array Value}
set_option maxRecDepth 100000 in
theorem Arr.cell (h : Arr w b t c) (j : Nat) : w.cell? ⟨b, j, none⟩ = c[j]? := cell_of_row w b j c t _ h
set_option maxRecDepth 100000 in
theorem Arr.frozen (h : Arr w b t c) (j : Nat) : w.frozen? ⟨b, j, none⟩ = false := frozen_of_row w b j c t h
set_option maxRecDepth 100000 in
theorem Arr.drewN (h : Arr w b t c) (n : Nat) : Arr (w.drewN n) b t c := h
set_option maxRecDepth 100000 in
theorem Arr.drew (h : Arr w b t c) : Arr w.drew b t c := h
set_option maxRecDepth 100000 in
theorem Arr.set (h : Arr w b t c) (i : Nat) (v : Value) : Arr (w.setCell ⟨b, i, none⟩ v) b t (c.setIfInBounds i v) := heap_setCell_same w b i c t v h
set_option maxRecDepth 100000 in
theorem Arr.other (h : Arr w b t c) (a : Addr) (v : Value) (hne : b ≠ a.block) : Arr (w.setCell a v) b t c := (heap_setCell_other w a b v hne).trans h
set_option maxRecDepth 100000 in
theorem Arr.lt (h : Arr w b t c) : b < w.heap.size := (Array.getElem?_eq_some_iff.1 h).1
set_option maxRecDepth 100000 in
theorem Arr.alloc (h : Arr w b t c) (o : Obj) : Arr (w.alloc o) b t c := (Below.heap_alloc w o b h.lt).trans h
set_option maxRecDepth 100000 in
theorem Arr.below (h : Arr w b t c) (hb : Below B w w') (hlt : b < B) : Arr w' b t c := (hb.block b hlt).trans h
set_option maxRecDepth 100000 in
theorem Arr.new (w : World) (c : Array Value) (t : TypeId) : Arr (w.alloc (.cells c t)) w.heap.size t c := heap_alloc_last w _
set_option maxRecDepth 100000 in
theorem Arr.newAt (w : World) (c : Array Value) (t : TypeId) (n : Nat) (hn : n = w.heap.size) : Arr (w.alloc (.cells c t)) n t c := hn ▸ Arr.new w c t
set_option maxRecDepth 100000 in
theorem setRow_newAt (w : World) (c c' : Array Value) (t : TypeId) (n : Nat) (hn : n = w.heap.size) : (w.alloc (.cells c t)).setRow n c' = w.alloc (.cells c' t) := hn ▸ World.setRow_alloc_new w c c' t
set_option maxRecDepth 100000 in
theorem Arr.row (h : Arr w b t c) (c' : Array Value) : Arr (w.setRow b c') b t c' := setRow_heap w b c c' t _ h
set_option maxRecDepth 100000 in
theorem Arr.rowOther (h : Arr w b t c) (g : Nat) (c' : Array Value) (hne : b ≠ g) : Arr (w.setRow g c') b t c := (setRow_other w g b c' hne).trans h
set_option maxRecDepth 100000 in
theorem Below.setRow {a : World} (h : Below B a w) {g : Nat} (hg : B ≤ g) (c' : Array Value) : Below B a (w.setRow g c') :=
  ⟨h.os, h.tape, h.output, by rw [setRow_size]; exact h.size, fun k hk => (setRow_other w g k c' (by omega)).trans (h.block k hk)⟩
set_option maxRecDepth 100000 in
theorem Below.drewN {a : World} (h : Below B a w) (n : Nat) : Below B a (w.drewN n) := ⟨h.os, h.tape, h.output, h.size, h.block⟩
end
end Go.Proofs.YtbiglickijmmhaaDoor

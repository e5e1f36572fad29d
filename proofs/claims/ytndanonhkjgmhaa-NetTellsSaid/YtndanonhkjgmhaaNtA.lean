/-
  Datagrams, rows of them, a net in a world, and what leaves it be. No statement of the seat is proved here.
-/
import Derived.Test.YtndanonhkjgmhaaApp
import Derived.Test.YtndanonhkjgmhaaRow
import Derived.Deep.AppendLies
namespace Go.Proofs.Ytndanonhkjgmhaa
open Go.RowKit

/-! ### what has turned -/
/-- Nothing has turned but blocks of F; new ones may be there. -/
structure Fr (F : Nat → Prop) (w w' : World) : Prop where
  os : w'.os = w.os
  tape : w'.tape = w.tape
  output : w'.output = w.output
  size : w.heap.size ≤ w'.heap.size
  block : ∀ k, k < w.heap.size → ¬ F k → w'.heap[k]? = w.heap[k]?
/-- No block. -/
def No (_ : Nat) : Prop := False
section
variable {F G : Nat → Prop} {a b c w w' : World}
theorem Fr.refl (F : Nat → Prop) (w : World) : Fr F w w := ⟨rfl, rfl, rfl, Nat.le_refl _, fun _ _ _ => rfl⟩
theorem Fr.trans (h : Fr F a b) (k : Fr G b c) (hG : ∀ i, i < a.heap.size → G i → F i) : Fr F a c :=
  ⟨k.os.trans h.os, k.tape.trans h.tape, k.output.trans h.output, Nat.le_trans h.size k.size, fun i hi hF =>
    (k.block i (Nat.lt_of_lt_of_le hi h.size) (fun hg => hF (hG i hi hg))).trans (h.block i hi hF)⟩
theorem Fr.mono (h : Fr F w w') (hG : ∀ i, i < w.heap.size → F i → G i) : Fr G w w' := ⟨h.os, h.tape, h.output, h.size, fun i hi hg => h.block i hi (fun hf => hg (hG i hi hf))⟩
theorem Fr.alloc (F : Nat → Prop) (w : World) (o : Obj) : Fr F w (w.alloc o) := ⟨rfl, rfl, rfl, by simp, fun k hk _ => Below.heap_alloc _ _ _ hk⟩
theorem Fr.drew (F : Nat → Prop) (w : World) : Fr F w w.drew := ⟨rfl, rfl, rfl, Nat.le_refl _, fun _ _ _ => rfl⟩
theorem Fr.drewN (F : Nat → Prop) (w : World) (n : Nat) : Fr F w (w.drewN n) := ⟨rfl, rfl, rfl, Nat.le_refl _, fun _ _ _ => rfl⟩
theorem Fr.setCell (w : World) (p : Addr) (u : Value) (h : F p.block) : Fr F w (w.setCell p u) :=
  ⟨rfl, rfl, rfl, by simp, fun k _ hF => Below.heap_setCell _ _ _ _ (fun e => hF (e ▸ h))⟩
theorem Fr.grown {row : Option Nat} (hg : w.grownBy w' row) (h : ∀ k, row = some k → F k) : Fr F w w' :=
  ⟨hg.os, hg.tape, hg.output, hg.size, fun k hk hF => hg.block k hk (fun e => hF (h k e.symm))⟩
theorem Fr.of_below (h : Below w.heap.size w w') : Fr F w w' := ⟨h.os, h.tape, h.output, h.size, fun k hk _ => h.block k hk⟩
theorem Fr.below {B : Nat} (h : Fr F w w') (hB : B ≤ w.heap.size) (hF : ∀ k, F k → B ≤ k) : Below B w w' :=
  ⟨h.os, h.tape, h.output, h.size, fun k hk => h.block k (by omega) (fun e => by have := hF k e; omega)⟩
theorem Fr.noBelow (h : Fr No w w') : Below w.heap.size w w' := h.below (Nat.le_refl _) (fun _ e => e.elim)
theorem Fr.rd {B n : Nat} {A : Option Addr} {l : List UInt8} (h : Fr No w w') (hB : B ≤ w.heap.size) (hr : Rd w B A n l) : Rd w' B A n l :=
  hr.below (h.noBelow.mono hB)
theorem Fr.no_trans (h : Fr No a b) (k : Fr No b c) : Fr No a c := h.trans k (fun _ _ e => e)
theorem Fr.any (h : Fr No w w') : Fr F w w' := h.mono (fun _ _ e => e.elim)
theorem Fr.then_no (h : Fr F a b) (k : Fr No b c) : Fr F a c := h.trans k (fun _ _ e => e.elim)
theorem Fr.then_new (h : Fr F a b) (k : Fr G b c) (hG : ∀ i, G i → a.heap.size ≤ i) : Fr F a c := h.trans k (fun i hi hg => by have := hG i hg; omega)
theorem Fr.cell (h : Fr F w w') {p : Addr} (hp : p.block < w.heap.size) (hF : ¬ F p.block) : w'.cell? p = w.cell? p := World.cell?_of_block (h.block p.block hp hF)
theorem own_keep {base n : Nat} {e : TypeId} {size : Nat} {v : Value} {xs : List Value} (h : w.ownsRow base e size v n xs) (hb : ∀ k, v.ownBlock = some k → w'.heap[k]? = w.heap[k]?) : w'.ownsRow base e size v n xs := by
  refine ⟨h.1, ?_⟩
  rcases h.2 with hn | ⟨g, cap, cur, rfl, hbs, hgg, rest⟩
  · exact .inl hn
  · exact .inr ⟨g, cap, cur, rfl, hbs, (hb g rfl).trans hgg, rest⟩
end
theorem heap_cells_set (w : World) (D k : Nat) (cs : Array Value) (t : TypeId) (v : Value) (h : w.heap[D]? = some (.cells cs t (0, 0))) : (w.setCell ⟨D, k, none⟩ v).heap[D]? = some (.cells (cs.setIfInBounds k v) t (0, 0)) := by
  have hl := (Array.getElem?_eq_some_iff.1 h)
  simp only [World.setCell, Array.getElem?_modify, h]
  simp

theorem blk_cell {w : World} {b : Nat} {cs : Array Value} {t : TypeId} (h : w.heap[b]? = some (.cells cs t (0, 0))) (k : Nat) : w.cell? ⟨b, k, none⟩ = cs[k]? := by
  unfold World.cell?
  rw [h]
  rfl
theorem blk_free {w : World} {b : Nat} {cs : Array Value} {t : TypeId} (h : w.heap[b]? = some (.cells cs t (0, 0))) (k : Nat) : w.frozen? ⟨b, k, none⟩ = false := by
  unfold World.frozen?
  rw [h]
  simp
theorem heap2 (w : World) (x y : Obj) : ((w.alloc x).alloc y).heap[w.heap.size + 1]? = some y := by
  have h := heap_alloc_new (w.alloc x) y
  have e : (w.alloc x).heap.size = w.heap.size + 1 := by show (w.heap.push x).size = _; simp
  rwa [e] at h
theorem blk_no {w w' : World} {b : Nat} {o : Obj} (hf : Fr No w w') (h : w.heap[b]? = some o) : w'.heap[b]? = some o :=
  (hf.block b (Array.getElem?_eq_some_iff.1 h).1 (fun e => e)).trans h
/-- Three cells of one block written. -/
theorem set3_blk {w : World} {b : Nat} {u0 u1 u2 : Value} {t : TypeId} (h : w.heap[b]? = some (.cells #[u0, u1, u2] t (0, 0))) (x y z : Value) :
    (((w.setCell ⟨b, 0, none⟩ x).setCell ⟨b, 1, none⟩ y).setCell ⟨b, 2, none⟩ z).heap[b]? = some (.cells #[x, y, z] t (0, 0)) :=
  heap_cells_set _ b 2 _ t z (heap_cells_set _ b 1 _ t y (heap_cells_set _ b 0 _ t x h))
theorem set3_fr (w : World) (b : Nat) (x y z : Value) : Fr (fun k => k = b) w (((w.setCell ⟨b, 0, none⟩ x).setCell ⟨b, 1, none⟩ y).setCell ⟨b, 2, none⟩ z) :=
  ((Fr.setCell (F := fun k => k = b) w ⟨b, 0, none⟩ x rfl).trans (Fr.setCell (F := fun k => k = b) _ ⟨b, 1, none⟩ y rfl) (fun _ _ e => e)).trans (Fr.setCell (F := fun k => k = b) _ ⟨b, 2, none⟩ z rfl) (fun _ _ e => e)
/-- Bytes in memory from some block on, that may be written over. -/
def Bx (lo : Nat) (w : World) (A : Option Addr) (n : Nat) (l : List UInt8) : Prop :=
  l.length = n ∧ ∃ b, A = some ⟨b, 0, none⟩ ∧ lo ≤ b ∧ b < w.heap.size ∧ ∀ j (h : j < l.length), w.cell? ⟨b, j, none⟩ = some (.int .u8 (l[j].toNat : Int)) ∧ w.frozen? ⟨b, j, none⟩ = false
theorem Bx.rd {lo : Nat} {w : World} {A : Option Addr} {n : Nat} {l : List UInt8} (h : Bx lo w A n l) : Rd w w.heap.size A n l := by
  obtain ⟨hl, b, rfl, _, hb, hc⟩ := h
  exact ⟨hl, fun _ => ⟨b, 0, rfl, hb, fun j hj => by rw [Nat.zero_add]; exact (hc j hj).1⟩⟩
theorem Bx.keep {lo : Nat} {w w' : World} {F : Nat → Prop} {A : Option Addr} {n : Nat} {l : List UInt8} (h : Bx lo w A n l) (hf : Fr F w w') (hF : ∀ k, lo ≤ k → k < w.heap.size → ¬ F k) : Bx lo w' A n l := by
  obtain ⟨hl, b, rfl, hlo, hb, hc⟩ := h
  refine ⟨hl, b, rfl, hlo, Nat.lt_of_lt_of_le hb hf.size, fun j hj => ?_⟩
  have e := hf.block b hb (hF b hlo hb)
  exact ⟨(World.cell?_of_block (a := ⟨b, j, none⟩) e).trans (hc j hj).1, (World.frozen?_of_block (a := ⟨b, j, none⟩) e).trans (hc j hj).2⟩
theorem Bx.no {lo : Nat} {w w' : World} {A : Option Addr} {n : Nat} {l : List UInt8} (h : Bx lo w A n l) (hf : Fr No w w') : Bx lo w' A n l := h.keep hf (fun _ _ _ e => e)
theorem Bx.lo {lo lo' : Nat} {w : World} {A : Option Addr} {n : Nat} {l : List UInt8} (h : Bx lo w A n l) (hl : lo' ≤ lo) : Bx lo' w A n l := by
  obtain ⟨a, b, c, d, e⟩ := h
  exact ⟨a, b, c, by omega, e⟩
set_option maxRecDepth 100000 in
/-- A text as bytes of one's own. -/
theorem bytes_of (w : World) (s : ByteArray) : ∃ c w', (convert 9 28 (.string s)).run Try.prog w = .ok (.slice (some ⟨w.heap.size, 0, none⟩) s.size c) w' ∧ s.size ≤ c ∧
    Bx w.heap.size w' (some ⟨w.heap.size, 0, none⟩) s.size s.data.toList ∧ Fr No w w' := by
  refine ⟨_, _, run_bytes_of_string (P := Try.prog) w 9 28 5 s Try.underlying9 Try.underlying28 Try.underlying5, grownCap_ge w _ _ _, ?_, Fr.of_below (((Below.refl _ _).drew).alloc (Nat.le_refl _) _)⟩
  refine ⟨by rw [Array.length_toList]; rfl, w.heap.size, rfl, Nat.le_refl _, by simp, fun j hj => ?_⟩
  have hb := heap_alloc_new w.drew (.cells (bytesRow s (grownCap w s.size 0 5)) 5 ((bytesRow s (grownCap w s.size 0 5)).size, (bytesRow s (grownCap w s.size 0 5)).size + 1))
  have hj' : j < s.data.size := by simpa using hj
  constructor
  · refine Eq.trans ?_ (bytesRow_at s (grownCap w s.size 0 5) j hj')
    unfold World.cell?
    rw [show (w.drew.alloc (.cells (bytesRow s (grownCap w s.size 0 5)) 5 ((bytesRow s (grownCap w s.size 0 5)).size, (bytesRow s (grownCap w s.size 0 5)).size + 1))).heap[w.heap.size]? = _ from hb]
    rfl
  · unfold World.frozen?
    rw [show (w.drew.alloc (.cells (bytesRow s (grownCap w s.size 0 5)) 5 ((bytesRow s (grownCap w s.size 0 5)).size, (bytesRow s (grownCap w s.size 0 5)).size + 1))).heap[w.heap.size]? = _ from hb]
    have : s.data.size ≤ (bytesRow s (grownCap w s.size 0 5)).size := by
      unfold bytesRow
      rw [Array.size_append, Array.size_map]
      omega
    simp
    omega

/-! ### cells of rows of structs -/
section
variable {α : Type} {f : α → List Value} {s : Nat}
theorem flat_length (hs : ∀ x, (f x).length = s) (l : List α) : (l.flatMap f).length = l.length * s := by
  induction l with
  | nil => simp
  | cons t l ih => rw [List.flatMap_cons, List.length_append, ih, hs, List.length_cons, Nat.add_mul]; omega
theorem flat_at (hs : ∀ x, (f x).length = s) (l : List α) (j r : Nat) {x : α} (hj : l[j]? = some x) (hr : r < s) : (l.flatMap f)[j * s + r]? = (f x)[r]? := by
  induction l generalizing j with
  | nil => simp at hj
  | cons t l ih =>
    rw [List.flatMap_cons]
    cases j with
    | zero =>
      rw [List.getElem?_append_left (by rw [hs]; omega)]
      have : t = x := by simpa using hj
      rw [this]
      simp
    | succ j =>
      rw [List.getElem?_append_right (by rw [hs, Nat.add_mul]; omega), hs, show (j + 1) * s + r - s = j * s + r by rw [Nat.add_mul]; omega, ih j (by simpa using hj)]
end

/-- A datagram: from whom, to whom, its bytes. -/
structure Gm where
  fr : Int
  to : Int
  ds : ByteArray
def gCells (g : Gm) : List Value := [.int .i64 g.fr, .int .i64 g.to, .string g.ds]
def gsCells (l : List Gm) : List Value := l.flatMap gCells
theorem gsCells_length (l : List Gm) : (gsCells l).length = l.length * 3 := flat_length (f := gCells) (s := 3) (fun _ => rfl) l
theorem gsCells_append (l m : List Gm) : gsCells (l ++ m) = gsCells l ++ gsCells m := by simp [gsCells]
theorem gsCells_at (l : List Gm) (j r : Nat) {g : Gm} (hj : l[j]? = some g) (hr : r < 3) : (gsCells l)[j * 3 + r]? = (gCells g)[r]? := flat_at (f := gCells) (s := 3) (fun _ => rfl) l j r hj hr
theorem gCells_one (g : Gm) : ∀ u ∈ gCells g, u.oneCell' = true := by
  intro u hu
  simp only [gCells, List.mem_cons, List.not_mem_nil, or_false] at hu
  rcases hu with rfl | rfl | rfl <;> rfl
set_option maxRecDepth 100000 in
theorem info_gm : (Try.prog.info? 78).map (fun i => (i.zero, i.size, i.bytes)) = some (some (.agg #[.int .i64 0, .int .i64 0, .string ⟨#[]⟩]), 3, 32) := by kernel_rfl

/-! ### a net -/
/-- A net in a world: its block, its row. -/
structure Ntw (w : World) (P : Nat) (n : Int) (v : Value) (l : List Gm) : Prop where
  blk : w.heap[P]? = some (.cells #[.pointer (some ⟨P, 0, none⟩), .int .i64 n, v] 57 (0, 0))
  row : w.ownsRow 0 78 3 v l.length (gsCells l)
  few : l.length ≤ 4096
/-- The blocks that are a net's own. -/
def foot (P : Nat) (v : Value) (k : Nat) : Prop := k = P ∨ v.ownBlock = some k
section
variable {w w' : World} {P : Nat} {n : Int} {v : Value} {l : List Gm} {F : Nat → Prop}
theorem Ntw.lt (h : Ntw w P n v l) {k : Nat} (hk : foot P v k) : k < w.heap.size := by
  rcases hk with rfl | hk
  · exact (Array.getElem?_eq_some_iff.1 h.blk).1
  · exact (h.row.lt k hk).2
theorem Ntw.ne (h : Ntw w P n v l) {k : Nat} (hk : v.ownBlock = some k) : k ≠ P := by
  rcases h.row.2 with ⟨e, _⟩ | ⟨g, cap, cur, e, _, hg, _⟩
  · rw [e] at hk; cases hk
  · rw [e] at hk
    have : g = k := by injection hk
    subst this
    rintro rfl
    rw [h.blk] at hg
    have := (Obj.cells.inj (Option.some.inj hg)).2.1
    exact absurd this (by decide)
theorem Ntw.keep (h : Ntw w P n v l) (hf : Fr F w w') (hF : ∀ k, foot P v k → ¬ F k) : Ntw w' P n v l := by
  have hb : ∀ k, foot P v k → w'.heap[k]? = w.heap[k]? := fun k hk => hf.block k (h.lt hk) (hF k hk)
  exact ⟨(hb P (.inl rfl)).trans h.blk, own_keep h.row (fun k hk => hb k (.inr hk)), h.few⟩
theorem Ntw.no (h : Ntw w P n v l) (hf : Fr No w w') : Ntw w' P n v l := h.keep hf (fun _ _ e => e)
theorem Ntw.cell (h : Ntw w P n v l) (k : Nat) : w.cell? ⟨P, k, none⟩ = (#[.pointer (some ⟨P, 0, none⟩), .int .i64 n, v] : Array Value)[k]? := by
  unfold World.cell?
  rw [h.blk]
  rfl
theorem Ntw.unfrozen (h : Ntw w P n v l) (k : Nat) : w.frozen? ⟨P, k, none⟩ = false := by
  unfold World.frozen?
  rw [h.blk]
  simp
theorem Ntw.c0 (h : Ntw w P n v l) : w.cell? ⟨P, 0, none⟩ = some (.pointer (some ⟨P, 0, none⟩)) := h.cell 0
theorem Ntw.c1 (h : Ntw w P n v l) : w.cell? ⟨P, 1, none⟩ = some (.int .i64 n) := h.cell 1
theorem Ntw.c2 (h : Ntw w P n v l) : w.cell? ⟨P, 2, none⟩ = some v := h.cell 2
/-- The row, as a slice. -/
theorem Ntw.sl (h : Ntw w P n v l) : ∃ A c, v = .slice A l.length c ∧ l.length ≤ c ∧ c ≤ maxLen ∧ (l.length = 0 ∨ ∃ G, A = some ⟨G, 0, none⟩) := by
  rcases h.row.2 with ⟨e, h0⟩ | ⟨g, cap, cur, e, _, _, hc, hm, _⟩
  · exact ⟨none, 0, by rw [e, h0], by omega, Nat.zero_le _, .inl h0⟩
  · exact ⟨_, cap, e, hc, hm, .inr ⟨g, rfl⟩⟩
/-- What stands in a row of the call's own. -/
theorem row_cells {e : TypeId} {base s m : Nat} {cs : List Value} {A : Option Addr} {c : Nat} (h : w.ownsRow base e s (.slice A m c) m cs) {j : Nat} (hj : j < cs.length) : ∃ G, A = some ⟨G, 0, none⟩ ∧ base ≤ G ∧ G < w.heap.size ∧ ∀ k u, cs[k]? = some u → w.cell? ⟨G, k, none⟩ = some u := by
  rcases h.2 with ⟨e, h0⟩ | ⟨g, cap, cur, e, hb, hg, _⟩
  · have := h.1
    rw [h0, Nat.zero_mul] at this
    omega
  · injection e with e1 e2 e3
    refine ⟨g, e1, hb, (Array.getElem?_eq_some_iff.1 hg).1, fun k u hu => ?_⟩
    have := h.cells (g := g) (by rw [e1]; rfl) k u hu
    rw [Addr.add_lit, Nat.zero_add] at this
    exact this
end
/-- What a call upon a net leaves: nothing but the net's own blocks has turned, and its row lies where it lay, or is new. -/
def Nx (P : Nat) (v : Value) (w w' : World) (v' : Value) : Prop := Fr (foot P v) w w' ∧ (v'.ownBlock = v.ownBlock ∨ ∀ k, v'.ownBlock = some k → w.heap.size ≤ k)
section
variable {a b c : World} {P : Nat} {u v x : Value}
theorem Nx.refl (P : Nat) (v : Value) (w : World) : Nx P v w w v := ⟨Fr.refl _ _, .inl rfl⟩
theorem Nx.of_no (h : Fr No a b) : Nx P v a b v := ⟨h.any, .inl rfl⟩
theorem Nx.trans (h : Nx P u a b v) (k : Nx P v b c x) : Nx P u a c x := by
  refine ⟨h.1.trans k.1 (fun i hi hf => ?_), ?_⟩
  · rcases hf with e | e
    · exact .inl e
    · rcases h.2 with q | q
      · exact .inr (q ▸ e)
      · have := q i e
        omega
  · rcases k.2 with q | q
    · rcases h.2 with r | r
      · exact .inl (q.trans r)
      · exact .inr (fun i hi => r i (q ▸ hi))
    · exact .inr (fun i hi => by have := q i hi; have := h.1.size; omega)
theorem Nx.then_no (h : Nx P u a b v) (k : Fr No b c) : Nx P u a c v := h.trans (.of_no k)
theorem Nx.below {B : Nat} (h : Nx P u a b v) (hB : B ≤ a.heap.size) (hF : ∀ k, foot P u k → B ≤ k) : Below B a b := h.1.below hB hF
theorem Nx.lo {B : Nat} (h : Nx P u a b v) (hB : B ≤ a.heap.size) (hF : ∀ k, foot P u k → B ≤ k) : ∀ k, foot P v k → B ≤ k := by
  intro k hk
  rcases hk with e | e
  · exact hF k (.inl e)
  · rcases h.2 with q | q
    · exact hF k (.inr (q ▸ e))
    · have := q k e
      omega
end
end Go.Proofs.Ytndanonhkjgmhaa

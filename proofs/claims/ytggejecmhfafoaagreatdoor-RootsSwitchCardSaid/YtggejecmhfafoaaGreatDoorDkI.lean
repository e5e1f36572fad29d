/-
  A disk in a world, and what leaves it be. No statement of the seat is proved here.
-/
import Derived.Test.YtggejecmhfafoaaGreatDoorDkH
namespace Go.Proofs.YtggejecmhfafoaaGreatDoor
open Go.RowKit Go.Maps

/-- Nothing has turned but blocks of F; new ones may be there. -/
structure Fr (F : Nat → Prop) (w w' : World) : Prop where
  os : w'.os = w.os
  tape : w'.tape = w.tape
  output : w'.output = w.output
  size : w.heap.size ≤ w'.heap.size
  block : ∀ k, k < w.heap.size → ¬ F k → w'.heap[k]? = w.heap[k]?
/-- No block. -/
def No (_ : Nat) : Prop := False
section
variable {F G : Nat → Prop} {a b c w w' : World}
theorem Fr.refl (F : Nat → Prop) (w : World) : Fr F w w := ⟨rfl, rfl, rfl, Nat.le_refl _, fun _ _ _ => rfl⟩
theorem Fr.trans (h : Fr F a b) (k : Fr G b c) (hG : ∀ i, i < a.heap.size → G i → F i) : Fr F a c :=
  ⟨k.os.trans h.os, k.tape.trans h.tape, k.output.trans h.output, Nat.le_trans h.size k.size, fun i hi hF =>
    (k.block i (Nat.lt_of_lt_of_le hi h.size) (fun hg => hF (hG i hi hg))).trans (h.block i hi hF)⟩
theorem Fr.mono (h : Fr F w w') (hG : ∀ i, i < w.heap.size → F i → G i) : Fr G w w' := ⟨h.os, h.tape, h.output, h.size, fun i hi hg => h.block i hi (fun hf => hg (hG i hi hf))⟩
theorem Fr.alloc (F : Nat → Prop) (w : World) (o : Obj) : Fr F w (w.alloc o) := ⟨rfl, rfl, rfl, by simp, fun k hk _ => Below.heap_alloc _ _ _ hk⟩
theorem Fr.setCell (w : World) (p : Addr) (u : Value) (h : F p.block) : Fr F w (w.setCell p u) :=
  ⟨rfl, rfl, rfl, by simp, fun k _ hF => Below.heap_setCell _ _ _ _ (fun e => hF (e ▸ h))⟩
theorem Fr.grown {row : Option Nat} (hg : w.grownBy w' row) (h : ∀ k, row = some k → F k) : Fr F w w' :=
  ⟨hg.os, hg.tape, hg.output, hg.size, fun k hk hF => hg.block k hk (fun e => hF (h k e.symm))⟩
theorem Fr.of_below (h : Below w.heap.size w w') : Fr F w w' := ⟨h.os, h.tape, h.output, h.size, fun k hk _ => h.block k hk⟩
theorem Fr.below {B : Nat} (h : Fr F w w') (hB : B ≤ w.heap.size) (hF : ∀ k, F k → B ≤ k) : Below B w w' :=
  ⟨h.os, h.tape, h.output, h.size, fun k hk => h.block k (by omega) (fun e => by have := hF k e; omega)⟩
theorem Fr.noBelow (h : Fr No w w') : Below w.heap.size w w' := h.below (Nat.le_refl _) (fun _ e => e.elim)
theorem Fr.rd {B n : Nat} {A : Option Addr} {l : List UInt8} (h : Fr No w w') (hB : B ≤ w.heap.size) (hr : Rd w B A n l) : Rd w' B A n l :=
  hr.below (h.noBelow.mono hB)
theorem Fr.no_trans (h : Fr No a b) (k : Fr No b c) : Fr No a c := h.trans k (fun _ _ e => e)
end

/-- Two values' rows lie in blocks of their own. -/
def Sep (a b : Value) : Prop := ∀ g, a.ownBlock = some g → b.ownBlock ≠ some g
theorem Sep.symm {a b : Value} (h : Sep a b) : Sep b a := fun g hb ha => h g ha hb

/-- A disk: has its power failed, is it bound to fail, behind how many steps; its room; its files. -/
structure St where
  fl : Bool
  bd : Bool
  lf : Nat
  mo : Nat
  fs : List Fl
def St.cells (D M : Nat) (s : St) : Array Value := #[.bool s.fl, .bool s.bd, .int .i64 (s.lf : Int), .pointer (some ⟨D, 0, none⟩), .int .i64 (s.mo : Int), .map (some M)]
/-- The blocks that are a disk's own. -/
def foot (D M : Nat) (fs : List Fl) (k : Nat) : Prop := k = D ∨ k = M ∨ ∃ f ∈ fs, f.row.ownBlock = some k
structure Dsk (w : World) (D M : Nat) (s : St) : Prop where
  blk : w.heap[D]? = some (.cells (s.cells D M) 50 (0, 0))
  map : w.ownsMap Tryz.prog 9 flR M s.fs.length (dat s.fs)
  rows : ∀ f ∈ s.fs, w.ownsRow 0 5 1 f.row f.bs.length (bvs f.bs)
  sep : ∀ f ∈ s.fs, ∀ g ∈ s.fs, f.nm ≠ g.nm → Sep f.row g.row
  firm : ∀ f ∈ s.fs, f.fm ≤ f.bs.length
  nms : ∀ f ∈ s.fs, isNm f.nm = true
  room : used s.fs ≤ s.mo
  most : s.mo ≤ 16777216
  few : s.fs.length ≤ 200
  left : (s.lf : Int) ≤ 9223372036854775807

theorem kS : Keyed Tryz.prog 9 := string_keyed Tryz.underlying9
section
variable {w w' : World} {D M : Nat} {s : St} {F : Nat → Prop}
theorem Dsk.foot_lt (h : Dsk w D M s) {k : Nat} (hk : foot D M s.fs k) : k < w.heap.size := by
  rcases hk with rfl | rfl | ⟨f, hf, hk⟩
  · exact (Array.getElem?_eq_some_iff.1 h.blk).1
  · exact h.map.lt
  · exact ((h.rows f hf).lt k hk).2
theorem Dsk.ne (h : Dsk w D M s) : D ≠ M := by
  intro e
  obtain ⟨es, clock, hb, _⟩ := h.map
  rw [← e, h.blk] at hb
  cases hb
theorem Dsk.row_ne (h : Dsk w D M s) {f : Fl} (hf : f ∈ s.fs) {k : Nat} (hk : f.row.ownBlock = some k) : k ≠ D ∧ k ≠ M := by
  rcases (h.rows f hf).2 with ⟨e, _⟩ | ⟨g, cap, cur, e, _, hg, _⟩
  · rw [e] at hk; cases hk
  · rw [e] at hk
    have : g = k := by injection hk
    subst this
    constructor
    · rintro rfl
      rw [h.blk] at hg
      have := (Obj.cells.inj (Option.some.inj hg)).2.1
      exact absurd this (by decide)
    · rintro rfl
      obtain ⟨es, clock, hb, _⟩ := h.map
      rw [hb] at hg
      cases hg
theorem own_keep {base n : Nat} {e : TypeId} {size : Nat} {v : Value} {xs : List Value} (h : w.ownsRow base e size v n xs) (hb : ∀ k, v.ownBlock = some k → w'.heap[k]? = w.heap[k]?) : w'.ownsRow base e size v n xs := by
  refine ⟨h.1, ?_⟩
  rcases h.2 with hn | ⟨g, cap, cur, rfl, hbs, hgg, rest⟩
  · exact .inl hn
  · exact .inr ⟨g, cap, cur, rfl, hbs, (hb g rfl).trans hgg, rest⟩
/-- What turns none of its blocks leaves a disk as it was. -/
theorem Dsk.keep (h : Dsk w D M s) (hf : Fr F w w') (hF : ∀ k, foot D M s.fs k → ¬ F k) : Dsk w' D M s := by
  have hb : ∀ k, foot D M s.fs k → w'.heap[k]? = w.heap[k]? := fun k hk => hf.block k (h.foot_lt hk) (hF k hk)
  refine ⟨(hb D (.inl rfl)).trans h.blk, ?_, fun f hf' => own_keep (h.rows f hf') (fun k hk => hb k (.inr (.inr ⟨f, hf', hk⟩))), h.sep, h.firm, h.nms, h.room, h.most, h.few, h.left⟩
  obtain ⟨es, clock, hm, r⟩ := h.map
  exact ⟨es, clock, (hb M (.inr (.inl rfl))).trans hm, r⟩
theorem Dsk.no (h : Dsk w D M s) (hf : Fr No w w') : Dsk w' D M s := h.keep hf (fun _ _ e => e)
theorem Dsk.cell (h : Dsk w D M s) (k : Nat) : w.cell? ⟨D, k, none⟩ = (s.cells D M)[k]? := by
  unfold World.cell?
  rw [h.blk]
  rfl
theorem Dsk.unfrozen (h : Dsk w D M s) (k : Nat) : w.frozen? ⟨D, k, none⟩ = false := by
  unfold World.frozen?
  rw [h.blk]
  simp
theorem Dsk.c0 (h : Dsk w D M s) : w.cell? ⟨D, 0, none⟩ = some (.bool s.fl) := h.cell 0
theorem Dsk.c1 (h : Dsk w D M s) : w.cell? ⟨D, 1, none⟩ = some (.bool s.bd) := h.cell 1
theorem Dsk.c2 (h : Dsk w D M s) : w.cell? ⟨D, 2, none⟩ = some (.int .i64 (s.lf : Int)) := h.cell 2
theorem Dsk.c3 (h : Dsk w D M s) : w.cell? ⟨D, 3, none⟩ = some (.pointer (some ⟨D, 0, none⟩)) := h.cell 3
theorem Dsk.c4 (h : Dsk w D M s) : w.cell? ⟨D, 4, none⟩ = some (.int .i64 (s.mo : Int)) := h.cell 4
theorem Dsk.c5 (h : Dsk w D M s) : w.cell? ⟨D, 5, none⟩ = some (.map (some M)) := h.cell 5
theorem Dsk.apart (h : Dsk w D M s) : Apart s.fs := by
  obtain ⟨es, e, hp⟩ := h.map.tidy kS
  have e2 : es = s.fs.map Fl.ent := by injection e with e; exact e.symm
  subst e2
  rw [List.pairwise_map] at hp
  exact hp.imp (fun hne e => hne (by show Lit.string _ = Lit.string _; rw [e]))
theorem Dsk.rising (h : Dsk w D M s) : s.fs.Pairwise fun f g => bytesBefore f.nm g.nm = true := by
  obtain ⟨es, clock, _, F, _, e⟩ := h.map
  have hs := sorted_sorted kS.one _ (fit_keys F) (fit_apart kS F)
  have e2 : (es.toList.map (WideElems.rg Tryz.prog 9 flR)).foldr DataW.insert [] = s.fs.map Fl.ent := by injection e with e; exact e.symm
  rw [e2, List.pairwise_map] at hs
  exact hs
/-- The blocks of a disk's own lie from B on. -/
def From (B D M : Nat) (fs : List Fl) : Prop := ∀ k, foot D M fs k → B ≤ k
theorem heap_cells_set (w : World) (D k : Nat) (cs : Array Value) (t : TypeId) (v : Value) (h : w.heap[D]? = some (.cells cs t (0, 0))) : (w.setCell ⟨D, k, none⟩ v).heap[D]? = some (.cells (cs.setIfInBounds k v) t (0, 0)) := by
  have hl := (Array.getElem?_eq_some_iff.1 h)
  simp only [World.setCell, Array.getElem?_modify, h]
  simp
/-- One cell of a disk's block turned: power alone. -/
theorem Dsk.power (h : Dsk w D M s) (hf : Fr (fun k => k = D) w w') (fl bd : Bool) (lf : Nat) (hl : (lf : Int) ≤ 9223372036854775807)
    (hb : w'.heap[D]? = some (.cells (({ s with fl := fl, bd := bd, lf := lf } : St).cells D M) 50 (0, 0))) : Dsk w' D M { s with fl := fl, bd := bd, lf := lf } := by
  have hk : ∀ k, foot D M s.fs k → k ≠ D → w'.heap[k]? = w.heap[k]? := fun k hk hne => hf.block k (h.foot_lt hk) hne
  refine ⟨hb, ?_, fun f hf' => own_keep (h.rows f hf') (fun k hk' => hk k (.inr (.inr ⟨f, hf', hk'⟩)) (h.row_ne hf' hk').1), h.sep, h.firm, h.nms, h.room, h.most, h.few, hl⟩
  obtain ⟨es, clock, hm, r⟩ := h.map
  exact ⟨es, clock, (hk M (.inr (.inl rfl)) h.ne.symm).trans hm, r⟩
end
end Go.Proofs.YtggejecmhfafoaaGreatDoor

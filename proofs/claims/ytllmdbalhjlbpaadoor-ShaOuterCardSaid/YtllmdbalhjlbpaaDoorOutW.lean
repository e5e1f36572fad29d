/-
  The walk of ShaOuter: it answers true, and nothing that was there has turned.
-/
import Derived.Test.YtllmdbalhjlbpaaDoorStillW
import Derived.Deep.AppendLies
namespace Go.Proofs.YtllmdbalhjlbpaaDoor
open Go.RowKit

set_option maxHeartbeats 1600000 in
set_option maxRecDepth 100000 in
theorem outer_far (A A2 : Option Addr) (n c n2 c2 : Nat) (w : World) (hn : 250 < n ∨ 1000 < n2) (ht : TabS w) :
    Calls Tryd.prog 10 #[.slice A n c, .slice A2 n2 c2] w fun e w' => e = .returned (.bool true) ∧ Below w.heap.size w w' := by
  have CA := Lib.hid (awake_sha w ht)
  clear ht
  by_cases h1 : 250 < n
  · go_enter Tryd.func10, Tryd.ntmps10
    go_wp2_with fail
    refine CA.out.mono ?_
    rintro e w1 ⟨rfl, hb⟩
    go_wp2_with fail
    go_ret
    exact ⟨rfl, hb⟩
  · have h2 : 1000 < n2 := by omega
    go_enter Tryd.func10, Tryd.ntmps10
    go_wp2_with fail
    refine CA.out.mono ?_
    rintro e w1 ⟨rfl, hb⟩
    go_wp2_with fail
    go_ret
    exact ⟨rfl, hb⟩

/-- What the two lists of the program's loops are, at a time: the key's block, the row of the two, each one's bytes in memory of its own. -/
structure Parts (w wr : World) (b0 g : Nat) (K : List UInt8) (v0 v1 : Value) (L0 L1 : List UInt8) : Prop where
  bel : Below w.heap.size w wr
  lo : w.heap.size ≤ b0
  hi : b0 < g
  blk : Arr wr b0 5 (bcs K)
  row : Arr wr g 47 #[v0, v1]
  own0 : wr.ownsRow (g + 1) 5 1 v0 L0.length (bvs L0)
  own1 : wr.ownsRow (g + 1) 5 1 v1 L1.length (bvs L1)
  ap : v0.ownBlock = none ∨ v1.ownBlock = none ∨ v0.ownBlock ≠ v1.ownBlock
set_option maxRecDepth 100000 in
theorem Arr.grown {w w' : World} {b : Nat} {t : TypeId} {c : Array Value} {row : Option Nat} (h : Arr w b t c) (hg : w.grownBy w' row) (hne : some b ≠ row) : Arr w' b t c := (hg.block b h.lt hne).trans h
set_option maxRecDepth 100000 in
theorem grown_set (w : World) (g i : Nat) (v : Value) : w.grownBy (w.setCell ⟨g, i, none⟩ v) (some g) :=
  ⟨rfl, rfl, rfl, by simp, fun k _ hk => heap_setCell_other w ⟨g, i, none⟩ k v (fun e => hk (by rw [e]))⟩
set_option maxRecDepth 100000 in
theorem parts_row {w wr w2 : World} {b0 g : Nat} {K : List UInt8} {v0 v1 : Value} {L0 L1 : List UInt8} (h : Parts w wr b0 g K v0 v1 L0 L1) (o : Obj) {row : Option Nat} (hg : (wr.alloc o).grownBy w2 row) (hr : row = v0.ownBlock ∨ row = v1.ownBlock) :
    Arr w2 g 47 #[v0, v1] := by
  refine (h.row.alloc o).grown hg ?_
  rcases hr with rfl | rfl
  · intro e
    have := (h.own0.lt g e.symm).1
    omega
  · intro e
    have := (h.own1.lt g e.symm).1
    omega
set_option maxRecDepth 100000 in
theorem parts_zero {w wr w2 : World} {b0 g gn cap N : Nat} {K : List UInt8} {v0 v1 : Value} {L0 L1 : List UInt8} {x : UInt8} (h : Parts w wr b0 g K v0 v1 L0 L1) (o : Obj) (hg : (wr.alloc o).grownBy w2 v0.ownBlock)
    (hN : (L0 ++ [x]).length = N) (hown : w2.ownsRow (g + 1) 5 1 (.slice (some ⟨gn, 0, none⟩) N cap) N (bvs (L0 ++ [x]))) (hat : v0.ownBlock = some gn ∨ gn = wr.heap.size + 1) :
    Parts w (w2.setCell ⟨g, 0, none⟩ (.slice (some ⟨gn, 0, none⟩) N cap)) b0 g K (.slice (some ⟨gn, 0, none⟩) N cap) v1 (L0 ++ [x]) L1 := by
  have hrow := parts_row h o hg (.inl rfl)
  have hgn : g + 1 ≤ gn := (hown.lt gn rfl).1
  have hbel := h.bel
  have hlo := h.lo
  have hhi := h.hi
  have hsz := hbel.size
  have hne0 : some b0 ≠ v0.ownBlock := fun e => by have := (h.own0.lt b0 e.symm).1; omega
  have hv1 : v1.ownBlock = none ∨ v1.ownBlock ≠ v0.ownBlock := by
    rcases h.ap with e | e | e
    · cases hv : v1.ownBlock with
      | none => exact .inl rfl
      | some k => exact .inr (by rw [e]; simp)
    · exact .inl e
    · exact .inr (Ne.symm e)
  have hv1n : v1.ownBlock = none ∨ v1.ownBlock ≠ some gn := by
    rcases hat with e | e
    · rw [← e]; exact hv1
    · cases hv : v1.ownBlock with
      | none => exact .inl rfl
      | some k =>
        have := (h.own1.lt k hv).2
        exact .inr (by intro e2; injection e2 with e2; omega)
  have hs := grown_set w2 g 0 (.slice (some ⟨gn, 0, none⟩) N cap)
  exact {
    bel := ((hbel.alloc hsz o).grown hg (by simp; omega) (fun k hk => by have := (h.own0.lt k hk).1; omega)).setCell (by show w.heap.size ≤ g; omega) _
    lo := hlo
    hi := hhi
    blk := (((h.blk.alloc o).grown hg hne0).grown hs (by intro e; injection e with e; omega))
    row := by have := hrow.set 0 (.slice (some ⟨gn, 0, none⟩) N cap); simpa using this
    own0 := by rw [hN]; exact hown.kept hs (.inr (by intro e; injection e with e; have e2 : gn = g := e; omega))
    own1 := ((h.own1.alloc o).kept hg hv1).kept hs (by
      cases hv : v1.ownBlock with
      | none => exact .inl rfl
      | some k =>
        have := (h.own1.lt k hv).1
        exact .inr (by intro e; injection e with e; omega))
    ap := by
      rcases hv1n with e | e
      · exact .inr (.inl e)
      · exact .inr (.inr (fun e2 => e (e2.symm))) }
set_option maxRecDepth 100000 in
theorem parts_one {w wr w2 : World} {b0 g gn cap N : Nat} {K : List UInt8} {v0 v1 : Value} {L0 L1 : List UInt8} {x : UInt8} (h : Parts w wr b0 g K v0 v1 L0 L1) (o : Obj) (hg : (wr.alloc o).grownBy w2 v1.ownBlock)
    (hN : (L1 ++ [x]).length = N) (hown : w2.ownsRow (g + 1) 5 1 (.slice (some ⟨gn, 0, none⟩) N cap) N (bvs (L1 ++ [x]))) (hat : v1.ownBlock = some gn ∨ gn = wr.heap.size + 1) :
    Parts w (w2.setCell ⟨g, 1, none⟩ (.slice (some ⟨gn, 0, none⟩) N cap)) b0 g K v0 (.slice (some ⟨gn, 0, none⟩) N cap) L0 (L1 ++ [x]) := by
  have hrow := parts_row h o hg (.inr rfl)
  have hgn : g + 1 ≤ gn := (hown.lt gn rfl).1
  have hbel := h.bel
  have hlo := h.lo
  have hhi := h.hi
  have hsz := hbel.size
  have hne0 : some b0 ≠ v1.ownBlock := fun e => by have := (h.own1.lt b0 e.symm).1; omega
  have hv1 : v0.ownBlock = none ∨ v0.ownBlock ≠ v1.ownBlock := by
    rcases h.ap with e | e | e
    · exact .inl e
    · cases hv : v0.ownBlock with
      | none => exact .inl rfl
      | some k => exact .inr (by rw [e]; simp)
    · exact .inr e
  have hv1n : v0.ownBlock = none ∨ v0.ownBlock ≠ some gn := by
    rcases hat with e | e
    · rw [← e]; exact hv1
    · cases hv : v0.ownBlock with
      | none => exact .inl rfl
      | some k =>
        have := (h.own0.lt k hv).2
        exact .inr (by intro e2; injection e2 with e2; omega)
  have hs := grown_set w2 g 1 (.slice (some ⟨gn, 0, none⟩) N cap)
  exact {
    bel := ((hbel.alloc hsz o).grown hg (by simp; omega) (fun k hk => by have := (h.own1.lt k hk).1; omega)).setCell (by show w.heap.size ≤ g; omega) _
    lo := hlo
    hi := hhi
    blk := (((h.blk.alloc o).grown hg hne0).grown hs (by intro e; injection e with e; omega))
    row := by have := hrow.set 1 (.slice (some ⟨gn, 0, none⟩) N cap); simpa using this
    own1 := by rw [hN]; exact hown.kept hs (.inr (by intro e; injection e with e; have e2 : gn = g := e; omega))
    own0 := ((h.own0.alloc o).kept hg hv1).kept hs (by
      cases hv : v0.ownBlock with
      | none => exact .inl rfl
      | some k =>
        have := (h.own0.lt k hv).1
        exact .inr (by intro e; injection e with e; omega))
    ap := by
      rcases hv1n with e | e
      · exact .inl e
      · exact .inr (.inr e) }
set_option maxRecDepth 100000 in
theorem below_grown {w w' : World} (h : Below w.heap.size w w') (row : Option Nat) : w.grownBy w' row := ⟨h.os, h.tape, h.output, h.size, fun k hk _ => h.block k hk⟩
set_option maxRecDepth 100000 in
theorem parts_last {w wr w2 : World} {b0 g : Nat} {K : List UInt8} {v0 v1 : Value} {L0 L1 : List UInt8} (h : Parts w wr b0 g K v0 v1 L0 L1) (hg : wr.grownBy w2 v0.ownBlock) :
    Arr w2 g 47 #[v0, v1] ∧ w2.ownsRow (g + 1) 5 1 v1 L1.length (bvs L1) ∧ Below w.heap.size w w2 := by
  have hlo := h.lo
  have hhi := h.hi
  refine ⟨h.row.grown hg (fun e => by have := (h.own0.lt g e.symm).1; omega), h.own1.kept hg ?_, h.bel.grown hg h.bel.size (fun k hk => by have := (h.own0.lt k hk).1; omega)⟩
  rcases h.ap with e | e | e
  · cases hv : v1.ownBlock with
    | none => exact .inl rfl
    | some k => exact .inr (by rw [e]; simp)
  · exact .inl e
  · exact .inr (Ne.symm e)
end Go.Proofs.YtllmdbalhjlbpaaDoor

/-
  Several texts in one: FrameI, FrameJ, FrameL, FrameX, FrameY. No statement of the seat is proved here.
-/
import Derived.Test.YtefopgdmadgheaaDoorItA
import Derived.Test.YtefopgdmadgheaaDoorCards
import Derived.Test.YtefopgdmadgheaaDoorTie
import Derived.ProofKit
import Derived.OpenShut
import Derived.ChangeOld
import Derived.Deep.DeepHandedRow
import Derived.Deep.Slices
import Derived.Deep.Fields
import Derived.ChangeSame
import Derived.Test.YtefopgdmadgheaaDoorBgA
import Derived.Test.YtefopgdmadgheaaDoorChI
import Derived.Test.YtefopgdmadgheaaDoorChBw
namespace Go.Proofs.YtefopgdmadgheaaDoor
open Go.ChangeShapes Go.WideShapes Go.ChangeAt Go.RowKit Go.Deep

theorem own : ownKnob Tryd.prog.godebug = none := by kernel_rfl
theorem laidOut : laidOutB Tryd.prog = true := by kernel_rfl
/-- A world for the witness: the settled one, the table holding what its initialiser lays. -/
def laying (cs : Array Value) : Obj → Obj
  | .cells _ t frozen => .cells cs t frozen
  | o => o
def itCells : Array Value := ((List.range 13).flatMap fun i => [Value.string (nmI i), .int .i64 (stI i), .bool (blI i), .int .u8 (gvI i : Int)]).toArray
noncomputable def laidWorld (os : Os) : World :=
  { World.holding Tryd.prog os ⟨#[], #[], []⟩ with heap := ((World.holding Tryd.prog os ⟨#[], #[], []⟩).heap).modify 0 (laying itCells) }
end Go.Proofs.YtefopgdmadgheaaDoor
namespace Go.Proofs.YtefopgdmadgheaaDoor
open Go.ChangeShapes Go.WideShapes Go.ChangeAt Go.RowKit Go.Deep

theorem list_of {α : Type} (P : Nat → α → Prop) : ∀ n : Nat, (∀ i, i < n → ∃ x, P i x) → ∃ l : List α, l.length = n ∧ ∀ i (h : i < l.length), P i l[i]
  | 0, _ => ⟨[], rfl, fun i h => absurd h (by simp)⟩
  | n + 1, hx => by
    obtain ⟨l, hl, hp⟩ := list_of P n (fun i hi => hx i (by omega))
    obtain ⟨x, hxn⟩ := hx n (by omega)
    refine ⟨l ++ [x], by simp [hl], fun i hi => ?_⟩
    rcases Nat.lt_or_ge i l.length with h | h
    · rw [List.getElem_append_left h]
      exact hp i h
    · have e : i = n := by simp [hl] at hi; omega
      subst e
      have : (l ++ [x])[i] = x := by rw [List.getElem_append_right h]; simp
      rw [this]
      exact hxn
theorem cells_slot : Tryd.prog.cellsOf 29 = 2 := by kernel_rfl
set_option maxRecDepth 100000 in
theorem open_slot {H : Type} {enc : TypeId × Value → H} {W : World} {held : Bool} {base fuel : Nat} {a : Addr} {cs : List Value} {x : DataW H × List MemPlace}
    (hc : W.cells? base a 2 = some cs) (h : DataW.trod enc Tryd.prog W base (fun _ => true) held fuel 29 cs = some x) : ∃ s : Nat × Int, s.1 < 256 ∧ W.cell? a = some (.int .u8 (s.1 : Int)) ∧ W.cell? (a.add 1) = some (.int .i64 s.2) := by
  obtain ⟨_, hlen, hat⟩ := World.cells?_some hc
  obtain ⟨y0, y1, n, rfl, _, f0, f1⟩ := trod_struct2 Tryd.underlying29 h
  match cs, hlen with
  | [u0, u1], _ =>
    have c0 := hat 0 (by omega)
    have c1 := hat 1 (by omega)
    simp only [cells_item, cells_int] at f0 f1
    obtain ⟨k, e0, _, w0⟩ := DataW.trod_int Tryd.underlying27 f0
    obtain ⟨m, e1, _, _⟩ := DataW.trod_int Tryd.underlying3 f1
    have b0 := bounds_u8 w0
    have q0 : u0 = .int .u8 k := by simpa using e0
    have q1 : u1 = .int .i64 m := by simpa using e1
    subst q0 q1
    have : a.add 0 = a := by simp [Addr.add]
    rw [this] at c0
    refine ⟨(k.toNat, m), by show k.toNat < 256; omega, ?_, c1⟩
    rw [c0, show (((k.toNat : Nat) : Int)) = k by omega]
    rfl
set_option maxRecDepth 100000 in
theorem open_slots {H : Type} {enc : TypeId × Value → H} {W : World} {held : Bool} {A : Option Addr} {n c : Nat} {d : DataW H} {p : List MemPlace} {base : Nat}
    (h : DataW.Trod enc Tryd.prog W base (fun _ => true) held 30 (Value.slice A n c) d p) : n ≤ c ∧ c ≤ maxLen ∧ ∃ l, RdS W A n l ∧ By l := by
  obtain ⟨fuel, hf⟩ := h
  rcases open_slice Tryd.underlying30 hf with ⟨hcs, _⟩ | ⟨a, len, cap, m, k, D, Pl, hcs, _, hl, hmx, hm, _, hi⟩
  · simp [Value.cells] at hcs
    obtain ⟨rfl, rfl, rfl⟩ := hcs
    exact ⟨Nat.le_refl _, Nat.zero_le _, [], RdS.nil _ _, fun s hs => by cases hs⟩
  · simp [Value.cells] at hcs
    obtain ⟨rfl, rfl, rfl⟩ := hcs
    have hmc : n ≤ m := by rw [hm]; simpa using hl
    rw [cells_slot] at hi
    obtain ⟨xs, hxl, hx⟩ := list_of (fun i (s : Nat × Int) => s.1 < 256 ∧ W.cell? (a.add (i * 2)) = some (.int .u8 (s.1 : Int)) ∧ W.cell? ((a.add (i * 2)).add 1) = some (.int .i64 s.2)) n (fun i hin => by
      obtain ⟨cs', hc, ht'⟩ := hi i (by omega)
      exact open_slot hc ht')
    refine ⟨hl, hmx, xs, ⟨hxl, fun hn => ?_⟩, fun s hs => ?_⟩
    · obtain ⟨_, h0, _⟩ := hx 0 (by omega)
      obtain ⟨b, o, spot⟩ := a
      have hspot : spot = none := by simpa [Addr.add] using World.cell?_spot h0
      subst hspot
      refine ⟨b, o, rfl, World.block_lt_of_cell? W _ (by simpa [Addr.add_lit] using h0), fun j hj => ?_⟩
      obtain ⟨_, h1, h2⟩ := hx j hj
      rw [Addr.add_lit] at h1 h2
      rw [Addr.add_lit] at h2
      exact ⟨h1, h2⟩
    · obtain ⟨j, hj, rfl⟩ := List.getElem_of_mem hs
      exact (hx j hj).1
end Go.Proofs.YtefopgdmadgheaaDoor
namespace Go.Proofs.YtefopgdmadgheaaDoor
open Go.ChangeShapes Go.WideShapes Go.ChangeAt Go.RowKit Go.Deep
end Go.Proofs.YtefopgdmadgheaaDoor
namespace Go.Proofs.YtefopgdmadgheaaDoor
open Go.ChangeShapes Go.WideShapes Go.ChangeAt Go.RowKit Go.Deep

theorem cells_hpX : Tryd.prog.cellsOf 63 = 3 := by kernel_rfl
theorem cells_bxX : Tryd.prog.cellsOf 49 = 2 := by kernel_rfl
theorem cells_slsX : Tryd.prog.cellsOf 30 = 1 := by kernel_rfl
theorem cells_itsX : Tryd.prog.cellsOf 22 = 1 := by kernel_rfl
theorem cells_hpsX : Tryd.prog.cellsOf 23 = 1 := by kernel_rfl
theorem cells_bxsX : Tryd.prog.cellsOf 24 = 1 := by kernel_rfl
theorem cells_chX : Tryd.prog.cellsOf 26 = 5 := by kernel_rfl
set_option maxRecDepth 100000 in
theorem slice_shapeX {H : Type} {enc : TypeId × Value → H} {W : World} {held : Bool} {base fuel : Nat} {t e : TypeId} {v : Value} {x : DataW H × List MemPlace} (ht : Tryd.prog.underlying t = some (.slice e))
    (h : DataW.trod enc Tryd.prog W base (fun _ => true) held fuel t [v] = some x) : ∃ A sn sc, v = .slice A sn sc := by
  rcases open_slice ht h with ⟨e2, _⟩ | ⟨b, sn, sc, _, _, _, _, e2, _⟩
  · exact ⟨none, 0, 0, by simpa using e2⟩
  · exact ⟨some b, sn, sc, by simpa using e2⟩
theorem open_rowX {α H : Type} {enc : TypeId × Value → H} {W : World} {held : Bool} {A : Option Addr} {n c : Nat} {d : DataW H} {p : List MemPlace} {base : Nat} {t e : TypeId} (size : Nat) (At : Addr → α → Prop) (Ok : α → Prop)
    (ht : Tryd.prog.underlying t = some (.slice e)) (hsz : Tryd.prog.cellsOf e = size)
    (each : ∀ (a : Addr) (cs : List Value) (fuel : Nat) (x : DataW H × List MemPlace), W.cells? base a size = some cs → DataW.trod enc Tryd.prog W base (fun _ => true) held fuel e cs = some x → ∃ y, At a y ∧ Ok y)
    (first : ∀ a y, At a y → ∃ v, W.cell? a = some v)
    (h : DataW.Trod enc Tryd.prog W base (fun _ => true) held t (Value.slice A n c) d p) : n ≤ c ∧ c ≤ maxLen ∧ ∃ xs, RwK W size At A n xs ∧ ∀ x ∈ xs, Ok x := by
  obtain ⟨fuel, hf⟩ := h
  rcases open_slice ht hf with ⟨hcs, _⟩ | ⟨a, len, cap, m, k, D, Pl, hcs, _, hl, hmx, hm, _, hi⟩
  · simp [Value.cells] at hcs
    obtain ⟨rfl, rfl, rfl⟩ := hcs
    exact ⟨Nat.le_refl _, Nat.zero_le _, [], ⟨rfl, (fun h => absurd h (by omega))⟩, fun x hx => by cases hx⟩
  · simp [Value.cells] at hcs
    obtain ⟨rfl, rfl, rfl⟩ := hcs
    have hmc : n ≤ m := by rw [hm]; simpa using hl
    rw [hsz] at hi
    obtain ⟨xs, hxl, hx⟩ := list_of (fun i y => At (a.add (i * size)) y ∧ Ok y) n (fun i hin => by
      obtain ⟨cs', hc, ht'⟩ := hi i (by omega)
      exact each _ _ _ _ hc ht')
    refine ⟨hl, hmx, xs, ⟨hxl, fun hn => ?_⟩, fun x hxm => ?_⟩
    · obtain ⟨v, h0⟩ := first _ _ (hx 0 (by omega)).1
      obtain ⟨b, o, spot⟩ := a
      have hspot : spot = none := by simpa [Addr.add] using World.cell?_spot h0
      subst hspot
      refine ⟨b, o, rfl, World.block_lt_of_cell? W _ (by simpa [Addr.add_lit] using h0), fun j hj => ?_⟩
      have := (hx j hj).1
      rw [Addr.add_lit] at this
      exact this
    · obtain ⟨j, hj, rfl⟩ := List.getElem_of_mem hxm
      exact (hx j hj).2
set_option maxRecDepth 100000 in
theorem open_itemX {H : Type} {enc : TypeId × Value → H} {W : World} {held : Bool} {base fuel : Nat} {a : Addr} {cs : List Value} {x : DataW H × List MemPlace}
    (hc : W.cells? base a 1 = some cs) (h : DataW.trod enc Tryd.prog W base (fun _ => true) held fuel 27 cs = some x) : ∃ i : Nat, ItAt W a i ∧ i < 256 := by
  obtain ⟨_, hlen, hat⟩ := World.cells?_some hc
  match cs, hlen with
  | [u0], _ =>
    have c0 := hat 0 (by omega)
    obtain ⟨k, e0, _, w0⟩ := DataW.trod_int Tryd.underlying27 h
    have b0 := bounds_u8 w0
    have q0 : u0 = .int .u8 k := by simpa using e0
    subst q0
    have : a.add 0 = a := by simp [Addr.add]
    rw [this] at c0
    refine ⟨k.toNat, ?_, by omega⟩
    show W.cell? a = _
    rw [c0, show (((k.toNat : Nat) : Int)) = k by omega]
    rfl
set_option maxRecDepth 100000 in
theorem open_heapX {H : Type} {enc : TypeId × Value → H} {W : World} {held : Bool} {base fuel : Nat} {a : Addr} {cs : List Value} {x : DataW H × List MemPlace}
    (hc : W.cells? base a 3 = some cs) (h : DataW.trod enc Tryd.prog W base (fun _ => true) held fuel 63 cs = some x) : ∃ i : Hp, HpAt W a i ∧ i.2.1 < 256 := by
  obtain ⟨_, hlen, hat⟩ := World.cells?_some hc
  obtain ⟨xs, n, _, _, _, hxl, hf⟩ := DataW.trod_struct Tryd.underlying63 h
  match cs, hlen with
  | [u0, u1, u2], _ =>
    have c0 := hat 0 (by omega)
    have c1 := hat 1 (by omega)
    have c2 := hat 2 (by omega)
    have f0 : DataW.trod enc Tryd.prog W base (fun _ => true) held n 3 (List.take (Tryd.prog.cellsOf 3) (List.drop 0 [u0, u1, u2])) = xs[0]? := hf 0 _ rfl
    have f1 : DataW.trod enc Tryd.prog W base (fun _ => true) held n 29 (List.take (Tryd.prog.cellsOf 29) (List.drop 1 [u0, u1, u2])) = xs[1]? := hf 1 _ rfl
    clear hf
    rw [cells_int] at f0
    rw [cells_slot] at f1
    have hx2 : xs.length = 2 := hxl
    rw [List.getElem?_eq_getElem (by omega)] at f0 f1
    obtain ⟨k, e0, _, w0⟩ := DataW.trod_int Tryd.underlying3 f0
    have q0 : u0 = .int .i64 k := by simpa using e0
    subst q0
    obtain ⟨y0, y1, m, _, _, g0, g1⟩ := trod_struct2 Tryd.underlying29 f1
    simp only [cells_item, cells_int] at g0 g1
    obtain ⟨i, e1, _, w1⟩ := DataW.trod_int Tryd.underlying27 g0
    obtain ⟨z, e2, _, _⟩ := DataW.trod_int Tryd.underlying3 g1
    have b1 := bounds_u8 w1
    have q1 : u1 = .int .u8 i := by simpa using e1
    have q2 : u2 = .int .i64 z := by simpa using e2
    subst q1 q2
    have : a.add 0 = a := by simp [Addr.add]
    rw [this] at c0
    refine ⟨(k, i.toNat, z), ⟨c0, ?_, c2⟩, by show i.toNat < 256; omega⟩
    rw [c1, show (((i.toNat : Nat) : Int)) = i by omega]
    rfl
set_option maxRecDepth 100000 in
theorem open_boxX {H : Type} {enc : TypeId × Value → H} {W : World} {held : Bool} {base fuel : Nat} {a : Addr} {cs : List Value} {x : DataW H × List MemPlace}
    (hc : W.cells? base a 2 = some cs) (h : DataW.trod enc Tryd.prog W base (fun _ => true) held fuel 49 cs = some x) : ∃ b : Bx, BxAt W a b ∧ (By b.l ∧ b.n ≤ 9223372036854775807) := by
  obtain ⟨_, hlen, hat⟩ := World.cells?_some hc
  obtain ⟨xs, n, _, _, _, hxl, hf⟩ := DataW.trod_struct Tryd.underlying49 h
  match cs, hlen with
  | [u0, u1], _ =>
    have c0 := hat 0 (by omega)
    have c1 := hat 1 (by omega)
    have f0 : DataW.trod enc Tryd.prog W base (fun _ => true) held n 3 (List.take (Tryd.prog.cellsOf 3) (List.drop 0 [u0, u1])) = xs[0]? := hf 0 _ rfl
    have f1 : DataW.trod enc Tryd.prog W base (fun _ => true) held n 30 (List.take (Tryd.prog.cellsOf 30) (List.drop 1 [u0, u1])) = xs[1]? := hf 1 _ rfl
    clear hf
    rw [cells_int] at f0
    rw [cells_slsX] at f1
    have hx2 : xs.length = 2 := hxl
    rw [List.getElem?_eq_getElem (by omega)] at f0 f1
    obtain ⟨k, e0, _, w0⟩ := DataW.trod_int Tryd.underlying3 f0
    have q0 : u0 = .int .i64 k := by simpa using e0
    subst q0
    obtain ⟨A, sn, sc, rfl⟩ := slice_shapeX Tryd.underlying30 f1
    obtain ⟨hle, hmx, l, hl, hby⟩ := open_slots (A := A) (n := sn) (c := sc) (d := (xs[1]'(by omega)).1) (p := (xs[1]'(by omega)).2) (base := base) (enc := enc) (W := W) (held := held) ⟨n, f1⟩
    have : a.add 0 = a := by simp [Addr.add]
    rw [this] at c0
    refine ⟨⟨k, A, sn, sc, l⟩, ⟨c0, c1, hl⟩, hby, ?_⟩
    unfold maxLen at hmx
    show sn ≤ _
    omega
set_option maxRecDepth 100000 in
/-- A chunk that came in by value. -/
theorem open_chunk {H : Type} {enc : TypeId × Value → H} {W : World} {held : Bool} {v : Value} {d : DataW H} {p : List MemPlace} {base : Nat} {r : Reach} {b0 : Nat}
    (hv : Value.okWide Tryd.prog W r b0 26 v) (h : DataW.Trod enc Tryd.prog W base (fun _ => true) held 26 v d p) : ∃ C : Ch, v = C.val ∧ InC W C := by
  have hs : ∃ cs, v = .agg cs ∧ cs.size = Tryd.prog.cellsOf 26 := by
    simp only [Value.okWide, Tryd.underlying26] at hv
    obtain ⟨cs, h1, h2, _⟩ := hv
    exact ⟨cs, h1, h2⟩
  obtain ⟨cs, rfl, hsz⟩ := hs
  rw [cells_chX] at hsz
  obtain ⟨u0, u1, u2, u3, u4, rfl⟩ : ∃ u0 u1 u2 u3 u4, cs = #[u0, u1, u2, u3, u4] := by
    obtain ⟨l⟩ := cs
    match l, hsz with
    | [u0, u1, u2, u3, u4], _ => exact ⟨u0, u1, u2, u3, u4, rfl⟩
  obtain ⟨fuel, hf⟩ := h
  obtain ⟨xs, n, _, _, _, hxl, hx⟩ := DataW.trod_struct Tryd.underlying26 hf
  have f0 : DataW.trod enc Tryd.prog W base (fun _ => true) held n 3 (List.take (Tryd.prog.cellsOf 3) (List.drop 0 [u0, u1, u2, u3, u4])) = xs[0]? := hx 0 _ rfl
  have f1 : DataW.trod enc Tryd.prog W base (fun _ => true) held n 3 (List.take (Tryd.prog.cellsOf 3) (List.drop 1 [u0, u1, u2, u3, u4])) = xs[1]? := hx 1 _ rfl
  have f2 : DataW.trod enc Tryd.prog W base (fun _ => true) held n 22 (List.take (Tryd.prog.cellsOf 22) (List.drop 2 [u0, u1, u2, u3, u4])) = xs[2]? := hx 2 _ rfl
  have f3 : DataW.trod enc Tryd.prog W base (fun _ => true) held n 23 (List.take (Tryd.prog.cellsOf 23) (List.drop 3 [u0, u1, u2, u3, u4])) = xs[3]? := hx 3 _ rfl
  have f4 : DataW.trod enc Tryd.prog W base (fun _ => true) held n 24 (List.take (Tryd.prog.cellsOf 24) (List.drop 4 [u0, u1, u2, u3, u4])) = xs[4]? := hx 4 _ rfl
  clear hx
  rw [cells_int] at f0 f1
  rw [cells_itsX] at f2
  rw [cells_hpsX] at f3
  rw [cells_bxsX] at f4
  have hx5 : xs.length = 5 := hxl
  rw [List.getElem?_eq_getElem (by omega)] at f0 f1 f2 f3 f4
  obtain ⟨x, e0, _, _⟩ := DataW.trod_int Tryd.underlying3 f0
  obtain ⟨y, e1, _, _⟩ := DataW.trod_int Tryd.underlying3 f1
  have q0 : u0 = .int .i64 x := by simpa using e0
  have q1 : u1 = .int .i64 y := by simpa using e1
  subst q0 q1
  obtain ⟨A1, n1, c1, rfl⟩ := slice_shapeX Tryd.underlying22 f2
  obtain ⟨A2, n2, c2, rfl⟩ := slice_shapeX Tryd.underlying23 f3
  obtain ⟨A3, n3, c3, rfl⟩ := slice_shapeX Tryd.underlying24 f4
  obtain ⟨hl1, hm1, cs, hr1, ho1⟩ := open_rowX (A := A1) (n := n1) (c := c1) (d := (xs[2]'(by omega)).1) (p := (xs[2]'(by omega)).2) (base := base) (enc := enc) (W := W) (held := held) 1 (ItAt W) (fun i => i < 256) Tryd.underlying22 cells_item (fun _ _ _ _ hc hx => open_itemX hc hx) (fun _ _ hy => ⟨_, hy⟩) ⟨n, f2⟩
  obtain ⟨hl2, hm2, hps, hr2, ho2⟩ := open_rowX (A := A2) (n := n2) (c := c2) (d := (xs[3]'(by omega)).1) (p := (xs[3]'(by omega)).2) (base := base) (enc := enc) (W := W) (held := held) 3 (HpAt W) (fun i => i.2.1 < 256) Tryd.underlying23 cells_hpX (fun _ _ _ _ hc hx => open_heapX hc hx) (fun _ _ hy => ⟨_, hy.1⟩) ⟨n, f3⟩
  obtain ⟨hl3, hm3, bs, hr3, ho3⟩ := open_rowX (A := A3) (n := n3) (c := c3) (d := (xs[4]'(by omega)).1) (p := (xs[4]'(by omega)).2) (base := base) (enc := enc) (W := W) (held := held) 2 (BxAt W) (fun b => By b.l ∧ b.n ≤ 9223372036854775807) Tryd.underlying24 cells_bxX (fun _ _ _ _ hc hx => open_boxX hc hx) (fun _ _ hy => ⟨_, hy.1⟩) ⟨n, f4⟩
  unfold maxLen at hm1 hm2 hm3
  refine ⟨⟨x, y, A1, n1, c1, cs, A2, n2, c2, hps, A3, n3, c3, bs⟩, rfl, ⟨⟨hr1, hr2, hr3⟩, hl3, ⟨?_, ?_, ?_, fun b hb => (ho3 b hb).2⟩, ⟨ho1, ho2, fun b hb => ?_⟩⟩⟩
  · show n1 ≤ _; omega
  · show n2 ≤ _; omega
  · show n3 ≤ _; omega
  · obtain ⟨b', hb', rfl⟩ := List.mem_map.1 hb
    exact (ho3 b' hb').1
set_option maxRecDepth 100000 in
/-- A slot that came in by value. -/
theorem open_slotv {H : Type} {enc : TypeId × Value → H} {W : World} {held : Bool} {v : Value} {d : DataW H} {p : List MemPlace} {base : Nat} {r : Reach} {b0 : Nat}
    (hv : Value.okWide Tryd.prog W r b0 29 v) (h : DataW.Trod enc Tryd.prog W base (fun _ => true) held 29 v d p) : ∃ (s : Nat) (m : Int), v = .agg #[.int .u8 (s : Int), .int .i64 m] ∧ s < 256 := by
  have hs : ∃ cs, v = .agg cs ∧ cs.size = Tryd.prog.cellsOf 29 := by
    simp only [Value.okWide, Tryd.underlying29] at hv
    obtain ⟨cs, h1, h2, _⟩ := hv
    exact ⟨cs, h1, h2⟩
  obtain ⟨cs, rfl, hsz⟩ := hs
  rw [cells_slot] at hsz
  obtain ⟨u0, u1, rfl⟩ : ∃ u0 u1, cs = #[u0, u1] := by
    obtain ⟨l⟩ := cs
    match l, hsz with
    | [u0, u1], _ => exact ⟨u0, u1, rfl⟩
  obtain ⟨fuel, hf⟩ := h
  obtain ⟨y0, y1, m, _, _, g0, g1⟩ := trod_struct2 Tryd.underlying29 hf
  simp only [cells_item, cells_int] at g0 g1
  obtain ⟨i, e1, _, w1⟩ := DataW.trod_int Tryd.underlying27 g0
  obtain ⟨z, e2, _, _⟩ := DataW.trod_int Tryd.underlying3 g1
  have b1 := bounds_u8 w1
  have q1 : u0 = .int .u8 i := by simpa [Value.cells] using e1
  have q2 : u1 = .int .i64 z := by simpa [Value.cells] using e2
  subst q1 q2
  refine ⟨i.toNat, z, ?_, by omega⟩
  rw [show (((i.toNat : Nat) : Int)) = i by omega]
theorem cells_u8X : Tryd.prog.cellsOf 5 = 1 := by kernel_rfl
end Go.Proofs.YtefopgdmadgheaaDoor
namespace Go.Proofs.YtefopgdmadgheaaDoor
open Go.ChangeShapes Go.WideShapes Go.ChangeAt Go.RowKit Go.Deep

set_option maxRecDepth 100000 in
/-- A slice of bytes that came in, opened: what it reads as, below the heap's end. -/
theorem open_bytesY {H : Type} {enc : TypeId × Value → H} {W : World} {held : Bool} {A : Option Addr} {n c : Nat} {d : DataW H} {p : List MemPlace} {base : Nat}
    (h : DataW.Trod enc Tryd.prog W base (fun _ => true) held 31 (Value.slice A n c) d p) : n ≤ c ∧ c ≤ maxLen ∧ ∃ l, Rd W W.heap.size A n l := by
  obtain ⟨fuel, hf⟩ := h
  rcases open_ints Tryd.underlying31 Tryd.underlying5 cells_u8X hf with ⟨hcs, _⟩ | ⟨x, l, c', zs, hcs, _, hl, hm, hz, _, hcell, hwz⟩
  · simp [Value.cells] at hcs
    obtain ⟨rfl, rfl, rfl⟩ := hcs
    exact ⟨Nat.le_refl _, Nat.zero_le _, [], Rd.nil⟩
  · simp [Value.cells] at hcs
    obtain ⟨rfl, rfl, rfl⟩ := hcs
    have hzl : zs.length = c := by simpa using hz
    refine ⟨hl, hm, (zs.take n).map (fun z => UInt8.ofNat z.toNat), by simp; omega, fun hn => ?_⟩
    have h0 := hcell 0 (by omega)
    obtain ⟨b, o, spot⟩ := x
    have hspot : spot = none := by simpa [Addr.add] using World.cell?_spot h0
    subst hspot
    refine ⟨b, o, rfl, World.block_lt_of_cell? W _ (by simpa [Addr.add_lit] using h0), fun j hj => ?_⟩
    have hj2 : j < n := by simp at hj; omega
    have hc := hcell j (by omega)
    rw [Addr.add_lit] at hc
    rw [hc]
    have hw := hwz _ (List.getElem_mem (show j < zs.length by omega))
    have hb := bounds_u8 hw
    simp only [List.getElem_map, List.getElem_take, UInt8.toNat_ofNat']
    congr 2
    rw [List.getD_eq_getElem?_getD, List.getElem?_eq_getElem (show j < zs.length by omega)]
    simp only [Option.getD_some]
    omega
/-- A case: a cell, an item, a slot, a bag, bytes. -/
structure CaseV where
  cl : Int
  it : Nat
  s : Nat
  sm : Int
  Ab : Option Addr
  nb : Nat
  cb : Nat
  lb : List (Nat × Int)
  Ax : Option Addr
  nx : Nat
  cx : Nat
  lx : List UInt8
def CaseV.val (X : CaseV) : Value := .agg #[.int .i64 X.cl, .int .u8 (X.it : Int), .int .u8 (X.s : Int), .int .i64 X.sm, .slice X.Ab X.nb X.cb, .slice X.Ax X.nx X.cx]
structure CaseV.Ok (W : World) (X : CaseV) : Prop where
  o1 : X.it < 256
  o2 : X.s < 256
  o3 : RdS W X.Ab X.nb X.lb
  o4 : By X.lb
  o5 : Rd W W.heap.size X.Ax X.nx X.lx
  o6 : X.nx ≤ X.cx
theorem cells_caseX : Tryd.prog.cellsOf 33 = 6 := by kernel_rfl
theorem cells_bysX : Tryd.prog.cellsOf 31 = 1 := by kernel_rfl
set_option maxRecDepth 100000 in
theorem open_case {H : Type} {enc : TypeId × Value → H} {W : World} {held : Bool} {v : Value} {d : DataW H} {p : List MemPlace} {base : Nat} {r : Reach} {b0 : Nat}
    (hv : Value.okWide Tryd.prog W r b0 33 v) (h : DataW.Trod enc Tryd.prog W base (fun _ => true) held 33 v d p) : ∃ X : CaseV, v = X.val ∧ X.Ok W := by
  have hs : ∃ cs, v = .agg cs ∧ cs.size = Tryd.prog.cellsOf 33 := by
    simp only [Value.okWide, Tryd.underlying33] at hv
    obtain ⟨cs, h1, h2, _⟩ := hv
    exact ⟨cs, h1, h2⟩
  obtain ⟨cs, rfl, hsz⟩ := hs
  rw [cells_caseX] at hsz
  obtain ⟨u0, u1, u2, u3, u4, u5, rfl⟩ : ∃ u0 u1 u2 u3 u4 u5, cs = #[u0, u1, u2, u3, u4, u5] := by
    obtain ⟨l⟩ := cs
    match l, hsz with
    | [u0, u1, u2, u3, u4, u5], _ => exact ⟨u0, u1, u2, u3, u4, u5, rfl⟩
  obtain ⟨fuel, hf⟩ := h
  obtain ⟨xs, n, _, _, _, hxl, hx⟩ := DataW.trod_struct Tryd.underlying33 hf
  have f0 : DataW.trod enc Tryd.prog W base (fun _ => true) held n 3 (List.take (Tryd.prog.cellsOf 3) (List.drop 0 [u0, u1, u2, u3, u4, u5])) = xs[0]? := hx 0 _ rfl
  have f1 : DataW.trod enc Tryd.prog W base (fun _ => true) held n 5 (List.take (Tryd.prog.cellsOf 5) (List.drop 1 [u0, u1, u2, u3, u4, u5])) = xs[1]? := hx 1 _ rfl
  have f2 : DataW.trod enc Tryd.prog W base (fun _ => true) held n 29 (List.take (Tryd.prog.cellsOf 29) (List.drop 2 [u0, u1, u2, u3, u4, u5])) = xs[2]? := hx 2 _ rfl
  have f3 : DataW.trod enc Tryd.prog W base (fun _ => true) held n 30 (List.take (Tryd.prog.cellsOf 30) (List.drop 4 [u0, u1, u2, u3, u4, u5])) = xs[3]? := hx 3 _ rfl
  have f4 : DataW.trod enc Tryd.prog W base (fun _ => true) held n 31 (List.take (Tryd.prog.cellsOf 31) (List.drop 5 [u0, u1, u2, u3, u4, u5])) = xs[4]? := hx 4 _ rfl
  clear hx
  rw [cells_int] at f0
  rw [cells_u8X] at f1
  rw [cells_slot] at f2
  rw [cells_slsX] at f3
  rw [cells_bysX] at f4
  have hx5 : xs.length = 5 := hxl
  rw [List.getElem?_eq_getElem (by omega)] at f0 f1 f2 f3 f4
  obtain ⟨cl, e0, _, _⟩ := DataW.trod_int Tryd.underlying3 f0
  obtain ⟨it, e1, _, w1⟩ := DataW.trod_int Tryd.underlying5 f1
  obtain ⟨y0, y1, m, _, _, g0, g1⟩ := trod_struct2 Tryd.underlying29 f2
  simp only [cells_item, cells_int] at g0 g1
  obtain ⟨s, e2, _, w2⟩ := DataW.trod_int Tryd.underlying27 g0
  obtain ⟨sm, e3, _, _⟩ := DataW.trod_int Tryd.underlying3 g1
  have b1 := bounds_u8 w1
  have b2 := bounds_u8 w2
  have q0 : u0 = .int .i64 cl := by simpa using e0
  have q1 : u1 = .int .u8 it := by simpa using e1
  have q2 : u2 = .int .u8 s := by simpa using e2
  have q3 : u3 = .int .i64 sm := by simpa using e3
  subst q0 q1 q2 q3
  obtain ⟨Ab, nb, cb, rfl⟩ := slice_shapeX Tryd.underlying30 f3
  obtain ⟨Ax, nx, cx, rfl⟩ := slice_shapeX Tryd.underlying31 f4
  obtain ⟨_, _, lb, hlb, hby⟩ := open_slots (A := Ab) (n := nb) (c := cb) (d := (xs[3]'(by omega)).1) (p := (xs[3]'(by omega)).2) (base := base) (enc := enc) (W := W) (held := held) ⟨n, f3⟩
  obtain ⟨hcx, _, lx, hlx⟩ := open_bytesY (A := Ax) (n := nx) (c := cx) (d := (xs[4]'(by omega)).1) (p := (xs[4]'(by omega)).2) (base := base) (enc := enc) (W := W) (held := held) ⟨n, f4⟩
  refine ⟨⟨cl, it.toNat, s.toNat, sm, Ab, nb, cb, lb, Ax, nx, cx, lx⟩, ?_, ⟨by show it.toNat < 256; omega, by show s.toNat < 256; omega, hlb, hby, hlx, hcx⟩⟩
  unfold CaseV.val
  dsimp only
  rw [show (((it.toNat : Nat) : Int)) = it by omega, show (((s.toNat : Nat) : Int)) = s by omega]
theorem back_call {w : World} {C : Ch} {X : CaseV} (ht : ItT w) (h : InC w C) (hX : X.Ok w) : Calls Tryd.prog 3 #[C.val, X.val] w fun e w' => e = .returned (.bool true) ∧ Below w.heap.size w w' :=
  (back_walk ht h X.cl X.it X.s hX.o1 hX.o2 X.sm hX.o3 hX.o4 hX.o5 hX.o6).mono (fun _ _ h => ⟨h.1, h.2.noBelow⟩)
end Go.Proofs.YtefopgdmadgheaaDoor

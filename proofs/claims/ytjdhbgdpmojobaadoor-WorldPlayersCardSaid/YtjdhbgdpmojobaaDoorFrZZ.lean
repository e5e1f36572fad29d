/-
  Several texts in one: FrameI, FrameJ, FrameL, FrameX, FrameW, FrameZ. No statement of the seat is proved here.
-/
import Derived.Test.YtjdhbgdpmojobaaDoorItA
import Derived.Test.YtjdhbgdpmojobaaDoorCards
import Derived.Test.YtjdhbgdpmojobaaDoorTie
import Derived.ProofKit
import Derived.OpenShut
import Derived.ChangeOld
import Derived.Deep.DeepHandedRow
import Derived.Deep.Slices
import Derived.Deep.Fields
import Derived.ChangeSame
import Derived.Test.YtjdhbgdpmojobaaDoorBgA
import Derived.Test.YtjdhbgdpmojobaaDoorChI
import Derived.Test.YtjdhbgdpmojobaaDoorWdD
import Derived.Test.YtjdhbgdpmojobaaDoorWdZZ
namespace Go.Proofs.YtjdhbgdpmojobaaDoor
open Go.ChangeShapes Go.WideShapes Go.ChangeAt Go.RowKit Go.Deep

theorem own : ownKnob Tryd.prog.godebug = none := by kernel_rfl
theorem laidOut : laidOutB Tryd.prog = true := by kernel_rfl
/-- A world for the witness: the settled one, the table holding what its initialiser lays. -/
def laying (cs : Array Value) : Obj → Obj
  | .cells _ t frozen => .cells cs t frozen
  | o => o
def itCells : Array Value := ((List.range 13).flatMap fun i => [Value.string (nmI i), .int .i64 (stI i), .bool (blI i), .int .u8 (gvI i : Int)]).toArray
noncomputable def laidWorld (os : Os) : World :=
  { World.holding Tryd.prog os ⟨#[], #[], []⟩ with heap := ((World.holding Tryd.prog os ⟨#[], #[], []⟩).heap).modify 0 (laying itCells) }
end Go.Proofs.YtjdhbgdpmojobaaDoor
namespace Go.Proofs.YtjdhbgdpmojobaaDoor
open Go.ChangeShapes Go.WideShapes Go.ChangeAt Go.RowKit Go.Deep

theorem list_of {α : Type} (P : Nat → α → Prop) : ∀ n : Nat, (∀ i, i < n → ∃ x, P i x) → ∃ l : List α, l.length = n ∧ ∀ i (h : i < l.length), P i l[i]
  | 0, _ => ⟨[], rfl, fun i h => absurd h (by simp)⟩
  | n + 1, hx => by
    obtain ⟨l, hl, hp⟩ := list_of P n (fun i hi => hx i (by omega))
    obtain ⟨x, hxn⟩ := hx n (by omega)
    refine ⟨l ++ [x], by simp [hl], fun i hi => ?_⟩
    rcases Nat.lt_or_ge i l.length with h | h
    · rw [List.getElem_append_left h]
      exact hp i h
    · have e : i = n := by simp [hl] at hi; omega
      subst e
      have : (l ++ [x])[i] = x := by rw [List.getElem_append_right h]; simp
      rw [this]
      exact hxn
theorem cells_slot : Tryd.prog.cellsOf 112 = 2 := by kernel_rfl
set_option maxRecDepth 100000 in
theorem open_slot {H : Type} {enc : TypeId × Value → H} {W : World} {held : Bool} {base fuel : Nat} {a : Addr} {cs : List Value} {x : DataW H × List MemPlace}
    (hc : W.cells? base a 2 = some cs) (h : DataW.trod enc Tryd.prog W base (fun _ => true) held fuel 112 cs = some x) : ∃ s : Nat × Int, s.1 < 256 ∧ W.cell? a = some (.int .u8 (s.1 : Int)) ∧ W.cell? (a.add 1) = some (.int .i64 s.2) := by
  obtain ⟨_, hlen, hat⟩ := World.cells?_some hc
  obtain ⟨y0, y1, n, rfl, _, f0, f1⟩ := trod_struct2 Tryd.underlying112 h
  match cs, hlen with
  | [u0, u1], _ =>
    have c0 := hat 0 (by omega)
    have c1 := hat 1 (by omega)
    simp only [cells_item, cells_int] at f0 f1
    obtain ⟨k, e0, _, w0⟩ := DataW.trod_int Tryd.underlying50 f0
    obtain ⟨m, e1, _, _⟩ := DataW.trod_int Tryd.underlying3 f1
    have b0 := bounds_u8 w0
    have q0 : u0 = .int .u8 k := by simpa using e0
    have q1 : u1 = .int .i64 m := by simpa using e1
    subst q0 q1
    have : a.add 0 = a := by simp [Addr.add]
    rw [this] at c0
    refine ⟨(k.toNat, m), by show k.toNat < 256; omega, ?_, c1⟩
    rw [c0, show (((k.toNat : Nat) : Int)) = k by omega]
    rfl
set_option maxRecDepth 100000 in
theorem open_slots {H : Type} {enc : TypeId × Value → H} {W : World} {held : Bool} {A : Option Addr} {n c : Nat} {d : DataW H} {p : List MemPlace} {base : Nat}
    (h : DataW.Trod enc Tryd.prog W base (fun _ => true) held 33 (Value.slice A n c) d p) : n ≤ c ∧ c ≤ maxLen ∧ ∃ l, RdS W A n l ∧ By l := by
  obtain ⟨fuel, hf⟩ := h
  rcases open_slice Tryd.underlying33 hf with ⟨hcs, _⟩ | ⟨a, len, cap, m, k, D, Pl, hcs, _, hl, hmx, hm, _, hi⟩
  · simp [Value.cells] at hcs
    obtain ⟨rfl, rfl, rfl⟩ := hcs
    exact ⟨Nat.le_refl _, Nat.zero_le _, [], RdS.nil _ _, fun s hs => by cases hs⟩
  · simp [Value.cells] at hcs
    obtain ⟨rfl, rfl, rfl⟩ := hcs
    have hmc : n ≤ m := by rw [hm]; simpa using hl
    rw [cells_slot] at hi
    obtain ⟨xs, hxl, hx⟩ := list_of (fun i (s : Nat × Int) => s.1 < 256 ∧ W.cell? (a.add (i * 2)) = some (.int .u8 (s.1 : Int)) ∧ W.cell? ((a.add (i * 2)).add 1) = some (.int .i64 s.2)) n (fun i hin => by
      obtain ⟨cs', hc, ht'⟩ := hi i (by omega)
      exact open_slot hc ht')
    refine ⟨hl, hmx, xs, ⟨hxl, fun hn => ?_⟩, fun s hs => ?_⟩
    · obtain ⟨_, h0, _⟩ := hx 0 (by omega)
      obtain ⟨b, o, spot⟩ := a
      have hspot : spot = none := by simpa [Addr.add] using World.cell?_spot h0
      subst hspot
      refine ⟨b, o, rfl, World.block_lt_of_cell? W _ (by simpa [Addr.add_lit] using h0), fun j hj => ?_⟩
      obtain ⟨_, h1, h2⟩ := hx j hj
      rw [Addr.add_lit] at h1 h2
      rw [Addr.add_lit] at h2
      exact ⟨h1, h2⟩
    · obtain ⟨j, hj, rfl⟩ := List.getElem_of_mem hs
      exact (hx j hj).1
end Go.Proofs.YtjdhbgdpmojobaaDoor
namespace Go.Proofs.YtjdhbgdpmojobaaDoor
open Go.ChangeShapes Go.WideShapes Go.ChangeAt Go.RowKit Go.Deep
theorem cells_ints2 : Tryd.prog.cellsOf 45 = 2 := by kernel_rfl
set_option maxRecDepth 100000 in
theorem open_ints2 {H : Type} {enc : TypeId × Value → H} {W : World} {held : Bool} {v : Value} {d : DataW H} {p : List MemPlace} {base : Nat} {r : Reach} {b0 : Nat}
    (hv : Value.okWide Tryd.prog W r b0 45 v) (h : DataW.Trod enc Tryd.prog W base (fun _ => true) held 45 v d p) : ∃ x0 x1 : Int, v = .agg #[.int .i64 x0, .int .i64 x1] ∧ x0 ≤ 9223372036854775807 ∧ x1 ≤ 9223372036854775807 := by
  have hs : ∃ cs, v = .agg cs ∧ cs.size = Tryd.prog.cellsOf 45 := by
    simp only [Value.okWide, Tryd.underlying45] at hv
    obtain ⟨cs, h1, h2, _⟩ := hv
    exact ⟨cs, h1, h2⟩
  obtain ⟨cs, rfl, hsz⟩ := hs
  rw [cells_ints2] at hsz
  obtain ⟨fuel, hf⟩ := h
  obtain ⟨xs, m, _, _, _, hxl, hx⟩ := DataW.trod_array Tryd.underlying45 hf
  rw [cells_int] at hx
  have hall : ∀ i (hi : i < cs.size), ∃ z : Int, cs[i] = .int .i64 z ∧ z ≤ 9223372036854775807 := by
    intro i hi
    have h1 := hx i (by omega)
    have hxi : i < xs.length := by omega
    rw [List.getElem?_eq_getElem hxi] at h1
    obtain ⟨z, hz, _, hw⟩ := DataW.trod_int Tryd.underlying3 h1
    have hb := bounds_i64 hw
    have hcl : (Value.agg cs).cells = cs := rfl
    rw [hcl, Nat.mul_one, List.drop_eq_getElem_cons (by simpa using hi), List.take_succ_cons, List.take_zero] at hz
    have := (List.cons.inj hz).1
    exact ⟨z, by simpa using this, by omega⟩
  obtain ⟨x0, h0, b0⟩ := hall 0 (by omega)
  obtain ⟨x1, h1, b1⟩ := hall 1 (by omega)
  refine ⟨x0, x1, ?_, b0, b1⟩
  congr 1
  apply Array.ext
  · simp [hsz]
  · intro i hi _
    match i, hi with
    | 0, _ => simpa using h0
    | 1, _ => simpa using h1
    | i + 2, hi => omega
end Go.Proofs.YtjdhbgdpmojobaaDoor
namespace Go.Proofs.YtjdhbgdpmojobaaDoor
open Go.ChangeShapes Go.WideShapes Go.ChangeAt Go.RowKit Go.Deep

theorem cells_hpX : Tryd.prog.cellsOf 114 = 3 := by kernel_rfl
theorem cells_bxX : Tryd.prog.cellsOf 97 = 2 := by kernel_rfl
theorem cells_slsX : Tryd.prog.cellsOf 33 = 1 := by kernel_rfl
theorem cells_itsX : Tryd.prog.cellsOf 27 = 1 := by kernel_rfl
theorem cells_hpsX : Tryd.prog.cellsOf 28 = 1 := by kernel_rfl
theorem cells_bxsX : Tryd.prog.cellsOf 29 = 1 := by kernel_rfl
theorem cells_chX : Tryd.prog.cellsOf 31 = 5 := by kernel_rfl
set_option maxRecDepth 100000 in
theorem slice_shapeX {H : Type} {enc : TypeId × Value → H} {W : World} {held : Bool} {base fuel : Nat} {t e : TypeId} {v : Value} {x : DataW H × List MemPlace} (ht : Tryd.prog.underlying t = some (.slice e))
    (h : DataW.trod enc Tryd.prog W base (fun _ => true) held fuel t [v] = some x) : ∃ A sn sc, v = .slice A sn sc := by
  rcases open_slice ht h with ⟨e2, _⟩ | ⟨b, sn, sc, _, _, _, _, e2, _⟩
  · exact ⟨none, 0, 0, by simpa using e2⟩
  · exact ⟨some b, sn, sc, by simpa using e2⟩
theorem open_rowX {α H : Type} {enc : TypeId × Value → H} {W : World} {held : Bool} {A : Option Addr} {n c : Nat} {d : DataW H} {p : List MemPlace} {base : Nat} {t e : TypeId} (size : Nat) (At : Addr → α → Prop) (Ok : α → Prop)
    (ht : Tryd.prog.underlying t = some (.slice e)) (hsz : Tryd.prog.cellsOf e = size)
    (each : ∀ (a : Addr) (cs : List Value) (fuel : Nat) (x : DataW H × List MemPlace), W.cells? base a size = some cs → DataW.trod enc Tryd.prog W base (fun _ => true) held fuel e cs = some x → ∃ y, At a y ∧ Ok y)
    (first : ∀ a y, At a y → ∃ v, W.cell? a = some v)
    (h : DataW.Trod enc Tryd.prog W base (fun _ => true) held t (Value.slice A n c) d p) : n ≤ c ∧ c ≤ maxLen ∧ ∃ xs, RwK W size At A n xs ∧ ∀ x ∈ xs, Ok x := by
  obtain ⟨fuel, hf⟩ := h
  rcases open_slice ht hf with ⟨hcs, _⟩ | ⟨a, len, cap, m, k, D, Pl, hcs, _, hl, hmx, hm, _, hi⟩
  · simp [Value.cells] at hcs
    obtain ⟨rfl, rfl, rfl⟩ := hcs
    exact ⟨Nat.le_refl _, Nat.zero_le _, [], ⟨rfl, (fun h => absurd h (by omega))⟩, fun x hx => by cases hx⟩
  · simp [Value.cells] at hcs
    obtain ⟨rfl, rfl, rfl⟩ := hcs
    have hmc : n ≤ m := by rw [hm]; simpa using hl
    rw [hsz] at hi
    obtain ⟨xs, hxl, hx⟩ := list_of (fun i y => At (a.add (i * size)) y ∧ Ok y) n (fun i hin => by
      obtain ⟨cs', hc, ht'⟩ := hi i (by omega)
      exact each _ _ _ _ hc ht')
    refine ⟨hl, hmx, xs, ⟨hxl, fun hn => ?_⟩, fun x hxm => ?_⟩
    · obtain ⟨v, h0⟩ := first _ _ (hx 0 (by omega)).1
      obtain ⟨b, o, spot⟩ := a
      have hspot : spot = none := by simpa [Addr.add] using World.cell?_spot h0
      subst hspot
      refine ⟨b, o, rfl, World.block_lt_of_cell? W _ (by simpa [Addr.add_lit] using h0), fun j hj => ?_⟩
      have := (hx j hj).1
      rw [Addr.add_lit] at this
      exact this
    · obtain ⟨j, hj, rfl⟩ := List.getElem_of_mem hxm
      exact (hx j hj).2
set_option maxRecDepth 100000 in
theorem open_itemX {H : Type} {enc : TypeId × Value → H} {W : World} {held : Bool} {base fuel : Nat} {a : Addr} {cs : List Value} {x : DataW H × List MemPlace}
    (hc : W.cells? base a 1 = some cs) (h : DataW.trod enc Tryd.prog W base (fun _ => true) held fuel 50 cs = some x) : ∃ i : Nat, ItAt W a i ∧ i < 256 := by
  obtain ⟨_, hlen, hat⟩ := World.cells?_some hc
  match cs, hlen with
  | [u0], _ =>
    have c0 := hat 0 (by omega)
    obtain ⟨k, e0, _, w0⟩ := DataW.trod_int Tryd.underlying50 h
    have b0 := bounds_u8 w0
    have q0 : u0 = .int .u8 k := by simpa using e0
    subst q0
    have : a.add 0 = a := by simp [Addr.add]
    rw [this] at c0
    refine ⟨k.toNat, ?_, by omega⟩
    show W.cell? a = _
    rw [c0, show (((k.toNat : Nat) : Int)) = k by omega]
    rfl
set_option maxRecDepth 100000 in
theorem open_heapX {H : Type} {enc : TypeId × Value → H} {W : World} {held : Bool} {base fuel : Nat} {a : Addr} {cs : List Value} {x : DataW H × List MemPlace}
    (hc : W.cells? base a 3 = some cs) (h : DataW.trod enc Tryd.prog W base (fun _ => true) held fuel 114 cs = some x) : ∃ i : Hp, HpAt W a i ∧ i.2.1 < 256 := by
  obtain ⟨_, hlen, hat⟩ := World.cells?_some hc
  obtain ⟨xs, n, _, _, _, hxl, hf⟩ := DataW.trod_struct Tryd.underlying114 h
  match cs, hlen with
  | [u0, u1, u2], _ =>
    have c0 := hat 0 (by omega)
    have c1 := hat 1 (by omega)
    have c2 := hat 2 (by omega)
    have f0 : DataW.trod enc Tryd.prog W base (fun _ => true) held n 3 (List.take (Tryd.prog.cellsOf 3) (List.drop 0 [u0, u1, u2])) = xs[0]? := hf 0 _ rfl
    have f1 : DataW.trod enc Tryd.prog W base (fun _ => true) held n 112 (List.take (Tryd.prog.cellsOf 112) (List.drop 1 [u0, u1, u2])) = xs[1]? := hf 1 _ rfl
    clear hf
    rw [cells_int] at f0
    rw [cells_slot] at f1
    have hx2 : xs.length = 2 := hxl
    rw [List.getElem?_eq_getElem (by omega)] at f0 f1
    obtain ⟨k, e0, _, w0⟩ := DataW.trod_int Tryd.underlying3 f0
    have q0 : u0 = .int .i64 k := by simpa using e0
    subst q0
    obtain ⟨y0, y1, m, _, _, g0, g1⟩ := trod_struct2 Tryd.underlying112 f1
    simp only [cells_item, cells_int] at g0 g1
    obtain ⟨i, e1, _, w1⟩ := DataW.trod_int Tryd.underlying50 g0
    obtain ⟨z, e2, _, _⟩ := DataW.trod_int Tryd.underlying3 g1
    have b1 := bounds_u8 w1
    have q1 : u1 = .int .u8 i := by simpa using e1
    have q2 : u2 = .int .i64 z := by simpa using e2
    subst q1 q2
    have : a.add 0 = a := by simp [Addr.add]
    rw [this] at c0
    refine ⟨(k, i.toNat, z), ⟨c0, ?_, c2⟩, by show i.toNat < 256; omega⟩
    rw [c1, show (((i.toNat : Nat) : Int)) = i by omega]
    rfl
set_option maxRecDepth 100000 in
theorem open_boxX {H : Type} {enc : TypeId × Value → H} {W : World} {held : Bool} {base fuel : Nat} {a : Addr} {cs : List Value} {x : DataW H × List MemPlace}
    (hc : W.cells? base a 2 = some cs) (h : DataW.trod enc Tryd.prog W base (fun _ => true) held fuel 97 cs = some x) : ∃ b : Bx, BxAt W a b ∧ (By b.l ∧ b.n ≤ 9223372036854775807) := by
  obtain ⟨_, hlen, hat⟩ := World.cells?_some hc
  obtain ⟨xs, n, _, _, _, hxl, hf⟩ := DataW.trod_struct Tryd.underlying97 h
  match cs, hlen with
  | [u0, u1], _ =>
    have c0 := hat 0 (by omega)
    have c1 := hat 1 (by omega)
    have f0 : DataW.trod enc Tryd.prog W base (fun _ => true) held n 3 (List.take (Tryd.prog.cellsOf 3) (List.drop 0 [u0, u1])) = xs[0]? := hf 0 _ rfl
    have f1 : DataW.trod enc Tryd.prog W base (fun _ => true) held n 33 (List.take (Tryd.prog.cellsOf 33) (List.drop 1 [u0, u1])) = xs[1]? := hf 1 _ rfl
    clear hf
    rw [cells_int] at f0
    rw [cells_slsX] at f1
    have hx2 : xs.length = 2 := hxl
    rw [List.getElem?_eq_getElem (by omega)] at f0 f1
    obtain ⟨k, e0, _, w0⟩ := DataW.trod_int Tryd.underlying3 f0
    have q0 : u0 = .int .i64 k := by simpa using e0
    subst q0
    obtain ⟨A, sn, sc, rfl⟩ := slice_shapeX Tryd.underlying33 f1
    obtain ⟨hle, hmx, l, hl, hby⟩ := open_slots (A := A) (n := sn) (c := sc) (d := (xs[1]'(by omega)).1) (p := (xs[1]'(by omega)).2) (base := base) (enc := enc) (W := W) (held := held) ⟨n, f1⟩
    have : a.add 0 = a := by simp [Addr.add]
    rw [this] at c0
    refine ⟨⟨k, A, sn, sc, l⟩, ⟨c0, c1, hl⟩, hby, ?_⟩
    unfold maxLen at hmx
    show sn ≤ _
    omega
set_option maxRecDepth 100000 in
/-- A chunk that came in by value. -/
theorem open_chunk {H : Type} {enc : TypeId × Value → H} {W : World} {held : Bool} {v : Value} {d : DataW H} {p : List MemPlace} {base : Nat} {r : Reach} {b0 : Nat}
    (hv : Value.okWide Tryd.prog W r b0 31 v) (h : DataW.Trod enc Tryd.prog W base (fun _ => true) held 31 v d p) : ∃ C : Ch, v = C.val ∧ InC W C := by
  have hs : ∃ cs, v = .agg cs ∧ cs.size = Tryd.prog.cellsOf 31 := by
    simp only [Value.okWide, Tryd.underlying31] at hv
    obtain ⟨cs, h1, h2, _⟩ := hv
    exact ⟨cs, h1, h2⟩
  obtain ⟨cs, rfl, hsz⟩ := hs
  rw [cells_chX] at hsz
  obtain ⟨u0, u1, u2, u3, u4, rfl⟩ : ∃ u0 u1 u2 u3 u4, cs = #[u0, u1, u2, u3, u4] := by
    obtain ⟨l⟩ := cs
    match l, hsz with
    | [u0, u1, u2, u3, u4], _ => exact ⟨u0, u1, u2, u3, u4, rfl⟩
  obtain ⟨fuel, hf⟩ := h
  obtain ⟨xs, n, _, _, _, hxl, hx⟩ := DataW.trod_struct Tryd.underlying31 hf
  have f0 : DataW.trod enc Tryd.prog W base (fun _ => true) held n 3 (List.take (Tryd.prog.cellsOf 3) (List.drop 0 [u0, u1, u2, u3, u4])) = xs[0]? := hx 0 _ rfl
  have f1 : DataW.trod enc Tryd.prog W base (fun _ => true) held n 3 (List.take (Tryd.prog.cellsOf 3) (List.drop 1 [u0, u1, u2, u3, u4])) = xs[1]? := hx 1 _ rfl
  have f2 : DataW.trod enc Tryd.prog W base (fun _ => true) held n 27 (List.take (Tryd.prog.cellsOf 27) (List.drop 2 [u0, u1, u2, u3, u4])) = xs[2]? := hx 2 _ rfl
  have f3 : DataW.trod enc Tryd.prog W base (fun _ => true) held n 28 (List.take (Tryd.prog.cellsOf 28) (List.drop 3 [u0, u1, u2, u3, u4])) = xs[3]? := hx 3 _ rfl
  have f4 : DataW.trod enc Tryd.prog W base (fun _ => true) held n 29 (List.take (Tryd.prog.cellsOf 29) (List.drop 4 [u0, u1, u2, u3, u4])) = xs[4]? := hx 4 _ rfl
  clear hx
  rw [cells_int] at f0 f1
  rw [cells_itsX] at f2
  rw [cells_hpsX] at f3
  rw [cells_bxsX] at f4
  have hx5 : xs.length = 5 := hxl
  rw [List.getElem?_eq_getElem (by omega)] at f0 f1 f2 f3 f4
  obtain ⟨x, e0, _, _⟩ := DataW.trod_int Tryd.underlying3 f0
  obtain ⟨y, e1, _, _⟩ := DataW.trod_int Tryd.underlying3 f1
  have q0 : u0 = .int .i64 x := by simpa using e0
  have q1 : u1 = .int .i64 y := by simpa using e1
  subst q0 q1
  obtain ⟨A1, n1, c1, rfl⟩ := slice_shapeX Tryd.underlying27 f2
  obtain ⟨A2, n2, c2, rfl⟩ := slice_shapeX Tryd.underlying28 f3
  obtain ⟨A3, n3, c3, rfl⟩ := slice_shapeX Tryd.underlying29 f4
  obtain ⟨hl1, hm1, cs, hr1, ho1⟩ := open_rowX (A := A1) (n := n1) (c := c1) (d := (xs[2]'(by omega)).1) (p := (xs[2]'(by omega)).2) (base := base) (enc := enc) (W := W) (held := held) 1 (ItAt W) (fun i => i < 256) Tryd.underlying27 cells_item (fun _ _ _ _ hc hx => open_itemX hc hx) (fun _ _ hy => ⟨_, hy⟩) ⟨n, f2⟩
  obtain ⟨hl2, hm2, hps, hr2, ho2⟩ := open_rowX (A := A2) (n := n2) (c := c2) (d := (xs[3]'(by omega)).1) (p := (xs[3]'(by omega)).2) (base := base) (enc := enc) (W := W) (held := held) 3 (HpAt W) (fun i => i.2.1 < 256) Tryd.underlying28 cells_hpX (fun _ _ _ _ hc hx => open_heapX hc hx) (fun _ _ hy => ⟨_, hy.1⟩) ⟨n, f3⟩
  obtain ⟨hl3, hm3, bs, hr3, ho3⟩ := open_rowX (A := A3) (n := n3) (c := c3) (d := (xs[4]'(by omega)).1) (p := (xs[4]'(by omega)).2) (base := base) (enc := enc) (W := W) (held := held) 2 (BxAt W) (fun b => By b.l ∧ b.n ≤ 9223372036854775807) Tryd.underlying29 cells_bxX (fun _ _ _ _ hc hx => open_boxX hc hx) (fun _ _ hy => ⟨_, hy.1⟩) ⟨n, f4⟩
  unfold maxLen at hm1 hm2 hm3
  refine ⟨⟨x, y, A1, n1, c1, cs, A2, n2, c2, hps, A3, n3, c3, bs⟩, rfl, ⟨⟨hr1, hr2, hr3⟩, hl3, ⟨?_, ?_, ?_, fun b hb => (ho3 b hb).2⟩, ⟨ho1, ho2, fun b hb => ?_⟩⟩⟩
  · show n1 ≤ _; omega
  · show n2 ≤ _; omega
  · show n3 ≤ _; omega
  · obtain ⟨b', hb', rfl⟩ := List.mem_map.1 hb
    exact (ho3 b' hb').1
set_option maxRecDepth 100000 in
/-- A slot that came in by value. -/
theorem open_slotv {H : Type} {enc : TypeId × Value → H} {W : World} {held : Bool} {v : Value} {d : DataW H} {p : List MemPlace} {base : Nat} {r : Reach} {b0 : Nat}
    (hv : Value.okWide Tryd.prog W r b0 112 v) (h : DataW.Trod enc Tryd.prog W base (fun _ => true) held 112 v d p) : ∃ (s : Nat) (m : Int), v = .agg #[.int .u8 (s : Int), .int .i64 m] ∧ s < 256 := by
  have hs : ∃ cs, v = .agg cs ∧ cs.size = Tryd.prog.cellsOf 112 := by
    simp only [Value.okWide, Tryd.underlying112] at hv
    obtain ⟨cs, h1, h2, _⟩ := hv
    exact ⟨cs, h1, h2⟩
  obtain ⟨cs, rfl, hsz⟩ := hs
  rw [cells_slot] at hsz
  obtain ⟨u0, u1, rfl⟩ : ∃ u0 u1, cs = #[u0, u1] := by
    obtain ⟨l⟩ := cs
    match l, hsz with
    | [u0, u1], _ => exact ⟨u0, u1, rfl⟩
  obtain ⟨fuel, hf⟩ := h
  obtain ⟨y0, y1, m, _, _, g0, g1⟩ := trod_struct2 Tryd.underlying112 hf
  simp only [cells_item, cells_int] at g0 g1
  obtain ⟨i, e1, _, w1⟩ := DataW.trod_int Tryd.underlying50 g0
  obtain ⟨z, e2, _, _⟩ := DataW.trod_int Tryd.underlying3 g1
  have b1 := bounds_u8 w1
  have q1 : u0 = .int .u8 i := by simpa [Value.cells] using e1
  have q2 : u1 = .int .i64 z := by simpa [Value.cells] using e2
  subst q1 q2
  refine ⟨i.toNat, z, ?_, by omega⟩
  rw [show (((i.toNat : Nat) : Int)) = i by omega]
theorem cells_u8X : Tryd.prog.cellsOf 5 = 1 := by kernel_rfl
end Go.Proofs.YtjdhbgdpmojobaaDoor
namespace Go.Proofs.YtjdhbgdpmojobaaDoor
open Go.ChangeShapes Go.WideShapes Go.ChangeAt Go.RowKit Go.Deep

theorem cells_plW : Tryd.prog.cellsOf 35 = 7 := by kernel_rfl
theorem cells_wdW : Tryd.prog.cellsOf 26 = 5 := by kernel_rfl
theorem cells_cksW : Tryd.prog.cellsOf 23 = 1 := by kernel_rfl
theorem cells_plsW : Tryd.prog.cellsOf 24 = 1 := by kernel_rfl
theorem cells_boolW : Tryd.prog.cellsOf 4 = 1 := by kernel_rfl
theorem cells_u64W : Tryd.prog.cellsOf 22 = 1 := by kernel_rfl
set_option maxRecDepth 100000 in
/-- The cells of a chunk. -/
theorem open_chunkL {H : Type} {enc : TypeId × Value → H} {W : World} {held : Bool} {base fuel : Nat} {u0 u1 u2 u3 u4 : Value} {x : DataW H × List MemPlace}
    (h : DataW.trod enc Tryd.prog W base (fun _ => true) held fuel 31 [u0, u1, u2, u3, u4] = some x) : ∃ C : Ch, (u0 = .int .i64 C.x ∧ u1 = .int .i64 C.y ∧ u2 = .slice C.A1 C.n1 C.c1 ∧ u3 = .slice C.A2 C.n2 C.c2 ∧ u4 = .slice C.A3 C.n3 C.c3) ∧ InC W C := by
  obtain ⟨xs, n, _, _, _, hxl, hx⟩ := DataW.trod_struct Tryd.underlying31 h
  have f0 : DataW.trod enc Tryd.prog W base (fun _ => true) held n 3 (List.take (Tryd.prog.cellsOf 3) (List.drop 0 [u0, u1, u2, u3, u4])) = xs[0]? := hx 0 _ rfl
  have f1 : DataW.trod enc Tryd.prog W base (fun _ => true) held n 3 (List.take (Tryd.prog.cellsOf 3) (List.drop 1 [u0, u1, u2, u3, u4])) = xs[1]? := hx 1 _ rfl
  have f2 : DataW.trod enc Tryd.prog W base (fun _ => true) held n 27 (List.take (Tryd.prog.cellsOf 27) (List.drop 2 [u0, u1, u2, u3, u4])) = xs[2]? := hx 2 _ rfl
  have f3 : DataW.trod enc Tryd.prog W base (fun _ => true) held n 28 (List.take (Tryd.prog.cellsOf 28) (List.drop 3 [u0, u1, u2, u3, u4])) = xs[3]? := hx 3 _ rfl
  have f4 : DataW.trod enc Tryd.prog W base (fun _ => true) held n 29 (List.take (Tryd.prog.cellsOf 29) (List.drop 4 [u0, u1, u2, u3, u4])) = xs[4]? := hx 4 _ rfl
  clear hx
  rw [cells_int] at f0 f1
  rw [cells_itsX] at f2
  rw [cells_hpsX] at f3
  rw [cells_bxsX] at f4
  have hx5 : xs.length = 5 := hxl
  rw [List.getElem?_eq_getElem (by omega)] at f0 f1 f2 f3 f4
  obtain ⟨x, e0, _, _⟩ := DataW.trod_int Tryd.underlying3 f0
  obtain ⟨y, e1, _, _⟩ := DataW.trod_int Tryd.underlying3 f1
  have q0 : u0 = .int .i64 x := by simpa using e0
  have q1 : u1 = .int .i64 y := by simpa using e1
  subst q0 q1
  obtain ⟨A1, n1, c1, rfl⟩ := slice_shapeX Tryd.underlying27 f2
  obtain ⟨A2, n2, c2, rfl⟩ := slice_shapeX Tryd.underlying28 f3
  obtain ⟨A3, n3, c3, rfl⟩ := slice_shapeX Tryd.underlying29 f4
  obtain ⟨hl1, hm1, cs, hr1, ho1⟩ := open_rowX (A := A1) (n := n1) (c := c1) (d := (xs[2]'(by omega)).1) (p := (xs[2]'(by omega)).2) (base := base) (enc := enc) (W := W) (held := held) 1 (ItAt W) (fun i => i < 256) Tryd.underlying27 cells_item (fun _ _ _ _ hc hx => open_itemX hc hx) (fun _ _ hy => ⟨_, hy⟩) ⟨n, f2⟩
  obtain ⟨hl2, hm2, hps, hr2, ho2⟩ := open_rowX (A := A2) (n := n2) (c := c2) (d := (xs[3]'(by omega)).1) (p := (xs[3]'(by omega)).2) (base := base) (enc := enc) (W := W) (held := held) 3 (HpAt W) (fun i => i.2.1 < 256) Tryd.underlying28 cells_hpX (fun _ _ _ _ hc hx => open_heapX hc hx) (fun _ _ hy => ⟨_, hy.1⟩) ⟨n, f3⟩
  obtain ⟨hl3, hm3, bs, hr3, ho3⟩ := open_rowX (A := A3) (n := n3) (c := c3) (d := (xs[4]'(by omega)).1) (p := (xs[4]'(by omega)).2) (base := base) (enc := enc) (W := W) (held := held) 2 (BxAt W) (fun b => By b.l ∧ b.n ≤ 9223372036854775807) Tryd.underlying29 cells_bxX (fun _ _ _ _ hc hx => open_boxX hc hx) (fun _ _ hy => ⟨_, hy.1⟩) ⟨n, f4⟩
  unfold maxLen at hm1 hm2 hm3
  refine ⟨⟨x, y, A1, n1, c1, cs, A2, n2, c2, hps, A3, n3, c3, bs⟩, ⟨rfl, rfl, rfl, rfl, rfl⟩, ⟨⟨hr1, hr2, hr3⟩, hl3, ⟨?_, ?_, ?_, fun b hb => (ho3 b hb).2⟩, ⟨ho1, ho2, fun b hb => ?_⟩⟩⟩
  · show n1 ≤ _; omega
  · show n2 ≤ _; omega
  · show n3 ≤ _; omega
  · obtain ⟨b', hb', rfl⟩ := List.mem_map.1 hb
    exact (ho3 b' hb').1
set_option maxRecDepth 100000 in
/-- The cells of a player. -/
theorem open_playerL {H : Type} {enc : TypeId × Value → H} {W : World} {held : Bool} {base fuel : Nat} {u0 u1 u2 u3 u4 u5 u6 : Value} {x : DataW H × List MemPlace}
    (h : DataW.trod enc Tryd.prog W base (fun _ => true) held fuel 35 [u0, u1, u2, u3, u4, u5, u6] = some x) : ∃ P : Pl, (u0 = .int .i64 P.id ∧ u1 = .int .i64 P.x ∧ u2 = .int .i64 P.y ∧ u3 = .slice P.A1 P.n1 P.c1 ∧ u4 = .int .i64 P.wi ∧ u5 = .slice P.A2 P.n2 P.c2 ∧ u6 = .bool P.ag) ∧ InP W P := by
  obtain ⟨xs, n, _, _, _, hxl, hx⟩ := DataW.trod_struct Tryd.underlying35 h
  have f0 : DataW.trod enc Tryd.prog W base (fun _ => true) held n 3 (List.take (Tryd.prog.cellsOf 3) (List.drop 0 [u0, u1, u2, u3, u4, u5, u6])) = xs[0]? := hx 0 _ rfl
  have f1 : DataW.trod enc Tryd.prog W base (fun _ => true) held n 3 (List.take (Tryd.prog.cellsOf 3) (List.drop 1 [u0, u1, u2, u3, u4, u5, u6])) = xs[1]? := hx 1 _ rfl
  have f2 : DataW.trod enc Tryd.prog W base (fun _ => true) held n 3 (List.take (Tryd.prog.cellsOf 3) (List.drop 2 [u0, u1, u2, u3, u4, u5, u6])) = xs[2]? := hx 2 _ rfl
  have f3 : DataW.trod enc Tryd.prog W base (fun _ => true) held n 33 (List.take (Tryd.prog.cellsOf 33) (List.drop 3 [u0, u1, u2, u3, u4, u5, u6])) = xs[3]? := hx 3 _ rfl
  have f4 : DataW.trod enc Tryd.prog W base (fun _ => true) held n 3 (List.take (Tryd.prog.cellsOf 3) (List.drop 4 [u0, u1, u2, u3, u4, u5, u6])) = xs[4]? := hx 4 _ rfl
  have f5 : DataW.trod enc Tryd.prog W base (fun _ => true) held n 33 (List.take (Tryd.prog.cellsOf 33) (List.drop 5 [u0, u1, u2, u3, u4, u5, u6])) = xs[5]? := hx 5 _ rfl
  have f6 : DataW.trod enc Tryd.prog W base (fun _ => true) held n 4 (List.take (Tryd.prog.cellsOf 4) (List.drop 6 [u0, u1, u2, u3, u4, u5, u6])) = xs[6]? := hx 6 _ rfl
  clear hx
  rw [cells_int] at f0 f1 f2 f4
  rw [cells_slsX] at f3 f5
  rw [cells_boolW] at f6
  have hx7 : xs.length = 7 := hxl
  rw [List.getElem?_eq_getElem (by omega)] at f0 f1 f2 f3 f4 f5 f6
  obtain ⟨id, e0, _, _⟩ := DataW.trod_int Tryd.underlying3 f0
  obtain ⟨x, e1, _, _⟩ := DataW.trod_int Tryd.underlying3 f1
  obtain ⟨y, e2, _, _⟩ := DataW.trod_int Tryd.underlying3 f2
  obtain ⟨wi, e4, _, _⟩ := DataW.trod_int Tryd.underlying3 f4
  obtain ⟨ag, e6, _⟩ := DataW.trod_bool Tryd.underlying4 f6
  have q0 : u0 = .int .i64 id := by simpa using e0
  have q1 : u1 = .int .i64 x := by simpa using e1
  have q2 : u2 = .int .i64 y := by simpa using e2
  have q4 : u4 = .int .i64 wi := by simpa using e4
  have q6 : u6 = .bool ag := by simpa using e6
  subst q0 q1 q2 q4 q6
  obtain ⟨A1, n1, c1, rfl⟩ := slice_shapeX Tryd.underlying33 f3
  obtain ⟨A2, n2, c2, rfl⟩ := slice_shapeX Tryd.underlying33 f5
  obtain ⟨hl1, hm1, l1, hr1, hb1⟩ := open_slots (A := A1) (n := n1) (c := c1) (d := (xs[3]'(by omega)).1) (p := (xs[3]'(by omega)).2) (base := base) (enc := enc) (W := W) (held := held) ⟨n, f3⟩
  obtain ⟨hl2, hm2, l2, hr2, hb2⟩ := open_slots (A := A2) (n := n2) (c := c2) (d := (xs[5]'(by omega)).1) (p := (xs[5]'(by omega)).2) (base := base) (enc := enc) (W := W) (held := held) ⟨n, f5⟩
  unfold maxLen at hm1 hm2
  exact ⟨⟨id, x, y, A1, n1, c1, l1, wi, A2, n2, c2, l2, ag⟩, ⟨rfl, rfl, rfl, rfl, rfl, rfl, rfl⟩, ⟨⟨hr1, hr2⟩, by show n1 ≤ _; omega, by show n2 ≤ _; omega, hb1, hb2⟩⟩
def CkAtW (W : World) (a : Addr) (C : Ch) : Prop := W.cell? a = some (.int .i64 C.x) ∧ W.cell? (a.add 1) = some (.int .i64 C.y) ∧ W.cell? (a.add 2) = some (.slice C.A1 C.n1 C.c1) ∧ W.cell? (a.add 3) = some (.slice C.A2 C.n2 C.c2) ∧ W.cell? (a.add 4) = some (.slice C.A3 C.n3 C.c3)
def PlAtW (W : World) (a : Addr) (P : Pl) : Prop := W.cell? a = some (.int .i64 P.id) ∧ W.cell? (a.add 1) = some (.int .i64 P.x) ∧ W.cell? (a.add 2) = some (.int .i64 P.y) ∧ W.cell? (a.add 3) = some (.slice P.A1 P.n1 P.c1) ∧ W.cell? (a.add 4) = some (.int .i64 P.wi) ∧ W.cell? (a.add 5) = some (.slice P.A2 P.n2 P.c2) ∧ W.cell? (a.add 6) = some (.bool P.ag)
theorem rk_ckW {W : World} {A : Option Addr} {n : Nat} {l : List Ch} (h : RwK W 5 (CkAtW W) A n l) : Rc W 5 A n (chL l) := by
  refine ⟨by rw [chL_len, h.1], fun hn => ?_⟩
  obtain ⟨b, o, e, hb, hc⟩ := h.2 hn
  refine ⟨b, o, e, hb, fun r u hu => ?_⟩
  have hr : r < l.length * 5 := by have := (List.getElem?_eq_some_iff.1 hu).1; rw [chL_len] at this; omega
  obtain ⟨d0, d1, d2, d3, d4⟩ := chL_at l (r / 5) (by omega)
  obtain ⟨c0, c1, c2, c3, c4⟩ := hc (r / 5) (by omega)
  rw [Addr.add_lit] at c1 c2 c3 c4
  rcases (show r = r / 5 * 5 ∨ r = r / 5 * 5 + 1 ∨ r = r / 5 * 5 + 2 ∨ r = r / 5 * 5 + 3 ∨ r = r / 5 * 5 + 4 by omega) with e | e | e | e | e
  · rw [e, d0] at hu; rw [e, c0]; exact hu
  · rw [e, d1] at hu; rw [e, ← Nat.add_assoc, c1]; exact hu
  · rw [e, d2] at hu; rw [e, ← Nat.add_assoc, c2]; exact hu
  · rw [e, d3] at hu; rw [e, ← Nat.add_assoc, c3]; exact hu
  · rw [e, d4] at hu; rw [e, ← Nat.add_assoc, c4]; exact hu
theorem rk_plW {W : World} {A : Option Addr} {n : Nat} {l : List Pl} (h : RwK W 7 (PlAtW W) A n l) : Rc W 7 A n (plL l) := by
  refine ⟨by rw [plL_len, h.1], fun hn => ?_⟩
  obtain ⟨b, o, e, hb, hc⟩ := h.2 hn
  refine ⟨b, o, e, hb, fun r u hu => ?_⟩
  have hr : r < l.length * 7 := by have := (List.getElem?_eq_some_iff.1 hu).1; rw [plL_len] at this; omega
  obtain ⟨d0, d1, d2, d3, d4, d5, d6⟩ := plL_at l (r / 7) (by omega)
  obtain ⟨c0, c1, c2, c3, c4, c5, c6⟩ := hc (r / 7) (by omega)
  rw [Addr.add_lit] at c1 c2 c3 c4 c5 c6
  rcases (show r = r / 7 * 7 ∨ r = r / 7 * 7 + 1 ∨ r = r / 7 * 7 + 2 ∨ r = r / 7 * 7 + 3 ∨ r = r / 7 * 7 + 4 ∨ r = r / 7 * 7 + 5 ∨ r = r / 7 * 7 + 6 by omega) with e | e | e | e | e | e | e
  · rw [e, d0] at hu; rw [e, c0]; exact hu
  · rw [e, d1] at hu; rw [e, ← Nat.add_assoc, c1]; exact hu
  · rw [e, d2] at hu; rw [e, ← Nat.add_assoc, c2]; exact hu
  · rw [e, d3] at hu; rw [e, ← Nat.add_assoc, c3]; exact hu
  · rw [e, d4] at hu; rw [e, ← Nat.add_assoc, c4]; exact hu
  · rw [e, d5] at hu; rw [e, ← Nat.add_assoc, c5]; exact hu
  · rw [e, d6] at hu; rw [e, ← Nat.add_assoc, c6]; exact hu
theorem add0W (a : Addr) : a.add 0 = a := by simp [Addr.add]
set_option maxRecDepth 100000 in
theorem open_ckcW {H : Type} {enc : TypeId × Value → H} {W : World} {held : Bool} {base fuel : Nat} {a : Addr} {cs : List Value} {x : DataW H × List MemPlace}
    (hc : W.cells? base a 5 = some cs) (h : DataW.trod enc Tryd.prog W base (fun _ => true) held fuel 31 cs = some x) : ∃ C : Ch, CkAtW W a C ∧ InC W C := by
  obtain ⟨_, hlen, hat⟩ := World.cells?_some hc
  match cs, hlen with
  | [u0, u1, u2, u3, u4], _ =>
    have c0 := hat 0 (by omega)
    have c1 := hat 1 (by omega)
    have c2 := hat 2 (by omega)
    have c3 := hat 3 (by omega)
    have c4 := hat 4 (by omega)
    obtain ⟨C, ⟨rfl, rfl, rfl, rfl, rfl⟩, hC⟩ := open_chunkL h
    rw [add0W] at c0
    exact ⟨C, ⟨c0, c1, c2, c3, c4⟩, hC⟩
set_option maxRecDepth 100000 in
theorem open_plcW {H : Type} {enc : TypeId × Value → H} {W : World} {held : Bool} {base fuel : Nat} {a : Addr} {cs : List Value} {x : DataW H × List MemPlace}
    (hc : W.cells? base a 7 = some cs) (h : DataW.trod enc Tryd.prog W base (fun _ => true) held fuel 35 cs = some x) : ∃ C : Pl, PlAtW W a C ∧ InP W C := by
  obtain ⟨_, hlen, hat⟩ := World.cells?_some hc
  match cs, hlen with
  | [u0, u1, u2, u3, u4, u5, u6], _ =>
    have c0 := hat 0 (by omega)
    have c1 := hat 1 (by omega)
    have c2 := hat 2 (by omega)
    have c3 := hat 3 (by omega)
    have c4 := hat 4 (by omega)
    have c5 := hat 5 (by omega)
    have c6 := hat 6 (by omega)
    obtain ⟨C, ⟨rfl, rfl, rfl, rfl, rfl, rfl, rfl⟩, hC⟩ := open_playerL h
    rw [add0W] at c0
    exact ⟨C, ⟨c0, c1, c2, c3, c4, c5, c6⟩, hC⟩
set_option maxRecDepth 100000 in
/-- A world that came in by value. -/
theorem open_world {H : Type} {enc : TypeId × Value → H} {W : World} {held : Bool} {v : Value} {d : DataW H} {p : List MemPlace} {base : Nat} {r : Reach} {b0 : Nat}
    (hv : Value.okWide Tryd.prog W r b0 26 v) (h : DataW.Trod enc Tryd.prog W base (fun _ => true) held 26 v d p) : ∃ D : Wd, v = D.val ∧ InW W D := by
  have hs : ∃ cs, v = .agg cs ∧ cs.size = Tryd.prog.cellsOf 26 := by
    simp only [Value.okWide, Tryd.underlying26] at hv
    obtain ⟨cs, h1, h2, _⟩ := hv
    exact ⟨cs, h1, h2⟩
  obtain ⟨cs, rfl, hsz⟩ := hs
  rw [cells_wdW] at hsz
  obtain ⟨u0, u1, u2, u3, u4, rfl⟩ : ∃ u0 u1 u2 u3 u4, cs = #[u0, u1, u2, u3, u4] := by
    obtain ⟨l⟩ := cs
    match l, hsz with
    | [u0, u1, u2, u3, u4], _ => exact ⟨u0, u1, u2, u3, u4, rfl⟩
  obtain ⟨fuel, hf⟩ := h
  obtain ⟨xs, n, _, _, _, hxl, hx⟩ := DataW.trod_struct Tryd.underlying26 hf
  have f0 : DataW.trod enc Tryd.prog W base (fun _ => true) held n 3 (List.take (Tryd.prog.cellsOf 3) (List.drop 0 [u0, u1, u2, u3, u4])) = xs[0]? := hx 0 _ rfl
  have f1 : DataW.trod enc Tryd.prog W base (fun _ => true) held n 22 (List.take (Tryd.prog.cellsOf 22) (List.drop 1 [u0, u1, u2, u3, u4])) = xs[1]? := hx 1 _ rfl
  have f2 : DataW.trod enc Tryd.prog W base (fun _ => true) held n 3 (List.take (Tryd.prog.cellsOf 3) (List.drop 2 [u0, u1, u2, u3, u4])) = xs[2]? := hx 2 _ rfl
  have f3 : DataW.trod enc Tryd.prog W base (fun _ => true) held n 23 (List.take (Tryd.prog.cellsOf 23) (List.drop 3 [u0, u1, u2, u3, u4])) = xs[3]? := hx 3 _ rfl
  have f4 : DataW.trod enc Tryd.prog W base (fun _ => true) held n 24 (List.take (Tryd.prog.cellsOf 24) (List.drop 4 [u0, u1, u2, u3, u4])) = xs[4]? := hx 4 _ rfl
  clear hx
  rw [cells_int] at f0 f2
  rw [cells_u64W] at f1
  rw [cells_cksW] at f3
  rw [cells_plsW] at f4
  have hx5 : xs.length = 5 := hxl
  rw [List.getElem?_eq_getElem (by omega)] at f0 f1 f2 f3 f4
  obtain ⟨size, e0, _, _⟩ := DataW.trod_int Tryd.underlying3 f0
  obtain ⟨sv, e1, _, w1⟩ := DataW.trod_int Tryd.underlying22 f1
  obtain ⟨tick, e2, _, _⟩ := DataW.trod_int Tryd.underlying3 f2
  have q0 : u0 = .int .i64 size := by simpa using e0
  have q1 : u1 = .int .u64 sv := by simpa using e1
  have q2 : u2 = .int .i64 tick := by simpa using e2
  subst q0 q1 q2
  have b1 := bounds_u64 w1
  obtain ⟨sd, rfl⟩ := w64_of b1.1 (by omega)
  obtain ⟨A3, n3, c3, rfl⟩ := slice_shapeX Tryd.underlying23 f3
  obtain ⟨A4, n4, c4, rfl⟩ := slice_shapeX Tryd.underlying24 f4
  obtain ⟨hl3, hm3, cs, hr3, ho3⟩ := open_rowX (A := A3) (n := n3) (c := c3) (d := (xs[3]'(by omega)).1) (p := (xs[3]'(by omega)).2) (base := base) (enc := enc) (W := W) (held := held) 5 (CkAtW W) (fun C => InC W C) Tryd.underlying23 cells_chX (fun a cs fuel x h1 h2 => open_ckcW h1 h2) (fun a y h => ⟨_, h.1⟩) ⟨n, f3⟩
  obtain ⟨hl4, hm4, ps, hr4, ho4⟩ := open_rowX (A := A4) (n := n4) (c := c4) (d := (xs[4]'(by omega)).1) (p := (xs[4]'(by omega)).2) (base := base) (enc := enc) (W := W) (held := held) 7 (PlAtW W) (fun C => InP W C) Tryd.underlying24 cells_plW (fun a cs fuel x h1 h2 => open_plcW h1 h2) (fun a y h => ⟨_, h.1⟩) ⟨n, f4⟩
  unfold maxLen at hm3 hm4
  exact ⟨⟨size, sd, tick, A3, n3, c3, cs, A4, n4, c4, ps⟩, rfl, ⟨⟨rk_ckW hr3, hr3.1, fun C hC => (ho3 C hC).rd⟩, ⟨rk_plW hr4, hr4.1, fun P hP => (ho4 P hP).rd⟩, by show n3 ≤ _; omega, by show n4 ≤ _; omega, ho3, ho4⟩⟩
theorem cells_chunks2W : Tryd.prog.cellsOf 32 = 10 := by kernel_rfl
set_option maxRecDepth 100000 in
theorem open_chunks2 {H : Type} {enc : TypeId × Value → H} {W : World} {held : Bool} {v : Value} {d : DataW H} {p : List MemPlace} {base : Nat} {r : Reach} {b0 : Nat}
    (hv : Value.okWide Tryd.prog W r b0 32 v) (h : DataW.Trod enc Tryd.prog W base (fun _ => true) held 32 v d p) : ∃ C0 C1 : Ch, v = .agg #[.int .i64 C0.x, .int .i64 C0.y, .slice C0.A1 C0.n1 C0.c1, .slice C0.A2 C0.n2 C0.c2, .slice C0.A3 C0.n3 C0.c3, .int .i64 C1.x, .int .i64 C1.y, .slice C1.A1 C1.n1 C1.c1, .slice C1.A2 C1.n2 C1.c2, .slice C1.A3 C1.n3 C1.c3] ∧ InC W C0 ∧ InC W C1 := by
  have hs : ∃ cs, v = .agg cs ∧ cs.size = Tryd.prog.cellsOf 32 := by
    simp only [Value.okWide, Tryd.underlying32] at hv
    obtain ⟨cs, h1, h2, _⟩ := hv
    exact ⟨cs, h1, h2⟩
  obtain ⟨cs, rfl, hsz⟩ := hs
  rw [cells_chunks2W] at hsz
  obtain ⟨u0, u1, u2, u3, u4, u5, u6, u7, u8, u9, rfl⟩ : ∃ u0 u1 u2 u3 u4 u5 u6 u7 u8 u9, cs = #[u0, u1, u2, u3, u4, u5, u6, u7, u8, u9] := by
    obtain ⟨l⟩ := cs
    match l, hsz with
    | [u0, u1, u2, u3, u4, u5, u6, u7, u8, u9], _ => exact ⟨u0, u1, u2, u3, u4, u5, u6, u7, u8, u9, rfl⟩
  obtain ⟨fuel, hf⟩ := h
  obtain ⟨xs, m, _, _, _, hxl, hx⟩ := DataW.trod_array Tryd.underlying32 hf
  rw [cells_chX] at hx
  have f0 : DataW.trod enc Tryd.prog W base (fun _ => true) held m 31 [u0, u1, u2, u3, u4] = xs[0]? := hx 0 (by omega)
  have f1 : DataW.trod enc Tryd.prog W base (fun _ => true) held m 31 [u5, u6, u7, u8, u9] = xs[1]? := hx 1 (by omega)
  rw [List.getElem?_eq_getElem (by omega)] at f0 f1
  obtain ⟨C0, ⟨rfl, rfl, rfl, rfl, rfl⟩, h0⟩ := open_chunkL f0
  obtain ⟨C1, ⟨rfl, rfl, rfl, rfl, rfl⟩, h1⟩ := open_chunkL f1
  exact ⟨C0, C1, rfl, h0, h1⟩
theorem cells_players2W : Tryd.prog.cellsOf 36 = 14 := by kernel_rfl
set_option maxRecDepth 100000 in
theorem open_players2 {H : Type} {enc : TypeId × Value → H} {W : World} {held : Bool} {v : Value} {d : DataW H} {p : List MemPlace} {base : Nat} {r : Reach} {b0 : Nat}
    (hv : Value.okWide Tryd.prog W r b0 36 v) (h : DataW.Trod enc Tryd.prog W base (fun _ => true) held 36 v d p) : ∃ C0 C1 : Pl, v = .agg #[.int .i64 C0.id, .int .i64 C0.x, .int .i64 C0.y, .slice C0.A1 C0.n1 C0.c1, .int .i64 C0.wi, .slice C0.A2 C0.n2 C0.c2, .bool C0.ag, .int .i64 C1.id, .int .i64 C1.x, .int .i64 C1.y, .slice C1.A1 C1.n1 C1.c1, .int .i64 C1.wi, .slice C1.A2 C1.n2 C1.c2, .bool C1.ag] ∧ InP W C0 ∧ InP W C1 := by
  have hs : ∃ cs, v = .agg cs ∧ cs.size = Tryd.prog.cellsOf 36 := by
    simp only [Value.okWide, Tryd.underlying36] at hv
    obtain ⟨cs, h1, h2, _⟩ := hv
    exact ⟨cs, h1, h2⟩
  obtain ⟨cs, rfl, hsz⟩ := hs
  rw [cells_players2W] at hsz
  obtain ⟨u0, u1, u2, u3, u4, u5, u6, u7, u8, u9, u10, u11, u12, u13, rfl⟩ : ∃ u0 u1 u2 u3 u4 u5 u6 u7 u8 u9 u10 u11 u12 u13, cs = #[u0, u1, u2, u3, u4, u5, u6, u7, u8, u9, u10, u11, u12, u13] := by
    obtain ⟨l⟩ := cs
    match l, hsz with
    | [u0, u1, u2, u3, u4, u5, u6, u7, u8, u9, u10, u11, u12, u13], _ => exact ⟨u0, u1, u2, u3, u4, u5, u6, u7, u8, u9, u10, u11, u12, u13, rfl⟩
  obtain ⟨fuel, hf⟩ := h
  obtain ⟨xs, m, _, _, _, hxl, hx⟩ := DataW.trod_array Tryd.underlying36 hf
  rw [cells_plW] at hx
  have f0 : DataW.trod enc Tryd.prog W base (fun _ => true) held m 35 [u0, u1, u2, u3, u4, u5, u6] = xs[0]? := hx 0 (by omega)
  have f1 : DataW.trod enc Tryd.prog W base (fun _ => true) held m 35 [u7, u8, u9, u10, u11, u12, u13] = xs[1]? := hx 1 (by omega)
  rw [List.getElem?_eq_getElem (by omega)] at f0 f1
  obtain ⟨C0, ⟨rfl, rfl, rfl, rfl, rfl, rfl, rfl⟩, h0⟩ := open_playerL f0
  obtain ⟨C1, ⟨rfl, rfl, rfl, rfl, rfl, rfl, rfl⟩, h1⟩ := open_playerL f1
  exact ⟨C0, C1, rfl, h0, h1⟩
end Go.Proofs.YtjdhbgdpmojobaaDoor
namespace Go.Proofs.YtjdhbgdpmojobaaDoor
open Go.ChangeShapes Go.WideShapes Go.ChangeAt Go.RowKit Go.Deep

theorem open_intZ {H : Type} {enc : TypeId × Value → H} {W : World} {held : Bool} {base fuel : Nat} {a : Addr} {cs : List Value} {x : DataW H × List MemPlace}
    (hc : W.cells? base a 1 = some cs) (h : DataW.trod enc Tryd.prog W base (fun _ => true) held fuel 3 cs = some x) : ∃ i : Int, ZAt W a i ∧ True := by
  obtain ⟨_, hlen, hat⟩ := World.cells?_some hc
  match cs, hlen with
  | [u0], _ =>
    have c0 := hat 0 (by omega)
    obtain ⟨k, e0, _, _⟩ := DataW.trod_int Tryd.underlying3 h
    have q0 : u0 = .int .i64 k := by simpa using e0
    subst q0
    exact ⟨k, by unfold ZAt; simpa [Addr.add] using c0, trivial⟩
theorem open_rowi {H : Type} {enc : TypeId × Value → H} {W : World} {held : Bool} {A : Option Addr} {n c : Nat} {d : DataW H} {p : List MemPlace} {base : Nat}
    (h : DataW.Trod enc Tryd.prog W base (fun _ => true) held 58 (Value.slice A n c) d p) : n ≤ c ∧ c ≤ maxLen ∧ ∃ l, RwK W 1 (ZAt W) A n l := by
  obtain ⟨h1, h2, xs, h3, _⟩ := open_rowX 1 (ZAt W) (fun _ => True) Tryd.underlying58 cells_int (fun _ _ _ _ hc hx => open_intZ hc hx) (fun _ _ hy => ⟨_, hy⟩) h
  exact ⟨h1, h2, xs, h3⟩
end Go.Proofs.YtjdhbgdpmojobaaDoor

/-
  Slots, chunks and pairs of bytes that came in by value, opened. No statement of the seat is proved here.
-/
import Derived.Test.YtjdhbgdpmojobaaDoorFrameL
import Derived.Test.YtjdhbgdpmojobaaDoorChI
namespace Go.Proofs.YtjdhbgdpmojobaaDoor
open Go.ChangeShapes Go.WideShapes Go.ChangeAt Go.RowKit Go.Deep

theorem cells_hpX : Tryd.prog.cellsOf 114 = 3 := by kernel_rfl
theorem cells_bxX : Tryd.prog.cellsOf 97 = 2 := by kernel_rfl
theorem cells_slsX : Tryd.prog.cellsOf 33 = 1 := by kernel_rfl
theorem cells_itsX : Tryd.prog.cellsOf 27 = 1 := by kernel_rfl
theorem cells_hpsX : Tryd.prog.cellsOf 28 = 1 := by kernel_rfl
theorem cells_bxsX : Tryd.prog.cellsOf 29 = 1 := by kernel_rfl
theorem cells_chX : Tryd.prog.cellsOf 31 = 5 := by kernel_rfl
set_option maxRecDepth 100000 in
theorem slice_shapeX {H : Type} {enc : TypeId × Value → H} {W : World} {held : Bool} {base fuel : Nat} {t e : TypeId} {v : Value} {x : DataW H × List MemPlace} (ht : Tryd.prog.underlying t = some (.slice e))
    (h : DataW.trod enc Tryd.prog W base (fun _ => true) held fuel t [v] = some x) : ∃ A sn sc, v = .slice A sn sc := by
  rcases open_slice ht h with ⟨e2, _⟩ | ⟨b, sn, sc, _, _, _, _, e2, _⟩
  · exact ⟨none, 0, 0, by simpa using e2⟩
  · exact ⟨some b, sn, sc, by simpa using e2⟩
theorem open_rowX {α H : Type} {enc : TypeId × Value → H} {W : World} {held : Bool} {A : Option Addr} {n c : Nat} {d : DataW H} {p : List MemPlace} {base : Nat} {t e : TypeId} (size : Nat) (At : Addr → α → Prop) (Ok : α → Prop)
    (ht : Tryd.prog.underlying t = some (.slice e)) (hsz : Tryd.prog.cellsOf e = size)
    (each : ∀ (a : Addr) (cs : List Value) (fuel : Nat) (x : DataW H × List MemPlace), W.cells? base a size = some cs → DataW.trod enc Tryd.prog W base (fun _ => true) held fuel e cs = some x → ∃ y, At a y ∧ Ok y)
    (first : ∀ a y, At a y → ∃ v, W.cell? a = some v)
    (h : DataW.Trod enc Tryd.prog W base (fun _ => true) held t (Value.slice A n c) d p) : n ≤ c ∧ c ≤ maxLen ∧ ∃ xs, RwK W size At A n xs ∧ ∀ x ∈ xs, Ok x := by
  obtain ⟨fuel, hf⟩ := h
  rcases open_slice ht hf with ⟨hcs, _⟩ | ⟨a, len, cap, m, k, D, Pl, hcs, _, hl, hmx, hm, _, hi⟩
  · simp [Value.cells] at hcs
    obtain ⟨rfl, rfl, rfl⟩ := hcs
    exact ⟨Nat.le_refl _, Nat.zero_le _, [], ⟨rfl, (fun h => absurd h (by omega))⟩, fun x hx => by cases hx⟩
  · simp [Value.cells] at hcs
    obtain ⟨rfl, rfl, rfl⟩ := hcs
    have hmc : n ≤ m := by rw [hm]; simpa using hl
    rw [hsz] at hi
    obtain ⟨xs, hxl, hx⟩ := list_of (fun i y => At (a.add (i * size)) y ∧ Ok y) n (fun i hin => by
      obtain ⟨cs', hc, ht'⟩ := hi i (by omega)
      exact each _ _ _ _ hc ht')
    refine ⟨hl, hmx, xs, ⟨hxl, fun hn => ?_⟩, fun x hxm => ?_⟩
    · obtain ⟨v, h0⟩ := first _ _ (hx 0 (by omega)).1
      obtain ⟨b, o, spot⟩ := a
      have hspot : spot = none := by simpa [Addr.add] using World.cell?_spot h0
      subst hspot
      refine ⟨b, o, rfl, World.block_lt_of_cell? W _ (by simpa [Addr.add_lit] using h0), fun j hj => ?_⟩
      have := (hx j hj).1
      rw [Addr.add_lit] at this
      exact this
    · obtain ⟨j, hj, rfl⟩ := List.getElem_of_mem hxm
      exact (hx j hj).2
set_option maxRecDepth 100000 in
theorem open_itemX {H : Type} {enc : TypeId × Value → H} {W : World} {held : Bool} {base fuel : Nat} {a : Addr} {cs : List Value} {x : DataW H × List MemPlace}
    (hc : W.cells? base a 1 = some cs) (h : DataW.trod enc Tryd.prog W base (fun _ => true) held fuel 50 cs = some x) : ∃ i : Nat, ItAt W a i ∧ i < 256 := by
  obtain ⟨_, hlen, hat⟩ := World.cells?_some hc
  match cs, hlen with
  | [u0], _ =>
    have c0 := hat 0 (by omega)
    obtain ⟨k, e0, _, w0⟩ := DataW.trod_int Tryd.underlying50 h
    have b0 := bounds_u8 w0
    have q0 : u0 = .int .u8 k := by simpa using e0
    subst q0
    have : a.add 0 = a := by simp [Addr.add]
    rw [this] at c0
    refine ⟨k.toNat, ?_, by omega⟩
    show W.cell? a = _
    rw [c0, show (((k.toNat : Nat) : Int)) = k by omega]
    rfl
set_option maxRecDepth 100000 in
theorem open_heapX {H : Type} {enc : TypeId × Value → H} {W : World} {held : Bool} {base fuel : Nat} {a : Addr} {cs : List Value} {x : DataW H × List MemPlace}
    (hc : W.cells? base a 3 = some cs) (h : DataW.trod enc Tryd.prog W base (fun _ => true) held fuel 114 cs = some x) : ∃ i : Hp, HpAt W a i ∧ i.2.1 < 256 := by
  obtain ⟨_, hlen, hat⟩ := World.cells?_some hc
  obtain ⟨xs, n, _, _, _, hxl, hf⟩ := DataW.trod_struct Tryd.underlying114 h
  match cs, hlen with
  | [u0, u1, u2], _ =>
    have c0 := hat 0 (by omega)
    have c1 := hat 1 (by omega)
    have c2 := hat 2 (by omega)
    have f0 : DataW.trod enc Tryd.prog W base (fun _ => true) held n 3 (List.take (Tryd.prog.cellsOf 3) (List.drop 0 [u0, u1, u2])) = xs[0]? := hf 0 _ rfl
    have f1 : DataW.trod enc Tryd.prog W base (fun _ => true) held n 112 (List.take (Tryd.prog.cellsOf 112) (List.drop 1 [u0, u1, u2])) = xs[1]? := hf 1 _ rfl
    clear hf
    rw [cells_int] at f0
    rw [cells_slot] at f1
    have hx2 : xs.length = 2 := hxl
    rw [List.getElem?_eq_getElem (by omega)] at f0 f1
    obtain ⟨k, e0, _, w0⟩ := DataW.trod_int Tryd.underlying3 f0
    have q0 : u0 = .int .i64 k := by simpa using e0
    subst q0
    obtain ⟨y0, y1, m, _, _, g0, g1⟩ := trod_struct2 Tryd.underlying112 f1
    simp only [cells_item, cells_int] at g0 g1
    obtain ⟨i, e1, _, w1⟩ := DataW.trod_int Tryd.underlying50 g0
    obtain ⟨z, e2, _, _⟩ := DataW.trod_int Tryd.underlying3 g1
    have b1 := bounds_u8 w1
    have q1 : u1 = .int .u8 i := by simpa using e1
    have q2 : u2 = .int .i64 z := by simpa using e2
    subst q1 q2
    have : a.add 0 = a := by simp [Addr.add]
    rw [this] at c0
    refine ⟨(k, i.toNat, z), ⟨c0, ?_, c2⟩, by show i.toNat < 256; omega⟩
    rw [c1, show (((i.toNat : Nat) : Int)) = i by omega]
    rfl
set_option maxRecDepth 100000 in
theorem open_boxX {H : Type} {enc : TypeId × Value → H} {W : World} {held : Bool} {base fuel : Nat} {a : Addr} {cs : List Value} {x : DataW H × List MemPlace}
    (hc : W.cells? base a 2 = some cs) (h : DataW.trod enc Tryd.prog W base (fun _ => true) held fuel 97 cs = some x) : ∃ b : Bx, BxAt W a b ∧ (By b.l ∧ b.n ≤ 9223372036854775807) := by
  obtain ⟨_, hlen, hat⟩ := World.cells?_some hc
  obtain ⟨xs, n, _, _, _, hxl, hf⟩ := DataW.trod_struct Tryd.underlying97 h
  match cs, hlen with
  | [u0, u1], _ =>
    have c0 := hat 0 (by omega)
    have c1 := hat 1 (by omega)
    have f0 : DataW.trod enc Tryd.prog W base (fun _ => true) held n 3 (List.take (Tryd.prog.cellsOf 3) (List.drop 0 [u0, u1])) = xs[0]? := hf 0 _ rfl
    have f1 : DataW.trod enc Tryd.prog W base (fun _ => true) held n 33 (List.take (Tryd.prog.cellsOf 33) (List.drop 1 [u0, u1])) = xs[1]? := hf 1 _ rfl
    clear hf
    rw [cells_int] at f0
    rw [cells_slsX] at f1
    have hx2 : xs.length = 2 := hxl
    rw [List.getElem?_eq_getElem (by omega)] at f0 f1
    obtain ⟨k, e0, _, w0⟩ := DataW.trod_int Tryd.underlying3 f0
    have q0 : u0 = .int .i64 k := by simpa using e0
    subst q0
    obtain ⟨A, sn, sc, rfl⟩ := slice_shapeX Tryd.underlying33 f1
    obtain ⟨hle, hmx, l, hl, hby⟩ := open_slots (A := A) (n := sn) (c := sc) (d := (xs[1]'(by omega)).1) (p := (xs[1]'(by omega)).2) (base := base) (enc := enc) (W := W) (held := held) ⟨n, f1⟩
    have : a.add 0 = a := by simp [Addr.add]
    rw [this] at c0
    refine ⟨⟨k, A, sn, sc, l⟩, ⟨c0, c1, hl⟩, hby, ?_⟩
    unfold maxLen at hmx
    show sn ≤ _
    omega
set_option maxRecDepth 100000 in
/-- A chunk that came in by value. -/
theorem open_chunk {H : Type} {enc : TypeId × Value → H} {W : World} {held : Bool} {v : Value} {d : DataW H} {p : List MemPlace} {base : Nat} {r : Reach} {b0 : Nat}
    (hv : Value.okWide Tryd.prog W r b0 31 v) (h : DataW.Trod enc Tryd.prog W base (fun _ => true) held 31 v d p) : ∃ C : Ch, v = C.val ∧ InC W C := by
  have hs : ∃ cs, v = .agg cs ∧ cs.size = Tryd.prog.cellsOf 31 := by
    simp only [Value.okWide, Tryd.underlying31] at hv
    obtain ⟨cs, h1, h2, _⟩ := hv
    exact ⟨cs, h1, h2⟩
  obtain ⟨cs, rfl, hsz⟩ := hs
  rw [cells_chX] at hsz
  obtain ⟨u0, u1, u2, u3, u4, rfl⟩ : ∃ u0 u1 u2 u3 u4, cs = #[u0, u1, u2, u3, u4] := by
    obtain ⟨l⟩ := cs
    match l, hsz with
    | [u0, u1, u2, u3, u4], _ => exact ⟨u0, u1, u2, u3, u4, rfl⟩
  obtain ⟨fuel, hf⟩ := h
  obtain ⟨xs, n, _, _, _, hxl, hx⟩ := DataW.trod_struct Tryd.underlying31 hf
  have f0 : DataW.trod enc Tryd.prog W base (fun _ => true) held n 3 (List.take (Tryd.prog.cellsOf 3) (List.drop 0 [u0, u1, u2, u3, u4])) = xs[0]? := hx 0 _ rfl
  have f1 : DataW.trod enc Tryd.prog W base (fun _ => true) held n 3 (List.take (Tryd.prog.cellsOf 3) (List.drop 1 [u0, u1, u2, u3, u4])) = xs[1]? := hx 1 _ rfl
  have f2 : DataW.trod enc Tryd.prog W base (fun _ => true) held n 27 (List.take (Tryd.prog.cellsOf 27) (List.drop 2 [u0, u1, u2, u3, u4])) = xs[2]? := hx 2 _ rfl
  have f3 : DataW.trod enc Tryd.prog W base (fun _ => true) held n 28 (List.take (Tryd.prog.cellsOf 28) (List.drop 3 [u0, u1, u2, u3, u4])) = xs[3]? := hx 3 _ rfl
  have f4 : DataW.trod enc Tryd.prog W base (fun _ => true) held n 29 (List.take (Tryd.prog.cellsOf 29) (List.drop 4 [u0, u1, u2, u3, u4])) = xs[4]? := hx 4 _ rfl
  clear hx
  rw [cells_int] at f0 f1
  rw [cells_itsX] at f2
  rw [cells_hpsX] at f3
  rw [cells_bxsX] at f4
  have hx5 : xs.length = 5 := hxl
  rw [List.getElem?_eq_getElem (by omega)] at f0 f1 f2 f3 f4
  obtain ⟨x, e0, _, _⟩ := DataW.trod_int Tryd.underlying3 f0
  obtain ⟨y, e1, _, _⟩ := DataW.trod_int Tryd.underlying3 f1
  have q0 : u0 = .int .i64 x := by simpa using e0
  have q1 : u1 = .int .i64 y := by simpa using e1
  subst q0 q1
  obtain ⟨A1, n1, c1, rfl⟩ := slice_shapeX Tryd.underlying27 f2
  obtain ⟨A2, n2, c2, rfl⟩ := slice_shapeX Tryd.underlying28 f3
  obtain ⟨A3, n3, c3, rfl⟩ := slice_shapeX Tryd.underlying29 f4
  obtain ⟨hl1, hm1, cs, hr1, ho1⟩ := open_rowX (A := A1) (n := n1) (c := c1) (d := (xs[2]'(by omega)).1) (p := (xs[2]'(by omega)).2) (base := base) (enc := enc) (W := W) (held := held) 1 (ItAt W) (fun i => i < 256) Tryd.underlying27 cells_item (fun _ _ _ _ hc hx => open_itemX hc hx) (fun _ _ hy => ⟨_, hy⟩) ⟨n, f2⟩
  obtain ⟨hl2, hm2, hps, hr2, ho2⟩ := open_rowX (A := A2) (n := n2) (c := c2) (d := (xs[3]'(by omega)).1) (p := (xs[3]'(by omega)).2) (base := base) (enc := enc) (W := W) (held := held) 3 (HpAt W) (fun i => i.2.1 < 256) Tryd.underlying28 cells_hpX (fun _ _ _ _ hc hx => open_heapX hc hx) (fun _ _ hy => ⟨_, hy.1⟩) ⟨n, f3⟩
  obtain ⟨hl3, hm3, bs, hr3, ho3⟩ := open_rowX (A := A3) (n := n3) (c := c3) (d := (xs[4]'(by omega)).1) (p := (xs[4]'(by omega)).2) (base := base) (enc := enc) (W := W) (held := held) 2 (BxAt W) (fun b => By b.l ∧ b.n ≤ 9223372036854775807) Tryd.underlying29 cells_bxX (fun _ _ _ _ hc hx => open_boxX hc hx) (fun _ _ hy => ⟨_, hy.1⟩) ⟨n, f4⟩
  unfold maxLen at hm1 hm2 hm3
  refine ⟨⟨x, y, A1, n1, c1, cs, A2, n2, c2, hps, A3, n3, c3, bs⟩, rfl, ⟨⟨hr1, hr2, hr3⟩, hl3, ⟨?_, ?_, ?_, fun b hb => (ho3 b hb).2⟩, ⟨ho1, ho2, fun b hb => ?_⟩⟩⟩
  · show n1 ≤ _; omega
  · show n2 ≤ _; omega
  · show n3 ≤ _; omega
  · obtain ⟨b', hb', rfl⟩ := List.mem_map.1 hb
    exact (ho3 b' hb').1
set_option maxRecDepth 100000 in
/-- A slot that came in by value. -/
theorem open_slotv {H : Type} {enc : TypeId × Value → H} {W : World} {held : Bool} {v : Value} {d : DataW H} {p : List MemPlace} {base : Nat} {r : Reach} {b0 : Nat}
    (hv : Value.okWide Tryd.prog W r b0 112 v) (h : DataW.Trod enc Tryd.prog W base (fun _ => true) held 112 v d p) : ∃ (s : Nat) (m : Int), v = .agg #[.int .u8 (s : Int), .int .i64 m] ∧ s < 256 := by
  have hs : ∃ cs, v = .agg cs ∧ cs.size = Tryd.prog.cellsOf 112 := by
    simp only [Value.okWide, Tryd.underlying112] at hv
    obtain ⟨cs, h1, h2, _⟩ := hv
    exact ⟨cs, h1, h2⟩
  obtain ⟨cs, rfl, hsz⟩ := hs
  rw [cells_slot] at hsz
  obtain ⟨u0, u1, rfl⟩ : ∃ u0 u1, cs = #[u0, u1] := by
    obtain ⟨l⟩ := cs
    match l, hsz with
    | [u0, u1], _ => exact ⟨u0, u1, rfl⟩
  obtain ⟨fuel, hf⟩ := h
  obtain ⟨y0, y1, m, _, _, g0, g1⟩ := trod_struct2 Tryd.underlying112 hf
  simp only [cells_item, cells_int] at g0 g1
  obtain ⟨i, e1, _, w1⟩ := DataW.trod_int Tryd.underlying50 g0
  obtain ⟨z, e2, _, _⟩ := DataW.trod_int Tryd.underlying3 g1
  have b1 := bounds_u8 w1
  have q1 : u0 = .int .u8 i := by simpa [Value.cells] using e1
  have q2 : u1 = .int .i64 z := by simpa [Value.cells] using e2
  subst q1 q2
  refine ⟨i.toNat, z, ?_, by omega⟩
  rw [show (((i.toNat : Nat) : Int)) = i by omega]
theorem cells_u8X : Tryd.prog.cellsOf 5 = 1 := by kernel_rfl
end Go.Proofs.YtjdhbgdpmojobaaDoor

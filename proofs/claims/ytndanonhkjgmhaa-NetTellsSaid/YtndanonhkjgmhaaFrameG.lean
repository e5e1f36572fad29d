/-
  Lists of datagrams and of deeds, and an array of three bytes, that came in, opened. No statement of the seat is proved here.
-/
import Derived.Test.YtndanonhkjgmhaaFrameN
import Derived.Test.YtndanonhkjgmhaaNtF
namespace Go.Proofs.Ytndanonhkjgmhaa
open Go.ChangeShapes Go.WideShapes Go.ChangeAt Go.RowKit Go.Deep

set_option maxRecDepth 100000 in
theorem cells_gr : Try.prog.cellsOf 30 = 3 := by kernel_rfl
set_option maxRecDepth 100000 in
theorem cells_bs1 : Try.prog.cellsOf 28 = 1 := by kernel_rfl
set_option maxRecDepth 100000 in
theorem cells_int1 : Try.prog.cellsOf 3 = 1 := by kernel_rfl
set_option maxRecDepth 100000 in
theorem cells_deed : Try.prog.cellsOf 46 = 5 := by kernel_rfl
set_option maxRecDepth 100000 in
theorem cells_arr3 : Try.prog.cellsOf 70 = 3 := by kernel_rfl
set_option maxRecDepth 100000 in
theorem slice_shape {H : Type} {enc : TypeId × Value → H} {W : World} {held : Bool} {base fuel : Nat} {t e : TypeId} {v : Value} {x : DataW H × List MemPlace} (ht : Try.prog.underlying t = some (.slice e))
    (h : DataW.trod enc Try.prog W base (fun _ => true) held fuel t [v] = some x) : ∃ A sn sc, v = .slice A sn sc := by
  rcases open_slice ht h with ⟨e2, _⟩ | ⟨b, sn, sc, _, _, _, _, e2, _⟩
  · exact ⟨none, 0, 0, by simpa using e2⟩
  · exact ⟨some b, sn, sc, by simpa using e2⟩
set_option maxRecDepth 100000 in
theorem open_gram {H : Type} {enc : TypeId × Value → H} {W : World} {held : Bool} {base fuel : Nat} {a : Addr} {cs : List Value} {x : DataW H × List MemPlace}
    (hc : W.cells? base a 3 = some cs) (h : DataW.trod enc Try.prog W base (fun _ => true) held fuel 30 cs = some x) : ∃ t, GrAt W a t := by
  obtain ⟨_, hlen, hat⟩ := World.cells?_some hc
  obtain ⟨xs, n, _, _, _, hxl, hf⟩ := DataW.trod_struct Try.underlying30 h
  match cs, hlen with
  | [u0, u1, u2], _ =>
    have c0 := hat 0 (by omega)
    have c1 := hat 1 (by omega)
    have c2 := hat 2 (by omega)
    have f0 : DataW.trod enc Try.prog W base (fun _ => true) held n 3 (List.take (Try.prog.cellsOf 3) (List.drop 0 [u0, u1, u2])) = xs[0]? := hf 0 _ rfl
    have f1 : DataW.trod enc Try.prog W base (fun _ => true) held n 3 (List.take (Try.prog.cellsOf 3) (List.drop 1 [u0, u1, u2])) = xs[1]? := hf 1 _ rfl
    have f2 : DataW.trod enc Try.prog W base (fun _ => true) held n 28 (List.take (Try.prog.cellsOf 28) (List.drop 2 [u0, u1, u2])) = xs[2]? := hf 2 _ rfl
    clear hf
    rw [cells_int1] at f0 f1
    rw [cells_bs1] at f2
    have hx3 : xs.length = 3 := hxl
    rw [List.getElem?_eq_getElem (by omega)] at f0 f1 f2
    obtain ⟨k, e0, _, w0⟩ := DataW.trod_int Try.underlying3 f0
    obtain ⟨m, e1, _, w1⟩ := DataW.trod_int Try.underlying3 f1
    have q0 : u0 = .int .i64 k := by simpa using e0
    have q1 : u1 = .int .i64 m := by simpa using e1
    obtain ⟨A, sn, sc, rfl⟩ := slice_shape Try.underlying28 f2
    obtain ⟨hle, _, l, hl⟩ := open_bytes (A := A) (n := sn) (c := sc) (d := (xs[2]'(by omega)).1) (p := (xs[2]'(by omega)).2) (base := base) (enc := enc) (W := W) (held := held) ⟨n, f2⟩
    subst q0 q1
    refine ⟨⟨k, m, A, sn, sc, l⟩, ?_, c1, c2, hle, hl⟩
    have : a.add 0 = a := by simp [Addr.add]
    rw [this] at c0
    exact c0
set_option maxRecDepth 100000 in
theorem open_grams {H : Type} {enc : TypeId × Value → H} {W : World} {held : Bool} {A : Option Addr} {n c : Nat} {d : DataW H} {p : List MemPlace} {base : Nat}
    (h : DataW.Trod enc Try.prog W base (fun _ => true) held 62 (Value.slice A n c) d p) : n ≤ c ∧ c ≤ maxLen ∧ ∃ xs, RowOf W 3 (GrAt W) A n xs :=
  open_row 3 (GrAt W) Try.underlying62 cells_gr (fun _ _ _ _ hc hx => open_gram hc hx) (fun _ _ hy => ⟨_, hy.1⟩) h
/-- A deed as it came in. -/
structure De where
  what : Nat
  fr : Int
  to : Int
  pl : Int
  A : Option Addr
  n : Nat
  c : Nat
  l : List UInt8
def DeAt (W : World) (a : Addr) (x : De) : Prop := W.cell? a = some (.int .u8 (x.what : Int)) ∧ W.cell? (a.add 1) = some (.int .i64 x.fr) ∧ W.cell? (a.add 2) = some (.int .i64 x.to) ∧ W.cell? (a.add 3) = some (.int .i64 x.pl) ∧ W.cell? (a.add 4) = some (.slice x.A x.n x.c) ∧ x.what < 256 ∧ x.n ≤ x.c ∧ Rd W W.heap.size x.A x.n x.l ∧ (-9223372036854775808 ≤ x.pl ∧ x.pl ≤ 9223372036854775807)
theorem DeAt.no {W W' : World} {b o : Nat} {x : De} (h : DeAt W ⟨b, o, none⟩ x) (hb : b < W.heap.size) (hf : Below W.heap.size W W') : DeAt W' ⟨b, o, none⟩ x := by
  obtain ⟨h0, h1, h2, h3, h4, h5, h6, h7, h8⟩ := h
  have hc : ∀ k, W'.cell? ((⟨b, o, none⟩ : Addr).add k) = W.cell? ((⟨b, o, none⟩ : Addr).add k) := fun k => by
    rw [Addr.add_lit]
    exact World.cell?_of_block (a := ⟨b, o + k, none⟩) (hf.block b hb)
  exact ⟨(World.cell?_of_block (a := ⟨b, o, none⟩) (hf.block b hb)).trans h0, (hc 1).trans h1, (hc 2).trans h2, (hc 3).trans h3, (hc 4).trans h4, h5, h6, (h7.below hf).more hf.size, h8⟩
theorem deeds_no {W W' : World} {A : Option Addr} {n : Nat} {xs : List De} (h : RowOf W 5 (DeAt W) A n xs) (hf : Below W.heap.size W W') : RowOf W' 5 (DeAt W') A n xs := by
  refine ⟨h.1, fun hn => ?_⟩
  obtain ⟨b, o, e, hb, hc⟩ := h.2 hn
  exact ⟨b, o, e, Nat.lt_of_lt_of_le hb hf.size, fun j hj => (hc j hj).no hb hf⟩
set_option maxRecDepth 100000 in
theorem open_deed {H : Type} {enc : TypeId × Value → H} {W : World} {held : Bool} {base fuel : Nat} {a : Addr} {cs : List Value} {x : DataW H × List MemPlace}
    (hc : W.cells? base a 5 = some cs) (h : DataW.trod enc Try.prog W base (fun _ => true) held fuel 46 cs = some x) : ∃ t, DeAt W a t := by
  obtain ⟨_, hlen, hat⟩ := World.cells?_some hc
  obtain ⟨xs, n, _, _, _, hxl, hf⟩ := DataW.trod_struct Try.underlying46 h
  match cs, hlen with
  | [u0, u1, u2, u3, u4], _ =>
    have c0 := hat 0 (by omega)
    have c1 := hat 1 (by omega)
    have c2 := hat 2 (by omega)
    have c3 := hat 3 (by omega)
    have c4 := hat 4 (by omega)
    have f0 : DataW.trod enc Try.prog W base (fun _ => true) held n 5 (List.take (Try.prog.cellsOf 5) (List.drop 0 [u0, u1, u2, u3, u4])) = xs[0]? := hf 0 _ rfl
    have f1 : DataW.trod enc Try.prog W base (fun _ => true) held n 3 (List.take (Try.prog.cellsOf 3) (List.drop 1 [u0, u1, u2, u3, u4])) = xs[1]? := hf 1 _ rfl
    have f2 : DataW.trod enc Try.prog W base (fun _ => true) held n 3 (List.take (Try.prog.cellsOf 3) (List.drop 2 [u0, u1, u2, u3, u4])) = xs[2]? := hf 2 _ rfl
    have f3 : DataW.trod enc Try.prog W base (fun _ => true) held n 3 (List.take (Try.prog.cellsOf 3) (List.drop 3 [u0, u1, u2, u3, u4])) = xs[3]? := hf 3 _ rfl
    have f4 : DataW.trod enc Try.prog W base (fun _ => true) held n 28 (List.take (Try.prog.cellsOf 28) (List.drop 4 [u0, u1, u2, u3, u4])) = xs[4]? := hf 4 _ rfl
    clear hf
    rw [cells_u8] at f0
    rw [cells_int1] at f1 f2 f3
    rw [cells_bs1] at f4
    have hx5 : xs.length = 5 := hxl
    rw [List.getElem?_eq_getElem (by omega)] at f0 f1 f2 f3 f4
    obtain ⟨k, e0, _, w0⟩ := DataW.trod_int Try.underlying5 f0
    obtain ⟨m1, e1, _, w1⟩ := DataW.trod_int Try.underlying3 f1
    obtain ⟨m2, e2, _, w2⟩ := DataW.trod_int Try.underlying3 f2
    obtain ⟨m3, e3, _, w3⟩ := DataW.trod_int Try.underlying3 f3
    have b0 := bounds_u8 w0
    have b3 := bounds_i64 w3
    have q0 : u0 = .int .u8 k := by simpa using e0
    have q1 : u1 = .int .i64 m1 := by simpa using e1
    have q2 : u2 = .int .i64 m2 := by simpa using e2
    have q3 : u3 = .int .i64 m3 := by simpa using e3
    obtain ⟨A, sn, sc, rfl⟩ := slice_shape Try.underlying28 f4
    obtain ⟨hle, _, l, hl⟩ := open_bytes (A := A) (n := sn) (c := sc) (d := (xs[4]'(by omega)).1) (p := (xs[4]'(by omega)).2) (base := base) (enc := enc) (W := W) (held := held) ⟨n, f4⟩
    subst q0 q1 q2 q3
    refine ⟨⟨k.toNat, m1, m2, m3, A, sn, sc, l⟩, ?_, c1, c2, c3, c4, ?_, hle, hl, b3⟩
    · have : a.add 0 = a := by simp [Addr.add]
      rw [this] at c0
      rw [c0, show ((k.toNat : Nat) : Int) = k by omega]
      rfl
    · show k.toNat < 256
      omega
set_option maxRecDepth 100000 in
theorem open_deeds {H : Type} {enc : TypeId × Value → H} {W : World} {held : Bool} {A : Option Addr} {n c : Nat} {d : DataW H} {p : List MemPlace} {base : Nat}
    (h : DataW.Trod enc Try.prog W base (fun _ => true) held 39 (Value.slice A n c) d p) : n ≤ c ∧ c ≤ maxLen ∧ ∃ xs, RowOf W 5 (DeAt W) A n xs :=
  open_row 5 (DeAt W) Try.underlying39 cells_deed (fun _ _ _ _ hc hx => open_deed hc hx) (fun _ _ hy => ⟨_, hy.1⟩) h
set_option maxRecDepth 100000 in
theorem open_arr3 {H : Type} {enc : TypeId × Value → H} {W : World} {held : Bool} {v : Value} {d : DataW H} {p : List MemPlace} {base : Nat} {r : Reach} {b0 : Nat}
    (hv : Value.okWide Try.prog W r b0 70 v) (h : DataW.Trod enc Try.prog W base (fun _ => true) held 70 v d p) : ∃ x y z : Nat, v = .agg #[.int .u8 (x : Int), .int .u8 (y : Int), .int .u8 (z : Int)] ∧ x < 256 ∧ y < 256 ∧ z < 256 := by
  have hs : ∃ cs, v = .agg cs ∧ cs.size = Try.prog.cellsOf 70 := by
    simp only [Value.okWide, Try.underlying70] at hv
    obtain ⟨cs, h1, h2, _⟩ := hv
    exact ⟨cs, h1, h2⟩
  obtain ⟨cs, rfl, hsz⟩ := hs
  rw [cells_arr3] at hsz
  obtain ⟨fuel, hf⟩ := h
  obtain ⟨xs, m, _, _, _, hxl, hx⟩ := DataW.trod_array Try.underlying70 hf
  rw [cells_u8] at hx
  have hall : ∀ i (hi : i < cs.size), ∃ z : Nat, cs[i] = .int .u8 (z : Int) ∧ z < 256 := by
    intro i hi
    have h1 := hx i (by omega)
    have hxi : i < xs.length := by omega
    rw [List.getElem?_eq_getElem hxi] at h1
    obtain ⟨z, hz, _, hw⟩ := DataW.trod_int Try.underlying5 h1
    have hb := bounds_u8 hw
    have hcl : (Value.agg cs).cells = cs := rfl
    rw [hcl, Nat.mul_one, List.drop_eq_getElem_cons (by simpa using hi), List.take_succ_cons, List.take_zero] at hz
    have := (List.cons.inj hz).1
    refine ⟨z.toNat, ?_, by omega⟩
    rw [show ((z.toNat : Nat) : Int) = z by omega]
    simpa using this
  obtain ⟨x, h0, hx0⟩ := hall 0 (by omega)
  obtain ⟨y, h1, hy0⟩ := hall 1 (by omega)
  obtain ⟨z, h2, hz0⟩ := hall 2 (by omega)
  refine ⟨x, y, z, ?_, hx0, hy0, hz0⟩
  congr 1
  apply Array.ext
  · simp [hsz]
  · intro i hi _
    match i, hi with
    | 0, _ => simpa using h0
    | 1, _ => simpa using h1
    | 2, _ => simpa using h2
    | i + 3, hi => omega
end Go.Proofs.Ytndanonhkjgmhaa

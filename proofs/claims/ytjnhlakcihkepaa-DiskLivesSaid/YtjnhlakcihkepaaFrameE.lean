/-
  Whole numbers, lists of these, and lists of calls that came in, opened. No statement of the seat is proved here.
-/
import Derived.Test.YtjnhlakcihkepaaFrameC
namespace Go.Proofs.Ytjnhlakcihkepaa
open Go.ChangeShapes Go.WideShapes Go.ChangeAt Go.RowKit Go.Deep

/-- A list of calls, as it stands in a cell. -/
structure Lv where
  A : Option Addr
  n : Nat
  c : Nat
  xs : List Cl
def LvAt (W : World) (a : Addr) (x : Lv) : Prop := W.cell? a = some (.slice x.A x.n x.c) ∧ RowOf W 6 (ClAt W) x.A x.n x.xs
def InAt (W : World) (a : Addr) (k : Int) : Prop := W.cell? a = some (.int .i64 k) ∧ -9223372036854775808 ≤ k ∧ k ≤ 9223372036854775807
/-- A list of whole numbers, as it stands in a cell. -/
structure Iv where
  A : Option Addr
  n : Nat
  c : Nat
  xs : List Int
def IvAt (W : World) (a : Addr) (x : Iv) : Prop := W.cell? a = some (.slice x.A x.n x.c) ∧ RowOf W 1 (InAt W) x.A x.n x.xs
set_option maxRecDepth 100000 in
theorem cells_calls1 : Try.prog.cellsOf 35 = 1 := by kernel_rfl
set_option maxRecDepth 100000 in
theorem open_intsD {H : Type} {enc : TypeId × Value → H} {W : World} {held : Bool} {A : Option Addr} {n c : Nat} {d : DataW H} {p : List MemPlace} {base : Nat}
    (h : DataW.Trod enc Try.prog W base (fun _ => true) held 24 (Value.slice A n c) d p) : n ≤ c ∧ c ≤ maxLen ∧ ∃ xs, RowOf W 1 (InAt W) A n xs := by
  refine open_row 1 (InAt W) Try.underlying24 cells_int1 (fun a cs fuel x hc hx => ?_) (fun a y hy => ⟨_, hy.1⟩) h
  obtain ⟨v, rfl, hv⟩ := one_cell hc
  obtain ⟨m, e, _, wm⟩ := DataW.trod_int Try.underlying3 hx
  have q : v = .int .i64 m := by simpa using e
  subst q
  have b := bounds_i64 wm
  exact ⟨m, hv, b.1, by omega⟩
set_option maxRecDepth 100000 in
theorem open_intss {H : Type} {enc : TypeId × Value → H} {W : World} {held : Bool} {A : Option Addr} {n c : Nat} {d : DataW H} {p : List MemPlace} {base : Nat}
    (h : DataW.Trod enc Try.prog W base (fun _ => true) held 25 (Value.slice A n c) d p) : n ≤ c ∧ c ≤ maxLen ∧ ∃ xs, RowOf W 1 (IvAt W) A n xs := by
  refine open_row 1 (IvAt W) Try.underlying25 cells_ints1 (fun a cs fuel x hc hx => ?_) (fun a y hy => ⟨_, hy.1⟩) h
  obtain ⟨v, rfl, hv⟩ := one_cell hc
  obtain ⟨A, sn, sc, rfl⟩ := slice_shape Try.underlying24 hx
  obtain ⟨_, _, l, hl⟩ := open_intsD (A := A) (n := sn) (c := sc) (d := x.1) (p := x.2) (base := base) (enc := enc) (W := W) (held := held) ⟨fuel, hx⟩
  exact ⟨⟨A, sn, sc, l⟩, hv, hl⟩
set_option maxRecDepth 100000 in
theorem open_callss {H : Type} {enc : TypeId × Value → H} {W : World} {held : Bool} {A : Option Addr} {n c : Nat} {d : DataW H} {p : List MemPlace} {base : Nat}
    (h : DataW.Trod enc Try.prog W base (fun _ => true) held 23 (Value.slice A n c) d p) : n ≤ c ∧ c ≤ maxLen ∧ ∃ xs, RowOf W 1 (LvAt W) A n xs := by
  refine open_row 1 (LvAt W) Try.underlying23 cells_calls1 (fun a cs fuel x hc hx => ?_) (fun a y hy => ⟨_, hy.1⟩) h
  obtain ⟨v, rfl, hv⟩ := one_cell hc
  obtain ⟨A, sn, sc, rfl⟩ := slice_shape Try.underlying35 hx
  obtain ⟨_, _, l, hl⟩ := open_calls (A := A) (n := sn) (c := sc) (d := x.1) (p := x.2) (base := base) (enc := enc) (W := W) (held := held) ⟨fuel, hx⟩
  exact ⟨⟨A, sn, sc, l⟩, hv, hl⟩
end Go.Proofs.Ytjnhlakcihkepaa

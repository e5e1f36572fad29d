/-
  A list of calls that came in, opened. No statement of the seat is proved here.
-/
import Derived.Test.YtpffgkflebbejaaFrameD
import Derived.Test.YtpffgkflebbejaaDmC
namespace Go.Proofs.Ytpffgkflebbejaa
open Go.ChangeShapes Go.WideShapes Go.ChangeAt Go.RowKit Go.Deep

set_option maxRecDepth 100000 in
theorem cells_cl : Try.prog.cellsOf 39 = 6 := by kernel_rfl
set_option maxRecDepth 100000 in
theorem cells_str : Try.prog.cellsOf 9 = 1 := by kernel_rfl
set_option maxRecDepth 100000 in
theorem cells_bs1 : Try.prog.cellsOf 37 = 1 := by kernel_rfl
set_option maxRecDepth 100000 in
theorem cells_int1 : Try.prog.cellsOf 3 = 1 := by kernel_rfl
set_option maxRecDepth 100000 in
theorem cells_ints1 : Try.prog.cellsOf 24 = 1 := by kernel_rfl
set_option maxRecDepth 100000 in
theorem slice_shape {H : Type} {enc : TypeId × Value → H} {W : World} {held : Bool} {base fuel : Nat} {t e : TypeId} {v : Value} {x : DataW H × List MemPlace} (ht : Try.prog.underlying t = some (.slice e))
    (h : DataW.trod enc Try.prog W base (fun _ => true) held fuel t [v] = some x) : ∃ A sn sc, v = .slice A sn sc := by
  rcases open_slice ht h with ⟨e2, _⟩ | ⟨b, sn, sc, _, _, _, _, e2, _⟩
  · exact ⟨none, 0, 0, by simpa using e2⟩
  · exact ⟨some b, sn, sc, by simpa using e2⟩
set_option maxRecDepth 100000 in
theorem open_call {H : Type} {enc : TypeId × Value → H} {W : World} {held : Bool} {base fuel : Nat} {a : Addr} {cs : List Value} {x : DataW H × List MemPlace}
    (hc : W.cells? base a 6 = some cs) (h : DataW.trod enc Try.prog W base (fun _ => true) held fuel 39 cs = some x) : ∃ t, ClAt W a t := by
  obtain ⟨_, hlen, hat⟩ := World.cells?_some hc
  obtain ⟨xs, n, _, _, _, hxl, hf⟩ := DataW.trod_struct Try.underlying39 h
  match cs, hlen with
  | [u0, u1, u2, u3, u4, u5], _ =>
    have c0 := hat 0 (by omega)
    have c1 := hat 1 (by omega)
    have c2 := hat 2 (by omega)
    have c3 := hat 3 (by omega)
    have c4 := hat 4 (by omega)
    have c5 := hat 5 (by omega)
    have f0 : DataW.trod enc Try.prog W base (fun _ => true) held n 5 (List.take (Try.prog.cellsOf 5) (List.drop 0 [u0, u1, u2, u3, u4, u5])) = xs[0]? := hf 0 _ rfl
    have f1 : DataW.trod enc Try.prog W base (fun _ => true) held n 9 (List.take (Try.prog.cellsOf 9) (List.drop 1 [u0, u1, u2, u3, u4, u5])) = xs[1]? := hf 1 _ rfl
    have f2 : DataW.trod enc Try.prog W base (fun _ => true) held n 9 (List.take (Try.prog.cellsOf 9) (List.drop 2 [u0, u1, u2, u3, u4, u5])) = xs[2]? := hf 2 _ rfl
    have f3 : DataW.trod enc Try.prog W base (fun _ => true) held n 37 (List.take (Try.prog.cellsOf 37) (List.drop 3 [u0, u1, u2, u3, u4, u5])) = xs[3]? := hf 3 _ rfl
    have f4 : DataW.trod enc Try.prog W base (fun _ => true) held n 3 (List.take (Try.prog.cellsOf 3) (List.drop 4 [u0, u1, u2, u3, u4, u5])) = xs[4]? := hf 4 _ rfl
    have f5 : DataW.trod enc Try.prog W base (fun _ => true) held n 24 (List.take (Try.prog.cellsOf 24) (List.drop 5 [u0, u1, u2, u3, u4, u5])) = xs[5]? := hf 5 _ rfl
    clear hf
    rw [cells_u8] at f0
    rw [cells_str] at f1 f2
    rw [cells_bs1] at f3
    rw [cells_int1] at f4
    rw [cells_ints1] at f5
    have hx6 : xs.length = 6 := hxl
    rw [List.getElem?_eq_getElem (by omega)] at f0 f1 f2 f3 f4 f5
    obtain ⟨k, e0, _, w0⟩ := DataW.trod_int Try.underlying5 f0
    obtain ⟨s1, e1, _, w1⟩ := DataW.trod_string Try.underlying9 f1
    obtain ⟨s2, e2, _, w2⟩ := DataW.trod_string Try.underlying9 f2
    obtain ⟨m, e4, _, w4⟩ := DataW.trod_int Try.underlying3 f4
    have b0 := bounds_u8 w0
    have q0 : u0 = .int .u8 k := by simpa using e0
    have q1 : u1 = .string s1 := by simpa using e1
    have q2 : u2 = .string s2 := by simpa using e2
    have q4 : u4 = .int .i64 m := by simpa using e4
    obtain ⟨A, sn, sc, rfl⟩ := slice_shape Try.underlying37 f3
    obtain ⟨KA, kn, kc, rfl⟩ := slice_shape Try.underlying24 f5
    obtain ⟨_, _, l, hl⟩ := open_bytes (A := A) (n := sn) (c := sc) (d := (xs[3]'(by omega)).1) (p := (xs[3]'(by omega)).2) (base := base) (enc := enc) (W := W) (held := held) ⟨n, f3⟩
    subst q0 q1 q2 q4
    refine ⟨⟨k.toNat, s1, s2, ⟨A, sn, sc, l⟩, m, KA, kn, kc⟩, ?_, c1, c2, c3, c4, c5, ?_, w1, w2, hl⟩
    · have : a.add 0 = a := by simp [Addr.add]
      rw [this] at c0
      rw [c0, show ((k.toNat : Nat) : Int) = k by omega]
      rfl
    · show k.toNat < 256
      omega
set_option maxRecDepth 100000 in
theorem open_calls {H : Type} {enc : TypeId × Value → H} {W : World} {held : Bool} {A : Option Addr} {n c : Nat} {d : DataW H} {p : List MemPlace} {base : Nat}
    (h : DataW.Trod enc Try.prog W base (fun _ => true) held 35 (Value.slice A n c) d p) : n ≤ c ∧ c ≤ maxLen ∧ ∃ xs, RowOf W 6 (ClAt W) A n xs :=
  open_row 6 (ClAt W) Try.underlying35 cells_cl (fun _ _ _ _ hc hx => open_call hc hx) (fun _ _ hy => ⟨_, hy.1⟩) h
end Go.Proofs.Ytpffgkflebbejaa

/-
  Arrays of ints that came in, opened. No statement of the seat is proved here.
-/
import Derived.Test.YtjdhbgdpmojobaaDoorFrameJ
namespace Go.Proofs.YtjdhbgdpmojobaaDoor
open Go.ChangeShapes Go.WideShapes Go.ChangeAt Go.RowKit Go.Deep
theorem cells_ints2 : Tryd.prog.cellsOf 45 = 2 := by kernel_rfl
set_option maxRecDepth 100000 in
theorem open_ints2 {H : Type} {enc : TypeId × Value → H} {W : World} {held : Bool} {v : Value} {d : DataW H} {p : List MemPlace} {base : Nat} {r : Reach} {b0 : Nat}
    (hv : Value.okWide Tryd.prog W r b0 45 v) (h : DataW.Trod enc Tryd.prog W base (fun _ => true) held 45 v d p) : ∃ x0 x1 : Int, v = .agg #[.int .i64 x0, .int .i64 x1] ∧ x0 ≤ 9223372036854775807 ∧ x1 ≤ 9223372036854775807 := by
  have hs : ∃ cs, v = .agg cs ∧ cs.size = Tryd.prog.cellsOf 45 := by
    simp only [Value.okWide, Tryd.underlying45] at hv
    obtain ⟨cs, h1, h2, _⟩ := hv
    exact ⟨cs, h1, h2⟩
  obtain ⟨cs, rfl, hsz⟩ := hs
  rw [cells_ints2] at hsz
  obtain ⟨fuel, hf⟩ := h
  obtain ⟨xs, m, _, _, _, hxl, hx⟩ := DataW.trod_array Tryd.underlying45 hf
  rw [cells_int] at hx
  have hall : ∀ i (hi : i < cs.size), ∃ z : Int, cs[i] = .int .i64 z ∧ z ≤ 9223372036854775807 := by
    intro i hi
    have h1 := hx i (by omega)
    have hxi : i < xs.length := by omega
    rw [List.getElem?_eq_getElem hxi] at h1
    obtain ⟨z, hz, _, hw⟩ := DataW.trod_int Tryd.underlying3 h1
    have hb := bounds_i64 hw
    have hcl : (Value.agg cs).cells = cs := rfl
    rw [hcl, Nat.mul_one, List.drop_eq_getElem_cons (by simpa using hi), List.take_succ_cons, List.take_zero] at hz
    have := (List.cons.inj hz).1
    exact ⟨z, by simpa using this, by omega⟩
  obtain ⟨x0, h0, b0⟩ := hall 0 (by omega)
  obtain ⟨x1, h1, b1⟩ := hall 1 (by omega)
  refine ⟨x0, x1, ?_, b0, b1⟩
  congr 1
  apply Array.ext
  · simp [hsz]
  · intro i hi _
    match i, hi with
    | 0, _ => simpa using h0
    | 1, _ => simpa using h1
    | i + 2, hi => omega
end Go.Proofs.YtjdhbgdpmojobaaDoor

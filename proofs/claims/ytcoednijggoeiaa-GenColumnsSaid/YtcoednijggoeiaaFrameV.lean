/-
  What the plain rows of layer 12 share: arguments opened. No statement of the seat is proved here.
-/
import Derived.Test.YtcoednijggoeiaaGnE
import Derived.ProofKit
import Derived.OpenShut
import Derived.ChangeOld
import Derived.Deep.Slices
import Derived.Deep.Fields
import Derived.ChangeSame
namespace Go.Proofs.Ytcoednijggoeiaa
open Go.ChangeShapes Go.WideShapes Go.ChangeAt Go.RowKit Go.Deep

set_option maxRecDepth 100000 in
theorem own : ownKnob Try.prog.godebug = none := by kernel_rfl
set_option maxRecDepth 100000 in
theorem laidOut : laidOutB Try.prog = true := by kernel_rfl
theorem cells_ints2 : Try.prog.cellsOf 23 = 2 := by kernel_rfl
set_option maxRecDepth 100000 in
theorem open_ints2 {H : Type} {enc : TypeId × Value → H} {W : World} {held : Bool} {v : Value} {d : DataW H} {p : List MemPlace} {base : Nat} {r : Reach} {b0 : Nat}
    (hv : Value.okWide Try.prog W r b0 23 v) (h : DataW.Trod enc Try.prog W base (fun _ => true) held 23 v d p) : ∃ x0 x1 : Int, v = .agg #[.int .i64 x0, .int .i64 x1] ∧ x0 ≤ 9223372036854775807 ∧ x1 ≤ 9223372036854775807 := by
  have hs : ∃ cs, v = .agg cs ∧ cs.size = Try.prog.cellsOf 23 := by
    simp only [Value.okWide, Try.underlying23] at hv
    obtain ⟨cs, h1, h2, _⟩ := hv
    exact ⟨cs, h1, h2⟩
  obtain ⟨cs, rfl, hsz⟩ := hs
  rw [cells_ints2] at hsz
  obtain ⟨fuel, hf⟩ := h
  obtain ⟨xs, m, _, _, _, hxl, hx⟩ := DataW.trod_array Try.underlying23 hf
  rw [cells_int] at hx
  have hall : ∀ i (hi : i < cs.size), ∃ z : Int, cs[i] = .int .i64 z ∧ z ≤ 9223372036854775807 := by
    intro i hi
    have h1 := hx i (by omega)
    have hxi : i < xs.length := by omega
    rw [List.getElem?_eq_getElem hxi] at h1
    obtain ⟨z, hz, _, hw⟩ := DataW.trod_int Try.underlying3 h1
    have hb := bounds_i64 hw
    have hcl : (Value.agg cs).cells = cs := rfl
    rw [hcl, Nat.mul_one, List.drop_eq_getElem_cons (by simpa using hi), List.take_succ_cons, List.take_zero] at hz
    have := (List.cons.inj hz).1
    exact ⟨z, by simpa using this, by omega⟩
  obtain ⟨x0, h0, b0⟩ := hall 0 (by omega)
  obtain ⟨x1, h1, b1⟩ := hall 1 (by omega)
  refine ⟨x0, x1, ?_, b0, b1⟩
  congr 1
  apply Array.ext
  · simp [hsz]
  · intro i hi _
    match i, hi with
    | 0, _ => simpa using h0
    | 1, _ => simpa using h1
    | i + 2, hi => omega
end Go.Proofs.Ytcoednijggoeiaa

/-
  Lists of truth values that came in, opened. No statement of the seat is proved here.
-/
import Derived.Test.YtpffgkflebbejaaFrameD
namespace Go.Proofs.Ytpffgkflebbejaa
open Go.ChangeShapes Go.WideShapes Go.ChangeAt Go.RowKit Go.Deep

set_option maxRecDepth 100000 in
theorem cells_bool : Try.prog.cellsOf 4 = 1 := by kernel_rfl
set_option maxRecDepth 100000 in
theorem open_boolsD {H : Type} {enc : TypeId × Value → H} {W : World} {held : Bool} {A : Option Addr} {n c : Nat} {d : DataW H} {p : List MemPlace} {base : Nat}
    (h : DataW.Trod enc Try.prog W base (fun _ => true) held 61 (Value.slice A n c) d p) : n ≤ c ∧ c ≤ maxLen ∧ ∃ xs, RowOf W 1 (fun a b => W.cell? a = some (.bool b)) A n xs := by
  refine open_row 1 _ Try.underlying61 cells_bool (fun a cs fuel x hc hx => ?_) (fun a y hy => ⟨_, hy⟩) h
  obtain ⟨v, rfl, hv⟩ := one_cell hc
  obtain ⟨b, e0, _⟩ := DataW.trod_bool Try.underlying4 hx
  have e1 : v = .bool b := by simpa using e0
  subst e1
  exact ⟨b, hv⟩
end Go.Proofs.Ytpffgkflebbejaa

/-
  How a Disk's power fails, is bound, and comes back. No statement of the seat is proved here.
-/
import Derived.Test.YtggejecmhfafoaaGreatDoorDkC
namespace Go.Proofs.YtggejecmhfafoaaGreatDoor
open Go.RowKit

set_option maxRecDepth 100000 in
/-- A power that has no step left fails. -/
theorem step_none (D : Nat) (w : World) (h : w.cell? ⟨D, 1, none⟩ = some (.bool true)) (hl : w.cell? ⟨D, 2, none⟩ = some (.int .i64 0)) (h0 : w.cell? ⟨D, 0, none⟩ = some (.bool false))
    (f0 : w.frozen? ⟨D, 0, none⟩ = false) (f1 : w.frozen? ⟨D, 1, none⟩ = false) (f2 : w.frozen? ⟨D, 2, none⟩ = false) :
    Calls Tryz.prog 33 #[.pointer (some ⟨D, 0, none⟩)] w fun e w' => e = .returned (.int .i64 15) ∧
      w' = ((w.setCell ⟨D, 0, none⟩ (.bool true)).setCell ⟨D, 1, none⟩ (.bool false)).setCell ⟨D, 2, none⟩ (.int .i64 0) := by
  go_enter Tryz.func33, Tryz.ntmps33
  go_wp2_with fail
  go_ret
  exact ⟨rfl, rfl⟩
set_option maxRecDepth 100000 in
/-- The power comes back. -/
theorem restore_any (D : Nat) (x y z : Value) (w : World) (h0 : w.cell? ⟨D, 0, none⟩ = some x) (h1 : w.cell? ⟨D, 1, none⟩ = some y) (h2 : w.cell? ⟨D, 2, none⟩ = some z)
    (f0 : w.frozen? ⟨D, 0, none⟩ = false) (f1 : w.frozen? ⟨D, 1, none⟩ = false) (f2 : w.frozen? ⟨D, 2, none⟩ = false) :
    Calls Tryz.prog 26 #[.pointer (some ⟨D, 0, none⟩)] w fun e w' => e = .returned (.tuple #[]) ∧
      w' = ((w.setCell ⟨D, 0, none⟩ (.bool false)).setCell ⟨D, 1, none⟩ (.bool false)).setCell ⟨D, 2, none⟩ (.int .i64 0) := by
  go_enter Tryz.func26, Tryz.ntmps26
  go_wp2_with fail
  go_end0
  exact ⟨rfl, rfl⟩
set_option maxRecDepth 100000 in
/-- A power that has failed is bound no more. -/
theorem bind_down (D : Nat) (n : Int) (w : World) (h0 : w.cell? ⟨D, 0, none⟩ = some (.bool true)) :
    Calls Tryz.prog 18 #[.pointer (some ⟨D, 0, none⟩), .int .i64 n] w fun e w' => e = .returned (.tuple #[]) ∧ w = w' := by
  go_enter Tryz.func18, Tryz.ntmps18
  go_wp2_with fail
  go_end0
  exact ⟨rfl, rfl⟩
set_option maxRecDepth 100000 in
/-- A power that is there is bound. -/
theorem bind_up (D : Nat) (n : Int) (y z : Value) (w : World) (h0 : w.cell? ⟨D, 0, none⟩ = some (.bool false)) (h1 : w.cell? ⟨D, 1, none⟩ = some y) (h2 : w.cell? ⟨D, 2, none⟩ = some z)
    (f0 : w.frozen? ⟨D, 0, none⟩ = false) (f1 : w.frozen? ⟨D, 1, none⟩ = false) (f2 : w.frozen? ⟨D, 2, none⟩ = false) :
    Calls Tryz.prog 18 #[.pointer (some ⟨D, 0, none⟩), .int .i64 n] w fun e w' => e = .returned (.tuple #[]) ∧
      w' = ((w.setCell ⟨D, 0, none⟩ (.bool false)).setCell ⟨D, 1, none⟩ (.bool true)).setCell ⟨D, 2, none⟩ (.int .i64 (max n 0)) := by
  go_enter Tryz.func18, Tryz.ntmps18
  go_wp2_with fail
  case inl => go_end0; exact ⟨rfl, by rw [show max n 0 = 0 by omega]⟩
  case inr => go_end0; exact ⟨rfl, by rw [show max n 0 = n by omega]⟩
end Go.Proofs.YtggejecmhfafoaaGreatDoor

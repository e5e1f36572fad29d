/-
  What a Disk that New answered tells of itself. No statement of the seat is proved here.
-/
import Derived.Test.YtggejecmhfafoaaGreatDoorDkB
import Derived.LaidEqlPtr
namespace Go.Proofs.YtggejecmhfafoaaGreatDoor
open Go.RowKit

set_option maxRecDepth 100000 in
theorem eql_self (a : Addr) (W : World) :
    (binOp .eql 24 (.pointer (some a)) (.pointer (some a))).run Tryz.prog W = .ok (.bool true) W := by
  have := run_eql_ptr_same (P := Tryz.prog) (w := W) (tp := 24) (te := 50) a (by kernel_rfl) rfl
  exact this
set_option maxRecDepth 100000 in
theorem made_any (D : Nat) (w : World) (h : w.cell? ⟨D, 3, none⟩ = some (.pointer (some ⟨D, 0, none⟩))) :
    Calls Tryz.prog 17 #[.pointer (some ⟨D, 0, none⟩)] w fun e w' => e = .returned (.bool true) ∧ w = w' := by
  have he := fun W => eql_self ⟨D, 0, none⟩ W
  go_enter Tryz.func17, Tryz.ntmps17
  go_wp2_with fail
  go_ret
  exact ⟨rfl, rfl⟩
set_option maxRecDepth 100000 in
theorem ready_up (D : Nat) (w : World) (h : w.cell? ⟨D, 3, none⟩ = some (.pointer (some ⟨D, 0, none⟩))) (hf : w.cell? ⟨D, 0, none⟩ = some (.bool false)) :
    Calls Tryz.prog 52 #[.pointer (some ⟨D, 0, none⟩)] w fun e w' => e = .returned (.int .i64 0) ∧ w = w' := by
  have HC := Lib.hid (made_any D w h)
  clear h
  go_enter Tryz.func52, Tryz.ntmps52
  go_wp2_with fail
  refine HC.out.mono ?_
  rintro e w' ⟨rfl, rfl⟩
  go_wp2_with fail
  go_ret
  exact ⟨rfl, rfl⟩
set_option maxRecDepth 100000 in
theorem ready_down (D : Nat) (w : World) (h : w.cell? ⟨D, 3, none⟩ = some (.pointer (some ⟨D, 0, none⟩))) (hf : w.cell? ⟨D, 0, none⟩ = some (.bool true)) :
    Calls Tryz.prog 52 #[.pointer (some ⟨D, 0, none⟩)] w fun e w' => e = .returned (.int .i64 15) ∧ w = w' := by
  have HC := Lib.hid (made_any D w h)
  clear h
  go_enter Tryz.func52, Tryz.ntmps52
  go_wp2_with fail
  refine HC.out.mono ?_
  rintro e w' ⟨rfl, rfl⟩
  go_wp2_with fail
  go_ret
  exact ⟨rfl, rfl⟩
/-- A power that is bound to nothing takes its step. -/
theorem step_free (D : Nat) (w : World) (h : w.cell? ⟨D, 1, none⟩ = some (.bool false)) :
    Calls Tryz.prog 33 #[.pointer (some ⟨D, 0, none⟩)] w fun e w' => e = .returned (.int .i64 0) ∧ w = w' := by
  go_enter Tryz.func33, Tryz.ntmps33
  go_wp2_with fail
  go_ret
  exact ⟨rfl, rfl⟩
set_option maxRecDepth 100000 in
/-- A power that has steps left takes one. -/
theorem step_left (D : Nat) (n : Nat) (w : World) (hn : (n : Int) + 1 ≤ 9223372036854775807) (h : w.cell? ⟨D, 1, none⟩ = some (.bool true)) (hl : w.cell? ⟨D, 2, none⟩ = some (.int .i64 ((n : Int) + 1)))
    (hf : w.frozen? ⟨D, 2, none⟩ = false) :
    Calls Tryz.prog 33 #[.pointer (some ⟨D, 0, none⟩)] w fun e w' => e = .returned (.int .i64 0) ∧ w' = w.setCell ⟨D, 2, none⟩ (.int .i64 (n : Int)) := by
  have hz : ((n : Int) + 1 == 0) = false := by rw [beq_eq_false_iff_ne]; omega
  have hw : IntKind.i64.wrap ((n : Int) + 1 - 1) = (n : Int) := by rw [Int.add_sub_cancel]; exact IntWalk.i64_in _ (by omega)
  go_enter Tryz.func33, Tryz.ntmps33
  go_wp2_with fail
  go_ret
  exact ⟨rfl, by simp⟩
end Go.Proofs.YtggejecmhfafoaaGreatDoor

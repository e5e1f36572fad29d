/-
  New, and Arm. No statement of the seat is proved here.
-/
import Derived.Test.YtggejecmhfafoaaGreatDoorDkD
import Derived.Carry
namespace Go.Proofs.YtggejecmhfafoaaGreatDoor
open Go.RowKit

set_option maxRecDepth 100000 in
theorem new_refuses (n : Int) (w : World) (hn : n < 0 ∨ 16777216 < n) :
    Calls Tryz.prog 5 #[.int .i64 n] w fun e w' => e = .returned (.tuple #[.pointer none, .int .i64 2]) ∧ w = w' := by
  go_enter Tryz.func5, Tryz.ntmps5
  by_cases h : n < 0
  · go_wp2_with fail
    go_ret2
    exact ⟨rfl, rfl⟩
  · have h2 : 16777216 < n := by omega
    go_wp2_with fail
    go_ret2
    exact ⟨rfl, rfl⟩
set_option maxRecDepth 100000 in
theorem new_any (n : Int) (w : World) (h1 : 0 ≤ n) (h2 : n ≤ 16777216) :
    Calls Tryz.prog 5 #[.int .i64 n] w fun e w' => e = .returned (.tuple #[.pointer (some ⟨w.heap.size + 1, 0, none⟩), .int .i64 0]) ∧
      w' = (w.alloc (.map #[] 0)).alloc (.cells #[.bool false, .bool false, .int .i64 0, .pointer (some ⟨w.heap.size + 1, 0, none⟩), .int .i64 n, .map (some w.heap.size)] 50) := by
  have hm := fun W => run_makeMap (P := Tryz.prog) 46 W
  go_enter Tryz.func5, Tryz.ntmps5
  go_wp2_with fail
  go_ret2
  exact ⟨rfl, rfl⟩
set_option maxRecDepth 100000 in
theorem arm_down (D : Nat) (n : Int) (w : World) (h : w.cell? ⟨D, 3, none⟩ = some (.pointer (some ⟨D, 0, none⟩))) (h0 : w.cell? ⟨D, 0, none⟩ = some (.bool true)) :
    Calls Tryz.prog 7 #[.pointer (some ⟨D, 0, none⟩), .int .i64 n] w fun e w' => e = .returned (.tuple #[]) ∧ w = w' := by
  have HC := Lib.hid (made_any D w h)
  have HB := Lib.hid (bind_down D n w h0)
  clear h h0
  go_enter Tryz.func7, Tryz.ntmps7
  go_wp2_with fail
  refine HC.out.mono ?_
  rintro e w' ⟨rfl, rfl⟩
  go_wp2_with fail
  refine HB.out.mono ?_
  rintro e w' ⟨rfl, rfl⟩
  go_wp2_with fail
  go_end0
  exact ⟨rfl, rfl⟩
set_option maxRecDepth 100000 in
theorem arm_up (D : Nat) (n : Int) (y z : Value) (w : World) (h : w.cell? ⟨D, 3, none⟩ = some (.pointer (some ⟨D, 0, none⟩)))
    (h0 : w.cell? ⟨D, 0, none⟩ = some (.bool false)) (h1 : w.cell? ⟨D, 1, none⟩ = some y) (h2 : w.cell? ⟨D, 2, none⟩ = some z)
    (f0 : w.frozen? ⟨D, 0, none⟩ = false) (f1 : w.frozen? ⟨D, 1, none⟩ = false) (f2 : w.frozen? ⟨D, 2, none⟩ = false) :
    Calls Tryz.prog 7 #[.pointer (some ⟨D, 0, none⟩), .int .i64 n] w fun e w' => e = .returned (.tuple #[]) ∧
      w' = ((w.setCell ⟨D, 0, none⟩ (.bool false)).setCell ⟨D, 1, none⟩ (.bool true)).setCell ⟨D, 2, none⟩ (.int .i64 (max n 0)) := by
  have HC := Lib.hid (made_any D w h)
  have HB := Lib.hid (bind_up D n y z w h0 h1 h2 f0 f1 f2)
  clear h h0 h1 h2 f0 f1 f2
  go_enter Tryz.func7, Tryz.ntmps7
  go_wp2_with fail
  refine HC.out.mono ?_
  rintro e w' ⟨rfl, rfl⟩
  go_wp2_with fail
  refine HB.out.mono ?_
  rintro e w' ⟨rfl, hw⟩
  have HW := Lib.hid hw
  clear hw
  go_wp2_with fail
  go_end0
  exact ⟨rfl, HW.out⟩
end Go.Proofs.YtggejecmhfafoaaGreatDoor

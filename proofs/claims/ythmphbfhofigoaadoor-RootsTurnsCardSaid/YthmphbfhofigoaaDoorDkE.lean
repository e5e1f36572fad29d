/-
  New, and Arm. No statement of the seat is proved here.
-/
import Derived.Test.YthmphbfhofigoaaDoorDkD
import Derived.Carry
namespace Go.Proofs.YthmphbfhofigoaaDoor
open Go.RowKit

set_option maxRecDepth 100000 in
theorem new_refuses (n : Int) (w : World) (hn : n < 0 ∨ 16777216 < n) :
    Calls Tryd.prog 10 #[.int .i64 n] w fun e w' => e = .returned (.tuple #[.pointer none, .int .i64 2]) ∧ w = w' := by
  go_enter Tryd.func10, Tryd.ntmps10
  by_cases h : n < 0
  · go_wp2_with fail
    go_ret2
    exact ⟨rfl, rfl⟩
  · have h2 : 16777216 < n := by omega
    go_wp2_with fail
    go_ret2
    exact ⟨rfl, rfl⟩
set_option maxRecDepth 100000 in
theorem new_any (n : Int) (w : World) (h1 : 0 ≤ n) (h2 : n ≤ 16777216) :
    Calls Tryd.prog 10 #[.int .i64 n] w fun e w' => e = .returned (.tuple #[.pointer (some ⟨w.heap.size + 1, 0, none⟩), .int .i64 0]) ∧
      w' = (w.alloc (.map #[] 0)).alloc (.cells #[.bool false, .bool false, .int .i64 0, .pointer (some ⟨w.heap.size + 1, 0, none⟩), .int .i64 n, .map (some w.heap.size)] 62) := by
  have hm := fun W => run_makeMap (P := Tryd.prog) 58 W
  go_enter Tryd.func10, Tryd.ntmps10
  go_wp2_with fail
  go_ret2
  exact ⟨rfl, rfl⟩
end Go.Proofs.YthmphbfhofigoaaDoor

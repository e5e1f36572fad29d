/-
  How a Disk's power fails, is bound, and comes back. No statement of the seat is proved here.
-/
import Derived.Test.YthmphbfhofigoaaDoorDkC
namespace Go.Proofs.YthmphbfhofigoaaDoor
open Go.RowKit

set_option maxRecDepth 100000 in
/-- A power that has no step left fails. -/
theorem step_none (D : Nat) (w : World) (h : w.cell? ⟨D, 1, none⟩ = some (.bool true)) (hl : w.cell? ⟨D, 2, none⟩ = some (.int .i64 0)) (h0 : w.cell? ⟨D, 0, none⟩ = some (.bool false))
    (f0 : w.frozen? ⟨D, 0, none⟩ = false) (f1 : w.frozen? ⟨D, 1, none⟩ = false) (f2 : w.frozen? ⟨D, 2, none⟩ = false) :
    Calls Tryd.prog 37 #[.pointer (some ⟨D, 0, none⟩)] w fun e w' => e = .returned (.int .i64 15) ∧
      w' = ((w.setCell ⟨D, 0, none⟩ (.bool true)).setCell ⟨D, 1, none⟩ (.bool false)).setCell ⟨D, 2, none⟩ (.int .i64 0) := by
  go_enter Tryd.func37, Tryd.ntmps37
  go_wp2_with fail
  go_ret
  exact ⟨rfl, rfl⟩
end Go.Proofs.YthmphbfhofigoaaDoor

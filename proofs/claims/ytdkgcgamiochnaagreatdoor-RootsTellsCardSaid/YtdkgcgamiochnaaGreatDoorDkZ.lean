/-
  What the methods of a Disk do at one that New did not make (R5). No statement of the seat is proved here.
-/
import Derived.Test.YtdkgcgamiochnaaGreatDoorDkG
namespace Go.Proofs.YtdkgcgamiochnaaGreatDoor
open Go.RowKit

set_option maxRecDepth 100000 in
theorem eql_nil (a : Addr) (W : World) : (binOp .eql 35 (.pointer none) (.pointer (some a))).run Tryz.prog W = .ok (.bool false) W := by
  have h : ∀ d : Nat, (Op.equalIn (d + 1) 35 (.pointer none) (.pointer (some a))).run Tryz.prog W = .ok false W := fun d => by
    simp [Op.equalIn, run_underlying Tryz.underlying35]
  simp only [binOp]
  simp [Op.equal, Op.maxDepth, h 9999]

set_option maxRecDepth 100000 in
theorem made_zero (D : Nat) (w : World) (h0 : w.cell? ⟨D, 3, none⟩ = some (.pointer none)) :
    Calls Tryz.prog 35 #[.pointer (some ⟨D, 0, none⟩)] w fun e w' => e = .returned (.bool false) ∧ w = w' := by
  have he := fun W => eql_nil ⟨D, 0, none⟩ W
  go_enter Tryz.func35, Tryz.ntmps35
  go_wp2
  go_ret
  exact ⟨rfl, rfl⟩

set_option maxRecDepth 100000 in
theorem ready_zero (D : Nat) (w : World) (h0 : w.cell? ⟨D, 3, none⟩ = some (.pointer none)) :
    Calls Tryz.prog 38 #[.pointer (some ⟨D, 0, none⟩)] w fun e w' => e = .returned (.int .i64 1) ∧ w = w' := by
  go_enter Tryz.func38, Tryz.ntmps38
  go_wp2_with fail
  refine (made_zero D _ (by first | exact h0 | (rw [World.cell?_alloc_lt _ _ _ (World.block_lt_of_cell? w _ h0)]; exact h0))).mono ?_
  rintro e w' ⟨rfl, rfl⟩
  go_wp2_with fail
  go_ret
  exact ⟨rfl, rfl⟩

set_option maxRecDepth 100000 in
theorem dappend_zero (D : Nat) (s : ByteArray) (b : Value) (w : World) (h0 : w.cell? ⟨D, 3, none⟩ = some (.pointer none)) :
    Calls Tryz.prog 18 #[.pointer (some ⟨D, 0, none⟩), .string s, b] w fun e w' => e = .returned (.int .i64 1) ∧ w = w' := by
  go_enter Tryz.func18, Tryz.ntmps18
  go_wp2_with fail
  refine (ready_zero D _ (by first | exact h0 | (rw [World.cell?_alloc_lt _ _ _ (World.block_lt_of_cell? w _ h0)]; exact h0))).mono ?_
  rintro e w' ⟨rfl, rfl⟩
  go_wp2_with fail
  go_ret
  exact ⟨rfl, rfl⟩

set_option maxRecDepth 100000 in
theorem used_zero (D : Nat) (w : World) (h0 : w.cell? ⟨D, 3, none⟩ = some (.pointer none)) :
    Calls Tryz.prog 59 #[.pointer (some ⟨D, 0, none⟩)] w fun e w' => e = .returned (.int .i64 0) ∧ w = w' := by
  go_enter Tryz.func59, Tryz.ntmps59
  go_wp2_with fail
  refine (made_zero D _ (by first | exact h0 | (rw [World.cell?_alloc_lt _ _ _ (World.block_lt_of_cell? w _ h0)]; exact h0))).mono ?_
  rintro e w' ⟨rfl, rfl⟩
  go_wp2_with fail
  go_ret
  exact ⟨rfl, rfl⟩

set_option maxRecDepth 100000 in
theorem list_zero (D : Nat) (w : World) (h0 : w.cell? ⟨D, 3, none⟩ = some (.pointer none)) :
    Calls Tryz.prog 17 #[.pointer (some ⟨D, 0, none⟩)] w fun e w' => e = .returned (.slice none 0 0) ∧ w = w' := by
  go_enter Tryz.func17, Tryz.ntmps17
  go_wp2_with fail
  refine (made_zero D _ (by first | exact h0 | (rw [World.cell?_alloc_lt _ _ _ (World.block_lt_of_cell? w _ h0)]; exact h0))).mono ?_
  rintro e w' ⟨rfl, rfl⟩
  go_wp2_with fail
  go_ret
  exact ⟨rfl, rfl⟩

set_option maxRecDepth 100000 in
theorem find_zero (D : Nat) (s : ByteArray) (w : World) (h0 : w.cell? ⟨D, 3, none⟩ = some (.pointer none)) :
    Calls Tryz.prog 79 #[.pointer (some ⟨D, 0, none⟩), .string s] w fun e w' =>
      e = .returned (.tuple #[.agg #[.slice none 0 0, .int .i64 0], .int .i64 1]) ∧
      w' = w.alloc (.cells #[.slice none 0 0, .int .i64 0] 71) := by
  go_enter Tryz.func79, Tryz.ntmps79
  go_wp2_with fail
  refine (ready_zero D _ (by first | exact h0 | (rw [World.cell?_alloc_lt _ _ _ (World.block_lt_of_cell? w _ h0)]; exact h0))).mono ?_
  rintro e w' ⟨rfl, rfl⟩
  go_wp2_with fail
  refine bodyPost_ret (results_cell_tmp_row (p := 4) rfl _ _ w.heap.size 71 #[.slice none 0 0, .int .i64 0] (0, 0) _ rfl (heap_alloc_new w _) Tryz.underlying71 rfl (by kernel_rfl)) rfl ?_
  exact ⟨rfl, rfl⟩
set_option maxRecDepth 100000 in
theorem sync_zero (D : Nat) (s : ByteArray) (w : World) (h0 : w.cell? ⟨D, 3, none⟩ = some (.pointer none)) :
    Calls Tryz.prog 71 #[.pointer (some ⟨D, 0, none⟩), .string s] w fun e w' =>
      e = .returned (.int .i64 1) ∧ w' = (w.alloc (.cells #[.slice none 0 0, .int .i64 0] 71)).alloc (.cells #[.slice none 0 0, .int .i64 0] 71) := by
  go_enter Tryz.func71, Tryz.ntmps71
  go_wp2_with fail
  refine (find_zero D s _ (by first | exact h0 | (rw [World.cell?_alloc_lt _ _ _ (World.block_lt_of_cell? w _ h0)]; exact h0))).mono ?_
  rintro e w' ⟨rfl, rfl⟩
  go_wp2_with fail
  go_ret
  exact ⟨rfl, rfl⟩
set_option maxRecDepth 100000 in
theorem rename_zero (D : Nat) (s : ByteArray) (t : ByteArray) (w : World) (h0 : w.cell? ⟨D, 3, none⟩ = some (.pointer none)) :
    Calls Tryz.prog 73 #[.pointer (some ⟨D, 0, none⟩), .string s, .string t] w fun e w' =>
      e = .returned (.int .i64 1) ∧ w' = (w.alloc (.cells #[.slice none 0 0, .int .i64 0] 71)).alloc (.cells #[.slice none 0 0, .int .i64 0] 71) := by
  go_enter Tryz.func73, Tryz.ntmps73
  go_wp2_with fail
  refine (find_zero D s _ (by first | exact h0 | (rw [World.cell?_alloc_lt _ _ _ (World.block_lt_of_cell? w _ h0)]; exact h0))).mono ?_
  rintro e w' ⟨rfl, rfl⟩
  go_wp2_with fail
  go_ret
  exact ⟨rfl, rfl⟩
set_option maxRecDepth 100000 in
theorem remove_zero (D : Nat) (s : ByteArray) (w : World) (h0 : w.cell? ⟨D, 3, none⟩ = some (.pointer none)) :
    Calls Tryz.prog 81 #[.pointer (some ⟨D, 0, none⟩), .string s] w fun e w' =>
      e = .returned (.int .i64 1) ∧ w' = (w.alloc (.cells #[.slice none 0 0, .int .i64 0] 71)).alloc (.cells #[.slice none 0 0, .int .i64 0] 71) := by
  go_enter Tryz.func81, Tryz.ntmps81
  go_wp2_with fail
  refine (find_zero D s _ (by first | exact h0 | (rw [World.cell?_alloc_lt _ _ _ (World.block_lt_of_cell? w _ h0)]; exact h0))).mono ?_
  rintro e w' ⟨rfl, rfl⟩
  go_wp2_with fail
  go_ret
  exact ⟨rfl, rfl⟩
set_option maxRecDepth 100000 in
theorem read_zero (D : Nat) (s : ByteArray) (w : World) (h0 : w.cell? ⟨D, 3, none⟩ = some (.pointer none)) :
    Calls Tryz.prog 66 #[.pointer (some ⟨D, 0, none⟩), .string s] w fun e w' =>
      e = .returned (.tuple #[.slice none 0 0, .int .i64 1]) ∧ w' = (w.alloc (.cells #[.slice none 0 0, .int .i64 0] 71)).alloc (.cells #[.slice none 0 0, .int .i64 0] 71) := by
  go_enter Tryz.func66, Tryz.ntmps66
  go_wp2_with fail
  refine (find_zero D s _ (by first | exact h0 | (rw [World.cell?_alloc_lt _ _ _ (World.block_lt_of_cell? w _ h0)]; exact h0))).mono ?_
  rintro e w' ⟨rfl, rfl⟩
  go_wp2_with fail
  go_ret2
  exact ⟨rfl, rfl⟩
end Go.Proofs.YtdkgcgamiochnaaGreatDoor

/-
  What the methods of a Disk do at one that New did not make (R5). No statement of the seat is proved here.
-/
import Derived.Test.YthmphbfhofigoaaDoorDkG
namespace Go.Proofs.YthmphbfhofigoaaDoor
open Go.RowKit

set_option maxRecDepth 100000 in
theorem eql_nil (a : Addr) (W : World) : (binOp .eql 35 (.pointer none) (.pointer (some a))).run Tryd.prog W = .ok (.bool false) W := by
  have h : ∀ d : Nat, (Op.equalIn (d + 1) 35 (.pointer none) (.pointer (some a))).run Tryd.prog W = .ok false W := fun d => by
    simp [Op.equalIn, run_underlying Tryd.underlying35]
  simp only [binOp]
  simp [Op.equal, Op.maxDepth, h 9999]

set_option maxRecDepth 100000 in
theorem made_zero (D : Nat) (w : World) (h0 : w.cell? ⟨D, 3, none⟩ = some (.pointer none)) :
    Calls Tryd.prog 30 #[.pointer (some ⟨D, 0, none⟩)] w fun e w' => e = .returned (.bool false) ∧ w = w' := by
  have he := fun W => eql_nil ⟨D, 0, none⟩ W
  go_enter Tryd.func30, Tryd.ntmps30
  go_wp2
  go_ret
  exact ⟨rfl, rfl⟩

set_option maxRecDepth 100000 in
theorem ready_zero (D : Nat) (w : World) (h0 : w.cell? ⟨D, 3, none⟩ = some (.pointer none)) :
    Calls Tryd.prog 34 #[.pointer (some ⟨D, 0, none⟩)] w fun e w' => e = .returned (.int .i64 1) ∧ w = w' := by
  go_enter Tryd.func34, Tryd.ntmps34
  go_wp2_with fail
  refine (made_zero D _ (by first | exact h0 | (rw [World.cell?_alloc_lt _ _ _ (World.block_lt_of_cell? w _ h0)]; exact h0))).mono ?_
  rintro e w' ⟨rfl, rfl⟩
  go_wp2_with fail
  go_ret
  exact ⟨rfl, rfl⟩

set_option maxRecDepth 100000 in
theorem dappend_zero (D : Nat) (s : ByteArray) (b : Value) (w : World) (h0 : w.cell? ⟨D, 3, none⟩ = some (.pointer none)) :
    Calls Tryd.prog 19 #[.pointer (some ⟨D, 0, none⟩), .string s, b] w fun e w' => e = .returned (.int .i64 1) ∧ w = w' := by
  go_enter Tryd.func19, Tryd.ntmps19
  go_wp2_with fail
  refine (ready_zero D _ (by first | exact h0 | (rw [World.cell?_alloc_lt _ _ _ (World.block_lt_of_cell? w _ h0)]; exact h0))).mono ?_
  rintro e w' ⟨rfl, rfl⟩
  go_wp2_with fail
  go_ret
  exact ⟨rfl, rfl⟩

set_option maxRecDepth 100000 in
theorem used_zero (D : Nat) (w : World) (h0 : w.cell? ⟨D, 3, none⟩ = some (.pointer none)) :
    Calls Tryd.prog 13 #[.pointer (some ⟨D, 0, none⟩)] w fun e w' => e = .returned (.int .i64 0) ∧ w = w' := by
  go_enter Tryd.func13, Tryd.ntmps13
  go_wp2_with fail
  refine (made_zero D _ (by first | exact h0 | (rw [World.cell?_alloc_lt _ _ _ (World.block_lt_of_cell? w _ h0)]; exact h0))).mono ?_
  rintro e w' ⟨rfl, rfl⟩
  go_wp2_with fail
  go_ret
  exact ⟨rfl, rfl⟩

set_option maxRecDepth 100000 in
theorem list_zero (D : Nat) (w : World) (h0 : w.cell? ⟨D, 3, none⟩ = some (.pointer none)) :
    Calls Tryd.prog 14 #[.pointer (some ⟨D, 0, none⟩)] w fun e w' => e = .returned (.slice none 0 0) ∧ w = w' := by
  go_enter Tryd.func14, Tryd.ntmps14
  go_wp2_with fail
  refine (made_zero D _ (by first | exact h0 | (rw [World.cell?_alloc_lt _ _ _ (World.block_lt_of_cell? w _ h0)]; exact h0))).mono ?_
  rintro e w' ⟨rfl, rfl⟩
  go_wp2_with fail
  go_ret
  exact ⟨rfl, rfl⟩

set_option maxRecDepth 100000 in
theorem find_zero (D : Nat) (s : ByteArray) (w : World) (h0 : w.cell? ⟨D, 3, none⟩ = some (.pointer none)) :
    Calls Tryd.prog 26 #[.pointer (some ⟨D, 0, none⟩), .string s] w fun e w' =>
      e = .returned (.tuple #[.agg #[.slice none 0 0, .int .i64 0], .int .i64 1]) ∧
      w' = w.alloc (.cells #[.slice none 0 0, .int .i64 0] 64) := by
  go_enter Tryd.func26, Tryd.ntmps26
  go_wp2_with fail
  refine (ready_zero D _ (by first | exact h0 | (rw [World.cell?_alloc_lt _ _ _ (World.block_lt_of_cell? w _ h0)]; exact h0))).mono ?_
  rintro e w' ⟨rfl, rfl⟩
  go_wp2_with fail
  refine bodyPost_ret (results_cell_tmp_row (p := 4) rfl _ _ w.heap.size 64 #[.slice none 0 0, .int .i64 0] (0, 0) _ rfl (heap_alloc_new w _) Tryd.underlying64 rfl (by kernel_rfl)) rfl ?_
  exact ⟨rfl, rfl⟩
set_option maxRecDepth 100000 in
theorem sync_zero (D : Nat) (s : ByteArray) (w : World) (h0 : w.cell? ⟨D, 3, none⟩ = some (.pointer none)) :
    Calls Tryd.prog 50 #[.pointer (some ⟨D, 0, none⟩), .string s] w fun e w' =>
      e = .returned (.int .i64 1) ∧ w' = (w.alloc (.cells #[.slice none 0 0, .int .i64 0] 64)).alloc (.cells #[.slice none 0 0, .int .i64 0] 64) := by
  go_enter Tryd.func50, Tryd.ntmps50
  go_wp2_with fail
  refine (find_zero D s _ (by first | exact h0 | (rw [World.cell?_alloc_lt _ _ _ (World.block_lt_of_cell? w _ h0)]; exact h0))).mono ?_
  rintro e w' ⟨rfl, rfl⟩
  go_wp2_with fail
  go_ret
  exact ⟨rfl, rfl⟩
set_option maxRecDepth 100000 in
theorem rename_zero (D : Nat) (s : ByteArray) (t : ByteArray) (w : World) (h0 : w.cell? ⟨D, 3, none⟩ = some (.pointer none)) :
    Calls Tryd.prog 52 #[.pointer (some ⟨D, 0, none⟩), .string s, .string t] w fun e w' =>
      e = .returned (.int .i64 1) ∧ w' = (w.alloc (.cells #[.slice none 0 0, .int .i64 0] 64)).alloc (.cells #[.slice none 0 0, .int .i64 0] 64) := by
  go_enter Tryd.func52, Tryd.ntmps52
  go_wp2_with fail
  refine (find_zero D s _ (by first | exact h0 | (rw [World.cell?_alloc_lt _ _ _ (World.block_lt_of_cell? w _ h0)]; exact h0))).mono ?_
  rintro e w' ⟨rfl, rfl⟩
  go_wp2_with fail
  go_ret
  exact ⟨rfl, rfl⟩
set_option maxRecDepth 100000 in
theorem remove_zero (D : Nat) (s : ByteArray) (w : World) (h0 : w.cell? ⟨D, 3, none⟩ = some (.pointer none)) :
    Calls Tryd.prog 64 #[.pointer (some ⟨D, 0, none⟩), .string s] w fun e w' =>
      e = .returned (.int .i64 1) ∧ w' = (w.alloc (.cells #[.slice none 0 0, .int .i64 0] 64)).alloc (.cells #[.slice none 0 0, .int .i64 0] 64) := by
  go_enter Tryd.func64, Tryd.ntmps64
  go_wp2_with fail
  refine (find_zero D s _ (by first | exact h0 | (rw [World.cell?_alloc_lt _ _ _ (World.block_lt_of_cell? w _ h0)]; exact h0))).mono ?_
  rintro e w' ⟨rfl, rfl⟩
  go_wp2_with fail
  go_ret
  exact ⟨rfl, rfl⟩
set_option maxRecDepth 100000 in
theorem read_zero (D : Nat) (s : ByteArray) (w : World) (h0 : w.cell? ⟨D, 3, none⟩ = some (.pointer none)) :
    Calls Tryd.prog 11 #[.pointer (some ⟨D, 0, none⟩), .string s] w fun e w' =>
      e = .returned (.tuple #[.slice none 0 0, .int .i64 1]) ∧ w' = (w.alloc (.cells #[.slice none 0 0, .int .i64 0] 64)).alloc (.cells #[.slice none 0 0, .int .i64 0] 64) := by
  go_enter Tryd.func11, Tryd.ntmps11
  go_wp2_with fail
  refine (find_zero D s _ (by first | exact h0 | (rw [World.cell?_alloc_lt _ _ _ (World.block_lt_of_cell? w _ h0)]; exact h0))).mono ?_
  rintro e w' ⟨rfl, rfl⟩
  go_wp2_with fail
  go_ret2
  exact ⟨rfl, rfl⟩
end Go.Proofs.YthmphbfhofigoaaDoor

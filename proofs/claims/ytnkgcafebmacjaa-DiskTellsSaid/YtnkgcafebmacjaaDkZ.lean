/-
  What the methods of a Disk do at one that New did not make (R5). No statement of the seat is proved here.
-/
import Derived.Test.YtnkgcafebmacjaaDkG
namespace Go.Proofs.Ytnkgcafebmacjaa
open Go.RowKit

set_option maxRecDepth 100000 in
theorem eql_nil (a : Addr) (W : World) : (binOp .eql 23 (.pointer none) (.pointer (some a))).run Try.prog W = .ok (.bool false) W := by
  have h : ∀ d : Nat, (Op.equalIn (d + 1) 23 (.pointer none) (.pointer (some a))).run Try.prog W = .ok false W := fun d => by
    simp [Op.equalIn, run_underlying Try.underlying23]
  simp only [binOp]
  simp [Op.equal, Op.maxDepth, h 9999]

set_option maxRecDepth 100000 in
theorem made_zero (D : Nat) (w : World) (h0 : w.cell? ⟨D, 3, none⟩ = some (.pointer none)) :
    Calls Try.prog 46 #[.pointer (some ⟨D, 0, none⟩)] w fun e w' => e = .returned (.bool false) ∧ w = w' := by
  have he := fun W => eql_nil ⟨D, 0, none⟩ W
  go_enter Try.func46, Try.ntmps46
  go_wp2
  go_ret
  exact ⟨rfl, rfl⟩

set_option maxRecDepth 100000 in
theorem ready_zero (D : Nat) (w : World) (h0 : w.cell? ⟨D, 3, none⟩ = some (.pointer none)) :
    Calls Try.prog 33 #[.pointer (some ⟨D, 0, none⟩)] w fun e w' => e = .returned (.int .i64 1) ∧ w = w' := by
  go_enter Try.func33, Try.ntmps33
  go_wp2_with fail
  refine (made_zero D _ (by first | exact h0 | (rw [World.cell?_alloc_lt _ _ _ (World.block_lt_of_cell? w _ h0)]; exact h0))).mono ?_
  rintro e w' ⟨rfl, rfl⟩
  go_wp2_with fail
  go_ret
  exact ⟨rfl, rfl⟩

set_option maxRecDepth 100000 in
theorem dappend_zero (D : Nat) (s : ByteArray) (b : Value) (w : World) (h0 : w.cell? ⟨D, 3, none⟩ = some (.pointer none)) :
    Calls Try.prog 8 #[.pointer (some ⟨D, 0, none⟩), .string s, b] w fun e w' => e = .returned (.int .i64 1) ∧ w = w' := by
  go_enter Try.func8, Try.ntmps8
  go_wp2_with fail
  refine (ready_zero D _ (by first | exact h0 | (rw [World.cell?_alloc_lt _ _ _ (World.block_lt_of_cell? w _ h0)]; exact h0))).mono ?_
  rintro e w' ⟨rfl, rfl⟩
  go_wp2_with fail
  go_ret
  exact ⟨rfl, rfl⟩

set_option maxRecDepth 100000 in
theorem size_zero (D : Nat) (s : ByteArray) (w : World) (h0 : w.cell? ⟨D, 3, none⟩ = some (.pointer none)) :
    Calls Try.prog 26 #[.pointer (some ⟨D, 0, none⟩), .string s] w fun e w' => e = .returned (.int .i64 0) ∧ w = w' := by
  go_enter Try.func26, Try.ntmps26
  go_wp2_with fail
  refine (made_zero D _ (by first | exact h0 | (rw [World.cell?_alloc_lt _ _ _ (World.block_lt_of_cell? w _ h0)]; exact h0))).mono ?_
  rintro e w' ⟨rfl, rfl⟩
  go_wp2_with fail
  go_ret
  exact ⟨rfl, rfl⟩

set_option maxRecDepth 100000 in
theorem synced_zero (D : Nat) (s : ByteArray) (w : World) (h0 : w.cell? ⟨D, 3, none⟩ = some (.pointer none)) :
    Calls Try.prog 27 #[.pointer (some ⟨D, 0, none⟩), .string s] w fun e w' => e = .returned (.int .i64 0) ∧ w = w' := by
  go_enter Try.func27, Try.ntmps27
  go_wp2_with fail
  refine (made_zero D _ (by first | exact h0 | (rw [World.cell?_alloc_lt _ _ _ (World.block_lt_of_cell? w _ h0)]; exact h0))).mono ?_
  rintro e w' ⟨rfl, rfl⟩
  go_wp2_with fail
  go_ret
  exact ⟨rfl, rfl⟩

set_option maxRecDepth 100000 in
theorem used_zero (D : Nat) (w : World) (h0 : w.cell? ⟨D, 3, none⟩ = some (.pointer none)) :
    Calls Try.prog 29 #[.pointer (some ⟨D, 0, none⟩)] w fun e w' => e = .returned (.int .i64 0) ∧ w = w' := by
  go_enter Try.func29, Try.ntmps29
  go_wp2_with fail
  refine (made_zero D _ (by first | exact h0 | (rw [World.cell?_alloc_lt _ _ _ (World.block_lt_of_cell? w _ h0)]; exact h0))).mono ?_
  rintro e w' ⟨rfl, rfl⟩
  go_wp2_with fail
  go_ret
  exact ⟨rfl, rfl⟩

set_option maxRecDepth 100000 in
theorem down_zero (D : Nat) (w : World) (h0 : w.cell? ⟨D, 3, none⟩ = some (.pointer none)) :
    Calls Try.prog 32 #[.pointer (some ⟨D, 0, none⟩)] w fun e w' => e = .returned (.bool false) ∧ w = w' := by
  go_enter Try.func32, Try.ntmps32
  go_wp2_with fail
  refine (made_zero D _ (by first | exact h0 | (rw [World.cell?_alloc_lt _ _ _ (World.block_lt_of_cell? w _ h0)]; exact h0))).mono ?_
  rintro e w' ⟨rfl, rfl⟩
  go_wp2_with fail
  go_ret
  exact ⟨rfl, rfl⟩

set_option maxRecDepth 100000 in
theorem list_zero (D : Nat) (w : World) (h0 : w.cell? ⟨D, 3, none⟩ = some (.pointer none)) :
    Calls Try.prog 31 #[.pointer (some ⟨D, 0, none⟩)] w fun e w' => e = .returned (.slice none 0 0) ∧ w = w' := by
  go_enter Try.func31, Try.ntmps31
  go_wp2_with fail
  refine (made_zero D _ (by first | exact h0 | (rw [World.cell?_alloc_lt _ _ _ (World.block_lt_of_cell? w _ h0)]; exact h0))).mono ?_
  rintro e w' ⟨rfl, rfl⟩
  go_wp2_with fail
  go_ret
  exact ⟨rfl, rfl⟩

set_option maxRecDepth 100000 in
theorem arm_zero (D : Nat) (n : Int) (w : World) (h0 : w.cell? ⟨D, 3, none⟩ = some (.pointer none)) :
    Calls Try.prog 18 #[.pointer (some ⟨D, 0, none⟩), .int .i64 n] w fun e w' => e = .returned (.tuple #[]) ∧ w = w' := by
  go_enter Try.func18, Try.ntmps18
  go_wp2_with fail
  refine (made_zero D _ (by first | exact h0 | (rw [World.cell?_alloc_lt _ _ _ (World.block_lt_of_cell? w _ h0)]; exact h0))).mono ?_
  rintro e w' ⟨rfl, rfl⟩
  go_wp2_with fail
  go_end0
  exact ⟨rfl, rfl⟩

set_option maxRecDepth 100000 in
theorem crash_zero (D : Nat) (b : Value) (w : World) (h0 : w.cell? ⟨D, 3, none⟩ = some (.pointer none)) :
    Calls Try.prog 20 #[.pointer (some ⟨D, 0, none⟩), b] w fun e w' => e = .returned (.tuple #[]) ∧ w = w' := by
  go_enter Try.func20, Try.ntmps20
  go_wp2_with fail
  refine (made_zero D _ (by first | exact h0 | (rw [World.cell?_alloc_lt _ _ _ (World.block_lt_of_cell? w _ h0)]; exact h0))).mono ?_
  rintro e w' ⟨rfl, rfl⟩
  go_wp2_with fail
  refine bodyPost_ret (results_none rfl _ _ _) rfl ?_
  exact ⟨rfl, rfl⟩
set_option maxRecDepth 100000 in
theorem find_zero (D : Nat) (s : ByteArray) (w : World) (h0 : w.cell? ⟨D, 3, none⟩ = some (.pointer none)) :
    Calls Try.prog 44 #[.pointer (some ⟨D, 0, none⟩), .string s] w fun e w' =>
      e = .returned (.tuple #[.agg #[.slice none 0 0, .int .i64 0], .int .i64 1]) ∧
      w' = w.alloc (.cells #[.slice none 0 0, .int .i64 0] 68) := by
  go_enter Try.func44, Try.ntmps44
  go_wp2_with fail
  refine (ready_zero D _ (by first | exact h0 | (rw [World.cell?_alloc_lt _ _ _ (World.block_lt_of_cell? w _ h0)]; exact h0))).mono ?_
  rintro e w' ⟨rfl, rfl⟩
  go_wp2_with fail
  refine bodyPost_ret (results_cell_tmp_row (p := 4) rfl _ _ w.heap.size 68 #[.slice none 0 0, .int .i64 0] (0, 0) _ rfl (heap_alloc_new w _) Try.underlying68 rfl (by kernel_rfl)) rfl ?_
  exact ⟨rfl, rfl⟩
set_option maxRecDepth 100000 in
theorem sync_zero (D : Nat) (s : ByteArray) (w : World) (h0 : w.cell? ⟨D, 3, none⟩ = some (.pointer none)) :
    Calls Try.prog 10 #[.pointer (some ⟨D, 0, none⟩), .string s] w fun e w' =>
      e = .returned (.int .i64 1) ∧ w' = (w.alloc (.cells #[.slice none 0 0, .int .i64 0] 68)).alloc (.cells #[.slice none 0 0, .int .i64 0] 68) := by
  go_enter Try.func10, Try.ntmps10
  go_wp2_with fail
  refine (find_zero D s _ (by first | exact h0 | (rw [World.cell?_alloc_lt _ _ _ (World.block_lt_of_cell? w _ h0)]; exact h0))).mono ?_
  rintro e w' ⟨rfl, rfl⟩
  go_wp2_with fail
  go_ret
  exact ⟨rfl, rfl⟩
set_option maxRecDepth 100000 in
theorem rename_zero (D : Nat) (s : ByteArray) (t : ByteArray) (w : World) (h0 : w.cell? ⟨D, 3, none⟩ = some (.pointer none)) :
    Calls Try.prog 12 #[.pointer (some ⟨D, 0, none⟩), .string s, .string t] w fun e w' =>
      e = .returned (.int .i64 1) ∧ w' = (w.alloc (.cells #[.slice none 0 0, .int .i64 0] 68)).alloc (.cells #[.slice none 0 0, .int .i64 0] 68) := by
  go_enter Try.func12, Try.ntmps12
  go_wp2_with fail
  refine (find_zero D s _ (by first | exact h0 | (rw [World.cell?_alloc_lt _ _ _ (World.block_lt_of_cell? w _ h0)]; exact h0))).mono ?_
  rintro e w' ⟨rfl, rfl⟩
  go_wp2_with fail
  go_ret
  exact ⟨rfl, rfl⟩
set_option maxRecDepth 100000 in
theorem remove_zero (D : Nat) (s : ByteArray) (w : World) (h0 : w.cell? ⟨D, 3, none⟩ = some (.pointer none)) :
    Calls Try.prog 14 #[.pointer (some ⟨D, 0, none⟩), .string s] w fun e w' =>
      e = .returned (.int .i64 1) ∧ w' = (w.alloc (.cells #[.slice none 0 0, .int .i64 0] 68)).alloc (.cells #[.slice none 0 0, .int .i64 0] 68) := by
  go_enter Try.func14, Try.ntmps14
  go_wp2_with fail
  refine (find_zero D s _ (by first | exact h0 | (rw [World.cell?_alloc_lt _ _ _ (World.block_lt_of_cell? w _ h0)]; exact h0))).mono ?_
  rintro e w' ⟨rfl, rfl⟩
  go_wp2_with fail
  go_ret
  exact ⟨rfl, rfl⟩
set_option maxRecDepth 100000 in
theorem cut_zero (D : Nat) (s : ByteArray) (n : Int) (w : World) (h0 : w.cell? ⟨D, 3, none⟩ = some (.pointer none)) :
    Calls Try.prog 16 #[.pointer (some ⟨D, 0, none⟩), .string s, .int .i64 n] w fun e w' =>
      e = .returned (.int .i64 1) ∧ w' = (w.alloc (.cells #[.slice none 0 0, .int .i64 0] 68)).alloc (.cells #[.slice none 0 0, .int .i64 0] 68) := by
  go_enter Try.func16, Try.ntmps16
  go_wp2_with fail
  refine (find_zero D s _ (by first | exact h0 | (rw [World.cell?_alloc_lt _ _ _ (World.block_lt_of_cell? w _ h0)]; exact h0))).mono ?_
  rintro e w' ⟨rfl, rfl⟩
  go_wp2_with fail
  go_ret
  exact ⟨rfl, rfl⟩
set_option maxRecDepth 100000 in
theorem read_zero (D : Nat) (s : ByteArray) (w : World) (h0 : w.cell? ⟨D, 3, none⟩ = some (.pointer none)) :
    Calls Try.prog 22 #[.pointer (some ⟨D, 0, none⟩), .string s] w fun e w' =>
      e = .returned (.tuple #[.slice none 0 0, .int .i64 1]) ∧ w' = (w.alloc (.cells #[.slice none 0 0, .int .i64 0] 68)).alloc (.cells #[.slice none 0 0, .int .i64 0] 68) := by
  go_enter Try.func22, Try.ntmps22
  go_wp2_with fail
  refine (find_zero D s _ (by first | exact h0 | (rw [World.cell?_alloc_lt _ _ _ (World.block_lt_of_cell? w _ h0)]; exact h0))).mono ?_
  rintro e w' ⟨rfl, rfl⟩
  go_wp2_with fail
  go_ret2
  exact ⟨rfl, rfl⟩
end Go.Proofs.Ytnkgcafebmacjaa

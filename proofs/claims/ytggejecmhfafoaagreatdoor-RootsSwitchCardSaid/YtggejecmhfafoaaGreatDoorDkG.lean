/-
  A file's first bytes, all of them; find, and what asks it, at no disk. No statement of the seat is proved here.
-/
import Derived.Test.YtggejecmhfafoaaGreatDoorDkF
import Derived.Laws.ResultCell
namespace Go.Proofs.YtggejecmhfafoaaGreatDoor
open Go.RowKit

theorem heap2 (w : World) (x y : Obj) : ((w.alloc x).alloc y).heap[w.heap.size + 1]? = some y := by
  have h := heap_alloc_new (w.alloc x) y
  have e : (w.alloc x).heap.size = w.heap.size + 1 := by show (w.heap.push x).size = _; simp
  rwa [e] at h

set_option maxRecDepth 100000 in
/-- All of its bytes: the file itself, and all of it firm. -/
theorem first_all (A : Option Addr) (n c : Nat) (firm : Int) (w : World) :
    Calls Tryz.prog 34 #[.agg #[.slice A n c, .int .i64 firm], .int .i64 (n : Int)] w fun e w' =>
      e = .returned (.agg #[.slice A n c, .int .i64 (n : Int)]) ∧
      w' = (w.alloc (.cells #[.slice A n c, .int .i64 firm] 60)).alloc (.cells #[.slice A n c, .int .i64 (n : Int)] 60) := by
  go_enter Tryz.func34, Tryz.ntmps34
  go_wp2_with fail
  refine bodyPost_ret (results_cell_row (p := 4) rfl _ _ (w.heap.size + 1) 60 #[.slice A n c, .int .i64 (n : Int)] (0, 0) _ rfl (heap2 w _ _) Tryz.underlying60 rfl (by kernel_rfl)) rfl ?_
  exact ⟨rfl, rfl⟩
/-- Two results, the first of which lies in a cell. -/
theorem results_cell_tmp_row {P : Program} {fn : Func} {p u : Tmp} {ty : TypeId} (h : fn.results = #[.cell p ty, .tmp u]) (tmps : Array Value) (w : World) (g : Nat) (t : TypeId) (cs : Array Value) (fr : Nat × Nat) (d : TypeDesc)
    (hp : tmps.getD p undef = .pointer (some ⟨g, 0, none⟩)) (hg : w.heap[g]? = some (.cells cs t fr))
    (hu : P.underlying ty = some d) (hd : (match d with | .struct _ | .array _ _ => true | _ => false) = true) (hi : (P.info? ty).map (·.size) = some cs.size) :
    (results fn tmps).run P w = .ok (.tuple #[.agg cs, tmps.getD u undef]) w := by
  rw [results_cell_tmp h, hp]
  simp [asAddr, run_loadVar_row w g t ty cs fr d hg hu hd hi]
set_option maxRecDepth 100000 in
theorem find_nil (s : ByteArray) (w : World) :
    Calls Tryz.prog 32 #[.pointer none, .string s] w fun e w' =>
      e = .returned (.tuple #[.agg #[.slice none 0 0, .int .i64 0], .int .i64 1]) ∧
      w' = w.alloc (.cells #[.slice none 0 0, .int .i64 0] 60) := by
  go_enter Tryz.func32, Tryz.ntmps32
  go_wp2_with fail
  refine (ready_nil _).mono ?_
  rintro e w' ⟨rfl, rfl⟩
  go_wp2_with fail
  refine bodyPost_ret (results_cell_tmp_row (p := 4) rfl _ _ w.heap.size 60 #[.slice none 0 0, .int .i64 0] (0, 0) _ rfl (heap_alloc_new w _) Tryz.underlying60 rfl (by kernel_rfl)) rfl ?_
  exact ⟨rfl, rfl⟩
set_option maxRecDepth 100000 in
theorem sync_nil (s : ByteArray) (w : World) :
    Calls Tryz.prog 43 #[.pointer none, .string s] w fun e w' =>
      e = .returned (.int .i64 1) ∧ w' = (w.alloc (.cells #[.slice none 0 0, .int .i64 0] 60)).alloc (.cells #[.slice none 0 0, .int .i64 0] 60) := by
  go_enter Tryz.func43, Tryz.ntmps43
  go_wp2_with fail
  refine (find_nil s _).mono ?_
  rintro e w' ⟨rfl, rfl⟩
  go_wp2_with fail
  go_ret
  exact ⟨rfl, rfl⟩
set_option maxRecDepth 100000 in
theorem rename_nil (s : ByteArray) (t : ByteArray) (w : World) :
    Calls Tryz.prog 45 #[.pointer none, .string s, .string t] w fun e w' =>
      e = .returned (.int .i64 1) ∧ w' = (w.alloc (.cells #[.slice none 0 0, .int .i64 0] 60)).alloc (.cells #[.slice none 0 0, .int .i64 0] 60) := by
  go_enter Tryz.func45, Tryz.ntmps45
  go_wp2_with fail
  refine (find_nil s _).mono ?_
  rintro e w' ⟨rfl, rfl⟩
  go_wp2_with fail
  go_ret
  exact ⟨rfl, rfl⟩
set_option maxRecDepth 100000 in
theorem remove_nil (s : ByteArray) (w : World) :
    Calls Tryz.prog 14 #[.pointer none, .string s] w fun e w' =>
      e = .returned (.int .i64 1) ∧ w' = (w.alloc (.cells #[.slice none 0 0, .int .i64 0] 60)).alloc (.cells #[.slice none 0 0, .int .i64 0] 60) := by
  go_enter Tryz.func14, Tryz.ntmps14
  go_wp2_with fail
  refine (find_nil s _).mono ?_
  rintro e w' ⟨rfl, rfl⟩
  go_wp2_with fail
  go_ret
  exact ⟨rfl, rfl⟩
set_option maxRecDepth 100000 in
theorem cut_nil (s : ByteArray) (n : Int) (w : World) :
    Calls Tryz.prog 15 #[.pointer none, .string s, .int .i64 n] w fun e w' =>
      e = .returned (.int .i64 1) ∧ w' = (w.alloc (.cells #[.slice none 0 0, .int .i64 0] 60)).alloc (.cells #[.slice none 0 0, .int .i64 0] 60) := by
  go_enter Tryz.func15, Tryz.ntmps15
  go_wp2_with fail
  refine (find_nil s _).mono ?_
  rintro e w' ⟨rfl, rfl⟩
  go_wp2_with fail
  go_ret
  exact ⟨rfl, rfl⟩
set_option maxRecDepth 100000 in
theorem read_nil (s : ByteArray) (w : World) :
    Calls Tryz.prog 50 #[.pointer none, .string s] w fun e w' =>
      e = .returned (.tuple #[.slice none 0 0, .int .i64 1]) ∧ w' = (w.alloc (.cells #[.slice none 0 0, .int .i64 0] 60)).alloc (.cells #[.slice none 0 0, .int .i64 0] 60) := by
  go_enter Tryz.func50, Tryz.ntmps50
  go_wp2_with fail
  refine (find_nil s _).mono ?_
  rintro e w' ⟨rfl, rfl⟩
  go_wp2_with fail
  go_ret2
  exact ⟨rfl, rfl⟩
end Go.Proofs.YtggejecmhfafoaaGreatDoor

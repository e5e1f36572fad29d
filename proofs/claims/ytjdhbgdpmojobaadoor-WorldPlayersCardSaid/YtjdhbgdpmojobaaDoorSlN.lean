/-
  Empty slots made. No statement of the seat is proved here.
-/
import Derived.Test.YtjdhbgdpmojobaaDoorSlO
import Derived.Laws.MakeOwn
namespace Go.Proofs.YtjdhbgdpmojobaaDoor
open Go.RowKit Go.Deep

section
variable {w : World} {A : Option Addr} {n c lo : Nat} {l : List (Nat × Int)}
theorem made_at (u v : Value) (n k : Nat) (h : k < n) : (madeCells #[u, v] n)[k]? = some (if k % 2 = 0 then u else v) := by
  unfold madeCells
  rw [Array.getElem?_map, Array.getElem?_range, if_pos h]
  rcases Nat.mod_two_eq_zero_or_one k with e | e
  · simp [e]
  · simp [e]
set_option maxRecDepth 100000 in
/-- Empty slots made. -/
theorem make_sl (m : Nat) (hm : m ≤ 1000000) (W : World) : (Instr.makeSlice 33 (.int .i64 (m : Int)) (.int .i64 (m : Int))).run Tryd.prog W = .ok (.slice (some ⟨W.heap.size, 0, none⟩) m m) (W.alloc (.cells (madeCells #[.int .u8 0, .int .i64 0] (m * 2)) 112)) ∧
    RdS (W.alloc (.cells (madeCells #[.int .u8 0, .int .i64 0] (m * 2)) 112)) (some ⟨W.heap.size, 0, none⟩) m (List.replicate m (0, 0)) := by
  obtain ⟨i0, hi, hz0, hz1, hz2⟩ := info_parts info_sl
  constructor
  · have hr := run_make (P := Tryd.prog) W 33 112 i0 _ Tryd.underlying33 hi hz0 .i64 .i64 m m (by omega) (Int.le_refl _) (by rw [hz2]; omega) (by omega)
    rw [hz1] at hr
    exact hr
  · refine ⟨by simp, fun hn => ⟨W.heap.size, 0, rfl, by rw [World.size_alloc]; omega, fun j hj => ?_⟩⟩
    have hj' : j < m := by simpa using hj
    have hb := heap_alloc_new W (.cells (madeCells #[.int .u8 0, .int .i64 0] (m * 2)) 112)
    rw [Nat.zero_add, blk_cell hb, blk_cell hb, made_at _ _ _ _ (by omega), made_at _ _ _ _ (by omega), if_pos (by omega), if_neg (by omega)]
    simp
end
end Go.Proofs.YtjdhbgdpmojobaaDoor

/-
  The document's disk: ask, step, New, Arm. No statement of the seat is proved here.
-/
import Derived.Test.YtnkgcafebmacjaaDtB
namespace Go.Proofs.Ytnkgcafebmacjaa
open Go.RowKit Go.Maps

/-- A document's disk, as a value. -/
def rv (mo : Int) (A : Option Addr) (n c : Nat) (lf : Int) (dn : Bool) : Value := .agg #[.int .i64 mo, .slice A n c, .int .i64 lf, .bool dn]
/-- Where a file is, as Find tells it. -/
def Fnd (fs : List Fl) (nm : List UInt8) (z : Int) : Prop := (z = -1 ∧ ∀ f ∈ fs, f.nm ≠ nm) ∨ (∃ (i : Nat) (f : Fl), fs[i]? = some f ∧ f.nm = nm ∧ z = (i : Int))
set_option maxRecDepth 100000 in
theorem rask_any {w : World} {A : Option Addr} {n c : Nat} {fs : List Fl} (h : Rk w A n fs) (hn : n ≤ 1000) (mo lf : Int) (dn : Bool) (nm : ByteArray) :
    Calls Try.prog 38 #[.agg #[.int .i64 mo, .slice A n c, .int .i64 lf, .bool dn], .string nm] w fun e w' =>
      ∃ z : Int, e = .returned (.tuple #[.int .i64 z, .int .i64 (if dn then 15 else if z < 0 then 13 else 0)]) ∧ Fr No w w' ∧ Fnd fs nm.data.toList z := by
  have hf0 := Fr.alloc No w (.cells #[.int .i64 mo, .slice A n c, .int .i64 lf, .bool dn] 29)
  have HFI := Lib.hid (rfind_any (c := c) (h.no hf0) hn mo lf dn nm)
  clear h
  go_enter Try.func38, Try.ntmps38
  go_wp2_with fail
  refine HFI.out.mono ?_
  rintro e w1 ⟨z, rfl, hf, hz⟩
  have hc3 : w1.cell? ⟨w.heap.size, 3, none⟩ = some (.bool dn) := hf.cell (by unfold World.cell?; rw [heap_alloc_new]; rfl) (fun e => e)
  have HF := Lib.hid (hf0.no_trans hf)
  have HZ := Lib.hid hz
  clear hf hz hf0 HFI
  cases dn with
  | true =>
    go_wp2_with fail
    go_ret2
    exact ⟨z, rfl, HF.out, HZ.out⟩
  | false =>
    by_cases h0 : z < 0
    · have hd : decide (z < 0) = true := by rw [decide_eq_true_eq]; exact h0
      go_wp2_with fail
      go_ret2
      exact ⟨z, by simp [h0], HF.out, HZ.out⟩
    · have hd : decide (z < 0) = false := by rw [decide_eq_false_iff_not]; exact h0
      go_wp2_with fail
      go_ret2
      exact ⟨z, by simp [h0], HF.out, HZ.out⟩
set_option maxRecDepth 100000 in
theorem heap3 (w : World) (a b c : Obj) : (((w.alloc a).alloc b).alloc c).heap[w.heap.size + 1 + 1]? = some c := by
  have := heap_alloc_new ((w.alloc a).alloc b) c
  rw [World.size_alloc, World.size_alloc] at this
  exact this
set_option maxRecDepth 100000 in
theorem heap2' (w : World) (a b : Obj) : ((w.alloc a).alloc b).heap[w.heap.size + 1]? = some b := by
  have := heap_alloc_new (w.alloc a) b
  rw [World.size_alloc] at this
  exact this
section
variable (w : World) (mo : Int) (A : Option Addr) (n c : Nat) (lf : Int) (dn : Bool) (mo2 : Int) (A2 : Option Addr) (n2 c2 : Nat) (lf2 : Int) (dn2 : Bool)
set_option maxRecDepth 100000 in
theorem rstep_fails :
    Calls Try.prog 41 #[.agg #[.int .i64 mo, .slice A n c, .int .i64 0, .bool dn], .agg #[.int .i64 mo2, .slice A2 n2 c2, .int .i64 lf2, .bool dn2]] w fun e w' =>
      e = .returned (.tuple #[.agg #[.int .i64 mo, .slice A n c, .int .i64 (-1), .bool true], .int .i64 15]) ∧ Fr No w w' := by
  go_enter Try.func41, Try.ntmps41
  go_wp2_with fail
  refine bodyPost_ret (results_cell_tmp_row (p := 4) rfl _ _ (w.heap.size + 1 + 1) 29 #[.int .i64 mo, .slice A n c, .int .i64 (-1), .bool true] (0, 0) _ rfl (heap3 _ _ _ _) Try.underlying29 rfl (by kernel_rfl)) rfl ?_
  exact ⟨rfl, ((Fr.alloc No w _).no_trans (Fr.alloc No _ _)).no_trans (Fr.alloc No _ _)⟩
set_option maxRecDepth 100000 in
theorem rstep_bound (h : 0 < lf) (h2 : lf ≤ 9223372036854775807) :
    Calls Try.prog 41 #[.agg #[.int .i64 mo, .slice A n c, .int .i64 lf, .bool dn], .agg #[.int .i64 mo2, .slice A2 n2 c2, .int .i64 lf2, .bool dn2]] w fun e w' =>
      e = .returned (.tuple #[.agg #[.int .i64 mo2, .slice A2 n2 c2, .int .i64 (lf - 1), .bool dn2], .int .i64 0]) ∧ Fr No w w' := by
  have hd : decide ((0 : Int) < lf) = true := by rw [decide_eq_true_eq]; exact h
  have hz : (lf == 0) = false := by rw [beq_eq_false_iff_ne]; omega
  have hw : IntKind.i64.wrap (lf - 1) = lf - 1 := IntWalk.i64_in _ (by omega)
  clear h2
  go_enter Try.func41, Try.ntmps41
  go_wp2_with fail
  refine bodyPost_ret (results_cell_tmp_row (p := 4) rfl _ _ (w.heap.size + 1 + 1) 29 #[.int .i64 mo2, .slice A2 n2 c2, .int .i64 (lf - 1), .bool dn2] (0, 0) _ rfl (heap3 _ _ _ _) Try.underlying29 rfl (by kernel_rfl)) rfl ?_
  exact ⟨rfl, ((Fr.alloc No w _).no_trans (Fr.alloc No _ _)).no_trans (Fr.alloc No _ _)⟩
set_option maxRecDepth 100000 in
theorem rstep_free (h : lf < 0) :
    Calls Try.prog 41 #[.agg #[.int .i64 mo, .slice A n c, .int .i64 lf, .bool dn], .agg #[.int .i64 mo2, .slice A2 n2 c2, .int .i64 lf2, .bool dn2]] w fun e w' =>
      e = .returned (.tuple #[.agg #[.int .i64 mo2, .slice A2 n2 c2, .int .i64 lf2, .bool dn2], .int .i64 0]) ∧ Fr No w w' := by
  have hd : decide ((0 : Int) < lf) = false := by rw [decide_eq_false_iff_not]; omega
  have hz : (lf == 0) = false := by rw [beq_eq_false_iff_ne]; omega
  clear h
  go_enter Try.func41, Try.ntmps41
  go_wp2_with fail
  refine bodyPost_ret (results_cell_tmp_row (p := 4) rfl _ _ (w.heap.size + 1 + 1) 29 #[.int .i64 mo2, .slice A2 n2 c2, .int .i64 lf2, .bool dn2] (0, 0) _ rfl (heap3 _ _ _ _) Try.underlying29 rfl (by kernel_rfl)) rfl ?_
  exact ⟨rfl, ((Fr.alloc No w _).no_trans (Fr.alloc No _ _)).no_trans (Fr.alloc No _ _)⟩
set_option maxRecDepth 100000 in
theorem rnew_ok (h1 : 0 ≤ mo) (h2 : mo ≤ 16777216) :
    Calls Try.prog 5 #[.int .i64 mo] w fun e w' => e = .returned (.tuple #[.agg #[.int .i64 mo, .slice none 0 0, .int .i64 (-1), .bool false], .int .i64 0]) ∧ Fr No w w' := by
  have q1 : decide ((0 : Int) ≤ mo) = true := by rw [decide_eq_true_eq]; exact h1
  have q2 : decide (mo ≤ 16777216) = true := by rw [decide_eq_true_eq]; exact h2
  go_enter Try.func5, Try.ntmps5
  go_wp2_with fail
  refine bodyPost_ret (results_cell_tmp_row (p := 2) rfl _ _ w.heap.size 29 #[.int .i64 mo, .slice none 0 0, .int .i64 (-1), .bool false] (0, 0) _ rfl (heap_alloc_new _ _) Try.underlying29 rfl (by kernel_rfl)) rfl ?_
  exact ⟨rfl, Fr.alloc No w _⟩
set_option maxRecDepth 100000 in
theorem rnew_no (h : mo < 0 ∨ 16777216 < mo) :
    Calls Try.prog 5 #[.int .i64 mo] w fun e w' => e = .returned (.tuple #[.agg #[.int .i64 0, .slice none 0 0, .int .i64 0, .bool false], .int .i64 2]) ∧ Fr No w w' := by
  rcases h with h | h
  · have q1 : decide ((0 : Int) ≤ mo) = false := by rw [decide_eq_false_iff_not]; omega
    clear h
    go_enter Try.func5, Try.ntmps5
    go_wp2_with fail
    refine bodyPost_ret (results_cell_tmp_row (p := 2) rfl _ _ w.heap.size 29 #[.int .i64 0, .slice none 0 0, .int .i64 0, .bool false] (0, 0) _ rfl (heap_alloc_new _ _) Try.underlying29 rfl (by kernel_rfl)) rfl ?_
    exact ⟨rfl, Fr.alloc No w _⟩
  · have q1 : decide ((0 : Int) ≤ mo) = true := by rw [decide_eq_true_eq]; omega
    have q2 : decide (mo ≤ 16777216) = false := by rw [decide_eq_false_iff_not]; omega
    clear h
    go_enter Try.func5, Try.ntmps5
    go_wp2_with fail
    refine bodyPost_ret (results_cell_tmp_row (p := 2) rfl _ _ w.heap.size 29 #[.int .i64 0, .slice none 0 0, .int .i64 0, .bool false] (0, 0) _ rfl (heap_alloc_new _ _) Try.underlying29 rfl (by kernel_rfl)) rfl ?_
    exact ⟨rfl, Fr.alloc No w _⟩
set_option maxRecDepth 100000 in
theorem rarm_any (k : Int) :
    Calls Try.prog 19 #[.agg #[.int .i64 mo, .slice A n c, .int .i64 lf, .bool dn], .int .i64 k] w fun e w' =>
      e = .returned (.agg #[.int .i64 mo, .slice A n c, .int .i64 (if dn then lf else max k 0), .bool dn]) ∧ Fr No w w' := by
  cases dn with
  | true =>
    go_enter Try.func19, Try.ntmps19
    go_wp2_with fail
    refine bodyPost_ret (results_cell_row (p := 4) rfl _ _ (w.heap.size + 1) 29 #[.int .i64 mo, .slice A n c, .int .i64 lf, .bool true] (0, 0) _ rfl (heap2' _ _ _) Try.underlying29 rfl (by kernel_rfl)) rfl ?_
    exact ⟨rfl, (Fr.alloc No w _).no_trans (Fr.alloc No _ _)⟩
  | false =>
    by_cases hk : k < 0
    · have hd : decide (k < 0) = true := by rw [decide_eq_true_eq]; exact hk
      have hm : max k 0 = 0 := by omega
      rw [hm]
      clear hm hk
      go_enter Try.func19, Try.ntmps19
      go_wp2_with fail
      refine bodyPost_ret (results_cell_row (p := 4) rfl _ _ (w.heap.size + 1) 29 #[.int .i64 mo, .slice A n c, .int .i64 0, .bool false] (0, 0) _ rfl (heap2' _ _ _) Try.underlying29 rfl (by kernel_rfl)) rfl ?_
      exact ⟨rfl, (Fr.alloc No w _).no_trans (Fr.alloc No _ _)⟩
    · have hd : decide (k < 0) = false := by rw [decide_eq_false_iff_not]; exact hk
      have hm : max k 0 = k := by omega
      rw [hm]
      clear hm hk
      go_enter Try.func19, Try.ntmps19
      go_wp2_with fail
      refine bodyPost_ret (results_cell_row (p := 4) rfl _ _ (w.heap.size + 1) 29 #[.int .i64 mo, .slice A n c, .int .i64 k, .bool false] (0, 0) _ rfl (heap2' _ _ _) Try.underlying29 rfl (by kernel_rfl)) rfl ?_
      exact ⟨rfl, (Fr.alloc No w _).no_trans (Fr.alloc No _ _)⟩
end
end Go.Proofs.Ytnkgcafebmacjaa

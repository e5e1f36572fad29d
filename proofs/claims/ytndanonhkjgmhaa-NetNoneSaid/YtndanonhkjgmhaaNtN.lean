/-
  NetNone: calls at what New did not make, and the walk. No statement of the seat is proved here.
-/
import Derived.Test.YtndanonhkjgmhaaNtG
namespace Go.Proofs.Ytndanonhkjgmhaa
open Go.RowKit

/-- No net: nil, or what New did not make. -/
def NoN (W : World) (p : Option Addr) : Prop := p = none ∨ ∃ P, p = some ⟨P, 0, none⟩ ∧ W.cell? ⟨P, 0, none⟩ = some (.pointer none)
theorem NoN.no {W W' : World} {p : Option Addr} (h : NoN W p) (hf : Fr No W W') : NoN W' p := by
  rcases h with h | ⟨P, e, hc⟩
  · exact .inl h
  · exact .inr ⟨P, e, (hf.cell (p := ⟨P, 0, none⟩) (World.block_lt_of_cell? W _ hc) (fun e => e)).trans hc⟩
section
variable {w : World} {p : Option Addr}
set_option maxRecDepth 100000 in
theorem made_no (h : NoN w p) : Calls Try.prog 34 #[.pointer p] w fun e w' => e = .returned (.bool false) ∧ w = w' := by
  rcases h with rfl | ⟨P, rfl, hc⟩
  · exact made_nil w
  · exact made_zero P w hc
set_option maxRecDepth 100000 in
theorem send_no (h : NoN w p) (x y d : Value) : Calls Try.prog 12 #[.pointer p, x, y, d] w fun e w' => e = .returned (.int .i64 1) ∧ w = w' := by
  have HM := Lib.hid (made_no h)
  clear h
  go_enter Try.func12, Try.ntmps12
  go_wp2_with fail
  refine HM.out.mono ?_
  rintro e w1 ⟨rfl, rfl⟩
  go_wp2_with fail
  go_ret
  exact ⟨rfl, rfl⟩
set_option maxRecDepth 100000 in
theorem copy_no (h : NoN w p) (x : Value) : Calls Try.prog 15 #[.pointer p, x] w fun e w' => e = .returned (.int .i64 1) ∧ w = w' := by
  have HM := Lib.hid (made_no h)
  clear h
  go_enter Try.func15, Try.ntmps15
  go_wp2_with fail
  refine HM.out.mono ?_
  rintro e w1 ⟨rfl, rfl⟩
  go_wp2_with fail
  go_ret
  exact ⟨rfl, rfl⟩
set_option maxRecDepth 100000 in
theorem flying_no (h : NoN w p) : Calls Try.prog 16 #[.pointer p] w fun e w' => e = .returned (.int .i64 0) ∧ w = w' := by
  have HM := Lib.hid (made_no h)
  clear h
  go_enter Try.func16, Try.ntmps16
  go_wp2_with fail
  refine HM.out.mono ?_
  rintro e w1 ⟨rfl, rfl⟩
  go_wp2_with fail
  go_ret
  exact ⟨rfl, rfl⟩
set_option maxRecDepth 100000 in
theorem leave_no (h : NoN w p) (x : Value) : Calls Try.prog 37 #[.pointer p, x] w fun e w' => e = .returned (.int .i64 0) ∧ w = w' := by
  have HM := Lib.hid (made_no h)
  clear h
  go_enter Try.func37, Try.ntmps37
  go_wp2_with fail
  refine HM.out.mono ?_
  rintro e w1 ⟨rfl, rfl⟩
  go_wp2_with fail
  go_ret
  exact ⟨rfl, rfl⟩
set_option maxRecDepth 100000 in
theorem drop_no (h : NoN w p) (i : Int) : Calls Try.prog 14 #[.pointer p, .int .i64 i] w fun e w' => e = .returned (.bool false) ∧ Fr No w w' := by
  have HM := Lib.hid (leave_no (h.no (Fr.alloc No w (.cells #[.int .i64 i] 3))) (.func (.func 38) #[] #[.pointer (some ⟨w.heap.size, 0, none⟩)]))
  clear h
  go_enter Try.func14, Try.ntmps14
  go_wp2_with fail
  refine HM.out.mono ?_
  rintro e w1 ⟨rfl, rfl⟩
  go_wp2_with fail
  go_ret
  exact ⟨rfl, Fr.alloc _ _ _⟩
set_option maxRecDepth 100000 in
theorem forget_no (h : NoN w p) (i : Int) : Calls Try.prog 18 #[.pointer p, .int .i64 i] w fun e w' => e = .returned (.int .i64 0) ∧ Fr No w w' := by
  have HM := Lib.hid (leave_no (h.no (Fr.alloc No w (.cells #[.int .i64 i] 3))) (.func (.func 40) #[] #[.pointer (some ⟨w.heap.size, 0, none⟩)]))
  clear h
  go_enter Try.func18, Try.ntmps18
  go_wp2_with fail
  refine HM.out.mono ?_
  rintro e w1 ⟨rfl, rfl⟩
  go_wp2_with fail
  go_ret
  exact ⟨rfl, Fr.alloc _ _ _⟩
set_option maxRecDepth 100000 in
theorem at_no (h : NoN w p) (i : Int) : Calls Try.prog 39 #[.pointer p, .int .i64 i] w fun e w' => e = .returned (.tuple #[.agg #[.int .i64 0, .int .i64 0, .string ⟨#[]⟩], .bool false]) ∧ Fr No w w' := by
  have HM := Lib.hid (made_no (h.no (Fr.alloc No w (.cells #[.int .i64 0, .int .i64 0, .string ⟨#[]⟩] 78))))
  clear h
  go_enter Try.func39, Try.ntmps39
  go_wp2_with fail
  refine HM.out.mono ?_
  rintro e w1 ⟨rfl, rfl⟩
  go_wp2_with fail
  refine bodyPost_ret (results_cell_tmp_row (p := 4) rfl _ _ w.heap.size 78 #[.int .i64 0, .int .i64 0, .string ⟨#[]⟩] (0, 0) _ rfl (heap_alloc_new w _) Try.underlying78 rfl (by kernel_rfl)) rfl ?_
  exact ⟨rfl, Fr.alloc _ _ _⟩
set_option maxRecDepth 100000 in
theorem look_nn (h : NoN w p) (i : Int) : Calls Try.prog 25 #[.pointer p, .int .i64 i] w fun e w' => e = .returned (.tuple #[.agg #[.int .i64 0, .int .i64 0, .slice none 0 0], .bool false]) ∧ Fr No w w' := by
  have HA := Lib.hid (at_no (h.no (Fr.alloc No w (.cells #[.int .i64 0, .int .i64 0, .slice none 0 0] 30))) i)
  clear h
  go_enter Try.func25, Try.ntmps25
  go_wp2_with fail
  refine HA.out.mono ?_
  rintro e w1 ⟨rfl, hf⟩
  have HF := Lib.hid hf
  clear hf
  have HB2 := Lib.hid (blk_no (Fr.alloc No w1 (.cells #[.int .i64 0, .int .i64 0, .string ⟨#[]⟩] 78)) (blk_no HF.out (heap_alloc_new w _)))
  have q0 := blk_cell HB2.out 0
  have q1 := blk_cell HB2.out 1
  have q2 := blk_cell HB2.out 2
  have f0 := blk_free HB2.out 0
  have f1 := blk_free HB2.out 1
  have f2 := blk_free HB2.out 2
  go_wp2_with fail
  refine bodyPost_ret (results_cell_tmp_row (p := 4) rfl _ _ w.heap.size 30 #[.int .i64 0, .int .i64 0, .slice none 0 0] (0, 0) _ rfl (set3_blk HB2.out _ _ _) Try.underlying30 rfl (by kernel_rfl)) rfl ?_
  exact ⟨rfl, (((Fr.alloc No _ _).no_trans HF.out).no_trans (Fr.alloc No _ _)).then_new (set3_fr _ _ _ _ _) (fun i hi => by rw [hi]; exact Nat.le_refl _)⟩
set_option maxRecDepth 100000 in
theorem take_nn (h : NoN w p) (i : Int) : Calls Try.prog 13 #[.pointer p, .int .i64 i] w fun e w' => e = .returned (.tuple #[.agg #[.int .i64 0, .int .i64 0, .slice none 0 0], .bool false]) ∧ Fr No w w' := by
  have HA := Lib.hid (look_nn (h.no (Fr.alloc No w (.cells #[.int .i64 0, .int .i64 0, .slice none 0 0] 30))) i)
  clear h
  go_enter Try.func13, Try.ntmps13
  go_wp2_with fail
  refine HA.out.mono ?_
  rintro e w1 ⟨rfl, hf⟩
  have HF := Lib.hid hf
  clear hf
  have HB0 := Lib.hid (blk_no (Fr.alloc No w1 (.cells #[.int .i64 0, .int .i64 0, .slice none 0 0] 30)) (blk_no HF.out (heap_alloc_new w _)))
  have q0 := blk_cell HB0.out 0
  have q1 := blk_cell HB0.out 1
  have q2 := blk_cell HB0.out 2
  have f0 := blk_free HB0.out 0
  have f1 := blk_free HB0.out 1
  have f2 := blk_free HB0.out 2
  go_wp2_with fail
  refine bodyPost_ret (results_cell_tmp_row (p := 4) rfl _ _ w.heap.size 30 #[.int .i64 0, .int .i64 0, .slice none 0 0] (0, 0) _ rfl (set3_blk HB0.out _ _ _) Try.underlying30 rfl (by kernel_rfl)) rfl ?_
  exact ⟨rfl, (((Fr.alloc No _ _).no_trans HF.out).no_trans (Fr.alloc No _ _)).then_new (set3_fr _ _ _ _ _) (fun i hi => by rw [hi]; exact Nat.le_refl _)⟩
end
set_option maxHeartbeats 4000000 in
set_option maxRecDepth 100000 in
theorem none_walk (i x : Int) (A : Option Addr) (n c : Nat) (w : World) :
    Calls Try.prog 5 #[.int .i64 i, .int .i64 x, .slice A n c] w fun e w' => e = .returned (.bool true) ∧ Below w.heap.size w w' := by
  go_enter Try.func5, Try.ntmps5
  go_wp2_with fail
  have hf1 : Fr No w ((w.alloc (.cells #[.pointer none, .int .i64 0, .slice none 0 0] 57)).alloc (.cells #[.pointer none, .pointer (some ⟨w.heap.size, 0, none⟩)] 23)) := (Fr.alloc No _ _).no_trans (Fr.alloc No _ _)
  have hb0 : ((w.alloc (.cells #[.pointer none, .int .i64 0, .slice none 0 0] 57)).alloc (.cells #[.pointer none, .pointer (some ⟨w.heap.size, 0, none⟩)] 23)).heap[w.heap.size]? = some (.cells #[.pointer none, .int .i64 0, .slice none 0 0] 57 (0, 0)) := blk_no (Fr.alloc No _ _) (heap_alloc_new w _)
  have hb1 := heap2 w (.cells #[.pointer none, .int .i64 0, .slice none 0 0] 57) (.cells #[.pointer none, .pointer (some ⟨w.heap.size, 0, none⟩)] 23)
  obtain ⟨w1, hw1⟩ : ∃ w1, (w.alloc (.cells #[.pointer none, .int .i64 0, .slice none 0 0] 57)).alloc (.cells #[.pointer none, .pointer (some ⟨w.heap.size, 0, none⟩)] 23) = w1 := ⟨_, rfl⟩
  rw [hw1] at hf1 hb0 hb1 ⊢
  have HF1 := Lib.hid hf1
  have HB0 := Lib.hid hb0
  have HB1 := Lib.hid hb1
  clear hf1 hb0 hb1 hw1
  go_loopw [16] (fun v16 wr => ∃ k : Nat, k ≤ 2 ∧ v16 = .int .i64 (k : Int) ∧ Fr No w1 wr) (fun v16 _ => 2 - (intOf v16).toNat)
  case atStart => exact ⟨0, by omega, rfl, Fr.refl _ _⟩
  case round =>
    obtain ⟨k, hk, rfl, hf⟩ := hrel
    have HF := Lib.hid hf
    clear hf
    by_cases hlt : k < 2
    · have hp : ∃ p, wr.cell? ⟨w.heap.size + 1, k, none⟩ = some (.pointer p) ∧ NoN wr p := by
        have q := blk_cell (blk_no HF.out HB1.out) k
        rcases (show k = 0 ∨ k = 1 by omega) with rfl | rfl
        · exact ⟨none, q, .inl rfl⟩
        · exact ⟨_, q, .inr ⟨_, rfl, blk_cell (blk_no HF.out HB0.out) 0⟩⟩
      obtain ⟨p, hc, hn⟩ := hp
      have HN := Lib.hid hn
      have hin : (k : Int) < 2 := by omega
      have hk0 : (0 : Int) ≤ (k : Int) := by omega
      have hwi : IntKind.i64.wrap ((k : Int) + 1) = ((k + 1 : Nat) : Int) := by
        rw [show ((k : Int) + 1) = ((k + 1 : Nat) : Int) by omega]
        exact IntWalk.i64_in _ (by omega)
      clear hn
      go_wp2_with fail
      refine (send_no HN.out _ _ _).mono ?_
      rintro e w2 ⟨rfl, rfl⟩
      go_wp2_with fail
      refine (copy_no HN.out _).mono ?_
      rintro e w2 ⟨rfl, rfl⟩
      go_wp2_with fail
      refine (drop_no HN.out i).mono ?_
      rintro e w2 ⟨rfl, hf⟩
      have HF2 := Lib.hid hf
      clear hf
      go_wp2_with fail
      refine (forget_no (HN.out.no HF2.out) x).mono ?_
      rintro e w3 ⟨rfl, hf⟩
      have HF3 := Lib.hid (HF2.out.no_trans hf)
      clear hf
      go_wp2_with fail
      refine (flying_no (HN.out.no HF3.out)).mono ?_
      rintro e w4 ⟨rfl, rfl⟩
      go_wp2_with fail
      refine (look_nn (HN.out.no HF3.out) i).mono ?_
      rintro e w4 ⟨rfl, hf⟩
      have HF4 := Lib.hid ((HF3.out.no_trans hf).no_trans (Fr.alloc No w4 (.cells #[.int .i64 0, .int .i64 0, .slice none 0 0] 30)))
      clear hf
      go_wp2_with fail
      refine (take_nn (HN.out.no HF4.out) i).mono ?_
      rintro e w5 ⟨rfl, hf⟩
      have HB4 := Lib.hid (blk_no hf (heap_alloc_new w4 (.cells #[.int .i64 0, .int .i64 0, .slice none 0 0] 30)))
      have HB5 := Lib.hid (blk_no (Fr.alloc No w5 (.cells #[.int .i64 0, .int .i64 0, .slice none 0 0] 30)) HB4.out)
      have HF5 := Lib.hid ((HF4.out.no_trans hf).no_trans (Fr.alloc No w5 (.cells #[.int .i64 0, .int .i64 0, .slice none 0 0] 30)))
      clear hf
      have q0 := blk_cell HB5.out 0
      have q1 := blk_cell HB5.out 1
      have q2 := blk_cell HB5.out 2
      go_wp2_with fail
      refine (equal_yes _ 0 0 none none 0 0 0 0 [] Rd.nil Rd.nil).mono ?_
      rintro e w6 ⟨rfl, hf⟩
      have HB6 := Lib.hid (blk_no hf HB5.out)
      have HB7 := Lib.hid (blk_no hf (heap_alloc_new w5 (.cells #[.int .i64 0, .int .i64 0, .slice none 0 0] 30)))
      have HF6 := Lib.hid (HF5.out.no_trans hf)
      clear hf q0 q1 q2
      have q0 := blk_cell HB6.out 0
      have q1 := blk_cell HB6.out 1
      have q2 := blk_cell HB6.out 2
      have r0 := blk_cell HB7.out 0
      have r1 := blk_cell HB7.out 1
      have r2 := blk_cell HB7.out 2
      go_wp2_with fail
      refine (equal_yes _ 0 0 none none 0 0 0 0 [] Rd.nil Rd.nil).mono ?_
      rintro e w7 ⟨rfl, hf⟩
      have HF7 := Lib.hid (HF6.out.no_trans hf)
      clear hf q0 q1 q2 r0 r1 r2
      go_wp2_with fail
      go_roundw
      case rel => exact ⟨k + 1, by omega, by go_num, HF.out.no_trans HF7.out⟩
      case measure => simp [intOf]; omega
    · have hk2 : k = 2 := by omega
      subst hk2
      go_wp2_with fail
      refine (awake_any _).mono ?_
      rintro e w2 ⟨rfl, hb⟩
      have HB := Lib.hid hb
      clear hb
      go_wp2_with fail
      go_ret
      exact ⟨rfl, ((HF1.out.no_trans HF.out).noBelow).trans (HB.out.mono ((HF1.out.no_trans HF.out).size))⟩
end Go.Proofs.Ytndanonhkjgmhaa

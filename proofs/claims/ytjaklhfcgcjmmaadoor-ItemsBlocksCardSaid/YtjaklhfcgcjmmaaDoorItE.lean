/-
  awake. No statement of the seat is proved here.
-/
import Derived.Test.YtjaklhfcgcjmmaaDoorItD
namespace Go.Proofs.YtjaklhfcgcjmmaaDoor
open Go.RowKit Go.Deep

section
variable {w : World}
set_option maxRecDepth 100000 in
set_option maxHeartbeats 1600000 in
/-- The chapter's examples. -/
theorem awake_any (ht : ItT w) : Calls Tryd.prog 21 #[] w fun e w' => e = .returned (.bool true) ∧ Fr No w w' := by
  have H9 : Hid (∀ W, Fr No w W → Calls Tryd.prog 10 #[.int .u8 9] W fun e w' => e = .returned (.int .i64 4) ∧ Fr No W w') := fun W hW => stack_any (ht.no hW) (i := 9) (by decide)
  have H4 : Hid (∀ W, Fr No w W → Calls Tryd.prog 14 #[.int .u8 4] W fun e w' => e = .returned (.int .u8 11) ∧ Fr No W w') := fun W hW => gives_any (ht.no hW) (i := 4) (by decide)
  have H0 : Hid (∀ W, Calls Tryd.prog 8 #[.int .i64 0] W fun e w' => ∃ b, e = .returned (.tuple #[.slice (some ⟨b, 0, none⟩) 1 1, .agg #[.int .u8 5, .int .i64 4], .bool true]) ∧ W.heap.size ≤ b ∧
    w'.heap[b]? = some (.cells #[.int .u8 3, .int .i64 1] 25 (0, 0)) ∧ Fr No W w') := fun W => recipe_yes (w := W) (k := 0) (by decide)
  have H7 : Hid (∀ W, Calls Tryd.prog 8 #[.int .i64 7] W fun e w' => e = .returned (.tuple #[.slice none 0 0, .agg #[.int .u8 0, .int .i64 0], .bool false]) ∧ Fr No W w') := fun W => recipe_no (w := W) (n := 7) (by decide)
  clear ht
  go_enter Tryd.func21, Tryd.ntmps21
  go_wp2_with (first
    | (go_at_call 10; refine (H9.out _ (HF2.out.no_trans (Fr.alloc No w2 _))).mono ?_; rintro e w3 ⟨rfl, hf⟩; have HF3 := Lib.hid ((Fr.alloc No w2 _).no_trans hf); clear hf)
    | (go_at_call 14; refine (H4.out _ (HF2.out.no_trans HF3.out)).mono ?_; rintro e w4 ⟨rfl, hf⟩; have HF4 := Lib.hid hf; have q1 := blk_no hf (blk_no HF3.out HC2.out); have q2 := blk_no hf (blk_no HF3.out HB2.out); have c0 := blk_cell q1 0; have c1 := blk_cell q1 1; have d0 := blk_cell q2 0; have d1 := blk_cell q2 1; clear hf q1 q2; simp at c0 c1 d0 d1)
    | (go_at_call_of 8 (Value.int .i64 0); refine (H0.out _).mono ?_; rintro e w1 ⟨b, rfl, hlo, hb, hf⟩; have HB := Lib.hid hb; have HF1 := Lib.hid hf; clear hb hf hlo)
    | (go_at_call_of 8 (Value.int .i64 7); refine (H7.out _).mono ?_; rintro e w2 ⟨rfl, hf⟩; have HB2 := Lib.hid (blk_no hf (heap_alloc_new w1 _)); have HC2 := Lib.hid (blk_no ((Fr.alloc No w1 _).no_trans hf) HB.out); have HF2 := Lib.hid (HF1.out.no_trans ((Fr.alloc No w1 _).no_trans hf)); clear hf))
  go_ret
  exact ⟨rfl, (HF2.out.no_trans HF3.out).no_trans HF4.out⟩
end
end Go.Proofs.YtjaklhfcgcjmmaaDoor

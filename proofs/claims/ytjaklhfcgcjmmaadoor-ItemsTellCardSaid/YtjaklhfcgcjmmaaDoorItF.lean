/-
  The walk of ItemsBlocks. No statement of the seat is proved here.
-/
import Derived.Test.YtjaklhfcgcjmmaaDoorItE
namespace Go.Proofs.YtjaklhfcgcjmmaaDoor
open Go.RowKit Go.Deep

/-- Of any number: it is no block; or leaf; or a block that gives itself. -/
theorem it_cases (i : Nat) : (blI i = false ∧ gvI i = 0 ∧ i ≠ 4) ∨ (i = 4) ∨ (blI i = true ∧ gvI i = i ∧ i ≠ 4 ∧ 0 < i ∧ i < 13 ∧ 0 < stI i) := by
  by_cases h : i < 13
  · have : ∀ j : Fin 13, (blI j.val = false ∧ gvI j.val = 0 ∧ j.val ≠ 4) ∨ (j.val = 4) ∨ (blI j.val = true ∧ gvI j.val = j.val ∧ j.val ≠ 4 ∧ 0 < j.val ∧ j.val < 13 ∧ 0 < stI j.val) := by decide
    exact this ⟨i, h⟩
  · refine .inl ⟨?_, ?_, by omega⟩
    · unfold blI
      rw [List.getD_eq_getElem?_getD, List.getElem?_eq_none (by simp; omega)]
      rfl
    · unfold gvI
      rw [List.getD_eq_getElem?_getD, List.getElem?_eq_none (by simp; omega)]
      rfl
section
variable {w : World}
theorem stack_w (ht : ItT w) {i : Nat} (hi : i < 256) {s : Int} (hs : stI i = s) : ∀ W, Fr No w W → Calls Tryd.prog 10 #[.int .u8 (i : Int)] W fun e w' => e = .returned (.int .i64 s) ∧ Fr No w w' :=
  fun W hW => (stack_any (ht.no hW) hi).mono (fun _ _ ⟨h1, h2⟩ => ⟨by rw [h1, hs], hW.no_trans h2⟩)
theorem block_w (ht : ItT w) {i : Nat} (hi : i < 256) {s : Bool} (hs : blI i = s) : ∀ W, Fr No w W → Calls Tryd.prog 12 #[.int .u8 (i : Int)] W fun e w' => e = .returned (.bool s) ∧ Fr No w w' :=
  fun W hW => (block_any (ht.no hW) hi).mono (fun _ _ ⟨h1, h2⟩ => ⟨by rw [h1, hs], hW.no_trans h2⟩)
theorem gives_w (ht : ItT w) {i : Nat} (hi : i < 256) {s : Nat} (hs : gvI i = s) : ∀ W, Fr No w W → Calls Tryd.prog 14 #[.int .u8 (i : Int)] W fun e w' => e = .returned (.int .u8 (s : Int)) ∧ Fr No w w' :=
  fun W hW => (gives_any (ht.no hW) hi).mono (fun _ _ ⟨h1, h2⟩ => ⟨by rw [h1, hs], hW.no_trans h2⟩)
theorem name_w (ht : ItT w) {i : Nat} (hi : i < 256) {s : ByteArray} (hs : nmI i = s) : ∀ W, Fr No w W → Calls Tryd.prog 16 #[.int .u8 (i : Int)] W fun e w' => e = .returned (.string s) ∧ Fr No w w' :=
  fun W hW => (name_any (ht.no hW) hi).mono (fun _ _ ⟨h1, h2⟩ => ⟨by rw [h1, hs], hW.no_trans h2⟩)
theorem awake_w (ht : ItT w) : ∀ W, Fr No w W → Calls Tryd.prog 21 #[] W fun e w' => e = .returned (.bool true) ∧ Fr No w w' :=
  fun _ hW => (awake_any (ht.no hW)).mono (fun _ _ ⟨h1, h2⟩ => ⟨h1, hW.no_trans h2⟩)
set_option maxRecDepth 100000 in
set_option maxHeartbeats 1600000 in
theorem blocks_walk (ht : ItT w) (i : Nat) (hi : i < 256) : Calls Tryd.prog 5 #[.int .u8 (i : Int)] w fun e w' => e = .returned (.bool true) ∧ Below w.heap.size w w' := by
  have HF := Lib.hid (Fr.refl No w)
  have HA := Lib.hid (awake_w ht)
  have HB0 : Hid (∀ W, Fr No w W → Calls Tryd.prog 12 #[.int .u8 0] W fun e w' => e = .returned (.bool false) ∧ Fr No w w') := block_w ht (i := 0) (by decide) rfl
  rcases it_cases i with ⟨hb, hg, h4⟩ | h4 | ⟨hb, hg, h4, h0, h13, hs⟩
  · have HB := Lib.hid (block_w ht hi hb)
    have HG := Lib.hid (gives_w ht hi hg)
    have e4 : ((i : Int) == 4) = false := by rw [beq_eq_false_iff_ne]; omega
    clear ht hb hg
    go_enter Tryd.func5, Tryd.ntmps5
    go_wp2_with (first
      | (go_at_call_of 12 (Value.int .u8 0); refine (HB0.out _ HF.out).mono ?_; rintro e w1 ⟨rfl, hf⟩; have HF := Lib.hid hf; clear hf)
      | (go_at_call 12; refine (HB.out _ HF.out).mono ?_; rintro e w1 ⟨rfl, hf⟩; have HF := Lib.hid hf; clear hf)
      | (go_at_call 14; refine (HG.out _ HF.out).mono ?_; rintro e w1 ⟨rfl, hf⟩; have HF := Lib.hid hf; clear hf)
      | (go_at_call 21; refine (HA.out _ HF.out).mono ?_; rintro e w1 ⟨rfl, hf⟩; have HF := Lib.hid hf; clear hf))
    go_ret
    exact ⟨rfl, HF.out.noBelow⟩
  · subst h4
    have HB : Hid (∀ W, Fr No w W → Calls Tryd.prog 12 #[.int .u8 4] W fun e w' => e = .returned (.bool true) ∧ Fr No w w') := block_w ht hi rfl
    have HG : Hid (∀ W, Fr No w W → Calls Tryd.prog 14 #[.int .u8 4] W fun e w' => e = .returned (.int .u8 11) ∧ Fr No w w') := gives_w ht hi rfl
    have HS4 : Hid (∀ W, Fr No w W → Calls Tryd.prog 10 #[.int .u8 4] W fun e w' => e = .returned (.int .i64 16) ∧ Fr No w w') := stack_w ht hi rfl
    have HS11 : Hid (∀ W, Fr No w W → Calls Tryd.prog 10 #[.int .u8 11] W fun e w' => e = .returned (.int .i64 16) ∧ Fr No w w') := stack_w ht (i := 11) (by decide) rfl
    clear ht
    show Calls _ _ #[.int .u8 4] _ _
    go_enter Tryd.func5, Tryd.ntmps5
    go_wp2_with (first
      | (go_at_call_of 12 (Value.int .u8 0); refine (HB0.out _ HF.out).mono ?_; rintro e w1 ⟨rfl, hf⟩; have HF := Lib.hid hf; clear hf)
      | (go_at_call_of 12 (Value.int .u8 4); refine (HB.out _ HF.out).mono ?_; rintro e w1 ⟨rfl, hf⟩; have HF := Lib.hid hf; clear hf)
      | (go_at_call_of 10 (Value.int .u8 4); refine (HS4.out _ HF.out).mono ?_; rintro e w1 ⟨rfl, hf⟩; have HF := Lib.hid hf; clear hf)
      | (go_at_call_of 10 (Value.int .u8 11); refine (HS11.out _ HF.out).mono ?_; rintro e w1 ⟨rfl, hf⟩; have HF := Lib.hid hf; clear hf)
      | (go_at_call 14; refine (HG.out _ HF.out).mono ?_; rintro e w1 ⟨rfl, hf⟩; have HF := Lib.hid hf; clear hf)
      | (go_at_call 21; refine (HA.out _ HF.out).mono ?_; rintro e w1 ⟨rfl, hf⟩; have HF := Lib.hid hf; clear hf))
    go_ret
    exact ⟨rfl, HF.out.noBelow⟩
  · obtain ⟨s, hs2⟩ : ∃ s, stI i = s := ⟨_, rfl⟩
    have HB := Lib.hid (block_w ht hi hb)
    have HG := Lib.hid (gives_w ht hi hg)
    have HS := Lib.hid (stack_w ht hi hs2)
    rw [hs2] at hs
    have e4 : ((i : Int) == 4) = false := by rw [beq_eq_false_iff_ne]; omega
    have e0 : ((i : Int) == 0) = false := by rw [beq_eq_false_iff_ne]; omega
    have ei : ((i : Int) == (i : Int)) = true := by simp
    have e1 : ((i : Int) != 0) = true := by simp; omega
    have es : (s == 0) = false := by rw [beq_eq_false_iff_ne]; omega
    clear ht hb hg hs2
    go_enter Tryd.func5, Tryd.ntmps5
    go_wp2_with (first
      | (go_at_call_of 12 (Value.int .u8 0); refine (HB0.out _ HF.out).mono ?_; rintro e w1 ⟨rfl, hf⟩; have HF := Lib.hid hf; clear hf)
      | (go_at_call 12; refine (HB.out _ HF.out).mono ?_; rintro e w1 ⟨rfl, hf⟩; have HF := Lib.hid hf; clear hf)
      | (go_at_call 10; refine (HS.out _ HF.out).mono ?_; rintro e w1 ⟨rfl, hf⟩; have HF := Lib.hid hf; clear hf)
      | (go_at_call 14; refine (HG.out _ HF.out).mono ?_; rintro e w1 ⟨rfl, hf⟩; have HF := Lib.hid hf; clear hf)
      | (go_at_call 21; refine (HA.out _ HF.out).mono ?_; rintro e w1 ⟨rfl, hf⟩; have HF := Lib.hid hf; clear hf))
    go_ret
    exact ⟨rfl, HF.out.noBelow⟩
end
end Go.Proofs.YtjaklhfcgcjmmaaDoor

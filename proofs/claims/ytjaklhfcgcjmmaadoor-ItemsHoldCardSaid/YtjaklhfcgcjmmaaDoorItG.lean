/-
  The walk of ItemsTell. No statement of the seat is proved here.
-/
import Derived.Test.YtjaklhfcgcjmmaaDoorItF
namespace Go.Proofs.YtjaklhfcgcjmmaaDoor
open Go.RowKit Go.Deep

section
variable {w : World}
theorem rstack_w {i : Nat} (hi : i < 256) {s : Int} (hs : stI i = s) : ∀ W, Fr No w W → Calls Tryd.prog 11 #[.int .u8 (i : Int)] W fun e w' => e = .returned (.int .i64 s) ∧ Fr No w w' :=
  fun _ hW => (rstack_any hi).mono (fun _ _ ⟨h1, h2⟩ => ⟨by rw [h1, hs], h2 ▸ hW⟩)
theorem rblock_w {i : Nat} (hi : i < 256) {s : Bool} (hs : blI i = s) : ∀ W, Fr No w W → Calls Tryd.prog 13 #[.int .u8 (i : Int)] W fun e w' => e = .returned (.bool s) ∧ Fr No w w' :=
  fun _ hW => (rblock_any hi).mono (fun _ _ ⟨h1, h2⟩ => ⟨by rw [h1, hs], h2 ▸ hW⟩)
theorem rgives_w {i : Nat} (hi : i < 256) {s : Nat} (hs : gvI i = s) : ∀ W, Fr No w W → Calls Tryd.prog 15 #[.int .u8 (i : Int)] W fun e w' => e = .returned (.int .u8 (s : Int)) ∧ Fr No w w' :=
  fun _ hW => (rgives_any hi).mono (fun _ _ ⟨h1, h2⟩ => ⟨by rw [h1, hs], h2 ▸ hW⟩)
theorem rname_w {i : Nat} (hi : i < 256) {s : ByteArray} (hs : nmI i = s) : ∀ W, Fr No w W → Calls Tryd.prog 17 #[.int .u8 (i : Int)] W fun e w' => e = .returned (.string s) ∧ Fr No w w' :=
  fun _ hW => (rname_any hi).mono (fun _ _ ⟨h1, h2⟩ => ⟨by rw [h1, hs], hW.no_trans h2⟩)
theorem recipes_w : ∀ W, Fr No w W → Calls Tryd.prog 18 #[] W fun e w' => e = .returned (.int .i64 7) ∧ Fr No w w' :=
  fun _ hW => recipes_any.mono (fun _ _ ⟨h1, h2⟩ => ⟨h1, hW.no_trans h2⟩)
set_option maxRecDepth 100000 in
theorem rrecipes_w : ∀ W, Fr No w W → Calls Tryd.prog 19 #[] W fun e w' => e = .returned (.int .i64 7) ∧ Fr No w w' := fun W hW => by
  have HW := Lib.hid hW
  clear hW
  go_enter Tryd.func19, Tryd.ntmps19
  go_wp2
  go_ret
  exact ⟨rfl, HW.out⟩
set_option maxRecDepth 100000 in
set_option maxHeartbeats 4000000 in
theorem tell_walk (ht : ItT w) (i : Nat) (hi : i < 256) (n : Int) : Calls Tryd.prog 3 #[.int .u8 (i : Int), .int .i64 n] w fun e w' => e = .returned (.bool true) ∧ Below w.heap.size w w' := by
  obtain ⟨st, hs⟩ : ∃ s, stI i = s := ⟨_, rfl⟩
  obtain ⟨bl, hb⟩ : ∃ s, blI i = s := ⟨_, rfl⟩
  obtain ⟨gv, hg⟩ : ∃ s, gvI i = s := ⟨_, rfl⟩
  obtain ⟨nm, hn⟩ : ∃ s, nmI i = s := ⟨_, rfl⟩
  have HT := Lib.hid ht
  have HNM := Lib.hid (And.intro hs (And.intro hb (And.intro hg hn)))
  clear ht hs hb hg hn
  have e1 : (st == st) = true := by simp
  have e2 : (bl == bl) = true := by simp
  have e3 : ((gv : Int) == (gv : Int)) = true := by simp
  have e4 : (nm.toList == nm.toList) = true := by simp
  rcases (show (n < 0 ∨ 7 ≤ n) ∨ (0 ≤ n ∧ n < 7) by omega) with h | ⟨h0, h7⟩
  · have HR := Lib.hid (fun W => recipe_no (w := W) h)
    have HQ := Lib.hid (fun W => rrecipe_no (w := W) h)
    clear h
    go_enter Tryd.func3, Tryd.ntmps3
    go_wp2_with (first
      | (go_at_call 8; refine (HR.out _).mono ?_; rintro e wa ⟨rfl, hf⟩; have HFA := Lib.hid hf; clear hf)
      | (go_at_call 9; refine (HQ.out _).mono ?_; rintro e wb ⟨rfl, hf⟩; have HBA := Lib.hid (blk_no (Fr.alloc No wb (.cells #[.int .u8 0, .int .i64 0] 25)) (blk_no hf (heap_alloc_new wa _))); have HBB := Lib.hid (heap_alloc_new wb (.cells #[.int .u8 0, .int .i64 0] 25)); have HW := Lib.hid ((HFA.out.no_trans ((Fr.alloc No wa _).no_trans hf)).no_trans (Fr.alloc No wb (.cells #[.int .u8 0, .int .i64 0] 25))); have HF := Lib.hid (Fr.refl No (wb.alloc (.cells #[.int .u8 0, .int .i64 0] 25))); have HTB := HT.out.no HW.out; have HA := Lib.hid (awake_w HTB); have HS := Lib.hid (stack_w HTB hi HNM.out.1); have HB := Lib.hid (block_w HTB hi HNM.out.2.1); have HG := Lib.hid (gives_w HTB hi HNM.out.2.2.1); have HN := Lib.hid (name_w HTB hi HNM.out.2.2.2); have HC := Lib.hid (recipes_w (w := wb.alloc (.cells #[.int .u8 0, .int .i64 0] 25))); have RS := Lib.hid (rstack_w (w := wb.alloc (.cells #[.int .u8 0, .int .i64 0] 25)) hi HNM.out.1); have RB := Lib.hid (rblock_w (w := wb.alloc (.cells #[.int .u8 0, .int .i64 0] 25)) hi HNM.out.2.1); have RG := Lib.hid (rgives_w (w := wb.alloc (.cells #[.int .u8 0, .int .i64 0] 25)) hi HNM.out.2.2.1); have RN := Lib.hid (rname_w (w := wb.alloc (.cells #[.int .u8 0, .int .i64 0] 25)) hi HNM.out.2.2.2); have RC := Lib.hid (rrecipes_w (w := wb.alloc (.cells #[.int .u8 0, .int .i64 0] 25))); clear HTB; clear hf)
      | (go_at_call 20; refine (same_yes (n := 0) (RdS.nil _ none) (RdS.nil _ none) 0 0 (by decide)).mono ?_; rintro e wz ⟨rfl, hf⟩; have hz := HF.out.no_trans hf; have c0 := blk_cell (blk_no hz HBA.out) 0; have c1 := blk_cell (blk_no hz HBA.out) 1; have d0 := blk_cell (blk_no hz HBB.out) 0; have d1 := blk_cell (blk_no hz HBB.out) 1; simp at c0 c1 d0 d1; have HF := Lib.hid hz; clear hf hz)
      | (go_at_call 21; refine (HA.out _ HF.out).mono ?_; rintro e w1 ⟨rfl, hf⟩; have HF := Lib.hid hf; clear hf)
      | (go_at_call 10; refine (HS.out _ HF.out).mono ?_; rintro e w1 ⟨rfl, hf⟩; have HF := Lib.hid hf; clear hf)
      | (go_at_call 12; refine (HB.out _ HF.out).mono ?_; rintro e w1 ⟨rfl, hf⟩; have HF := Lib.hid hf; clear hf)
      | (go_at_call 14; refine (HG.out _ HF.out).mono ?_; rintro e w1 ⟨rfl, hf⟩; have HF := Lib.hid hf; clear hf)
      | (go_at_call 16; refine (HN.out _ HF.out).mono ?_; rintro e w1 ⟨rfl, hf⟩; have HF := Lib.hid hf; clear hf)
      | (go_at_call 18; refine (HC.out _ HF.out).mono ?_; rintro e w1 ⟨rfl, hf⟩; have HF := Lib.hid hf; clear hf)
      | (go_at_call 11; refine (RS.out _ HF.out).mono ?_; rintro e w1 ⟨rfl, hf⟩; have HF := Lib.hid hf; clear hf)
      | (go_at_call 13; refine (RB.out _ HF.out).mono ?_; rintro e w1 ⟨rfl, hf⟩; have HF := Lib.hid hf; clear hf)
      | (go_at_call 15; refine (RG.out _ HF.out).mono ?_; rintro e w1 ⟨rfl, hf⟩; have HF := Lib.hid hf; clear hf)
      | (go_at_call 17; refine (RN.out _ HF.out).mono ?_; rintro e w1 ⟨rfl, hf⟩; have HF := Lib.hid hf; clear hf)
      | (go_at_call 19; refine (RC.out _ HF.out).mono ?_; rintro e w1 ⟨rfl, hf⟩; have HF := Lib.hid hf; clear hf))
    go_ret
    exact ⟨rfl, (HW.out.no_trans HF.out).noBelow⟩
  · obtain ⟨k, rfl⟩ := Int.eq_ofNat_of_zero_le h0
    have hk : k < 7 := by omega
    have hm : ∀ j : Fin 7, (ofR j.val).length ≤ 100000 := by decide
    have HM := Lib.hid (show (ofR k).length ≤ 100000 from hm ⟨k, hk⟩)
    clear hm
    have HR := Lib.hid (fun W => recipe_yes (w := W) hk)
    have HQ := Lib.hid (fun W => rrecipe_yes (w := W) hk)
    clear h0 h7
    generalize ofR k = l at *
    generalize mkR k = q at *
    obtain ⟨q0, q1⟩ := q
    dsimp only at HR HQ
    have e5 : ((q0 : Int) == (q0 : Int)) = true := by simp
    have e6 : (q1 == q1) = true := by simp
    go_enter Tryd.func3, Tryd.ntmps3
    go_wp2_with (first
      | (go_at_call 8; refine (HR.out _).mono ?_; rintro e wa ⟨b1, rfl, _, hx1, hf⟩; have HX1 := Lib.hid (RdS.blk hx1); clear hx1; have HFA := Lib.hid hf; clear hf)
      | (go_at_call 9; refine (HQ.out _).mono ?_; rintro e wb ⟨b2, rfl, _, hx2, hf⟩; have HX2 := Lib.hid ((RdS.blk hx2).no (Fr.alloc No wb (.cells #[.int .u8 (q0 : Int), .int .i64 q1] 25))); clear hx2; have HX1 := Lib.hid (HX1.out.no (((Fr.alloc No wa _).no_trans hf).no_trans (Fr.alloc No wb (.cells #[.int .u8 (q0 : Int), .int .i64 q1] 25)))); have HBA := Lib.hid (blk_no (Fr.alloc No wb (.cells #[.int .u8 (q0 : Int), .int .i64 q1] 25)) (blk_no hf (heap_alloc_new wa _))); have HBB := Lib.hid (heap_alloc_new wb (.cells #[.int .u8 (q0 : Int), .int .i64 q1] 25)); have HW := Lib.hid ((HFA.out.no_trans ((Fr.alloc No wa _).no_trans hf)).no_trans (Fr.alloc No wb (.cells #[.int .u8 (q0 : Int), .int .i64 q1] 25))); have HF := Lib.hid (Fr.refl No (wb.alloc (.cells #[.int .u8 (q0 : Int), .int .i64 q1] 25))); have HTB := HT.out.no HW.out; have HA := Lib.hid (awake_w HTB); have HS := Lib.hid (stack_w HTB hi HNM.out.1); have HB := Lib.hid (block_w HTB hi HNM.out.2.1); have HG := Lib.hid (gives_w HTB hi HNM.out.2.2.1); have HN := Lib.hid (name_w HTB hi HNM.out.2.2.2); have HC := Lib.hid (recipes_w (w := wb.alloc (.cells #[.int .u8 (q0 : Int), .int .i64 q1] 25))); have RS := Lib.hid (rstack_w (w := wb.alloc (.cells #[.int .u8 (q0 : Int), .int .i64 q1] 25)) hi HNM.out.1); have RB := Lib.hid (rblock_w (w := wb.alloc (.cells #[.int .u8 (q0 : Int), .int .i64 q1] 25)) hi HNM.out.2.1); have RG := Lib.hid (rgives_w (w := wb.alloc (.cells #[.int .u8 (q0 : Int), .int .i64 q1] 25)) hi HNM.out.2.2.1); have RN := Lib.hid (rname_w (w := wb.alloc (.cells #[.int .u8 (q0 : Int), .int .i64 q1] 25)) hi HNM.out.2.2.2); have RC := Lib.hid (rrecipes_w (w := wb.alloc (.cells #[.int .u8 (q0 : Int), .int .i64 q1] 25))); clear HTB; clear hf)
      | (go_at_call 20; refine (same_yes (HX1.out.no HF.out) (HX2.out.no HF.out) _ _ HM.out).mono ?_; rintro e wz ⟨rfl, hf⟩; have hz := HF.out.no_trans hf; have c0 := blk_cell (blk_no hz HBA.out) 0; have c1 := blk_cell (blk_no hz HBA.out) 1; have d0 := blk_cell (blk_no hz HBB.out) 0; have d1 := blk_cell (blk_no hz HBB.out) 1; simp at c0 c1 d0 d1; have HF := Lib.hid hz; clear hf hz)
      | (go_at_call 21; refine (HA.out _ HF.out).mono ?_; rintro e w1 ⟨rfl, hf⟩; have HF := Lib.hid hf; clear hf)
      | (go_at_call 10; refine (HS.out _ HF.out).mono ?_; rintro e w1 ⟨rfl, hf⟩; have HF := Lib.hid hf; clear hf)
      | (go_at_call 12; refine (HB.out _ HF.out).mono ?_; rintro e w1 ⟨rfl, hf⟩; have HF := Lib.hid hf; clear hf)
      | (go_at_call 14; refine (HG.out _ HF.out).mono ?_; rintro e w1 ⟨rfl, hf⟩; have HF := Lib.hid hf; clear hf)
      | (go_at_call 16; refine (HN.out _ HF.out).mono ?_; rintro e w1 ⟨rfl, hf⟩; have HF := Lib.hid hf; clear hf)
      | (go_at_call 18; refine (HC.out _ HF.out).mono ?_; rintro e w1 ⟨rfl, hf⟩; have HF := Lib.hid hf; clear hf)
      | (go_at_call 11; refine (RS.out _ HF.out).mono ?_; rintro e w1 ⟨rfl, hf⟩; have HF := Lib.hid hf; clear hf)
      | (go_at_call 13; refine (RB.out _ HF.out).mono ?_; rintro e w1 ⟨rfl, hf⟩; have HF := Lib.hid hf; clear hf)
      | (go_at_call 15; refine (RG.out _ HF.out).mono ?_; rintro e w1 ⟨rfl, hf⟩; have HF := Lib.hid hf; clear hf)
      | (go_at_call 17; refine (RN.out _ HF.out).mono ?_; rintro e w1 ⟨rfl, hf⟩; have HF := Lib.hid hf; clear hf)
      | (go_at_call 19; refine (RC.out _ HF.out).mono ?_; rintro e w1 ⟨rfl, hf⟩; have HF := Lib.hid hf; clear hf))
    go_ret
    exact ⟨rfl, (HW.out.no_trans HF.out).noBelow⟩
end
end Go.Proofs.YtjaklhfcgcjmmaaDoor

/-
  The walk of BagErrors. No statement of the seat is proved here.
-/
import Derived.Test.YtegoebkdcogggaaDoorBgH
namespace Go.Proofs.YtegoebkdcogggaaDoor
open Go.RowKit Go.Deep

section
variable {w : World} {A : Option Addr} {n c lo : Nat} {l : List (Nat × Int)}
theorem awake_w (ht : ItT w) : ∀ W, Fr No w W → Calls Tryd.prog 10 #[] W fun e w' => e = .returned (.bool true) ∧ Fr No w w' :=
  fun _ hW => (awake_any (ht.no hW)).mono (fun _ _ ⟨h1, h2⟩ => ⟨h1, hW.no_trans h2⟩)
set_option maxRecDepth 100000 in
set_option maxHeartbeats 4000000 in
theorem errors_walk (ht : ItT w) (hx : RdS w A n l) (hb : By l) (c : Nat) (x m : Int) : Calls Tryd.prog 8 #[.slice A n c, .int .i64 x, .int .i64 m] w fun e w' => e = .returned (.bool true) ∧ Below w.heap.size w w' := by
  have HA := Lib.hid (awake_w ht)
  have HF := Lib.hid (Fr.refl No w)
  by_cases hn : 300 < n
  · have h3 : (300 : Int) < (n : Int) := by omega
    clear ht hx hb
    go_enter Tryd.func8, Tryd.ntmps8
    go_wp2_with (refine (HA.out _ HF.out).mono ?_; rintro e w1 ⟨rfl, hf⟩; have HF1 := Lib.hid hf; clear hf)
    go_ret
    exact ⟨rfl, HF1.out.noBelow⟩
  · have h3 : ¬ ((300 : Int) < (n : Int)) := by omega
    have HT0 := Lib.hid (fun W (hW : Fr No w W) => take_any (ht.no hW) (hx.no hW) hb c (by omega) x m)
    have HR := Lib.hid (fun W (hW : Fr No w W) => right_any (ht.no hW) (hx.no hW) hb c (by omega) n)
    have HX := Lib.hid (fun W (hW : Fr No w W) => hx.no hW)
    have HL := Lib.hid hx.1
    have e0 : decide ((n : Int) = (n : Int)) = true := by simp
    rw [e0] at HR
    cases hr : rgt l with
    | false =>
      have hT : TakeL l x m = (l, (0, 0), 103) := by unfold TakeL; rw [if_pos (.inl hr)]
      have hP : PutL 1 l 3 = (l, 3) := by unfold PutL; rw [if_neg (by decide), if_pos (.inl hr)]
      have hS : SpendE l 1 1 = 103 := by unfold SpendE; rw [if_pos hr]
      have hA : AllL l [] = (l, 103) := by unfold AllL; rw [if_pos (.inl hr)]
      have HT : Hid (∀ W, Fr No w W → Calls Tryd.prog 12 #[.slice A n c, .int .i64 x, .int .i64 m] W fun e w' => ∃ A' c', e = .returned (.tuple #[.slice A' n c', .agg #[.int .u8 0, .int .i64 0], .int .i64 103]) ∧ RdS w' A' n l ∧ Fr No W w') := fun W hW => (HT0.out W hW).mono (fun _ _ ⟨A', c', h1, h2, h3⟩ => by rw [hT] at h1 h2; exact ⟨A', c', h1, h2.rd, h3⟩)
      have HP : Hid (∀ W, Fr No w W → Calls Tryd.prog 11 #[.slice A n c, .int .u8 1, .int .i64 3] W fun e w' => ∃ A' c', e = .returned (.tuple #[.slice A' n c', .int .i64 3]) ∧ RdS w' A' n l ∧ Fr No W w') := fun W hW => (Put_any (ht.no hW) (hx.no hW) hb c (i := 1) (by decide) (by omega) (m := 3) (by decide)).mono (fun _ _ ⟨A', c', h1, h2, h3⟩ => by rw [hP] at h1 h2; exact ⟨A', c', h1, h2.rd, h3⟩)
      have HS : Hid (∀ W, Fr No w W → Calls Tryd.prog 13 #[.slice A n c, .int .u8 1, .int .i64 1] W fun e w' => ∃ A' c', e = .returned (.tuple #[.slice A' n c', .int .i64 103]) ∧ Fr No W w') := fun W hW => (spend_no (ht.no hW) (hx.no hW) hb c (i := 1) (by omega) (m := 1) (by rw [hS]; decide)).mono (fun _ _ ⟨A', c', h1, _, h3⟩ => by rw [hS] at h1; exact ⟨A', c', h1, h3⟩)
      have HG : Hid (∀ W, Fr No w W → Calls Tryd.prog 14 #[.slice A n c, .slice none 0 0] W fun e w' => ∃ A' c', e = .returned (.tuple #[.slice A' n c', .int .i64 103]) ∧ Fr No W w') := fun W hW => (all_any (ht.no hW) (hx.no hW) (RdS.nil _ none) hb (fun s hs => by cases hs) c 0 (by omega) (by decide)).mono (fun _ _ ⟨A', c', h1, _, h3⟩ => by rw [hA] at h1; exact ⟨A', c', h1, h3⟩)
      rw [hr] at HR
      clear ht hx hb hT hP hS hA hr HT0
      go_enter Tryd.func8, Tryd.ntmps8
      go_wp2_with (first
        | (go_at_call 12; refine (HT.out _ HF.out).mono ?_; rintro e w1 ⟨A1, c1, rfl, hx, hf⟩; have hfa := Fr.alloc No w1 (.cells #[.int .u8 0, .int .i64 0] 30); have HX1 := Lib.hid (hx.no hfa); have HF1 := Lib.hid (hf.no_trans hfa); have HB1 := Lib.hid (heap_alloc_new w1 (.cells #[.int .u8 0, .int .i64 0] 30)); have HW := Lib.hid (Fr.refl No (w1.alloc (.cells #[.int .u8 0, .int .i64 0] 30))); have HF := Lib.hid (hf.no_trans hfa); clear hx hf hfa)
        | (go_at_call 9; refine (HR.out _ HF.out).mono ?_; rintro e w2 ⟨rfl, hf⟩; have HF := Lib.hid (HF.out.no_trans hf); have HW := Lib.hid (HW.out.no_trans hf); have hq := blk_no HW.out HB1.out; have k0 := blk_cell hq 0; have k1 := blk_cell hq 1; simp at k0 k1; clear hf hq)
        | (go_at_call_of 20 (Value.slice A1 n c1); refine (same_yes (HX1.out.no HW.out) (HX.out _ HF.out) _ _ (by omega)).mono ?_; rintro e w3 ⟨rfl, hf⟩; have HF := Lib.hid (HF.out.no_trans hf); have HW := Lib.hid (HW.out.no_trans hf); clear hf)
        | (go_at_call 11; refine (HP.out _ HF.out).mono ?_; rintro e w4 ⟨A4, c4, rfl, hx, hf⟩; have HX4 := Lib.hid hx; have HF := Lib.hid (HF.out.no_trans hf); clear hx hf)
        | (go_at_call 13; refine (HS.out _ HF.out).mono ?_; rintro e w5 ⟨A5, c5, rfl, hf⟩; have HX4 := Lib.hid (HX4.out.no hf); have HF := Lib.hid (HF.out.no_trans hf); clear hf)
        | (go_at_call 14; refine (HG.out _ HF.out).mono ?_; rintro e w6 ⟨A6, c6, rfl, hf⟩; have HX4 := Lib.hid (HX4.out.no hf); have HF := Lib.hid (HF.out.no_trans hf); clear hf)
        | (go_at_call_of 20 (Value.slice A4 n c4); refine (same_yes HX4.out (HX.out _ HF.out) _ _ (by omega)).mono ?_; rintro e w7 ⟨rfl, hf⟩; have HF := Lib.hid (HF.out.no_trans hf); clear hf)
        | (go_at_call 10; refine (HA.out _ HF.out).mono ?_; rintro e w8 ⟨rfl, hf⟩; have HF := Lib.hid hf; clear hf))
      go_ret
      exact ⟨rfl, HF.out.noBelow⟩
    | true =>
      rw [hr] at HR
      by_cases hx0 : x < 0
      · have hT : TakeL l x m = (l, (0, 0), 103) := by unfold TakeL; rw [if_pos (.inr (.inl hx0))]
        have HT : Hid (∀ W, Fr No w W → Calls Tryd.prog 12 #[.slice A n c, .int .i64 x, .int .i64 m] W fun e w' => ∃ A' c', e = .returned (.tuple #[.slice A' n c', .agg #[.int .u8 0, .int .i64 0], .int .i64 103]) ∧ RdS w' A' n l ∧ Fr No W w') := fun W hW => (HT0.out W hW).mono (fun _ _ ⟨A', c', h1, h2, h3⟩ => by rw [hT] at h1 h2; exact ⟨A', c', h1, h2.rd, h3⟩)
        clear ht hx hb hT hr HT0
        go_enter Tryd.func8, Tryd.ntmps8
        go_wp2_with (first
          | (go_at_call 12; refine (HT.out _ HF.out).mono ?_; rintro e w1 ⟨A1, c1, rfl, hx, hf⟩; have hfa := Fr.alloc No w1 (.cells #[.int .u8 0, .int .i64 0] 30); have HX1 := Lib.hid (hx.no hfa); have HF1 := Lib.hid (hf.no_trans hfa); have HB1 := Lib.hid (heap_alloc_new w1 (.cells #[.int .u8 0, .int .i64 0] 30)); have HW := Lib.hid (Fr.refl No (w1.alloc (.cells #[.int .u8 0, .int .i64 0] 30))); have HF := Lib.hid (hf.no_trans hfa); clear hx hf hfa)
          | (go_at_call 9; refine (HR.out _ HF.out).mono ?_; rintro e w2 ⟨rfl, hf⟩; have HF := Lib.hid (HF.out.no_trans hf); have HW := Lib.hid (HW.out.no_trans hf); have hq := blk_no HW.out HB1.out; have k0 := blk_cell hq 0; have k1 := blk_cell hq 1; simp at k0 k1; clear hf hq)
          | (go_at_call_of 20 (Value.slice A1 n c1); refine (same_yes (HX1.out.no HW.out) (HX.out _ HF.out) _ _ (by omega)).mono ?_; rintro e w3 ⟨rfl, hf⟩; have HF := Lib.hid (HF.out.no_trans hf); have HW := Lib.hid (HW.out.no_trans hf); clear hf)
          | (go_at_call 10; refine (HA.out _ HF.out).mono ?_; rintro e w8 ⟨rfl, hf⟩; have HF := Lib.hid hf; clear hf))
        go_ret
        exact ⟨rfl, HF.out.noBelow⟩
      · obtain ⟨k, rfl⟩ := Int.eq_ofNat_of_zero_le (Int.not_lt.1 hx0)
        by_cases hxn : n ≤ k
        · have hlk := hx.1
          have h4 : (n : Int) ≤ (k : Int) := by omega
          have hT : TakeL l (k : Int) m = (l, (0, 0), 103) := by unfold TakeL; rw [if_pos (.inr (.inr (by omega)))]
          have HT : Hid (∀ W, Fr No w W → Calls Tryd.prog 12 #[.slice A n c, .int .i64 (k : Int), .int .i64 m] W fun e w' => ∃ A' c', e = .returned (.tuple #[.slice A' n c', .agg #[.int .u8 0, .int .i64 0], .int .i64 103]) ∧ RdS w' A' n l ∧ Fr No W w') := fun W hW => (HT0.out W hW).mono (fun _ _ ⟨A', c', h1, h2, h3⟩ => by rw [hT] at h1 h2; exact ⟨A', c', h1, h2.rd, h3⟩)
          clear hlk
          clear ht hx hb hT hr HT0
          go_enter Tryd.func8, Tryd.ntmps8
          go_wp2_with (first
            | (go_at_call 12; refine (HT.out _ HF.out).mono ?_; rintro e w1 ⟨A1, c1, rfl, hx, hf⟩; have hfa := Fr.alloc No w1 (.cells #[.int .u8 0, .int .i64 0] 30); have HX1 := Lib.hid (hx.no hfa); have HF1 := Lib.hid (hf.no_trans hfa); have HB1 := Lib.hid (heap_alloc_new w1 (.cells #[.int .u8 0, .int .i64 0] 30)); have HW := Lib.hid (Fr.refl No (w1.alloc (.cells #[.int .u8 0, .int .i64 0] 30))); have HF := Lib.hid (hf.no_trans hfa); clear hx hf hfa)
            | (go_at_call 9; refine (HR.out _ HF.out).mono ?_; rintro e w2 ⟨rfl, hf⟩; have HF := Lib.hid (HF.out.no_trans hf); have HW := Lib.hid (HW.out.no_trans hf); have hq := blk_no HW.out HB1.out; have k0 := blk_cell hq 0; have k1 := blk_cell hq 1; simp at k0 k1; clear hf hq)
            | (go_at_call_of 20 (Value.slice A1 n c1); refine (same_yes (HX1.out.no HW.out) (HX.out _ HF.out) _ _ (by omega)).mono ?_; rintro e w3 ⟨rfl, hf⟩; have HF := Lib.hid (HF.out.no_trans hf); have HW := Lib.hid (HW.out.no_trans hf); clear hf)
            | (go_at_call 10; refine (HA.out _ HF.out).mono ?_; rintro e w8 ⟨rfl, hf⟩; have HF := Lib.hid hf; clear hf))
          go_ret
          exact ⟨rfl, HF.out.noBelow⟩
        · have hlk := hx.1
          have h4 : ¬ ((n : Int) ≤ (k : Int)) := by omega
          have hk : k < l.length := by omega
          have hbad : ¬ (rgt l = false ∨ (k : Int) < 0 ∨ (l.length : Int) ≤ (k : Int)) := by rw [hr]; simp; omega
          have hgd : l.getD k (0, 0) = l[k] := by rw [List.getD_eq_getElem?_getD, List.getElem?_eq_getElem hk]; rfl
          by_cases hm1 : m < 1
          · have hT : TakeL l (k : Int) m = (l, (0, 0), 111) := by unfold TakeL; rw [if_neg hbad, if_pos hm1]
            have HT : Hid (∀ W, Fr No w W → Calls Tryd.prog 12 #[.slice A n c, .int .i64 (k : Int), .int .i64 m] W fun e w' => ∃ A' c', e = .returned (.tuple #[.slice A' n c', .agg #[.int .u8 0, .int .i64 0], .int .i64 111]) ∧ RdS w' A' n l ∧ Fr No W w') := fun W hW => (HT0.out W hW).mono (fun _ _ ⟨A', c', h1, h2, h3⟩ => by rw [hT] at h1 h2; exact ⟨A', c', h1, h2.rd, h3⟩)
            clear hlk hbad hgd
            clear ht hx hb hT hr HT0
            go_enter Tryd.func8, Tryd.ntmps8
            go_wp2_with (first
              | (go_at_call 12; refine (HT.out _ HF.out).mono ?_; rintro e w1 ⟨A1, c1, rfl, hx, hf⟩; have hfa := Fr.alloc No w1 (.cells #[.int .u8 0, .int .i64 0] 30); have HX1 := Lib.hid (hx.no hfa); have HF1 := Lib.hid (hf.no_trans hfa); have HB1 := Lib.hid (heap_alloc_new w1 (.cells #[.int .u8 0, .int .i64 0] 30)); have HW := Lib.hid (Fr.refl No (w1.alloc (.cells #[.int .u8 0, .int .i64 0] 30))); have HF := Lib.hid (hf.no_trans hfa); clear hx hf hfa)
              | (go_at_call 9; refine (HR.out _ HF.out).mono ?_; rintro e w2 ⟨rfl, hf⟩; have HF := Lib.hid (HF.out.no_trans hf); have HW := Lib.hid (HW.out.no_trans hf); have hq := blk_no HW.out HB1.out; have k0 := blk_cell hq 0; have k1 := blk_cell hq 1; simp at k0 k1; clear hf hq)
              | (go_at_call_of 20 (Value.slice A1 n c1); refine (same_yes (HX1.out.no HW.out) (HX.out _ HF.out) _ _ (by omega)).mono ?_; rintro e w3 ⟨rfl, hf⟩; have HF := Lib.hid (HF.out.no_trans hf); have HW := Lib.hid (HW.out.no_trans hf); clear hf)
              | (go_at_call 10; refine (HA.out _ HF.out).mono ?_; rintro e w8 ⟨rfl, hf⟩; have HF := Lib.hid hf; clear hf))
            go_ret
            exact ⟨rfl, HF.out.noBelow⟩
          · obtain ⟨b, o, rfl, _, hc⟩ := hx.2 (by omega)
            have HXC := Lib.hid (fun W (hW : Fr No w W) => hcells_no hx k hk hW)
            clear hc
            by_cases hlm : l[k].2 < m
            · have hT : TakeL l (k : Int) m = (l, (0, 0), 105) := by unfold TakeL; rw [if_neg hbad, if_neg hm1, show ((k : Int).toNat) = k from rfl, hgd, if_pos hlm]
              have HT : Hid (∀ W, Fr No w W → Calls Tryd.prog 12 #[.slice (some ⟨b, o, none⟩) n c, .int .i64 (k : Int), .int .i64 m] W fun e w' => ∃ A' c', e = .returned (.tuple #[.slice A' n c', .agg #[.int .u8 0, .int .i64 0], .int .i64 105]) ∧ RdS w' A' n l ∧ Fr No W w') := fun W hW => (HT0.out W hW).mono (fun _ _ ⟨A', c', h1, h2, h3⟩ => by rw [hT] at h1 h2; exact ⟨A', c', h1, h2.rd, h3⟩)
              clear hlk hbad hgd
              clear ht hx hb hT hr HT0
              go_enter Tryd.func8, Tryd.ntmps8
              go_wp2_with (first
                | (go_at_call 12; refine (HT.out _ HF.out).mono ?_; rintro e w1 ⟨A1, c1, rfl, hx, hf⟩; have hfa := Fr.alloc No w1 (.cells #[.int .u8 0, .int .i64 0] 30); have HX1 := Lib.hid (hx.no hfa); have HF1 := Lib.hid (hf.no_trans hfa); have HB1 := Lib.hid (heap_alloc_new w1 (.cells #[.int .u8 0, .int .i64 0] 30)); have HW := Lib.hid (Fr.refl No (w1.alloc (.cells #[.int .u8 0, .int .i64 0] 30))); have HF := Lib.hid (hf.no_trans hfa); clear hx hf hfa)
                | (go_at_call 9; refine (HR.out _ HF.out).mono ?_; rintro e w2 ⟨rfl, hf⟩; have HF := Lib.hid (HF.out.no_trans hf); have HW := Lib.hid (HW.out.no_trans hf); have hq := blk_no HW.out HB1.out; have xx := (HXC.out _ HF.out).2; have k0 := blk_cell hq 0; have k1 := blk_cell hq 1; simp at k0 k1; clear hf hq)
                | (go_at_call_of 20 (Value.slice A1 n c1); refine (same_yes (HX1.out.no HW.out) (HX.out _ HF.out) _ _ (by omega)).mono ?_; rintro e w3 ⟨rfl, hf⟩; have HF := Lib.hid (HF.out.no_trans hf); have HW := Lib.hid (HW.out.no_trans hf); clear hf)
                | (go_at_call 10; refine (HA.out _ HF.out).mono ?_; rintro e w8 ⟨rfl, hf⟩; have HF := Lib.hid hf; clear hf))
              go_ret
              exact ⟨rfl, HF.out.noBelow⟩
            · have hT : TakeL l (k : Int) m = (l.set k (lessS l[k] m), (l[k].1, m), 0) := by unfold TakeL; rw [if_neg hbad, if_neg hm1, show ((k : Int).toNat) = k from rfl, hgd, if_neg hlm]
              have HT : Hid (∀ W, Fr No w W → Calls Tryd.prog 12 #[.slice (some ⟨b, o, none⟩) n c, .int .i64 (k : Int), .int .i64 m] W fun e w' => ∃ A' c', e = .returned (.tuple #[.slice A' n c', .agg #[.int .u8 (l[k].1 : Int), .int .i64 m], .int .i64 0]) ∧ Fr No W w') := fun W hW => (HT0.out W hW).mono (fun _ _ ⟨A', c', h1, h2, h3⟩ => by rw [hT] at h1; exact ⟨A', c', h1, h3⟩)
              clear ht hx hb hT hr HT0 hlk hbad hgd
              generalize l[k].1 = s0 at *
              go_enter Tryd.func8, Tryd.ntmps8
              go_wp2_with (first
                | (go_at_call 12; refine (HT.out _ HF.out).mono ?_; rintro e w1 ⟨A1, c1, rfl, hf⟩; have hfa := Fr.alloc No w1 (.cells #[.int .u8 (s0 : Int), .int .i64 m] 30); have HF := Lib.hid (hf.no_trans hfa); clear hf hfa)
                | (go_at_call 9; refine (HR.out _ HF.out).mono ?_; rintro e w2 ⟨rfl, hf⟩; have HF := Lib.hid (HF.out.no_trans hf); have xx := (HXC.out _ HF.out).2; clear hf)
                | (go_at_call 10; refine (HA.out _ HF.out).mono ?_; rintro e w8 ⟨rfl, hf⟩; have HF := Lib.hid hf; clear hf))
              go_ret
              exact ⟨rfl, HF.out.noBelow⟩
end
end Go.Proofs.YtegoebkdcogggaaDoor

/-
  Bags: Fits, New of two slots, awake, right. No statement of the seat is proved here.
-/
import Derived.Test.YthmnnfmepklafaaDoorBgG
import Derived.Laws.MakeOwn
namespace Go.Proofs.YthmnnfmepklafaaDoor
open Go.RowKit Go.Deep

section
variable {w : World} {A : Option Addr} {n c lo : Nat} {l : List (Nat × Int)}
theorem made_at (u v : Value) (n k : Nat) (h : k < n) : (madeCells #[u, v] n)[k]? = some (if k % 2 = 0 then u else v) := by
  unfold madeCells
  rw [Array.getElem?_map, Array.getElem?_range, if_pos h]
  rcases Nat.mod_two_eq_zero_or_one k with e | e
  · simp [e]
  · simp [e]
set_option maxRecDepth 100000 in
/-- Empty slots made. -/
theorem make_sl (m : Nat) (hm : m ≤ 1000000) (W : World) : (Instr.makeSlice 22 (.int .i64 (m : Int)) (.int .i64 (m : Int))).run Tryd.prog W = .ok (.slice (some ⟨W.heap.size, 0, none⟩) m m) (W.alloc (.cells (madeCells #[.int .u8 0, .int .i64 0] (m * 2)) 30)) ∧
    RdS (W.alloc (.cells (madeCells #[.int .u8 0, .int .i64 0] (m * 2)) 30)) (some ⟨W.heap.size, 0, none⟩) m (List.replicate m (0, 0)) := by
  obtain ⟨i0, hi, hz0, hz1, hz2⟩ := info_parts info_sl
  constructor
  · have hr := run_make (P := Tryd.prog) W 22 30 i0 _ Tryd.underlying22 hi hz0 .i64 .i64 m m (by omega) (Int.le_refl _) (by rw [hz2]; omega) (by omega)
    rw [hz1] at hr
    exact hr
  · refine ⟨by simp, fun hn => ⟨W.heap.size, 0, rfl, by rw [World.size_alloc]; omega, fun j hj => ?_⟩⟩
    have hj' : j < m := by simpa using hj
    have hb := heap_alloc_new W (.cells (madeCells #[.int .u8 0, .int .i64 0] (m * 2)) 30)
    rw [Nat.zero_add, blk_cell hb, blk_cell hb, made_at _ _ _ _ (by omega), made_at _ _ _ _ (by omega), if_pos (by omega), if_neg (by omega)]
    simp
set_option maxRecDepth 100000 in
theorem new2_any : Calls Tryd.prog 19 #[.int .i64 2] w fun e w' => ∃ b, e = .returned (.slice (some ⟨b, 0, none⟩) 2 2) ∧ RdS w' (some ⟨b, 0, none⟩) 2 [(0, 0), (0, 0)] ∧ Fr No w w' := by
  have hm : ∀ W : World, (Instr.makeSlice 22 (.int .i64 2) (.int .i64 2)).run Tryd.prog W = .ok (.slice (some ⟨W.heap.size, 0, none⟩) 2 2) (W.alloc (.cells (madeCells #[.int .u8 0, .int .i64 0] 4) 30)) := fun W => (make_sl 2 (by decide) W).1
  have HR : Hid (RdS (w.alloc (.cells (madeCells #[.int .u8 0, .int .i64 0] 4) 30)) (some ⟨w.heap.size, 0, none⟩) 2 [(0, 0), (0, 0)]) := (make_sl 2 (by decide) w).2
  generalize madeCells #[.int .u8 0, .int .i64 0] 4 = cs at *
  go_enter Tryd.func19, Tryd.ntmps19
  go_wp2_with fail
  go_ret
  exact ⟨_, rfl, HR.out, Fr.alloc _ _ _⟩
theorem put_ex1 : PutL 1 [(0, 0), (0, 0)] 20 = ([(1, 16), (1, 4)], 0) := by decide +kernel
theorem put_ex2 : PutL 1 [(1, 16), (1, 4)] 13 = ([(1, 16), (1, 16)], 1) := by decide +kernel
theorem take_ex : TakeL [(1, 16), (1, 4)] 1 4 = ([(1, 16), (0, 0)], (1, 4), 0) := by decide +kernel
theorem spend_ex : SpendE [(1, 16), (0, 0)] 1 17 = 105 := by decide +kernel
theorem count_ex : cntL 1 [(1, 16), (1, 16)] = 32 := by decide +kernel
theorem By.dec {l : List (Nat × Int)} (h : l.all (fun s => decide (s.1 < 256)) = true) : By l := fun s hs => by
  rw [List.all_eq_true] at h
  exact of_decide_eq_true (h s hs)
set_option maxRecDepth 100000 in
set_option maxHeartbeats 4000000 in
/-- The chapter's examples. -/
theorem awake_any (ht : ItT w) : Calls Tryd.prog 6 #[] w fun e w' => e = .returned (.bool true) ∧ Fr No w w' := by
  have HP1 : Hid (∀ W A c, Fr No w W → RdS W A 2 [(0, 0), (0, 0)] → Calls Tryd.prog 7 #[.slice A 2 c, .int .u8 1, .int .i64 20] W fun e w' => ∃ A' c', e = .returned (.tuple #[.slice A' 2 c', .int .i64 0]) ∧ RdS w' A' 2 [(1, 16), (1, 4)] ∧ Fr No W w') :=
    fun W A c hW hx => (Put_any (ht.no hW) hx (By.dec rfl) c (i := 1) (by decide) (by decide) (m := 20) (by decide)).mono (fun _ _ ⟨A', c', h1, h2, h3⟩ => by rw [put_ex1] at h1 h2; exact ⟨A', c', h1, h2.rd, h3⟩)
  have HP2 : Hid (∀ W A c, Fr No w W → RdS W A 2 [(1, 16), (1, 4)] → Calls Tryd.prog 7 #[.slice A 2 c, .int .u8 1, .int .i64 13] W fun e w' => ∃ A' c', e = .returned (.tuple #[.slice A' 2 c', .int .i64 1]) ∧ RdS w' A' 2 [(1, 16), (1, 16)] ∧ Fr No W w') :=
    fun W A c hW hx => (Put_any (ht.no hW) hx (By.dec rfl) c (i := 1) (by decide) (by decide) (m := 13) (by decide)).mono (fun _ _ ⟨A', c', h1, h2, h3⟩ => by rw [put_ex2] at h1 h2; exact ⟨A', c', h1, h2.rd, h3⟩)
  have HT : Hid (∀ W A c, Fr No w W → RdS W A 2 [(1, 16), (1, 4)] → Calls Tryd.prog 8 #[.slice A 2 c, .int .i64 1, .int .i64 4] W fun e w' => ∃ A' c', e = .returned (.tuple #[.slice A' 2 c', .agg #[.int .u8 1, .int .i64 4], .int .i64 0]) ∧ Fr No W w') :=
    fun W A c hW hx => (take_any (ht.no hW) hx (By.dec rfl) c (by decide) 1 4).mono (fun _ _ ⟨A', c', h1, h2, h3⟩ => by rw [take_ex] at h1; exact ⟨A', c', h1, h3⟩)
  have HS : Hid (∀ W A c, Fr No w W → RdS W A 2 [(1, 16), (0, 0)] → Calls Tryd.prog 9 #[.slice A 2 c, .int .u8 1, .int .i64 17] W fun e w' => ∃ A' c', e = .returned (.tuple #[.slice A' 2 c', .int .i64 105]) ∧ Fr No W w') :=
    fun W A c hW hx => (spend_no (ht.no hW) hx (By.dec rfl) c (i := 1) (by decide) (m := 17) (by rw [spend_ex]; decide)).mono (fun _ _ ⟨A', c', h1, h2, h3⟩ => by rw [spend_ex] at h1; exact ⟨A', c', h1, h3⟩)
  have HC : Hid (∀ W A c, RdS W A 2 [(1, 16), (1, 16)] → Calls Tryd.prog 11 #[.slice A 2 c, .int .u8 1] W fun e w' => e = .returned (.int .i64 32) ∧ Fr No W w') :=
    fun W A c hx => (count_any hx (by decide +kernel) c (i := 1) (by decide)).mono (fun _ _ ⟨h1, h2⟩ => by rw [count_ex] at h1; exact ⟨h1, h2⟩)
  clear ht
  go_enter Tryd.func6, Tryd.ntmps6
  go_wp2_with (first
    | (go_at_call 19; refine new2_any.mono ?_; rintro e w1 ⟨b, rfl, hx, hf⟩; have HX1 := Lib.hid hx; have HF1 := Lib.hid hf; clear hx hf)
    | (go_at_call_of 7 (Value.int .i64 20); refine (HP1.out _ _ _ HF1.out HX1.out).mono ?_; rintro e w2 ⟨A2, c2, rfl, hx, hf⟩; have HX2 := Lib.hid hx; have HF2 := Lib.hid (HF1.out.no_trans hf); clear hx hf)
    | (go_at_call_of 7 (Value.int .i64 13); refine (HP2.out _ _ _ HF2.out HX2.out).mono ?_; rintro e w3 ⟨A3, c3, rfl, hx, hf⟩; have HX3 := Lib.hid hx; have HX2 := Lib.hid (HX2.out.no hf); have HF3 := Lib.hid (HF2.out.no_trans hf); clear hx hf)
    | (go_at_call 8; refine (HT.out _ _ _ HF3.out HX2.out).mono ?_; rintro e w4 ⟨A4, c4, rfl, hf⟩; have hg := (hf.no_trans (Fr.alloc No w4 (.cells #[.int .u8 1, .int .i64 4] 30))).no_trans (Fr.alloc No _ (.cells #[.int .u8 1, .int .i64 16, .int .u8 0, .int .i64 0] 30)); have HX2 := Lib.hid (HX2.out.no hg); have HX3 := Lib.hid (HX3.out.no hg); have HF4 := Lib.hid (HF3.out.no_trans hg); have HB4 := Lib.hid (blk_no (Fr.alloc No _ (.cells #[.int .u8 1, .int .i64 16, .int .u8 0, .int .i64 0] 30)) (heap_alloc_new w4 (.cells #[.int .u8 1, .int .i64 4] 30))); have HXS : Hid (RdS ((w4.alloc (.cells #[.int .u8 1, .int .i64 4] 30)).alloc (.cells #[.int .u8 1, .int .i64 16, .int .u8 0, .int .i64 0] 30)) (some ⟨w4.heap.size + 1, 0, none⟩) 2 [(1, 16), (0, 0)]) := RdS.blk (l := [(1, 16), (0, 0)]) (al2 w4 _ _); clear hf hg)
    | (go_at_call 9; refine (HS.out _ _ _ HF4.out HXS.out).mono ?_; rintro e w5 ⟨A5, c5, rfl, hf⟩; have hg := hf.no_trans (Fr.alloc No w5 (.cells #[.int .u8 1, .int .i64 16, .int .u8 1, .int .i64 4] 30)); have HX2 := Lib.hid (HX2.out.no hg); have HX3 := Lib.hid (HX3.out.no hg); have HF5 := Lib.hid (HF4.out.no_trans hg); have HB4 := Lib.hid (blk_no hg HB4.out); have HXT : Hid (RdS (w5.alloc (.cells #[.int .u8 1, .int .i64 16, .int .u8 1, .int .i64 4] 30)) (some ⟨w5.heap.size, 0, none⟩) 2 [(1, 16), (1, 4)]) := RdS.blk (l := [(1, 16), (1, 4)]) (heap_alloc_new w5 _); clear hf hg)
    | (go_at_call 16; refine (same_yes HX2.out HXT.out _ _ (by decide)).mono ?_; rintro e w6 ⟨rfl, hf⟩; have HX3 := Lib.hid (HX3.out.no hf); have HF6 := Lib.hid (HF5.out.no_trans hf); have HB4 := Lib.hid (blk_no hf HB4.out); clear hf)
    | (go_at_call 11; refine (HC.out _ _ _ HX3.out).mono ?_; rintro e w7 ⟨rfl, hf⟩; have HF7 := Lib.hid (HF6.out.no_trans hf); have hb := blk_no hf HB4.out; have k0 := blk_cell hb 0; have k1 := blk_cell hb 1; simp at k0 k1; clear hf hb))
  go_ret
  exact ⟨rfl, HF7.out⟩
set_option maxRecDepth 100000 in
theorem right_law (ht : ItT w) (hx : RdS w A n l) (hb : By l) (c : Nat) : Calls Tryd.prog 12 #[.slice A n c] w fun e w' => e = .returned (.bool (decide (n ≤ 300) && rgt l)) ∧ Fr No w w' := by
  by_cases h3 : n ≤ 300
  · have HR := Lib.hid (right_any ht hx hb c (by omega) n)
    have h4 : (n : Int) ≤ 300 := by omega
    obtain ⟨q, hq⟩ : ∃ q, rgt l = q := ⟨_, rfl⟩
    rw [hq] at HR ⊢
    have e0 : decide ((n : Int) = (n : Int)) = true := by simp
    rw [e0] at HR
    rw [decide_eq_true h3]
    clear ht hx hb hq e0
    go_enter Tryd.func12, Tryd.ntmps12
    go_wp2_with (refine HR.out.mono ?_; rintro e w1 ⟨rfl, hf⟩; have HF := Lib.hid hf; clear hf)
    go_ret
    exact ⟨rfl, HF.out⟩
  · have h4 : ¬ ((n : Int) ≤ 300) := by omega
    rw [decide_eq_false h3]
    clear ht hx hb
    go_enter Tryd.func12, Tryd.ntmps12
    go_wp2_with fail
    go_ret
    exact ⟨rfl, Fr.refl _ _⟩
end
end Go.Proofs.YthmnnfmepklafaaDoor

/-
  Chunks: the small questions; rows held against a question; Right of any chunk. No statement of the seat is proved here.
-/
import Derived.Test.YtjdhbgdpmojobaaDoorChA
import Derived.BigRegion
import Derived.BigQuiet
import Derived.Deep.QuietTactic
namespace Go.Proofs.YtjdhbgdpmojobaaDoor
open Go.RowKit Go.Deep

section
variable {w w' : World} {A : Option Addr} {n c lo : Nat}
set_option maxRecDepth 100000 in
theorem isplace_any (c : Int) : Calls Tryd.prog 100 #[.int .i64 c] w fun e w' => e = .returned (.bool (plcC c)) ∧ Fr No w w' := by
  have HP : Hid (∀ p q, decide (0 ≤ c) = p → decide (c < 64) = q → plcC c = (p && q)) := Lib.hid (fun p q h1 h2 => by unfold plcC; rw [h1, h2])
  by_cases h0 : 0 ≤ c
  · have e0 : (0 ≤ c) := h0
    by_cases h1 : c < 64
    · have HP2 := Lib.hid (HP.out true true (decide_eq_true h0) (decide_eq_true h1))
      clear HP
      go_enter Tryd.func100, Tryd.ntmps100
      go_wp2_with fail
      go_ret
      exact ⟨by rw [HP2.out]; rfl, Fr.refl _ _⟩
    · have HP2 := Lib.hid (HP.out true false (decide_eq_true h0) (decide_eq_false h1))
      clear HP
      go_enter Tryd.func100, Tryd.ntmps100
      go_wp2_with fail
      go_ret
      exact ⟨by rw [HP2.out]; rfl, Fr.refl _ _⟩
  · have HP2 := Lib.hid (HP.out false _ (decide_eq_false h0) rfl)
    clear HP
    go_enter Tryd.func100, Tryd.ntmps100
    go_wp2_with fail
    go_ret
    exact ⟨by rw [HP2.out]; rfl, Fr.refl _ _⟩
set_option maxRecDepth 100000 in
theorem maybe_any (ht : ItT w) {i : Nat} (hi : i < 256) : Calls Tryd.prog 98 #[.int .u8 (i : Int)] w fun e w' => e = .returned (.bool (mayC i)) ∧ Fr No w w' := by
  have HB := Lib.hid (block_any ht hi)
  by_cases h0 : i = 0
  · subst h0
    have HM : Hid (mayC 0 = true) := Lib.hid rfl
    clear ht HB
    go_enter Tryd.func98, Tryd.ntmps98
    go_wp2_with fail
    go_ret
    exact ⟨by rw [HM.out]; rfl, Fr.refl _ _⟩
  · have e0 : ((i : Int) == 0) = false := by rw [beq_eq_false_iff_ne]; omega
    have HM : Hid (mayC i = blI i) := Lib.hid (by unfold mayC; simp [h0])
    obtain ⟨b, hb⟩ : ∃ b, blI i = b := ⟨_, rfl⟩
    rw [hb] at HB HM
    clear hb ht
    go_enter Tryd.func98, Tryd.ntmps98
    go_wp2_with (refine HB.out.mono ?_; rintro e w1 ⟨rfl, hf⟩; have HF := Lib.hid hf; clear hf)
    go_ret
    exact ⟨by rw [HM.out]; rfl, HF.out⟩
set_option maxRecDepth 100000 in
set_option maxHeartbeats 1600000 in
theorem issome_any (ht : ItT w) {a : Nat} (ha : a < 256) (b : Int) : Calls Tryd.prog 101 #[.agg #[.int .u8 (a : Int), .int .i64 b]] w fun e w' => e = .returned (.bool (someC (a, b))) ∧ Fr No w w' := by
  have hf := Fr.alloc No w (.cells #[.int .u8 (a : Int), .int .i64 b] 112)
  have hb := heap_alloc_new w (.cells #[.int .u8 (a : Int), .int .i64 b] 112)
  have HT := Lib.hid (ht.no hf)
  have HF := Lib.hid hf
  clear ht hf
  go_enter Tryd.func101, Tryd.ntmps101
  go_wp2_with fail
  obtain ⟨D, hD⟩ : ∃ D, w.heap.size = D := ⟨_, rfl⟩
  rw [hD] at hb ⊢
  clear hD
  generalize w.alloc (.cells #[.int .u8 (a : Int), .int .i64 b] 112) = x at *
  have hW : Hid (∀ W, Fr No x W → W.cell? ⟨D, 0, none⟩ = some (.int .u8 (a : Int)) ∧ W.cell? ⟨D, 1, none⟩ = some (.int .i64 b)) := fun W hW => ⟨(blk_cell (blk_no hW hb) 0).trans (by simp), (blk_cell (blk_no hW hb) 1).trans (by simp)⟩
  have d := hW.out x (Fr.refl No x)
  have d0 := d.1
  have d1 := d.2
  clear hb d
  by_cases h1 : 1 ≤ b
  · have HE : Hid (someC (a, b) = decide (b ≤ stI a)) := Lib.hid (by unfold someC; rw [decide_eq_true h1]; rfl)
    obtain ⟨st, hs⟩ : ∃ s, stI a = s := ⟨_, rfl⟩
    have HS := Lib.hid (stack_w HT.out ha hs)
    rw [hs] at HE
    have dd := hW.out x.drew (Fr.drew No x)
    clear hs
    go_region_held3 (fun W => W.cell? ⟨D, 0, none⟩ = some (.int .u8 (a : Int)) ∧ W.cell? ⟨D, 1, none⟩ = some (.int .i64 b))
      (first | exact d5 | exact dd | exact ⟨d0, d1⟩)
      (first
        | (go_at_call 105; refine (HS.out _ (Fr.drew No x)).mono ?_; rintro e w5 ⟨rfl, _, hf⟩; have HF5 := Lib.hid ((Fr.drew No x).no_trans hf); have d5 := hW.out w5 HF5.out; clear hf))
    go_wp2_with fail
    go_ret
    exact ⟨by rw [HE.out]; rfl, HF.out.no_trans HF5.out⟩
  · have HE : Hid (someC (a, b) = false) := Lib.hid (by unfold someC; rw [decide_eq_false h1]; rfl)
    go_quiet (fail)
    go_wp2_with fail
    go_ret
    exact ⟨by rw [HE.out]; rfl, HF.out.no_trans (Fr.drewN No _ _)⟩

/-! ### rows held against a question -/
set_option maxRecDepth 100000 in
set_option maxHeartbeats 1600000 in
theorem idxI_any {l : List Nat} (p : Nat → Bool) (hx : ∀ W, Fr No w W → RwK W 1 (ItAt W) A n l) (c : Nat) (hn : n ≤ 9223372036854775807)
    (hp : ∀ j (h : j < l.length) W, Fr No w W → Calls Tryd.prog 97 #[.int .u8 (l[j] : Int)] W fun e w' => e = .returned (.bool (p l[j])) ∧ Fr No W w') :
    Calls Tryd.prog 107 #[.slice A n c, .func (.func 97) #[] #[]] w fun e w' => ∃ z : Int, e = .returned (.int .i64 z) ∧ decide (0 ≤ z) = l.any p ∧ Fr No w w' := by
  have HLX := Lib.hid (hx _ (Fr.refl _ _)).1
  have HX := Lib.hid hx
  have HP := Lib.hid hp
  clear hx hp
  go_enter Tryd.func107, Tryd.ntmps107
  go_wp2_with fail
  go_loopw [8] (fun v8 wr => ∃ k : Nat, k ≤ n ∧ v8 = .int .i64 (k : Int) ∧ (∀ j (h : j < l.length), j < k → p l[j] = false) ∧ Fr No w wr) (fun v8 _ => n - (intOf v8).toNat)
  case atStart => exact ⟨0, by omega, rfl, (fun j _ h => absurd h (by omega)), Fr.refl _ _⟩
  case round =>
    obtain ⟨k, hk, rfl, ha, hf⟩ := hrel
    have HF := Lib.hid hf
    have HA := Lib.hid ha
    clear hf ha
    by_cases hlt : k < n
    · have hkl : k < l.length := by rw [HLX.out]; exact hlt
      obtain ⟨b, o, rfl, _, hc⟩ := (HX.out wr HF.out).2 (by omega)
      have x0 : wr.cell? ⟨b, o + k, none⟩ = some (.int .u8 (l[k] : Int)) := by
        have := hc k hkl
        rw [Nat.mul_one] at this
        exact this
      have HW := Lib.hid (HP.out k hkl)
      have HAK := HA.out
      have hwk : IntKind.i64.wrap ((k : Int) + 1) = ((k + 1 : Nat) : Int) := by
        rw [show ((k : Int) + 1) = ((k + 1 : Nat) : Int) by omega]
        exact IntWalk.i64_in _ (by omega)
      obtain ⟨q, HQ⟩ : ∃ q, Hid (p l[k] = q) := ⟨_, Lib.hid rfl⟩
      have HW2 : Hid (∀ W, Fr No w W → Calls Tryd.prog 97 #[.int .u8 (l[k] : Int)] W fun e w' => e = .returned (.bool q) ∧ Fr No W w') := fun W hW => (HW.out W hW).mono (fun _ _ ⟨h1, h2⟩ => ⟨by rw [h1, ← HQ.out], h2⟩)
      clear hc HW
      have HAQ : Hid (q = false → ∀ j (h : j < l.length), j < k + 1 → p l[j] = false) := fun hq j h hj => by
        by_cases e : j = k
        · subst e; rw [HQ.out]; exact hq
        · exact HAK j h (by omega)
      have HAT : Hid (q = true → l.any p = true) := fun hq => by
        rw [List.any_eq_true]
        exact ⟨l[k], List.getElem_mem hkl, by rw [HQ.out]; exact hq⟩
      clear HAK HA HQ
      generalize (l[k] : Int) = x at *
      cases q
      · go_wp2_with (refine (HW2.out _ HF.out).mono ?_; rintro e w5 ⟨rfl, hf⟩; have HF5 := Lib.hid hf; clear hf)
        go_roundw
        case rel => exact ⟨k + 1, by omega, by go_num, HAQ.out (by first | rfl | trivial), HF.out.no_trans HF5.out⟩
        case measure => simp [intOf]; omega
      · go_wp2_with (refine (HW2.out _ HF.out).mono ?_; rintro e w5 ⟨rfl, hf⟩; have HF5 := Lib.hid hf; clear hf)
        go_ret
        exact ⟨_, rfl, by rw [HAT.out (by first | rfl | trivial)]; exact decide_eq_true (by omega), HF.out.no_trans HF5.out⟩
    · have hkn : k = n := by omega
      subst hkn
      go_wp2_with fail
      go_ret
      refine ⟨_, rfl, ?_, HF.out⟩
      have : l.any p = false := by
        rw [List.any_eq_false]
        intro s hs
        obtain ⟨j, hj, rfl⟩ := List.getElem_of_mem hs
        have := HA.out j hj (by have := HLX.out; omega)
        rw [this]
        exact Bool.false_ne_true
      rw [this]
      rfl
set_option maxRecDepth 100000 in
theorem hasI_any {l : List Nat} (p : Nat → Bool) (hx : ∀ W, Fr No w W → RwK W 1 (ItAt W) A n l) (c : Nat) (hn : n ≤ 9223372036854775807)
    (hp : ∀ j (h : j < l.length) W, Fr No w W → Calls Tryd.prog 97 #[.int .u8 (l[j] : Int)] W fun e w' => e = .returned (.bool (p l[j])) ∧ Fr No W w') :
    Calls Tryd.prog 96 #[.slice A n c, .func (.func 97) #[] #[]] w fun e w' => e = .returned (.bool (l.any p)) ∧ Fr No w w' := by
  have HI := Lib.hid (idxI_any p hx c hn hp)
  clear hx hp
  go_enter Tryd.func96, Tryd.ntmps96
  go_wp2_with (refine HI.out.mono ?_; rintro e w1 ⟨z, rfl, hz, hf⟩; have HZ := Lib.hid hz; have HF := Lib.hid hf; clear hz hf)
  go_ret
  exact ⟨by rw [← HZ.out]; rfl, HF.out⟩
set_option maxRecDepth 100000 in
set_option maxHeartbeats 1600000 in
theorem idxH_any {l : List Hp} (p : Hp → Bool) (hx : ∀ W, Fr No w W → RwK W 3 (HpAt W) A n l) (c : Nat) (hn : n ≤ 9223372036854775807)
    (hp : ∀ j (h : j < l.length) W, Fr No w W → Calls Tryd.prog 99 #[.agg #[.int .i64 l[j].1, .int .u8 (l[j].2.1 : Int), .int .i64 l[j].2.2]] W fun e w' => e = .returned (.bool (p l[j])) ∧ Fr No W w') :
    Calls Tryd.prog 109 #[.slice A n c, .func (.func 99) #[] #[]] w fun e w' => ∃ z : Int, e = .returned (.int .i64 z) ∧ decide (0 ≤ z) = l.any p ∧ Fr No w w' := by
  have HLX := Lib.hid (hx _ (Fr.refl _ _)).1
  have HX := Lib.hid hx
  have HP := Lib.hid hp
  clear hx hp
  go_enter Tryd.func109, Tryd.ntmps109
  go_wp2_with fail
  go_loopw [8] (fun v8 wr => ∃ k : Nat, k ≤ n ∧ v8 = .int .i64 (k : Int) ∧ (∀ j (h : j < l.length), j < k → p l[j] = false) ∧ Fr No w wr) (fun v8 _ => n - (intOf v8).toNat)
  case atStart => exact ⟨0, by omega, rfl, (fun j _ h => absurd h (by omega)), Fr.refl _ _⟩
  case round =>
    obtain ⟨k, hk, rfl, ha, hf⟩ := hrel
    have HF := Lib.hid hf
    have HA := Lib.hid ha
    clear hf ha
    by_cases hlt : k < n
    · have hkl : k < l.length := by rw [HLX.out]; exact hlt
      obtain ⟨b, o, rfl, _, hc⟩ := (HX.out wr HF.out).2 (by omega)
      obtain ⟨x0, x1, x2⟩ := hc k hkl
      rw [Addr.add_lit] at x1 x2
      have HW := Lib.hid (HP.out k hkl)
      have HAK := HA.out
      have hwk : IntKind.i64.wrap ((k : Int) + 1) = ((k + 1 : Nat) : Int) := by
        rw [show ((k : Int) + 1) = ((k + 1 : Nat) : Int) by omega]
        exact IntWalk.i64_in _ (by omega)
      obtain ⟨q, HQ⟩ : ∃ q, Hid (p l[k] = q) := ⟨_, Lib.hid rfl⟩
      have HW2 : Hid (∀ W, Fr No w W → Calls Tryd.prog 99 #[.agg #[.int .i64 l[k].1, .int .u8 (l[k].2.1 : Int), .int .i64 l[k].2.2]] W fun e w' => e = .returned (.bool q) ∧ Fr No W w') := fun W hW => (HW.out W hW).mono (fun _ _ ⟨h1, h2⟩ => ⟨by rw [h1, ← HQ.out], h2⟩)
      clear hc HW
      have HAQ : Hid (q = false → ∀ j (h : j < l.length), j < k + 1 → p l[j] = false) := fun hq j h hj => by
        by_cases e : j = k
        · subst e; rw [HQ.out]; exact hq
        · exact HAK j h (by omega)
      have HAT : Hid (q = true → l.any p = true) := fun hq => by
        rw [List.any_eq_true]
        exact ⟨l[k], List.getElem_mem hkl, by rw [HQ.out]; exact hq⟩
      clear HAK HA HQ
      generalize l[k].1 = x at *
      generalize (l[k].2.1 : Int) = y at *
      generalize l[k].2.2 = z at *
      cases q
      · go_wp2_with (refine (HW2.out _ HF.out).mono ?_; rintro e w5 ⟨rfl, hf⟩; have HF5 := Lib.hid hf; clear hf)
        go_roundw
        case rel => exact ⟨k + 1, by omega, by go_num, HAQ.out (by first | rfl | trivial), HF.out.no_trans HF5.out⟩
        case measure => simp [intOf]; omega
      · go_wp2_with (refine (HW2.out _ HF.out).mono ?_; rintro e w5 ⟨rfl, hf⟩; have HF5 := Lib.hid hf; clear hf)
        go_ret
        exact ⟨_, rfl, by rw [HAT.out (by first | rfl | trivial)]; exact decide_eq_true (by omega), HF.out.no_trans HF5.out⟩
    · have hkn : k = n := by omega
      subst hkn
      go_wp2_with fail
      go_ret
      refine ⟨_, rfl, ?_, HF.out⟩
      have : l.any p = false := by
        rw [List.any_eq_false]
        intro s hs
        obtain ⟨j, hj, rfl⟩ := List.getElem_of_mem hs
        have := HA.out j hj (by have := HLX.out; omega)
        rw [this]
        exact Bool.false_ne_true
      rw [this]
      rfl
set_option maxRecDepth 100000 in
theorem hasH_any {l : List Hp} (p : Hp → Bool) (hx : ∀ W, Fr No w W → RwK W 3 (HpAt W) A n l) (c : Nat) (hn : n ≤ 9223372036854775807)
    (hp : ∀ j (h : j < l.length) W, Fr No w W → Calls Tryd.prog 99 #[.agg #[.int .i64 l[j].1, .int .u8 (l[j].2.1 : Int), .int .i64 l[j].2.2]] W fun e w' => e = .returned (.bool (p l[j])) ∧ Fr No W w') :
    Calls Tryd.prog 102 #[.slice A n c, .func (.func 99) #[] #[]] w fun e w' => e = .returned (.bool (l.any p)) ∧ Fr No w w' := by
  have HI := Lib.hid (idxH_any p hx c hn hp)
  clear hx hp
  go_enter Tryd.func102, Tryd.ntmps102
  go_wp2_with (refine HI.out.mono ?_; rintro e w1 ⟨z, rfl, hz, hf⟩; have HZ := Lib.hid hz; have HF := Lib.hid hf; clear hz hf)
  go_ret
  exact ⟨by rw [← HZ.out]; rfl, HF.out⟩
set_option maxRecDepth 100000 in
set_option maxHeartbeats 1600000 in
theorem idxS_any {l : List (Nat × Int)} (p : (Nat × Int) → Bool) (hx : ∀ W, Fr No w W → RdS W A n l) (c : Nat) (hn : n ≤ 9223372036854775807)
    (hp : ∀ j (h : j < l.length) W, Fr No w W → Calls Tryd.prog 101 #[.agg #[.int .u8 (l[j].1 : Int), .int .i64 l[j].2]] W fun e w' => e = .returned (.bool (p l[j])) ∧ Fr No W w') :
    Calls Tryd.prog 104 #[.slice A n c, .func (.func 101) #[] #[]] w fun e w' => ∃ z : Int, e = .returned (.int .i64 z) ∧ decide (0 ≤ z) = l.any p ∧ Fr No w w' := by
  have HLX := Lib.hid (hx _ (Fr.refl _ _)).1
  have HX := Lib.hid hx
  have HP := Lib.hid hp
  clear hx hp
  go_enter Tryd.func104, Tryd.ntmps104
  go_wp2_with fail
  go_loopw [8] (fun v8 wr => ∃ k : Nat, k ≤ n ∧ v8 = .int .i64 (k : Int) ∧ (∀ j (h : j < l.length), j < k → p l[j] = false) ∧ Fr No w wr) (fun v8 _ => n - (intOf v8).toNat)
  case atStart => exact ⟨0, by omega, rfl, (fun j _ h => absurd h (by omega)), Fr.refl _ _⟩
  case round =>
    obtain ⟨k, hk, rfl, ha, hf⟩ := hrel
    have HF := Lib.hid hf
    have HA := Lib.hid ha
    clear hf ha
    by_cases hlt : k < n
    · have hkl : k < l.length := by rw [HLX.out]; exact hlt
      obtain ⟨b, o, rfl, _, hc⟩ := (HX.out wr HF.out).2 (by omega)
      obtain ⟨x0, x1⟩ := hc k hkl
      have HW := Lib.hid (HP.out k hkl)
      have HAK := HA.out
      have hwk : IntKind.i64.wrap ((k : Int) + 1) = ((k + 1 : Nat) : Int) := by
        rw [show ((k : Int) + 1) = ((k + 1 : Nat) : Int) by omega]
        exact IntWalk.i64_in _ (by omega)
      obtain ⟨q, HQ⟩ : ∃ q, Hid (p l[k] = q) := ⟨_, Lib.hid rfl⟩
      have HW2 : Hid (∀ W, Fr No w W → Calls Tryd.prog 101 #[.agg #[.int .u8 (l[k].1 : Int), .int .i64 l[k].2]] W fun e w' => e = .returned (.bool q) ∧ Fr No W w') := fun W hW => (HW.out W hW).mono (fun _ _ ⟨h1, h2⟩ => ⟨by rw [h1, ← HQ.out], h2⟩)
      clear hc HW
      have HAQ : Hid (q = false → ∀ j (h : j < l.length), j < k + 1 → p l[j] = false) := fun hq j h hj => by
        by_cases e : j = k
        · subst e; rw [HQ.out]; exact hq
        · exact HAK j h (by omega)
      have HAT : Hid (q = true → l.any p = true) := fun hq => by
        rw [List.any_eq_true]
        exact ⟨l[k], List.getElem_mem hkl, by rw [HQ.out]; exact hq⟩
      clear HAK HA HQ
      generalize (l[k].1 : Int) = x at *
      generalize l[k].2 = y at *
      cases q
      · go_wp2_with (refine (HW2.out _ HF.out).mono ?_; rintro e w5 ⟨rfl, hf⟩; have HF5 := Lib.hid hf; clear hf)
        go_roundw
        case rel => exact ⟨k + 1, by omega, by go_num, HAQ.out (by first | rfl | trivial), HF.out.no_trans HF5.out⟩
        case measure => simp [intOf]; omega
      · go_wp2_with (refine (HW2.out _ HF.out).mono ?_; rintro e w5 ⟨rfl, hf⟩; have HF5 := Lib.hid hf; clear hf)
        go_ret
        exact ⟨_, rfl, by rw [HAT.out (by first | rfl | trivial)]; exact decide_eq_true (by omega), HF.out.no_trans HF5.out⟩
    · have hkn : k = n := by omega
      subst hkn
      go_wp2_with fail
      go_ret
      refine ⟨_, rfl, ?_, HF.out⟩
      have : l.any p = false := by
        rw [List.any_eq_false]
        intro s hs
        obtain ⟨j, hj, rfl⟩ := List.getElem_of_mem hs
        have := HA.out j hj (by have := HLX.out; omega)
        rw [this]
        exact Bool.false_ne_true
      rw [this]
      rfl
set_option maxRecDepth 100000 in
theorem hasS_any {l : List (Nat × Int)} (p : (Nat × Int) → Bool) (hx : ∀ W, Fr No w W → RdS W A n l) (c : Nat) (hn : n ≤ 9223372036854775807)
    (hp : ∀ j (h : j < l.length) W, Fr No w W → Calls Tryd.prog 101 #[.agg #[.int .u8 (l[j].1 : Int), .int .i64 l[j].2]] W fun e w' => e = .returned (.bool (p l[j])) ∧ Fr No W w') :
    Calls Tryd.prog 92 #[.slice A n c, .func (.func 101) #[] #[]] w fun e w' => e = .returned (.bool (l.any p)) ∧ Fr No w w' := by
  have HI := Lib.hid (idxS_any p hx c hn hp)
  clear hx hp
  go_enter Tryd.func92, Tryd.ntmps92
  go_wp2_with (refine HI.out.mono ?_; rintro e w1 ⟨z, rfl, hz, hf⟩; have HZ := Lib.hid hz; have HF := Lib.hid hf; clear hz hf)
  go_ret
  exact ⟨by rw [← HZ.out]; rfl, HF.out⟩
end
end Go.Proofs.YtjdhbgdpmojobaaDoor

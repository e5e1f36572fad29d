/-
  Craft: a bag in memory of its own; what is wanting; what a recipe is of spent. No statement of the seat is proved here.
-/
import Derived.Test.YtmallcjhccbgdaaDoorBgS
import Derived.Test.YtmallcjhccbgdaaDoorItB
namespace Go.Proofs.YtmallcjhccbgdaaDoor
open Go.RowKit Go.Deep

/-- Less of a slot's item than it says. -/
def lackS (l : List (Nat × Int)) (s : Nat × Int) : Bool := decide (cntL s.1 l < s.2)
/-- Slots spent, one after the other. -/
def spentL (l of : List (Nat × Int)) : List (Nat × Int) := of.foldl (fun a s => SpendL a s.1 s.2) l
theorem spentL_step (l of : List (Nat × Int)) (k : Nat) (hk : k < of.length) : spentL l (of.take (k + 1)) = SpendL (spentL l (of.take k)) of[k].1 of[k].2 := by
  unfold spentL
  rw [List.take_add_one, List.getElem?_eq_getElem hk, List.foldl_append]
  rfl
theorem spentL_len (l of : List (Nat × Int)) : (spentL l of).length = l.length := by
  unfold spentL
  induction of generalizing l with
  | nil => rfl
  | cons s of ih => rw [List.foldl_cons, ih, SpendL_len]
theorem spentL_by {l : List (Nat × Int)} (hb : By l) (of : List (Nat × Int)) : By (spentL l of) := by
  unfold spentL
  induction of generalizing l with
  | nil => exact hb
  | cons s of ih => rw [List.foldl_cons]; exact ih (SpendL_by hb)
theorem spentL_rgt {l : List (Nat × Int)} (hr : rgt l = true) (of : List (Nat × Int)) : rgt (spentL l of) = true := by
  unfold spentL
  induction of generalizing l with
  | nil => exact hr
  | cons s of ih => rw [List.foldl_cons]; exact ih (SpendL_rgt hr)
section
variable {w w' : World} {A : Option Addr} {n c lo : Nat} {l : List (Nat × Int)}
set_option maxRecDepth 100000 in
/-- A bag in memory of its own. -/
theorem cown_any (hx : RdS w A n l) (c : Nat) (hn : n ≤ 100000) : Calls Tryd.prog 15 #[.slice A n c] w fun e w' => ∃ A' c', e = .returned (.slice A' n c') ∧ OwS w.heap.size w' (.slice A' n c') l ∧ Fr No w w' := by
  have HX := Lib.hid hx
  have HL := Lib.hid hx.1
  clear hx
  go_enter Tryd.func15, Tryd.ntmps15
  go_wp2_with (at_builtin; refine wpList_append_sl _ rfl (.const (.slice none 0 0)) (.tmp 3) rfl (lo := w.heap.size) (l := []) rfl (OwS.nil _ _) A n c l rfl HX.out (by simp; omega) (Nat.le_refl _) ?_; intro v' w4 ho hg; have HO := Lib.hid ho; have HF := Lib.hid (show Fr No w w4 from Fr.grown hg (fun k hk => by cases hk)); clear ho hg)
  go_ret
  obtain ⟨A', c', hv, _⟩ := HO.out.sl
  have ho := HO.out
  subst hv
  rw [List.nil_append, HL.out] at ho
  refine ⟨A', c', ?_, ho, HF.out⟩
  rw [List.nil_append, HL.out]
  rfl
set_option maxRecDepth 100000 in
set_option maxHeartbeats 1600000 in
theorem want_any (hx : RdS w A n l) (hr : rgt l = true) (hn : n ≤ 100000) {D : Nat} (hD : w.heap[D]? = some (.cells #[.slice A n c] 22 (0, 0))) (a : Nat) (b : Int) :
    Calls Tryd.prog 12 #[.agg #[.int .u8 (a : Int), .int .i64 b], .pointer (some ⟨D, 0, none⟩)] w fun e w' => e = .returned (.bool (lackS l (a, b))) ∧ Fr No w w' := by
  have hfa := Fr.alloc No w (.cells #[.int .u8 (a : Int), .int .i64 b] 34)
  have hP := heap_alloc_new w (.cells #[.int .u8 (a : Int), .int .i64 b] 34)
  have hD2 := blk_no hfa hD
  have HC := Lib.hid (fun W (hW : Fr No (w.alloc (.cells #[.int .u8 (a : Int), .int .i64 b] 34)) W) => count_any ((hx.no hfa).no hW) hr c (i := a) hn)
  have HF := Lib.hid hfa
  clear hx hfa hD
  unfold lackS
  dsimp only
  obtain ⟨q, hq⟩ : ∃ q, cntL a l = q := ⟨_, rfl⟩
  rw [hq] at HC ⊢
  clear hq hr
  go_enter Tryd.func12, Tryd.ntmps12
  go_wp2_with fail
  obtain ⟨P, hPP⟩ : ∃ P, w.heap.size = P := ⟨_, rfl⟩
  rw [hPP] at hP ⊢
  clear hPP
  generalize w.alloc (.cells #[.int .u8 (a : Int), .int .i64 b] 34) = x at *
  have HALL : Hid (∀ W, Fr No x W → W.cell? ⟨P, 0, none⟩ = some (.int .u8 (a : Int)) ∧ W.cell? ⟨P, 1, none⟩ = some (.int .i64 b) ∧ W.cell? ⟨D, 0, none⟩ = some (.slice A n c)) := Lib.hid fun W hW =>
    ⟨(blk_cell (blk_no hW hP) 0).trans (by simp), (blk_cell (blk_no hW hP) 1).trans (by simp), (blk_cell (blk_no hW hD2) 0).trans (by simp)⟩
  have d0 := HALL.out x (Fr.refl No x)
  have dd := HALL.out x.drew (Fr.drew No x)
  clear hP hD2
  have hb : decide (q < b) = true ∨ decide (q < b) = false := by cases decide (q < b) <;> simp
  go_region_held3 (fun W => W.cell? ⟨P, 0, none⟩ = some (.int .u8 (a : Int)) ∧ W.cell? ⟨P, 1, none⟩ = some (.int .i64 b) ∧ W.cell? ⟨D, 0, none⟩ = some (.slice A n c))
    (first | exact d5 | exact dd | exact d0)
    (first
      | (go_at_call 13; refine (HC.out _ (Fr.drew No x)).mono ?_; rintro e w5 ⟨rfl, hf⟩; have HF5 := Lib.hid ((Fr.drew No x).no_trans hf); have d5 := HALL.out w5 HF5.out; clear hf))
  go_wp2_with fail
  go_ret
  exact ⟨rfl, HF.out.no_trans HF5.out⟩
set_option maxRecDepth 100000 in
set_option maxHeartbeats 1600000 in
theorem indexw_any (hl : RdS w A n l) (hr : rgt l = true) (hn : n ≤ 100000) {D : Nat} (hD : w.heap[D]? = some (.cells #[.slice A n c] 22 (0, 0))) {O : Option Addr} {m : Nat} {of : List (Nat × Int)} (hx : RdS w O m of) (c0 : Nat) (hm : m ≤ 100000) : Calls Tryd.prog 29 #[.slice O m c0, .func (.func 12) #[] #[.pointer (some ⟨D, 0, none⟩)]] w fun e w' => ∃ z : Int, e = .returned (.int .i64 z) ∧ decide (0 ≤ z) = of.any (lackS l) ∧ Fr No w w' := by
  have HX := Lib.hid (fun W (hW : Fr No w W) => hx.no hW)
  have HLX := Lib.hid hx.1
  have HWN := Lib.hid (fun W (hW : Fr No w W) => want_any (hl.no hW) hr hn (blk_no hW hD))
  clear hx hl hr hD
  go_enter Tryd.func29, Tryd.ntmps29
  go_wp2_with fail
  go_loopw [8] (fun v8 wr => ∃ k : Nat, k ≤ m ∧ v8 = .int .i64 (k : Int) ∧ (∀ j (h : j < of.length), j < k → lackS l of[j] = false) ∧ Fr No w wr) (fun v8 _ => m - (intOf v8).toNat)
  case atStart => exact ⟨0, by omega, rfl, (fun j _ h => absurd h (by omega)), Fr.refl _ _⟩
  case round =>
    obtain ⟨k, hk, rfl, ha, hf⟩ := hrel
    have HF := Lib.hid hf
    have HA := Lib.hid ha
    clear hf ha
    by_cases hlt : k < m
    · have hkl : k < of.length := by rw [HLX.out]; exact hlt
      obtain ⟨b, o, rfl, _, hc⟩ := (HX.out wr HF.out).2 (by omega)
      obtain ⟨x0, x1⟩ := hc k hkl
      have HAK := HA.out
      have hwk : IntKind.i64.wrap ((k : Int) + 1) = ((k + 1 : Nat) : Int) := by
        rw [show ((k : Int) + 1) = ((k + 1 : Nat) : Int) by omega]
        exact IntWalk.i64_in _ (by omega)
      obtain ⟨q, HQ⟩ : ∃ q, Hid (lackS l of[k] = q) := ⟨_, Lib.hid rfl⟩
      have HW2 : Hid (∀ W, Fr No w W → Calls Tryd.prog 12 #[.agg #[.int .u8 (of[k].1 : Int), .int .i64 of[k].2], .pointer (some ⟨D, 0, none⟩)] W fun e w' => e = .returned (.bool q) ∧ Fr No W w') := fun W hW => (HWN.out W hW of[k].1 of[k].2).mono (fun _ _ ⟨h1, h2⟩ => ⟨by rw [h1, ← HQ.out], h2⟩)
      clear hc
      have HAQ : Hid (q = false → ∀ j (h : j < of.length), j < k + 1 → lackS l of[j] = false) := fun hq j h hj => by
        by_cases e : j = k
        · subst e; rw [HQ.out]; exact hq
        · exact HAK j h (by omega)
      have HAT : Hid (q = true → of.any (lackS l) = true) := fun hq => by
        rw [List.any_eq_true]
        exact ⟨of[k], List.getElem_mem hkl, by rw [HQ.out]; exact hq⟩
      clear HAK HA HQ
      generalize (of[k].1 : Int) = x at *
      generalize of[k].2 = y at *
      cases q
      · go_wp2_with (refine (HW2.out _ HF.out).mono ?_; rintro e w5 ⟨rfl, hf⟩; have HF5 := Lib.hid hf; clear hf)
        go_roundw
        case rel => exact ⟨k + 1, by omega, by go_num, HAQ.out (by first | rfl | trivial), HF.out.no_trans HF5.out⟩
        case measure => simp [intOf]; omega
      · go_wp2_with (refine (HW2.out _ HF.out).mono ?_; rintro e w5 ⟨rfl, hf⟩; have HF5 := Lib.hid hf; clear hf)
        go_ret
        exact ⟨_, rfl, by rw [HAT.out (by first | rfl | trivial)]; exact decide_eq_true (by omega), HF.out.no_trans HF5.out⟩
    · have hkn : k = m := by omega
      subst hkn
      go_wp2_with fail
      go_ret
      refine ⟨_, rfl, ?_, HF.out⟩
      have : of.any (lackS l) = false := by
        rw [List.any_eq_false]
        intro s hs
        obtain ⟨j, hj, rfl⟩ := List.getElem_of_mem hs
        have := HA.out j hj (by have := HLX.out; omega)
        rw [this]
        exact Bool.false_ne_true
      rw [this]
      rfl
set_option maxRecDepth 100000 in
set_option maxHeartbeats 1600000 in
/-- Whether something that is asked for is wanting. -/
theorem wants_any (hx : RdS w A n l) (hr : rgt l = true) (hn : n ≤ 100000) {D : Nat} (hD : w.heap[D]? = some (.cells #[.slice A n c] 22 (0, 0))) {O : Option Addr} {k c' : Nat} {of : List (Nat × Int)} (ho : RdS w O k of) (hk : k ≤ 100000) :
    Calls Tryd.prog 16 #[.slice O k c', .func (.func 12) #[] #[.pointer (some ⟨D, 0, none⟩)]] w fun e w' => e = .returned (.bool (of.any (lackS l))) ∧ Fr No w w' := by
  have HI := Lib.hid (indexw_any hx hr hn hD ho c' hk)
  clear hx hr hD ho
  go_enter Tryd.func16, Tryd.ntmps16
  go_wp2_with (go_at_call 29; refine HI.out.mono ?_; rintro e w1 ⟨z, rfl, hz, hf⟩; have HZ := Lib.hid hz; have HF := Lib.hid hf; clear hz hf)
  go_ret
  exact ⟨by rw [← HZ.out]; rfl, HF.out⟩
set_option maxRecDepth 100000 in
set_option maxHeartbeats 1600000 in
/-- What a recipe is of, spent. -/
theorem spent_any (ht : ItT w) (hx : RdS w A n l) (hb : By l) (c : Nat) (hn : n ≤ 100000) {O : Option Addr} {m : Nat} {of : List (Nat × Int)} (ho : RdS w O m of) (c0 : Nat) (hm : m ≤ 100000) (hof : ∀ s ∈ of, s.2 ≤ 9223372036854775807) :
    Calls Tryd.prog 18 #[.slice A n c, .slice O m c0] w fun e w' => ∃ A' c', e = .returned (.slice A' n c') ∧ RdS w' A' n (spentL l of) ∧ Fr No w w' := by
  have HO := Lib.hid (fun W (hW : Fr No w W) => ho.no hW)
  have HLO := Lib.hid ho.1
  have HX := Lib.hid hx
  have HS := Lib.hid (fun W (hW : Fr No w W) (L : List (Nat × Int)) (hL : By L) A' c' (hx' : RdS W A' n L) (i : Nat) (q : Int) (hq : q ≤ 9223372036854775807) => Spend_any (ht.no hW) hx' hL c' (i := i) hn hq)
  have HB := Lib.hid (fun k => spentL_by hb (of.take k))
  have HOF := Lib.hid hof
  clear ht hx hb ho hof
  go_enter Tryd.func18, Tryd.ntmps18
  go_wp2_with fail
  go_loopw [0, 9] (fun v0 v9 wr => ∃ (k : Nat) (A' : Option Addr) (c' : Nat), k ≤ m ∧ v9 = .int .i64 (k : Int) ∧ v0 = .slice A' n c' ∧ RdS wr A' n (spentL l (of.take k)) ∧ Fr No w wr) (fun _ v9 _ => m - (intOf v9).toNat)
  case atStart => exact ⟨0, A, c, by omega, rfl, rfl, HX.out, Fr.refl _ _⟩
  case round =>
    obtain ⟨k, A', c', hk, rfl, rfl, hr, hf⟩ := hrel
    have HF := Lib.hid hf
    have HR := Lib.hid hr
    clear hf hr
    by_cases hlt : k < m
    · have hkl : k < of.length := by rw [HLO.out]; exact hlt
      obtain ⟨b, o, rfl, _, hc⟩ := (HO.out wr HF.out).2 (by omega)
      obtain ⟨x0, x1⟩ := hc k hkl
      have hwk : IntKind.i64.wrap ((k : Int) + 1) = ((k + 1 : Nat) : Int) := by
        rw [show ((k : Int) + 1) = ((k + 1 : Nat) : Int) by omega]
        exact IntWalk.i64_in _ (by omega)
      have HST := Lib.hid (spentL_step l of k hkl)
      have hq := HOF.out of[k] (List.getElem_mem hkl)
      clear hc
      generalize of[k].1 = x at *
      generalize of[k].2 = y at *
      have hfa := Fr.alloc No wr (.cells #[.int .u8 (x : Int), .int .i64 y] 34)
      have C1 := Lib.hid (HS.out _ (HF.out.no_trans hfa) _ (HB.out k) A' c' (HR.out.no hfa) x y hq)
      have HFA := Lib.hid (HF.out.no_trans hfa)
      rw [← HST.out] at C1
      clear hfa hq
      go_wp2_with fail
      refine C1.out.mono ?_
      rintro e w5 ⟨A5, c5, rfl, ho, hf⟩
      have HO5 := Lib.hid ho.rd
      have HF5 := Lib.hid (HFA.out.no_trans hf)
      clear ho hf C1 HFA
      go_wp2_with fail
      go_roundw
      case rel => exact ⟨k + 1, A5, c5, by omega, by go_num, rfl, HO5.out, HF5.out⟩
      case measure => simp [intOf]; omega
    · have hkn : k = m := by omega
      subst hkn
      have hr := HR.out
      rw [List.take_of_length_le (by rw [HLO.out]; exact Nat.le_refl _)] at hr
      have HR2 := Lib.hid hr
      clear hr HR
      go_wp2_with fail
      go_ret
      exact ⟨A', c', rfl, HR2.out, HF.out⟩
end
end Go.Proofs.YtmallcjhccbgdaaDoor

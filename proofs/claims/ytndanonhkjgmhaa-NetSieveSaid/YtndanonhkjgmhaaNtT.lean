/-
  NetSieve: the walk. No statement of the seat is proved here.
-/
import Derived.Test.YtndanonhkjgmhaaNtS
import Derived.BigRegion
namespace Go.Proofs.Ytndanonhkjgmhaa
open Go.RowKit

/-- What laying a net leaves, said of the net itself. -/
theorem laid_raw {w w1 w2 : World} {L : List Gm} (hf : Fr No w w1) (hq : Nq w1 (.slice none 0 0) w.heap.size 3 L w2) :
    ∃ v, Ntw w2 w.heap.size 3 v L ∧ Below w.heap.size w w2 ∧ ∀ k, foot w.heap.size v k → w.heap.size ≤ k := by
  obtain ⟨v, hn, hx⟩ := hq
  refine ⟨v, hn, hf.noBelow.trans (hx.1.below hf.size (fun k hk => by rw [foot_nil hk]; exact Nat.le_refl _)), fun k hk => ?_⟩
  rcases hk with e | e
  · exact Nat.le_of_eq e.symm
  · rcases hx.2 with q | q
    · rw [q] at e; cases e
    · exact Nat.le_trans hf.size (q k e)
/-- Nought, one, two, in some order. -/
def Pm (a b c : Nat) : Prop := a < 3 ∧ b < 3 ∧ c < 3 ∧ a ≠ b ∧ b ≠ c ∧ a ≠ c
theorem swap3 {a b c i r : Nat} (h : Pm a b c) (hi : i < 3) (hr : r < 3) (ND : Nat) (q : Nat → Nat) (hq : q 0 = a ∧ q 1 = b ∧ q 2 = c) (W : World) (t : TypeId) (hW : W.heap[ND]? = some (.cells #[.int .i64 (a : Int), .int .i64 (b : Int), .int .i64 (c : Int)] t (0, 0))) :
    ∃ a' b' c', Pm a' b' c' ∧ ((W.setCell ⟨ND, i, none⟩ (.int .i64 (q r : Int))).setCell ⟨ND, r, none⟩ (.int .i64 (q i : Int))).heap[ND]? = some (.cells #[.int .i64 (a' : Int), .int .i64 (b' : Int), .int .i64 (c' : Int)] t (0, 0)) := by
  obtain ⟨rfl, rfl, rfl⟩ := hq
  have h2 := heap_cells_set _ ND r _ t (.int .i64 (q i : Int)) (heap_cells_set _ ND i _ t (.int .i64 (q r : Int)) hW)
  rw [h2]
  unfold Pm at h ⊢
  have hi' : i = 0 ∨ i = 1 ∨ i = 2 := by omega
  have hr' : r = 0 ∨ r = 1 ∨ r = 2 := by omega
  rcases hi' with rfl | rfl | rfl <;> rcases hr' with rfl | rfl | rfl
  · exact ⟨q 0, q 1, q 2, by omega, rfl⟩
  · exact ⟨q 1, q 0, q 2, by omega, rfl⟩
  · exact ⟨q 2, q 1, q 0, by omega, rfl⟩
  · exact ⟨q 1, q 0, q 2, by omega, rfl⟩
  · exact ⟨q 0, q 1, q 2, by omega, rfl⟩
  · exact ⟨q 0, q 2, q 1, by omega, rfl⟩
  · exact ⟨q 2, q 1, q 0, by omega, rfl⟩
  · exact ⟨q 0, q 2, q 1, by omega, rfl⟩
  · exact ⟨q 0, q 1, q 2, by omega, rfl⟩
theorem cell3 {a b c j ND : Nat} (hj : j < 3) (q : Nat → Nat) (hq : q 0 = a ∧ q 1 = b ∧ q 2 = c) {W : World} {t : TypeId} (hW : W.heap[ND]? = some (.cells #[.int .i64 (a : Int), .int .i64 (b : Int), .int .i64 (c : Int)] t (0, 0))) :
    W.cell? ⟨ND, j, none⟩ = some (.int .i64 (q j : Int)) := by
  obtain ⟨rfl, rfl, rfl⟩ := hq
  rw [blk_cell hW]
  have hj' : j = 0 ∨ j = 1 ∨ j = 2 := by omega
  rcases hj' with rfl | rfl | rfl <;> rfl
def i3 (t : TypeId) (a b c : Nat) : Obj := .cells #[.int .i64 (a : Int), .int .i64 (b : Int), .int .i64 (c : Int)] t (0, 0)
set_option maxHeartbeats 4000000 in
set_option maxRecDepth 100000 in
theorem sieve_walk {w : World} {A : Option Addr} {n : Nat} {xs : List Gr} (c : Nat) (hx : RowOf w 3 (GrAt w) A n xs) (x y z : Nat) (hx0 : x < 256) (hy0 : y < 256) (hz0 : z < 256) (many : Int) (m0 : 0 ≤ many) (m1 : many ≤ 255) (other : Int) :
    Calls Try.prog 8 #[.slice A n c, .agg #[.int .u8 (x : Int), .int .u8 (y : Int), .int .u8 (z : Int)], .int .u8 many, .int .i64 other] w fun e w' => e = .returned (.bool true) ∧ Below w.heap.size w w' := by
  have HLD := Lib.hid (fun W (hW : Below w.heap.size w W) => laid_any c (grams_below hx hW))
  have hlen : (lay (xs.take 30)).length ≤ 30 := by
    have := lay_len (xs.take 30)
    rw [List.length_take] at this
    omega
  have HTO := Lib.hid (lay_to (xs.take 30))
  clear hx
  generalize lay (xs.take 30) = L at *
  obtain ⟨N, HNL⟩ : ∃ N, Hid (L.length = N) := ⟨_, rfl⟩
  have hN30 : N ≤ 30 := by rw [← HNL.out]; exact hlen
  clear hlen
  go_enter Try.func8, Try.ntmps8
  go_wp2_with fail
  have HB0 := Lib.hid (Fr.alloc No w (.cells #[.int .u8 (x : Int), .int .u8 (y : Int), .int .u8 (z : Int)] 70)).noBelow
  have HO0 := Lib.hid (heap_alloc_new w (.cells #[.int .u8 (x : Int), .int .u8 (y : Int), .int .u8 (z : Int)] 70))
  obtain ⟨w0, hw0⟩ : ∃ u, w.alloc (.cells #[.int .u8 (x : Int), .int .u8 (y : Int), .int .u8 (z : Int)] 70) = u := ⟨_, rfl⟩
  have HW0 : Hid (w.heap.size < w0.heap.size) := by show _ < _; rw [← hw0]; simp
  rw [hw0] at HB0 HO0 ⊢
  clear hw0
  refine (HLD.out w0 HB0.out).mono ?_
  rintro e w2 ⟨rfl, w1, hf1, hq1⟩
  obtain ⟨x1, h1, hb1, hft1⟩ := laid_raw hf1 hq1
  have HB2 := Lib.hid (HB0.out.trans (hb1.mono HB0.out.size))
  have H1 := Lib.hid h1
  have HO2 := Lib.hid ((hb1.block _ HW0.out).trans HO0.out)
  have HW2 := Lib.hid (Nat.lt_of_lt_of_le HW0.out hb1.size)
  have HFT1 := Lib.hid hft1
  clear hf1 hq1 h1 hb1 hft1
  go_wp2_with fail
  refine (HLD.out w2 HB2.out).mono ?_
  rintro e w4 ⟨rfl, w3, hf3, hq3⟩
  obtain ⟨x2, h2, hb2, hft2⟩ := laid_raw hf3 hq3
  have HB4 := Lib.hid (HB2.out.trans (hb2.mono HB2.out.size))
  have HO4 := Lib.hid ((hb2.block _ HW2.out).trans HO2.out)
  have HT4 : Hid (Two w4 (fun k => foot w0.heap.size x1 k ∨ foot w2.heap.size x2 k) w0.heap.size w2.heap.size 3 L L w4) :=
    ⟨x1, x2, H1.out.no (Fr.of_below hb2), h2, fun k hk hk' => by have := H1.out.lt hk; have := hft2 k hk'; omega, Fr.refl _ _, fun k hk => .inl hk⟩
  have HTA : Hid (∀ W, Fr No w4 W → Two W (fun k => foot w0.heap.size x1 k ∨ foot w2.heap.size x2 k) w0.heap.size w2.heap.size 3 L L W) := fun W hW =>
    ⟨x1, x2, (H1.out.no (Fr.of_below hb2)).no hW, h2.no hW, fun k hk hk' => by have := H1.out.lt hk; have := hft2 k hk'; omega, Fr.refl _ _, fun k hk => .inl hk⟩
  have HFT : Hid (∀ k, foot w0.heap.size x1 k ∨ foot w2.heap.size x2 k → w.heap.size ≤ k ∧ k < w4.heap.size) := fun k hk => by
    have q1 := HW0.out
    have q2 := HW2.out
    have q3 := hb2.size
    rcases hk with e | e
    · have := HFT1.out k e
      have := H1.out.lt e
      omega
    · have := hft2 k e
      have := h2.lt e
      omega
  generalize hfd : (fun k => foot w0.heap.size x1 k ∨ foot w2.heap.size x2 k) = f at HT4 HTA
  have HF : Hid (∀ k, f k → w.heap.size ≤ k ∧ k < w4.heap.size) := fun k hk => HFT.out k (by rw [← hfd] at hk; exact hk)
  clear hf3 hq3 h2 hb2 hft2 hfd HFT HFT1 HO0 HO2 HB0 HB2 H1
  go_wp2_with fail
  refine (two_all HT4.out).mono ?_
  rintro e w5 ⟨r, M, rfl, hr, hM, hf5⟩
  obtain ⟨A2, c2, e, hc2⟩ := hr.sl
  have hML : M.length = N := by rw [← HNL.out, ← hM, List.length_map]
  rw [hML] at e hc2
  subst e
  have HR5 := Lib.hid hr
  have HF5 := Lib.hid hf5
  have HM := Lib.hid hM
  have HML := Lib.hid hML
  clear hr hM hf5 hML
  go_wp2_with fail
  have HN6 := Lib.hid (heap_alloc_new w5 (i3 3 0 1 2))
  go_loopw [15] (fun v15 wr => ∃ i a b c : Nat, i ≤ 2 ∧ v15 = .int .i64 (i : Int) ∧ Pm a b c ∧ wr.heap[w5.heap.size]? = some (i3 3 a b c) ∧ Fr (fun k => k = w5.heap.size) (w5.alloc (i3 3 0 1 2)) wr) (fun v15 _ => (intOf v15).toNat)
  case atStart => exact ⟨2, 0, 1, 2, by omega, rfl, by unfold Pm; omega, HN6.out, Fr.refl _ _⟩
  case round =>
    obtain ⟨i, a, b, d, hi, rfl, hpm, hnd, hfr⟩ := hrel
    have HPM := Lib.hid hpm
    have HND := Lib.hid hnd
    have HFR := Lib.hid hfr
    clear hpm hnd hfr
    by_cases hpos0 : 0 < i
    · obtain ⟨p, HP⟩ : ∃ p, Hid (i = p + 1) := ⟨i - 1, show i = i - 1 + 1 by omega⟩
      obtain ⟨q, hq, HQ⟩ : ∃ q : Nat, (i : Int) + 1 = (q : Int) ∧ Hid (i + 1 = q) := ⟨i + 1, by omega, rfl⟩
      obtain ⟨oi, hoi, hoi256⟩ : ∃ oi : Nat, wr.cell? ⟨w.heap.size, i, none⟩ = some (.int .u8 (oi : Int)) ∧ oi < 256 := by
        have hb : wr.heap[w.heap.size]? = some (.cells #[.int .u8 (x : Int), .int .u8 (y : Int), .int .u8 (z : Int)] 70 (0, 0)) := by
          have q2 := Nat.lt_of_lt_of_le HW2.out (Nat.le_refl _)
          have h4 := (Array.getElem?_eq_some_iff.1 HO4.out).1
          have h5 := HF5.out.size
          rw [HFR.out.block _ (by simp; omega) (by omega), (Fr.alloc No w5 _).block _ (by omega) (fun e => e), HF5.out.block _ h4 (fun e => e)]
          exact HO4.out
        have hi' : i = 1 ∨ i = 2 := by omega
        rcases hi' with rfl | rfl
        · exact ⟨y, blk_cell hb 1, hy0⟩
        · exact ⟨z, blk_cell hb 2, hz0⟩
      obtain ⟨r, hr, HR⟩ : ∃ r : Nat, (oi : Int).tmod (q : Int) = (r : Int) ∧ Hid (r < q) := ⟨oi % q, by rw [Int.tmod_eq_emod_of_nonneg (by omega)]; omega, Nat.mod_lt _ (by have := HQ.out; omega)⟩
      have hr3 : r < 3 := by have := HR.out; have := HQ.out; omega
      have hrI : (r : Int) < 3 := by omega
      have hr0 : (0 : Int) ≤ (r : Int) := by omega
      have hiI : (i : Int) < 3 := by omega
      have hi0 : (0 : Int) ≤ (i : Int) := by omega
      have hpos : (0 : Int) < (i : Int) := by omega
      have hqz : ¬ ((q : Int) = 0) := by have := HQ.out; omega
      have hwq : IntKind.i64.wrap (q : Int) = (q : Int) := IntWalk.i64_in _ (by omega)
      have hwo : IntKind.i64.wrap (oi : Int) = (oi : Int) := IntWalk.i64_in _ (by omega)
      have hwr : IntKind.i64.wrap (r : Int) = (r : Int) := IntWalk.i64_in _ (by omega)
      have hwp : IntKind.i64.wrap ((i : Int) - 1) = (p : Int) := by
        have := HP.out
        rw [show ((i : Int) - 1) = (p : Int) by omega]
        exact IntWalk.i64_in _ (by omega)
      obtain ⟨Q, HQ3⟩ : ∃ Q : Nat → Nat, Hid (Q 0 = a ∧ Q 1 = b ∧ Q 2 = d) := ⟨fun j => if j = 0 then a else if j = 1 then b else d, rfl, rfl, rfl⟩
      have hci := cell3 (j := i) (by omega) Q HQ3.out HND.out
      have hcr := cell3 (j := r) hr3 Q HQ3.out HND.out
      have hfi := blk_free HND.out i
      have hfr := blk_free HND.out r
      have HSW := Lib.hid (swap3 (i := i) (r := r) HPM.out (by omega) hr3 w5.heap.size Q HQ3.out wr.drew 3 HND.out)
      by_cases hne : r = i
      · subst hne
        obtain ⟨u', hu'⟩ := cell?_setCell_some (w := wr.drew) (p := ⟨w5.heap.size, r, none⟩) (x := .int .i64 (Q r : Int)) (q := ⟨w5.heap.size, r, none⟩) (v := .int .i64 (Q r : Int)) hcr
        go_wp2_with fail
        go_region
        all_goals (
          go_wp2_with fail
          obtain ⟨a', b', d', hpm', hnd'⟩ := HSW.out
          go_roundw
          case rel => exact ⟨p, a', b', d', by have := HP.out; omega, by go_num, hpm', hnd', (HFR.out.trans (Fr.setCell (F := fun k => k = w5.heap.size) _ _ _ rfl) (fun _ _ e => e)).trans (Fr.setCell (F := fun k => k = w5.heap.size) _ _ _ rfl) (fun _ _ e => e) |>.then_no (Fr.drew No _)⟩
          case measure => have := HP.out; simp [intOf]; omega)
      · obtain ⟨u', hu'⟩ := cell?_setCell_some (w := wr.drew) (p := ⟨w5.heap.size, i, none⟩) (x := .int .i64 (Q r : Int)) (q := ⟨w5.heap.size, r, none⟩) (v := .int .i64 (Q r : Int)) hcr
        go_wp2_with fail
        go_region
        all_goals (
          go_wp2_with fail
          obtain ⟨a', b', d', hpm', hnd'⟩ := HSW.out
          go_roundw
          case rel => exact ⟨p, a', b', d', by have := HP.out; omega, by go_num, hpm', hnd', (HFR.out.trans (Fr.setCell (F := fun k => k = w5.heap.size) _ _ _ rfl) (fun _ _ e => e)).trans (Fr.setCell (F := fun k => k = w5.heap.size) _ _ _ rfl) (fun _ _ e => e) |>.then_no (Fr.drew No _)⟩
          case measure => have := HP.out; simp [intOf]; omega)
    · have hi00 : i = 0 := by omega
      subst hi00
      have hpz : ¬ ((0 : Int) < ((0 : Nat) : Int)) := by omega
      have HWR := Lib.hid (show Fr No w5 wr from (Fr.alloc No w5 _).then_new HFR.out (fun i hi => by omega))
      have HTW := Lib.hid (HTA.out wr (HF5.out.no_trans HWR.out))
      have hsz5 : w5.heap.size < wr.heap.size := (Array.getElem?_eq_some_iff.1 HND.out).1
      have HBW : Hid (∀ W L1 L2, Two wr f w0.heap.size w2.heap.size 3 L1 L2 W → Below w.heap.size w W) := fun W L1 L2 hW =>
        ((HB4.out.trans (HF5.out.noBelow.mono HB4.out.size)).trans (HWR.out.noBelow.mono (Nat.le_trans HB4.out.size HF5.out.size))).trans
          (hW.fr.below (Nat.le_trans (Nat.le_trans HB4.out.size HF5.out.size) HWR.out.size) (fun k hk => (HF.out k hk).1))
      have HRW : Hid (∀ W L1 L2, Two wr f w0.heap.size w2.heap.size 3 L1 L2 W → Rw w4.heap.size W (.slice A2 N c2) M) := fun W L1 L2 hW =>
        (HR5.out.no HWR.out).keep hW.fr (fun k hlo _ hk => by have := (HF.out k hk).2; omega)
      have HRO : Hid (∀ W L1 L2, Two wr f w0.heap.size w2.heap.size 3 L1 L2 W → RowOf W 3 (GrAt W) A2 N M) := fun W L1 L2 hW => by
        have q := HRW.out W L1 L2 hW
        rw [← HML.out] at q ⊢
        exact q.of
      have HNW : Hid (∀ W L1 L2, Two wr f w0.heap.size w2.heap.size 3 L1 L2 W → W.heap[w5.heap.size]? = some (i3 3 a b d)) := fun W L1 L2 hW =>
        (hW.fr.block _ hsz5 (fun hk => by have := (HF.out _ hk).2; have := HF5.out.size; omega)).trans HND.out
      obtain ⟨q, hq, hq3⟩ : ∃ q : Nat, many.tmod 4 = (q : Int) ∧ q ≤ 3 := by
        have h1 := Int.tmod_eq_emod_of_nonneg (b := 4) m0
        have h2 := Int.emod_nonneg many (show (4 : Int) ≠ 0 by decide)
        have h3 := Int.emod_lt_of_pos many (show (0 : Int) < 4 by decide)
        exact ⟨(many % 4).toNat, by omega, by omega⟩
      have hwq : IntKind.u8.wrap (q : Int) = (q : Int) := IntWalk.u8_in _ (by omega)
      have hq0 : (0 : Int) ≤ (q : Int) := by omega
      have hqI : (q : Int) ≤ 3 := by omega
      obtain ⟨Q, HQ3⟩ : ∃ Q : Nat → Nat, Hid (Q 0 = a ∧ Q 1 = b ∧ Q 2 = d) := ⟨fun j => if j = 0 then a else if j = 1 then b else d, rfl, rfl, rfl⟩
      have HCE : Hid (∀ j, j < 3 → ∀ W L1 L2, Two wr f w0.heap.size w2.heap.size 3 L1 L2 W → W.cell? ⟨w5.heap.size, j, none⟩ = some (.int .i64 (Q j : Int))) := fun j hj W L1 L2 hW => cell3 hj Q HQ3.out (HNW.out W L1 L2 hW)
      clear hsz5 HND HFR HN6 HR5 HT4 HW2 HO4 HB4
      have hoc : other < 0 ∨ 2 < other ∨ (0 ≤ other ∧ other ≤ 2) := by omega
      have HKN : Hid ((other < 0 ∨ 2 < other) → keepN L other = L) := fun h => keep_none HTO.out (not_n3 (by omega))
      rcases hoc with ho | ho | ⟨ho, ho2⟩
      case' inl =>
        go_wp2_with fail
        refine (two_forget HTW.out other).mono ?_
        rw [HKN.out (.inl ho), Nat.sub_self]
        rintro e w7 ⟨rfl, ht7⟩
        have HT7 := Lib.hid ht7
        clear ht7
        go_wp2_with fail
        refine (two_all HT7.out).mono ?_
        rintro e w8 ⟨r8, M8, rfl, hr8, hM8, hf8⟩
        have HT8 := Lib.hid (HT7.out.no hf8)
        obtain ⟨A8, c8, e, hc8⟩ := hr8.sl
        have hML8 : M8.length = N := by rw [← HNL.out, ← hM8, List.length_map]
        subst e
        have hS8 := hr8.of
        rw [hML8] at hS8 ⊢
        have HRS8 := Lib.hid (rows_yes (c := c8) (c' := c2) hS8 (HRO.out _ _ _ HT8.out) (by rw [hM8, HM.out]) (by omega))
        clear hr8 hM8 hf8 hc8 hML8 hS8
        go_wp2_with fail
        refine HRS8.out.mono ?_
        rintro e w9 ⟨rfl, hf⟩
        have HTX := Lib.hid (HT8.out.no hf)
        clear hf
        go_wp2_with fail
      case' inr.inl =>
        have ho3 : ¬ (other < 0) := by omega
        go_wp2_with fail
        refine (two_forget HTW.out other).mono ?_
        rw [HKN.out (.inr ho), Nat.sub_self]
        rintro e w7 ⟨rfl, ht7⟩
        have HT7 := Lib.hid ht7
        clear ht7
        go_wp2_with fail
        refine (two_all HT7.out).mono ?_
        rintro e w8 ⟨r8, M8, rfl, hr8, hM8, hf8⟩
        have HT8 := Lib.hid (HT7.out.no hf8)
        obtain ⟨A8, c8, e, hc8⟩ := hr8.sl
        have hML8 : M8.length = N := by rw [← HNL.out, ← hM8, List.length_map]
        subst e
        have hS8 := hr8.of
        rw [hML8] at hS8 ⊢
        have HRS8 := Lib.hid (rows_yes (c := c8) (c' := c2) hS8 (HRO.out _ _ _ HT8.out) (by rw [hM8, HM.out]) (by omega))
        clear hr8 hM8 hf8 hc8 hML8 hS8
        go_wp2_with fail
        refine HRS8.out.mono ?_
        rintro e w9 ⟨rfl, hf⟩
        have HTX := Lib.hid (HT8.out.no hf)
        clear hf
        go_wp2_with fail
      case' inr.inr =>
        have ho3 : ¬ (other < 0) := by omega
        have ho4 : ¬ (2 < other) := by omega
        have HTX := HTW
        go_wp2_with fail
      all_goals (
        go_loopw [17, 95] (fun v17 v95 wz => ∃ j G : Nat, j ≤ q ∧ v95 = .int .i64 (j : Int) ∧ v17 = .int .i64 (G : Int) ∧ G + (keepS ((nsL Q q).take j) L).length = N ∧ Two wr f w0.heap.size w2.heap.size 3 (keepS ((nsL Q q).take j) L) (keepS ((nsL Q q).drop (q - j)) L) wz) (fun _ v95 _ => q - (intOf v95).toNat)
        case atStart => exact ⟨0, 0, by omega, rfl, rfl, by rw [List.take_zero, keepS_nil, HNL.out, Nat.zero_add], by rw [List.take_zero, keepS_nil, List.drop_of_length_le (by rw [ns_len]; omega), keepS_nil]; exact HTX.out⟩
        case round =>
          obtain ⟨j, G, hj, rfl, rfl, hG, hT⟩ := hrel
          have HG := Lib.hid hG
          have HT := Lib.hid hT
          clear hG hT
          by_cases hjq : j < q
          · obtain ⟨qp, hqp, HQP⟩ : ∃ qp : Nat, (q : Int) - 1 = (qp : Int) ∧ Hid (q = qp + 1) := ⟨q - 1, by omega, show q = q - 1 + 1 by omega⟩
            obtain ⟨p, hp, HP⟩ : ∃ p : Nat, (qp : Int) - (j : Int) = (p : Int) ∧ Hid (p + 1 = q - j ∧ p < q) := ⟨qp - j, by have := HQP.out; omega, by have := HQP.out; exact ⟨by omega, by omega⟩⟩
            have hwqp : IntKind.i64.wrap (qp : Int) = (qp : Int) := IntWalk.i64_in _ (by have := HQP.out; omega)
            have hwp : IntKind.i64.wrap (p : Int) = (p : Int) := IntWalk.i64_in _ (by have := HP.out; omega)
            have hin : (j : Int) < (q : Int) := by omega
            have hj0 : (0 : Int) ≤ (j : Int) := by omega
            have hp0 : (0 : Int) ≤ (p : Int) := by omega
            have hpq : (p : Int) < (q : Int) := by have := HP.out; omega
            have hwi : IntKind.i64.wrap ((j : Int) + 1) = ((j + 1 : Nat) : Int) := by
              rw [show ((j : Int) + 1) = ((j + 1 : Nat) : Int) by omega]
              exact IntWalk.i64_in _ (by omega)
            have hcj := HCE.out j (by omega) _ _ _ HT.out
            have HK1 := Lib.hid (show keepN (keepS ((nsL Q q).take j) L) (Q j : Int) = keepS ((nsL Q q).take (j + 1)) L by rw [keepN_snoc, ns_take Q q j hjq])
            have HK2 := Lib.hid (show keepN (keepS ((nsL Q q).drop (q - j)) L) (Q p : Int) = keepS ((nsL Q q).drop (q - (j + 1))) L by
              have h1 := HP.out
              rw [keepN_cons, ← h1.1, ← ns_drop Q q p h1.2]
              congr 2
              omega)
            obtain ⟨dl, HDL⟩ : ∃ dl, Hid ((keepS ((nsL Q q).take j) L).length - (keepS ((nsL Q q).take (j + 1)) L).length = dl) := ⟨_, rfl⟩
            have HG2 : Hid (G + dl + (keepS ((nsL Q q).take (j + 1)) L).length = N) := by
              show _ = _
              have h1 := HG.out
              have h2 := HDL.out
              have h3 := keepN_len (keepS ((nsL Q q).take j) L) (Q j : Int)
              rw [HK1.out] at h3
              omega
            have hsum : IntKind.i64.wrap ((G : Int) + (dl : Int)) = ((G + dl : Nat) : Int) := by
              have := HG2.out
              rw [show ((G : Int) + (dl : Int)) = ((G + dl : Nat) : Int) by omega]
              exact IntWalk.i64_in _ (by omega)
            go_wp2_with fail
            refine (two_forget HT.out (Q j : Int)).mono ?_
            rw [HK1.out, HDL.out]
            rintro e wa ⟨rfl, hta⟩
            have HTa := Lib.hid hta
            have hcp := HCE.out p (by have := HP.out; omega) _ _ _ hta
            clear hta
            go_wp2_with fail
            refine (two_forget2 HTa.out (Q p : Int)).mono ?_
            rw [HK2.out]
            rintro e wb ⟨rfl, htb⟩
            have HTb := Lib.hid htb
            clear htb
            go_wp2_with fail
            go_roundw
            case rel => exact ⟨j + 1, G + dl, by omega, by go_num, by go_num, HG2.out, HTb.out⟩
            case measure => simp [intOf]; omega
          · have hjq2 : j = q := by omega
            have hin : ¬ ((j : Int) < (q : Int)) := by omega
            have HK := Lib.hid (show G + (keepS (nsL Q q) L).length = N by have := HG.out; rw [hjq2, List.take_of_length_le (by rw [ns_len]; omega)] at this; exact this)
            have HTm := Lib.hid (show Two _ f w0.heap.size w2.heap.size 3 (keepS (nsL Q q) L) (keepS (nsL Q q) L) wr by
              have := HT.out
              rw [hjq2, List.take_of_length_le (by rw [ns_len]; omega), Nat.sub_self, List.drop_zero] at this
              exact this)
            have HLM := Lib.hid (show w4.heap.size ≤ wr.heap.size from Nat.le_trans (Nat.le_trans HF5.out.size HWR.out.size) HTm.out.fr.size)
            clear HG HT
            go_wp2_with fail
            go_loopw [20, 118] (fun v20 v118 wy => ∃ (i : Nat) (Kg : List Gr) (Aw : Option Addr) (kl cw : Nat), i ≤ N ∧ v118 = .int .i64 (i : Int) ∧ v20 = .slice Aw kl cw ∧ Kg.length = kl ∧ Kg = (M.take i).filter (fun m => stays (nsL Q q) m.gm) ∧ wy.ownsRow w4.heap.size 30 3 (.slice Aw kl cw) Kg.length (grsCells Kg) ∧ (∀ k, (Value.slice Aw kl cw).ownBlock = some k → wr.heap.size ≤ k) ∧ Fr No wr wy) (fun _ v118 _ => N - (intOf v118).toNat)
            case atStart => exact ⟨0, [], none, 0, 0, by omega, rfl, rfl, rfl, rfl, World.ownsRow_nil _ _ _ _, (fun k hk => by cases hk), Fr.refl _ _⟩
            case round =>
              obtain ⟨i, Kg, Aw, kl, cw, hi, rfl, rfl, hkl, hKg, how, hnw, hfr⟩ := hrel
              have HKL := Lib.hid hkl
              have HKG := Lib.hid hKg
              have HOW := Lib.hid how
              have HNW2 := Lib.hid hnw
              have HFR := Lib.hid hfr
              have HTi := Lib.hid (HTm.out.no hfr)
              clear hkl hKg how hnw hfr
              have hkli : kl ≤ i := by
                have := List.length_filter_le (fun m => stays (nsL Q q) m.gm) (M.take i)
                rw [← HKG.out, HKL.out, List.length_take] at this
                omega
              by_cases hiN : i < N
              · obtain ⟨m, hm⟩ : ∃ m, M[i]? = some m := ⟨_, List.getElem?_eq_getElem (by rw [HML.out]; exact hiN)⟩
                obtain ⟨bb, oo, rfl, hbb, hcc⟩ := (HRO.out _ _ _ HTi.out).2 (by omega)
                obtain ⟨q0, q1, q2⟩ := (hcc i (by rw [HML.out]; exact hiN)).at_
                rw [List.getElem?_eq_getElem (by rw [HML.out]; exact hiN)] at hm
                rw [Option.some.inj hm] at q0 q1 q2
                have HMI := Lib.hid (show M[i]? = some m by rw [List.getElem?_eq_getElem (by rw [HML.out]; exact hiN)]; exact hm)
                clear hcc hm
                have hin : (i : Int) < (N : Int) := by omega
                have hi0 : (0 : Int) ≤ (i : Int) := by omega
                have hwi : IntKind.i64.wrap ((i : Int) + 1) = ((i + 1 : Nat) : Int) := by
                  rw [show ((i : Int) + 1) = ((i + 1 : Nat) : Int) by omega]
                  exact IntWalk.i64_in _ (by omega)
                go_wp2_with fail
                obtain ⟨wB, hwB⟩ : ∃ u, wr.alloc (.cells #[.int .i64 m.fr, .int .i64 m.to, .slice m.A m.n m.c] 30) = u := ⟨_, rfl⟩
                obtain ⟨HB, hHB⟩ : ∃ u, wr.heap.size = u := ⟨_, rfl⟩
                have HBB := Lib.hid (show wB.heap[HB]? = some (.cells #[.int .i64 m.fr, .int .i64 m.to, .slice m.A m.n m.c] 30 (0, 0)) by rw [← hwB, ← hHB]; exact heap_alloc_new wr _)
                have HFB := Lib.hid (show Fr No wr wB by rw [← hwB]; exact Fr.alloc _ _ _)
                have HTB := Lib.hid (HTi.out.no HFB.out)
                rw [hwB, hHB]
                clear hwB hHB q0 q1 q2
                go_loopw [23, 124] (fun v23 v124 wq => ∃ t : Nat, t ≤ q ∧ v124 = .int .i64 (t : Int) ∧ v23 = .bool (((nsL Q q).take t).all fun x => !(m.to == x)) ∧ wq = wB) (fun _ v124 _ => q - (intOf v124).toNat)
                case atStart => exact ⟨0, by omega, rfl, rfl, rfl⟩
                case round =>
                  obtain ⟨t, ht, rfl, rfl, rfl⟩ := hrel
                  have hct : t < q → wr.cell? ⟨w5.heap.size, t, none⟩ = some (.int .i64 (Q t : Int)) := fun h => HCE.out t (by omega) _ _ _ HTB.out
                  have hcm := blk_cell HBB.out 1
                  have hcm1 : wr.cell? ⟨HB, 1, none⟩ = some (.int .i64 m.to) := hcm
                  have hcm0 : wr.cell? ⟨HB, 0, none⟩ = some (.int .i64 m.fr) := blk_cell HBB.out 0
                  have hcm2 : wr.cell? ⟨HB, 2, none⟩ = some (.slice m.A m.n m.c) := blk_cell HBB.out 2
                  clear hcm
                  have hwt : IntKind.i64.wrap ((t : Int) + 1) = ((t + 1 : Nat) : Int) := by
                    rw [show ((t : Int) + 1) = ((t + 1 : Nat) : Int) by omega]
                    exact IntWalk.i64_in _ (by omega)
                  obtain ⟨sb, HSB⟩ : ∃ sb, Hid (((nsL Q q).take t).all (fun x => !(m.to == x)) = sb) := ⟨_, rfl⟩
                  rw [HSB.out]
                  by_cases htq : t < q
                  · have hct := hct htq
                    have htI : (t : Int) < (q : Int) := by omega
                    have ht0 : (0 : Int) ≤ (t : Int) := by omega
                    have HSN : Hid (((nsL Q q).take (t + 1)).all (fun x => !(m.to == x)) = (sb && !(m.to == (Q t : Int)))) := by
                      show _ = _
                      rw [ns_take Q q t htq, all_snoc, HSB.out]
                    cases sb with
                    | false =>
                      go_wp2_with fail
                      go_roundw
                      case rel => exact ⟨t + 1, by omega, by go_num, by rw [HSN.out]; rfl, by first | rfl | trivial⟩
                      case measure => simp [intOf]; omega
                    | true =>
                      go_wp2_with fail
                      go_roundw
                      case rel => exact ⟨t + 1, by omega, by go_num, by rw [HSN.out]; rfl, by first | rfl | trivial⟩
                      case measure => simp [intOf]; omega
                  · have htq2 : t = q := by omega
                    have htI : ¬ ((t : Int) < (q : Int)) := by omega
                    have HSM : Hid (stays (nsL Q q) m.gm = sb) := by
                      show _ = _
                      have := HSB.out
                      rw [htq2, List.take_of_length_le (by rw [ns_len]; omega)] at this
                      exact this
                    have HFI : Hid ((M.take (i + 1)).filter (fun m => stays (nsL Q q) m.gm) = Kg ++ if sb then [m] else []) := by
                      show _ = _
                      rw [List.take_add_one, HMI.out, List.filter_append, ← HKG.out]
                      congr 1
                      simp only [Option.toList, List.filter_cons, List.filter_nil, HSM.out]
                    clear htq2 hct
                    cases sb with
                    | false =>
                      go_wp2_with fail
                      go_roundw
                      case rel => exact ⟨i + 1, Kg, Aw, kl, cw, by omega, by go_num, rfl, HKL.out, by rw [HFI.out]; simp, own_keep HOW.out (fun k hk => HFB.out.block k (HOW.out.lt k hk).2 (fun e => e)), HNW2.out, HFR.out.no_trans HFB.out⟩
                      case measure => simp [intOf]; omega
                    | true =>
                      go_wp2_with (at_builtin; refine wpList_append_grs _ rfl (.tmp 137) (.tmp 139) rfl (lo := w4.heap.size) (r := .slice Aw kl cw) (L := Kg) (own_keep (own_keep HOW.out (fun k hk => HFB.out.block k (HOW.out.lt k hk).2 (fun e => e))) (fun k hk => (Fr.alloc No _ _).block k (Nat.lt_of_lt_of_le (HOW.out.lt k hk).2 HFB.out.size) (fun e => e))) [m] (by rw [HKL.out]; show _ + 1 ≤ _; omega) (Nat.le_trans (Nat.le_trans (Nat.le_trans HLM.out HFR.out.size) HFB.out.size) (Fr.alloc No _ _).size) _ 1 1 (kl + 1) rfl (by rw [HKL.out]) (gr_cells (heap_alloc_new _ _)) rfl rfl ?_; intro A9 c9 w9 ho9 hg9 hn9; have HO9 := Lib.hid ho9; have HG9 := Lib.hid hg9; have HN9 := Lib.hid hn9; clear ho9 hg9 hn9)
                      go_roundw
                      case rel => exact ⟨i + 1, Kg ++ [m], A9, kl + 1, c9, by omega, by go_num, rfl, by rw [List.length_append, HKL.out]; rfl, by rw [HFI.out]; rfl, HO9.out, new_from HN9.out HNW2.out (Nat.le_trans HFR.out.size (Nat.le_trans HFB.out.size (Fr.alloc No _ _).size)), ((HFR.out.no_trans HFB.out).no_trans (Fr.alloc No _ _)).then_new (Fr.grown (F := fun i => (Value.slice Aw kl cw).ownBlock = some i) HG9.out (fun k hk => hk)) HNW2.out⟩
                      case measure => simp [intOf]; omega
              · have hiN2 : i = N := by omega
                have hin : ¬ ((i : Int) < (N : Int)) := by omega
                have HKF := Lib.hid (show Kg = M.filter (fun m => stays (nsL Q q) m.gm) by
                  have := HKG.out
                  rw [hiN2, List.take_of_length_le (by rw [HML.out]; omega)] at this
                  exact this)
                have HKM : Hid (Kg.map Gr.gm = keepS (nsL Q q) L) := by
                  show _ = _
                  rw [HKF.out, ← keepS_map, HM.out]
                have HKK : Hid ((keepS (nsL Q q) L).length = kl) := by
                  show _ = _
                  rw [← HKM.out, List.length_map, HKL.out]
                have hGk : IntKind.i64.wrap ((N : Int) - (kl : Int)) = (G : Int) := by
                  have h1 := HK.out
                  rw [HKK.out] at h1
                  rw [show ((N : Int) - (kl : Int)) = (G : Int) by omega]
                  exact IntWalk.i64_in _ (by omega)
                have HWT : Hid (∀ W, Fr No wr W → RowOf W 3 (GrAt W) Aw kl Kg) := fun W hW => by
                  have hR := HRW.out _ _ _ (HTi.out.no hW)
                  refine rows_of HKL.out (own_keep HOW.out (fun k hk => hW.block k (HOW.out.lt k hk).2 (fun e => e))) (fun f hf => ?_)
                  rw [HKF.out] at hf
                  have := hR.bx f (List.mem_filter.1 hf).1
                  exact ⟨this.1, this.2.rd⟩
                clear hiN2
                go_wp2_with fail
                refine (two_all HTi.out).mono ?_
                rintro e wa ⟨ra, Ma, rfl, hra, hMa, hfa⟩
                obtain ⟨Aa, ca, e, hca⟩ := hra.sl
                have hMLa : Ma.length = kl := by rw [← HKK.out, ← hMa, List.length_map]
                subst e
                have hSa := hra.of
                rw [hMLa] at hSa ⊢
                have HRSa := Lib.hid (rows_yes (c := ca) (c' := cw) hSa (HWT.out _ hfa) (by rw [hMa, HKM.out]) (by omega))
                have HFa := Lib.hid hfa
                clear hra hMa hfa hca hMLa hSa
                go_wp2_with fail
                refine HRSa.out.mono ?_
                rintro e wb ⟨rfl, hf⟩
                have HFb := Lib.hid (HFa.out.no_trans hf)
                clear hf
                go_wp2_with fail
                refine (two_all (HTi.out.no HFb.out).swap).mono ?_
                rintro e wc ⟨rc, Mc, rfl, hrc, hMc, hfc⟩
                obtain ⟨Ac, cc, e, hcc⟩ := hrc.sl
                have hMLc : Mc.length = kl := by rw [← HKK.out, ← hMc, List.length_map]
                subst e
                have hSc := hrc.of
                rw [hMLc] at hSc ⊢
                have HRSc := Lib.hid (rows_yes (c := cc) (c' := cw) hSc (HWT.out _ (HFb.out.no_trans hfc)) (by rw [hMc, HKM.out]) (by omega))
                have HFc := Lib.hid (HFb.out.no_trans hfc)
                clear hrc hMc hfc hcc hMLc hSc
                go_wp2_with fail
                refine HRSc.out.mono ?_
                rintro e wd ⟨rfl, hf⟩
                have HTd := Lib.hid (HTi.out.no (HFc.out.no_trans hf))
                clear hf
                by_cases hq33 : q < 3
                · have hqI3 : (q : Int) < 3 := by omega
                  go_wp2_with fail
                  refine (awake_any _).mono ?_
                  rintro e we ⟨rfl, hb⟩
                  have HBe := Lib.hid ((HBW.out _ _ _ HTd.out).trans (hb.mono (HBW.out _ _ _ HTd.out).size))
                  clear hb
                  go_wp2_with fail
                  go_ret
                  exact ⟨rfl, HBe.out⟩
                · have hqI3 : ¬ ((q : Int) < 3) := by omega
                  have hz0 : (keepS (nsL Q q) L).length = 0 := by
                    have h3 : q = 3 := by omega
                    subst h3
                    rw [keepS_gone (fun g hg => ?_)]
                    · rfl
                    · have hg1 := HTO.out g hg
                      unfold isN at hg1
                      rw [Bool.and_eq_true, decide_eq_true_iff, decide_eq_true_iff] at hg1
                      have hp := HPM.out
                      unfold Pm at hp
                      have e3 : nsL Q 3 = [(a : Int), (b : Int), (d : Int)] := by
                        obtain ⟨e1, e2, e3⟩ := HQ3.out
                        rw [← e1, ← e2, ← e3]
                        rfl
                      rw [e3]
                      simp only [List.mem_cons, List.not_mem_nil, or_false]
                      omega
                  go_wp2_with fail
                  refine (two_flying HTd.out (m := 0) hz0).mono ?_
                  rintro e we ⟨rfl, rfl⟩
                  go_wp2_with fail
                  refine (awake_any _).mono ?_
                  rintro e we ⟨rfl, hb⟩
                  have HBe := Lib.hid ((HBW.out _ _ _ HTd.out).trans (hb.mono (HBW.out _ _ _ HTd.out).size))
                  clear hb
                  go_wp2_with fail
                  go_ret
                  exact ⟨rfl, HBe.out⟩)
end Go.Proofs.Ytndanonhkjgmhaa

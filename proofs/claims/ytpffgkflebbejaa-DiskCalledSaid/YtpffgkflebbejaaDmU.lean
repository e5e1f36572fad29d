/-
  Texts, and numbers, held against one another. No statement of the seat is proved here.
-/
import Derived.Test.YtpffgkflebbejaaDmT
namespace Go.Proofs.Ytpffgkflebbejaa
open Go.RowKit Go.Maps

theorem Fr.drewN (F : Nat → Prop) (w : World) (n : Nat) : Fr F w (w.drewN n) := ⟨rfl, rfl, rfl, Nat.le_refl _, fun _ _ _ => rfl⟩
set_option maxHeartbeats 4000000 in
set_option maxRecDepth 100000 in
theorem texts_any {w : World} {B1 B2 n m : Nat} {v1 v2 : Value} {xs ys : List (List UInt8)} (h1 : w.ownsRow B1 9 1 v1 n (svs xs)) (h2 : w.ownsRow B2 9 1 v2 m (svs ys)) (hn : n ≤ 1000) (hm : m ≤ 1000) :
    Calls Try.prog 18 #[v1, v2] w fun e w' => e = .returned (.bool (decide (xs = ys))) ∧ Fr No w w' := by
  have hx : xs.length = n := by have := h1.1; rw [svs_length] at this; omega
  have hy : ys.length = m := by have := h2.1; rw [svs_length] at this; omega
  obtain ⟨A1, c1, rfl⟩ : ∃ A c, v1 = .slice A n c := by
    rcases h1.2 with ⟨rfl, e⟩ | ⟨g, cap, cur, rfl, _⟩
    · exact ⟨none, 0, by rw [e]⟩
    · exact ⟨_, _, rfl⟩
  obtain ⟨A2, c2, rfl⟩ : ∃ A c, v2 = .slice A m c := by
    rcases h2.2 with ⟨rfl, e⟩ | ⟨g, cap, cur, rfl, _⟩
    · exact ⟨none, 0, by rw [e]⟩
    · exact ⟨_, _, rfl⟩
  have H1 := Lib.hid h1
  have H2 := Lib.hid h2
  have HX := Lib.hid (And.intro hx hy)
  clear h1 h2 hx hy
  by_cases hnm : n = m
  · subst hnm
    go_enter Try.func18, Try.ntmps18
    go_wp2_with fail
    go_loopw [5, 6] (fun vs vi wr => ∃ (i : Nat) (b : Bool), i ≤ n ∧ vs = .bool b ∧ vi = .int .i64 (i : Int) ∧ Fr No w wr ∧ (b = true → xs.take i = ys.take i) ∧ (b = false → xs ≠ ys)) (fun vs vi _ => n - (intOf vi).toNat)
    case atStart => exact ⟨0, true, Nat.zero_le _, rfl, rfl, Fr.refl _ _, fun _ => rfl, fun h => by cases h⟩
    case round =>
      obtain ⟨i, b, hi, rfl, rfl, hf, ht, hne⟩ := hrel
      have HF := Lib.hid hf
      clear hf
      cases b with
      | false =>
        have HQ : Hid (decide (xs = ys) = false) := by show _ = _; rw [decide_eq_false_iff_not]; exact hne rfl
        clear ht hne
        go_wp2_with fail
        go_ret
        exact ⟨by rw [HQ.out]; rfl, HF.out⟩
      | true =>
        by_cases hil : i < n
        · obtain ⟨x, hxi⟩ : ∃ x, xs[i]? = some x := ⟨_, List.getElem?_eq_getElem (by rw [HX.out.1]; exact hil)⟩
          obtain ⟨y, hyi⟩ : ∃ y, ys[i]? = some y := ⟨_, List.getElem?_eq_getElem (by rw [HX.out.2]; exact hil)⟩
          obtain ⟨G, rfl⟩ : ∃ G, A1 = some ⟨G, 0, none⟩ := by
            rcases H1.out.2 with ⟨e, e0⟩ | ⟨G, cap, cur, e, _⟩
            · omega
            · injection e with e; exact ⟨G, e⟩
          obtain ⟨G2, rfl⟩ : ∃ G, A2 = some ⟨G, 0, none⟩ := by
            rcases H2.out.2 with ⟨e, e0⟩ | ⟨G, cap, cur, e, _⟩
            · omega
            · injection e with e; exact ⟨G, e⟩
          have hg1 := H1.out.cells (g := G) rfl i (.string ⟨x.toArray⟩) (svs_at hxi)
          have hg2 := H2.out.cells (g := G2) rfl i (.string ⟨y.toArray⟩) (svs_at hyi)
          rw [Addr.add_lit, Nat.zero_add] at hg1 hg2
          have hw1 := HF.out.cell hg1 (fun e => e)
          have hw2 := HF.out.cell hg2 (fun e => e)
          have hwk : IntKind.i64.wrap ((i : Int) + 1) = ((i + 1 : Nat) : Int) := by
            rw [show ((i : Int) + 1) = ((i + 1 : Nat) : Int) by omega]
            exact IntWalk.i64_in _ (by omega)
          clear hg1 hg2
          go_wp2_with fail
          go_quiet (fail)
          have HF2 := Lib.hid (HF.out.no_trans (Fr.drewN No wr nq))
          have htx : xs.take (i + 1) = xs.take i ++ [x] := by rw [List.take_add_one, hxi]; simp
          have hty : ys.take (i + 1) = ys.take i ++ [y] := by rw [List.take_add_one, hyi]; simp
          have HR := Lib.hid (show ((x == y) = true → xs.take (i + 1) = ys.take (i + 1)) ∧ ((x == y) = false → xs ≠ ys) by
            refine ⟨fun h => ?_, fun h => ?_⟩
            · rw [htx, hty, ht (by simp), eq_of_beq h]
            · intro e
              subst e
              rw [hxi] at hyi
              cases hyi
              simp at h)
          clear ht hne htx hty
          go_wp2_with fail
          go_roundw
          case rel => exact ⟨i + 1, x == y, by omega, by first | rfl | go_num, by go_num, HF2.out, HR.out.1, HR.out.2⟩
          case measure => simp [intOf]; omega
        · have hie : i = n := by omega
          subst hie
          have HQ : Hid (decide (xs = ys) = true) := by
            show _ = _
            rw [decide_eq_true_eq]
            have := ht rfl
            rw [List.take_of_length_le (by have := HX.out.1; omega), List.take_of_length_le (by have := HX.out.2; omega)] at this
            exact this
          clear ht hne
          go_wp2_with fail
          go_ret
          exact ⟨by rw [HQ.out]; rfl, HF.out⟩
  · have hd : ((n : Int) == (m : Int)) = false := by rw [beq_eq_false_iff_ne]; omega
    have HQ : Hid (decide (xs = ys) = false) := by
      show _ = _
      rw [decide_eq_false_iff_not]
      intro e
      have h1 := HX.out.1
      have h2 := HX.out.2
      rw [e] at h1
      omega
    go_enter Try.func18, Try.ntmps18
    go_wp2_with fail
    go_loopw [5, 6] (fun vs vi wr => vs = .bool false ∧ vi = .int .i64 0 ∧ wr = w) (fun vs vi _ => 0)
    case atStart => exact ⟨by first | rfl | rw [hd], rfl, rfl⟩
    case round =>
      obtain ⟨rfl, rfl, rfl⟩ := hrel
      go_wp2_with fail
      go_ret
      exact ⟨by rw [HQ.out]; rfl, Fr.refl _ _⟩
set_option maxRecDepth 100000 in
theorem ivs_at {l : List Nat} {j : Nat} {x : Nat} (h : l[j]? = some x) : (ivs l)[j]? = some (.int .i64 (x : Int)) := by
  unfold ivs
  rw [List.getElem?_map, h]
  rfl
set_option maxHeartbeats 4000000 in
set_option maxRecDepth 100000 in
theorem ints_any {w : World} {B1 B2 n m : Nat} {v1 v2 : Value} {xs ys : List Nat} (h1 : w.ownsRow B1 3 1 v1 n (ivs xs)) (h2 : w.ownsRow B2 3 1 v2 m (ivs ys)) (hn : n ≤ 1000) (hm : m ≤ 1000) :
    Calls Try.prog 36 #[v1, v2] w fun e w' => e = .returned (.bool (decide (xs = ys))) ∧ Fr No w w' := by
  have hx : xs.length = n := by have := h1.1; rw [ivs_length] at this; omega
  have hy : ys.length = m := by have := h2.1; rw [ivs_length] at this; omega
  obtain ⟨A1, c1, rfl⟩ : ∃ A c, v1 = .slice A n c := by
    rcases h1.2 with ⟨rfl, e⟩ | ⟨g, cap, cur, rfl, _⟩
    · exact ⟨none, 0, by rw [e]⟩
    · exact ⟨_, _, rfl⟩
  obtain ⟨A2, c2, rfl⟩ : ∃ A c, v2 = .slice A m c := by
    rcases h2.2 with ⟨rfl, e⟩ | ⟨g, cap, cur, rfl, _⟩
    · exact ⟨none, 0, by rw [e]⟩
    · exact ⟨_, _, rfl⟩
  have H1 := Lib.hid h1
  have H2 := Lib.hid h2
  have HX := Lib.hid (And.intro hx hy)
  clear h1 h2 hx hy
  by_cases hnm : n = m
  · subst hnm
    go_enter Try.func36, Try.ntmps36
    go_wp2_with fail
    go_loopw [5, 6] (fun vs vi wr => ∃ (i : Nat) (b : Bool), i ≤ n ∧ vs = .int .i64 (if b then 0 else 1) ∧ vi = .int .i64 (i : Int) ∧ Fr No w wr ∧ (b = true → xs.take i = ys.take i) ∧ (b = false → xs ≠ ys)) (fun vs vi _ => n - (intOf vi).toNat)
    case atStart => exact ⟨0, true, Nat.zero_le _, rfl, rfl, Fr.refl _ _, fun _ => rfl, fun h => by cases h⟩
    case round =>
      obtain ⟨i, b, hi, rfl, rfl, hf, ht, hne⟩ := hrel
      have HF := Lib.hid hf
      clear hf
      cases b with
      | false =>
        have HQ : Hid (decide (xs = ys) = false) := by show _ = _; rw [decide_eq_false_iff_not]; exact hne rfl
        clear ht hne
        go_wp2_with fail
        go_ret
        exact ⟨by rw [HQ.out]; rfl, HF.out⟩
      | true =>
        by_cases hil : i < n
        · obtain ⟨x, hxi⟩ : ∃ x, xs[i]? = some x := ⟨_, List.getElem?_eq_getElem (by rw [HX.out.1]; exact hil)⟩
          obtain ⟨y, hyi⟩ : ∃ y, ys[i]? = some y := ⟨_, List.getElem?_eq_getElem (by rw [HX.out.2]; exact hil)⟩
          obtain ⟨G, rfl⟩ : ∃ G, A1 = some ⟨G, 0, none⟩ := by
            rcases H1.out.2 with ⟨e, e0⟩ | ⟨G, cap, cur, e, _⟩
            · omega
            · injection e with e; exact ⟨G, e⟩
          obtain ⟨G2, rfl⟩ : ∃ G, A2 = some ⟨G, 0, none⟩ := by
            rcases H2.out.2 with ⟨e, e0⟩ | ⟨G, cap, cur, e, _⟩
            · omega
            · injection e with e; exact ⟨G, e⟩
          have hg1 := H1.out.cells (g := G) rfl i (.int .i64 (x : Int)) (ivs_at hxi)
          have hg2 := H2.out.cells (g := G2) rfl i (.int .i64 (y : Int)) (ivs_at hyi)
          rw [Addr.add_lit, Nat.zero_add] at hg1 hg2
          have hw1 := HF.out.cell hg1 (fun e => e)
          have hw2 := HF.out.cell hg2 (fun e => e)
          have hwk : IntKind.i64.wrap ((i : Int) + 1) = ((i + 1 : Nat) : Int) := by
            rw [show ((i : Int) + 1) = ((i + 1 : Nat) : Int) by omega]
            exact IntWalk.i64_in _ (by omega)
          clear hg1 hg2
          go_wp2_with fail
          go_quiet (fail)
          have HF2 := Lib.hid (HF.out.no_trans (Fr.drewN No wr nq))
          have htx : xs.take (i + 1) = xs.take i ++ [x] := by rw [List.take_add_one, hxi]; simp
          have hty : ys.take (i + 1) = ys.take i ++ [y] := by rw [List.take_add_one, hyi]; simp
          by_cases hxy : x = y
          · subst hxy
            have hb : ((x : Int) != (x : Int)) = false := by simp
            have HR := Lib.hid (show xs.take (i + 1) = ys.take (i + 1) by rw [htx, hty, ht (by simp)])
            clear ht hne htx hty
            go_wp2_with fail
            go_roundw
            case rel => exact ⟨i + 1, true, by omega, by first | rfl | go_num, by go_num, HF2.out, fun _ => HR.out, fun h => by cases h⟩
            case measure => simp [intOf]; omega
          · have hb : ((x : Int) != (y : Int)) = true := by rw [bne_iff_ne]; omega
            have HR := Lib.hid (show xs ≠ ys by
              intro e
              subst e
              rw [hxi] at hyi
              cases hyi
              exact hxy rfl)
            clear ht hne htx hty
            go_wp2_with fail
            go_roundw
            case rel => exact ⟨i + 1, false, by omega, by first | rfl | go_num, by go_num, HF2.out, (fun h => by cases h), fun _ => HR.out⟩
            case measure => simp [intOf]; omega
        · have hie : i = n := by omega
          subst hie
          have HQ : Hid (decide (xs = ys) = true) := by
            show _ = _
            rw [decide_eq_true_eq]
            have := ht rfl
            rw [List.take_of_length_le (by have := HX.out.1; omega), List.take_of_length_le (by have := HX.out.2; omega)] at this
            exact this
          clear ht hne
          go_wp2_with fail
          go_ret
          exact ⟨by rw [HQ.out]; rfl, HF.out⟩
  · have hd : ((n : Int) - (m : Int) == 0) = false := by rw [beq_eq_false_iff_ne]; omega
    have hw : IntKind.i64.wrap ((n : Int) - (m : Int)) = (n : Int) - (m : Int) := IntWalk.i64_in _ (by omega)
    have HQ : Hid (decide (xs = ys) = false) := by
      show _ = _
      rw [decide_eq_false_iff_not]
      intro e
      have h1 := HX.out.1
      have h2 := HX.out.2
      rw [e] at h1
      omega
    go_enter Try.func36, Try.ntmps36
    go_wp2_with fail
    go_loopw [5, 6] (fun vs vi wr => vs = .int .i64 ((n : Int) - (m : Int)) ∧ vi = .int .i64 0 ∧ wr = w) (fun vs vi _ => 0)
    case atStart => exact ⟨by first | rfl | rw [hw], rfl, rfl⟩
    case round =>
      obtain ⟨rfl, rfl, rfl⟩ := hrel
      go_wp2_with fail
      go_ret
      exact ⟨by rw [HQ.out]; rfl, Fr.refl _ _⟩

set_option maxHeartbeats 4000000 in
set_option maxRecDepth 100000 in
theorem same_any {w : World} {B1 B2 B3 B4 n m : Nat} {a1 a2 a3 b1 b2 b3 : Value} {ns1 bs1 ns2 bs2 : List (List UInt8)} {es1 es2 : List Nat} (h1 : Sho B3 B1 w a1 a2 a3 n ns1 bs1 es1) (h2 : Sho B4 B2 w b1 b2 b3 m ns2 bs2 es2) (hn : n ≤ 1000) (hm : m ≤ 1000) :
    Calls Try.prog 15 #[.agg #[a1, a2, a3], .agg #[b1, b2, b3]] w fun e w' => e = .returned (.bool (decide (ns1 = ns2) && (decide (bs1 = bs2) && decide (es1 = es2)))) ∧ Fr No w w' := by
  obtain ⟨A1, x1, c1, rfl⟩ : ∃ A x c, a1 = .slice A x c := by
    rcases h1.o1.2 with ⟨rfl, e⟩ | ⟨g, cap, cur, rfl, _⟩ <;> exact ⟨_, _, _, rfl⟩
  obtain ⟨A2, x2, c2, rfl⟩ : ∃ A x c, a2 = .slice A x c := by
    rcases h1.o2.2 with ⟨rfl, e⟩ | ⟨g, cap, cur, rfl, _⟩ <;> exact ⟨_, _, _, rfl⟩
  obtain ⟨A3, x3, c3, rfl⟩ : ∃ A x c, a3 = .slice A x c := by
    rcases h1.o3.2 with ⟨rfl, e⟩ | ⟨g, cap, cur, rfl, _⟩ <;> exact ⟨_, _, _, rfl⟩
  obtain ⟨A4, x4, c4, rfl⟩ : ∃ A x c, b1 = .slice A x c := by
    rcases h2.o1.2 with ⟨rfl, e⟩ | ⟨g, cap, cur, rfl, _⟩ <;> exact ⟨_, _, _, rfl⟩
  obtain ⟨A5, x5, c5, rfl⟩ : ∃ A x c, b2 = .slice A x c := by
    rcases h2.o2.2 with ⟨rfl, e⟩ | ⟨g, cap, cur, rfl, _⟩ <;> exact ⟨_, _, _, rfl⟩
  obtain ⟨A6, x6, c6, rfl⟩ : ∃ A x c, b3 = .slice A x c := by
    rcases h2.o3.2 with ⟨rfl, e⟩ | ⟨g, cap, cur, rfl, _⟩ <;> exact ⟨_, _, _, rfl⟩
  have HT1 := Lib.hid (fun W (hf : Fr No w W) => texts_any (own_keep h1.o1 (fun k hk => hf.block k (h1.o1.lt k hk).2 (fun e => e))) (own_keep h2.o1 (fun k hk => hf.block k (h2.o1.lt k hk).2 (fun e => e))) hn hm)
  have HT2 := Lib.hid (fun W (hf : Fr No w W) => texts_any (own_keep h1.o2 (fun k hk => hf.block k (h1.o2.lt k hk).2 (fun e => e))) (own_keep h2.o2 (fun k hk => hf.block k (h2.o2.lt k hk).2 (fun e => e))) hn hm)
  have HT3 := Lib.hid (fun W (hf : Fr No w W) => ints_any (own_keep h1.o3 (fun k hk => hf.block k (h1.o3.lt k hk).2 (fun e => e))) (own_keep h2.o3 (fun k hk => hf.block k (h2.o3.lt k hk).2 (fun e => e))) hn hm)
  clear h1 h2
  obtain ⟨p1, HP1⟩ : ∃ p, Hid (decide (ns1 = ns2) = p) := ⟨_, rfl⟩
  obtain ⟨p2, HP2⟩ : ∃ p, Hid (decide (bs1 = bs2) = p) := ⟨_, rfl⟩
  obtain ⟨p3, HP3⟩ : ∃ p, Hid (decide (es1 = es2) = p) := ⟨_, rfl⟩
  rw [HP1.out] at HT1 ⊢
  rw [HP2.out] at HT2 ⊢
  rw [HP3.out] at HT3 ⊢
  have hfr : ∀ v, Fr No w (w.alloc v) := fun v => Fr.alloc No w v
  go_enter Try.func15, Try.ntmps15
  go_wp2_with fail
  obtain ⟨x, HX⟩ : ∃ x, Hid ((w.alloc (.cells #[.slice A1 x1 c1, .slice A2 x2 c2, .slice A3 x3 c3] 33)).alloc (.cells #[.slice A4 x4 c4, .slice A5 x5 c5, .slice A6 x6 c6] 33) = x) := ⟨_, rfl⟩
  rw [HX.out]
  have HF0 := Lib.hid (show Fr No w x by rw [← HX.out]; exact (Fr.alloc No w _).no_trans (Fr.alloc No _ _))
  have hb1 : x.heap[w.heap.size]? = some (.cells #[.slice A1 x1 c1, .slice A2 x2 c2, .slice A3 x3 c3] 33 (0, 0)) := by
    rw [← HX.out]
    exact (Below.heap_alloc _ _ _ (by simp)).trans (heap_alloc_new w _)
  have hb2 : x.heap[w.heap.size + 1]? = some (.cells #[.slice A4 x4 c4, .slice A5 x5 c5, .slice A6 x6 c6] 33 (0, 0)) := by
    rw [← HX.out]
    exact heap2 w _ _
  have k2 : x.cell? ⟨w.heap.size, 1, none⟩ = some (.slice A2 x2 c2) := by unfold World.cell?; rw [hb1]; rfl
  have k3 : x.cell? ⟨w.heap.size, 2, none⟩ = some (.slice A3 x3 c3) := by unfold World.cell?; rw [hb1]; rfl
  have k5 : x.cell? ⟨w.heap.size + 1, 1, none⟩ = some (.slice A5 x5 c5) := by unfold World.cell?; rw [hb2]; rfl
  have k6 : x.cell? ⟨w.heap.size + 1, 2, none⟩ = some (.slice A6 x6 c6) := by unfold World.cell?; rw [hb2]; rfl
  clear hb1 hb2 hfr
  refine (HT1.out _ HF0.out).mono ?_
  rintro e w1 ⟨rfl, hf1⟩
  have k21 := hf1.cell k2 (fun e => e)
  have k31 := hf1.cell k3 (fun e => e)
  have k51 := hf1.cell k5 (fun e => e)
  have k61 := hf1.cell k6 (fun e => e)
  have HF1 := Lib.hid (HF0.out.no_trans hf1)
  clear hf1 k2 k3 k5 k6
  cases p1 with
  | false =>
    go_wp2_with fail
    go_ret
    exact ⟨rfl, HF1.out⟩
  | true =>
    go_wp2_with fail
    refine (HT2.out _ HF1.out).mono ?_
    rintro e w2 ⟨rfl, hf2⟩
    have k32 := hf2.cell k31 (fun e => e)
    have k62 := hf2.cell k61 (fun e => e)
    have HF2 := Lib.hid (HF1.out.no_trans hf2)
    clear hf2 k21 k31 k51 k61
    cases p2 with
    | false =>
      go_wp2_with fail
      go_ret
      exact ⟨rfl, HF2.out⟩
    | true =>
      go_wp2_with fail
      refine (HT3.out _ HF2.out).mono ?_
      rintro e w3 ⟨rfl, hf3⟩
      have HF3 := Lib.hid (HF2.out.no_trans hf3)
      clear hf3
      go_wp2_with fail
      go_ret
      exact ⟨rfl, HF3.out⟩
end Go.Proofs.Ytpffgkflebbejaa

/-
  Pick; what Put answers in two parts; the walk of BagParts. No statement of the seat is proved here.
-/
import Derived.Test.YtegoebkdcogggaaDoorBgP
import Derived.BigQuiet
namespace Go.Proofs.YtegoebkdcogggaaDoor
open Go.RowKit Go.Deep

/-- Any number as one of 0 to n - 1. -/
def pick (x : Int) (n : Nat) : Nat := (x % (n : Int)).toNat
theorem pick_lt (x : Int) {n : Nat} (h : 0 < n) : pick x n < n := by
  unfold pick
  have := Int.emod_nonneg x (show (n : Int) ≠ 0 by omega)
  have := Int.emod_lt_of_pos x (show (0 : Int) < n by omega)
  omega
theorem pick_cases (x : Int) {n : Nat} (h : 0 < n) : (x.tmod (n : Int) < 0 ∧ x.tmod (n : Int) + (n : Int) = (pick x n : Int)) ∨ (0 ≤ x.tmod (n : Int) ∧ x.tmod (n : Int) = (pick x n : Int)) := by
  have h1 := Int.emod_nonneg x (show (n : Int) ≠ 0 by omega)
  have h2 := Int.emod_lt_of_pos x (show (0 : Int) < n by omega)
  have h3 := Int.tmod_eq_emod (a := x) (b := (n : Int))
  unfold pick
  rw [h3]
  split <;> omega
set_option maxRecDepth 100000 in
theorem pick_any (w : World) (x : Int) (n : Nat) (h : 0 < n) (hn : n ≤ 1000000) :
    Calls Tryd.prog 19 #[.int .i64 x, .int .i64 (n : Int)] w fun e w' => e = .returned (.int .i64 (pick x n : Int)) ∧ w' = w := by
  have hc := pick_cases x h
  have hl := pick_lt x h
  have hz : ¬ ((n : Int) < 1) := by omega
  have hz2 : (n : Int) ≠ 0 := by omega
  rcases hc with ⟨hc1, hc2⟩ | ⟨hc1, hc2⟩
  · have hw : IntKind.i64.wrap (x.tmod (n : Int)) = x.tmod (n : Int) := IntWalk.i64_in _ (by omega)
    have hw2 : IntKind.i64.wrap (x.tmod (n : Int) + (n : Int)) = (pick x n : Int) := by
      rw [hc2]
      exact IntWalk.i64_in _ (by omega)
    clear hc2 hl h
    go_enter Tryd.func19, Tryd.ntmps19
    go_wp2_with fail
    go_ret
    exact ⟨rfl, rfl⟩
  · have hw : IntKind.i64.wrap (x.tmod (n : Int)) = (pick x n : Int) := by
      rw [hc2]
      exact IntWalk.i64_in _ (by omega)
    have hc3 : ¬ (x.tmod (n : Int) < 0) := by omega
    rw [hc2] at hc3
    go_enter Tryd.func19, Tryd.ntmps19
    go_wp2_with fail
    go_ret
    exact ⟨rfl, rfl⟩
section
variable {i : Nat} {a b : Int} {l : List (Nat × Int)}
theorem PutL_ok (hr : rgt l = true) (ha : 1 ≤ a) : 0 ≤ (PutL i l a).2 ∧ (PutL i l a).2 ≤ a ∧ (PutL i l a).1.length = l.length ∧ rgt (PutL i l a).1 = true := by
  unfold PutL
  rw [if_neg (by omega)]
  split
  · exact ⟨by dsimp only; omega, by dsimp only; omega, rfl, hr⟩
  · rename_i h
    have hs := stI_le i
    have hpos : 0 < stI i := by
      have : ¬ stI i = 0 := fun e => h (.inr e)
      omega
    obtain ⟨h1, h2⟩ := putL_left (i := i) (st := stI i) (n := a) (l := l) rfl (.inl hpos) (by omega) hr
    exact ⟨h1, h2, putL_len, putL_rgt rfl (.inl hpos) hr⟩
theorem PutL_byI (hi : i < 256) (hb : By l) : By (PutL i l a).1 := by
  unfold PutL
  split
  · exact hb
  · split
    · exact hb
    · exact putL_by hi hb
theorem PutL_parts (hr : rgt l = true) (ha : 1 ≤ a) (hb : 1 ≤ b) : (PutL i l (a + b)).1 = (PutL i (PutL i l a).1 b).1 ∧ (PutL i l (a + b)).2 = (PutL i l a).2 + (PutL i (PutL i l a).1 b).2 := by
  have h2 := (PutL_ok (i := i) hr ha).2.2.2
  by_cases h : stI i = 0
  · have e : ∀ (L : List (Nat × Int)) (n : Int), 1 ≤ n → PutL i L n = (L, n) := fun L n hn => by
      unfold PutL
      rw [if_neg (by omega), if_pos (.inr h)]
    rw [e l a ha, e l (a + b) (by omega)]
    dsimp only
    rw [e l b hb]
    exact ⟨rfl, rfl⟩
  · have e : ∀ (L : List (Nat × Int)) (n : Int), rgt L = true → 1 ≤ n → PutL i L n = putL i (stI i) L n := fun L n hL hn => by
      unfold PutL
      rw [if_neg (by omega), if_neg (by rw [hL]; simp [h])]
    rw [e _ b h2 hb, e l a hr ha, e l (a + b) hr (by omega)]
    have hs := stI_le i
    exact putL_parts rfl (by omega) hr (by omega) (by omega)
end
section
variable {w : World} {A : Option Addr} {n c : Nat} {l : List (Nat × Int)}
set_option maxRecDepth 100000 in
set_option maxHeartbeats 1000000 in
theorem parts_walk (ht : ItT w) (hx : RdS w A n l) (hb : By l) (c : Nat) (i : Nat) (hi : i < 256) (x0 x1 : Int) : Calls Tryd.prog 5 #[.slice A n c, .int .u8 (i : Int), .agg #[.int .i64 x0, .int .i64 x1]] w fun e w' => e = .returned (.bool true) ∧ Below w.heap.size w w' := by
  have HA := Lib.hid (awake_w ht)
  have HRX := Lib.hid (fun W (hW : Fr No w W) => right_law (ht.no hW) (hx.no hW) hb c)
  obtain ⟨p, hp, hp2⟩ : ∃ p, pick x0 100000 = p ∧ p < 100000 := ⟨_, rfl, pick_lt x0 (by omega)⟩
  obtain ⟨q, hq, hq2⟩ : ∃ q, pick x1 100000 = q ∧ q < 100000 := ⟨_, rfl, pick_lt x1 (by omega)⟩
  have HP0 := Lib.hid (fun W => pick_any W x0 100000 (by omega) (by omega))
  have HP1 := Lib.hid (fun W => pick_any W x1 100000 (by omega) (by omega))
  rw [hp] at HP0
  rw [hq] at HP1
  obtain ⟨a, ha⟩ : ∃ a : Int, 1 + (p : Int) = a := ⟨_, rfl⟩
  obtain ⟨b, hb'⟩ : ∃ b : Int, 1 + (q : Int) = b := ⟨_, rfl⟩
  have hwa : IntKind.i64.wrap (1 + (p : Int)) = a := by rw [← ha]; exact IntWalk.i64_in _ (by omega)
  have hwb : IntKind.i64.wrap (1 + (q : Int)) = b := by rw [← hb']; exact IntWalk.i64_in _ (by omega)
  have hab : 1 ≤ a ∧ a ≤ 100000 ∧ 1 ≤ b ∧ b ≤ 100000 := by omega
  have HAB := Lib.hid hab
  have hws : IntKind.i64.wrap (a + b) = a + b := IntWalk.i64_in _ (by omega)
  have HT := Lib.hid ht
  have HX := Lib.hid hx
  have HBY := Lib.hid hb
  have HF0 := Lib.hid (Fr.alloc No w (.cells #[.int .i64 x0, .int .i64 x1] 43))
  clear ht hx hb ha hb' hab hp hq hp2 hq2
  go_enter Tryd.func5, Tryd.ntmps5
  go_wp2_with fail
  go_quiet (first
    | (go_at_call_of 19 (Value.int IntKind.i64 x0); exact Calls.quiet_of_same (HP0.out _))
    | (go_at_call_of 19 (Value.int IntKind.i64 x1); exact Calls.quiet_of_same (HP1.out _)))
  have HF0' := Lib.hid (HF0.out.no_trans (Fr.drewN No _ nq))
  clear HP0 HP1 HF0
  go_wp2_with fail
  refine (HRX.out _ HF0'.out).mono ?_
  rintro e w1 ⟨rfl, hf⟩
  have HF1 := Lib.hid (HF0'.out.no_trans hf)
  clear hf HRX HF0'
  cases hr : (decide (n ≤ 300) && rgt l) with
  | false =>
    clear hr
    go_wp2_with fail
    refine (HA.out _ HF1.out).mono ?_
    rintro e w2 ⟨rfl, hf⟩
    go_wp2_with fail
    go_ret
    exact ⟨rfl, hf.noBelow⟩
  | true =>
    simp only [Bool.and_eq_true, decide_eq_true_eq] at hr
    obtain ⟨hn, hr⟩ := hr
    obtain ⟨b1, b2, b3, b4⟩ := HAB.out
    obtain ⟨s, hs⟩ : ∃ s, a + b = s := ⟨_, rfl⟩
    have hpp := PutL_parts (i := i) hr b1 b3
    have hpk := PutL_ok (i := i) (a := a + b) hr (by omega)
    have hpa := PutL_ok (i := i) hr b1
    have hpb := PutL_ok (i := i) hpa.2.2.2 b3
    have hsp := Spend_parts (i := i) hr b1 b3
    rw [hs] at hpp hpk hsp
    have hws' : IntKind.i64.wrap (a + b) = s := by rw [hws, hs]
    clear hws
    have HB2 := Lib.hid (PutL_byI (a := a) hi HBY.out)
    have HI := Lib.hid hi
    have HN := Lib.hid (And.intro hn HX.out.1)
    obtain ⟨P2, hP2⟩ : ∃ P2, PutL i l a = P2 := ⟨_, rfl⟩
    rw [hP2] at hpp hpa hpb HB2
    obtain ⟨P3, hP3⟩ : ∃ P3, PutL i P2.1 b = P3 := ⟨_, rfl⟩
    rw [hP3] at hpp hpb
    obtain ⟨P1, hP1⟩ : ∃ P1, PutL i l s = P1 := ⟨_, rfl⟩
    rw [hP1] at hpp hpk
    have C1 := Lib.hid (Put_any (HT.out.no HF1.out) (HX.out.no HF1.out) HBY.out c HI.out (n := n) (m := s) (by omega) (by omega))
    rw [hP1] at C1
    obtain ⟨y1, z1⟩ := P1
    obtain ⟨y2, z2⟩ := P2
    obtain ⟨y3, z3⟩ := P3
    dsimp only at hpp hpk hpa hpb C1 HB2 hP3
    have hwz : IntKind.i64.wrap (z2 + z3) = z1 := by rw [← hpp.2]; exact IntWalk.i64_in _ (by omega)
    have HK := Lib.hid (And.intro hpp (And.intro hpk (And.intro hpa hpb)))
    have HSP := Lib.hid hsp
    have HSS := Lib.hid (show s ≤ 9223372036854775807 by omega)
    have HP2 := Lib.hid hP2
    have HP3 := Lib.hid hP3
    clear hpp hpk hpa hpb hsp hP1 hP2 hP3 hs b1 b2 b3 b4 hn hr hi
    go_wp2_with fail
    refine C1.out.mono ?_
    rintro e w2 ⟨A1, c1, rfl, ho, hf⟩
    have HF2 := Lib.hid (HF1.out.no_trans hf)
    have HR1 := Lib.hid ho.rd
    have C2 := Lib.hid (Put_any (HT.out.no HF2.out) (HX.out.no HF2.out) HBY.out c HI.out (n := n) (m := a) (by have := HN.out; omega) (by have := HAB.out; omega))
    rw [HP2.out] at C2
    dsimp only at C2
    clear C1 ho hf HF1 HP2
    go_wp2_with fail
    refine C2.out.mono ?_
    rintro e w3 ⟨A2, c2, rfl, ho, hf⟩
    have HF3 := Lib.hid (HF2.out.no_trans hf)
    have HR1' := Lib.hid (HR1.out.no hf)
    have C3 := Lib.hid (Put_any (HT.out.no HF3.out) ho.rd HB2.out c2 HI.out (n := n) (m := b) (by have := HN.out; omega) (by have := HAB.out; omega))
    rw [HP3.out] at C3
    dsimp only at C3
    clear C2 ho hf HF2 HR1 HP3
    go_wp2_with fail
    refine C3.out.mono ?_
    rintro e w4 ⟨A3, c3, rfl, ho, hf⟩
    have HF4 := Lib.hid (HF3.out.no_trans hf)
    have HR2 := Lib.hid (HR1'.out.no hf)
    have HR3 := Lib.hid ho.rd
    rw [← HK.out.1.1] at HR3
    clear C3 ho hf HF3 HR1'
    have C4 := Lib.hid (same_yes HR2.out HR3.out c1 c3 (by have := HN.out; omega))
    go_wp2_with fail
    refine C4.out.mono ?_
    rintro e w5 ⟨rfl, hf⟩
    have HF5 := Lib.hid (HF4.out.no_trans hf)
    clear C4 HR2 HR3 hf HF4
    have HLU := Lib.hid (And.intro (SpendL_len (l := l) (i := i) (m := a)) (SpendL_by (l := l) (i := i) (m := a) HBY.out))
    have HSA : Hid (∀ W, Fr No w W → ∀ m : Int, m ≤ 9223372036854775807 → ∀ e u, SpendE l i m = e → SpendL l i m = u → Calls Tryd.prog 13 #[.slice A n c, .int .u8 (i : Int), .int .i64 m] W fun r w' => ∃ A' c', r = .returned (.tuple #[.slice A' n c', .int .i64 e]) ∧ OwS W.heap.size w' (.slice A' n c') u ∧ Fr No W w') := by
      rintro W hW m hm e u rfl rfl
      exact Spend_any (HT.out.no hW) (HX.out.no hW) HBY.out c (by have := HN.out; omega) hm
    obtain ⟨e1, he1⟩ : ∃ e1, SpendE l i s = e1 := ⟨_, rfl⟩
    obtain ⟨e2, he2⟩ : ∃ e2, SpendE l i a = e2 := ⟨_, rfl⟩
    obtain ⟨u1, hu1⟩ : ∃ u1, SpendL l i s = u1 := ⟨_, rfl⟩
    obtain ⟨u2, hu2⟩ : ∃ u2, SpendL l i a = u2 := ⟨_, rfl⟩
    rw [he1, he2, hu1, hu2] at HSP
    rw [hu2] at HLU
    have C5 := Lib.hid (HSA.out _ HF5.out s HSS.out e1 u1 he1 hu1)
    have C6 := Lib.hid (fun W hW => HSA.out W hW a (by have := HAB.out; omega) e2 u2 he2 hu2)
    clear he1 he2 hu1 hu2 HSA
    go_wp2_with fail
    refine C5.out.mono ?_
    rintro e w6 ⟨A4, c4, rfl, ho, hf⟩
    have HF6 := Lib.hid (HF5.out.no_trans hf)
    have HR4 := Lib.hid ho.rd
    clear C5 ho hf HF5
    go_wp2_with fail
    refine (C6.out _ HF6.out).mono ?_
    rintro e w7 ⟨A5, c5, rfl, ho, hf⟩
    have HF7 := Lib.hid (HF6.out.no_trans hf)
    have HR4' := Lib.hid (HR4.out.no hf)
    have C7 := Lib.hid (Spend_any (HT.out.no HF7.out) ho.rd HLU.out.2 c5 (i := i) (n := n) (m := b) (by have := HN.out; omega) (by have := HAB.out; omega))
    obtain ⟨e3, he3⟩ : ∃ e3, SpendE u2 i b = e3 := ⟨_, rfl⟩
    obtain ⟨u3, hu3⟩ : ∃ u3, SpendL u2 i b = u3 := ⟨_, rfl⟩
    rw [he3, hu3] at C7 HSP
    clear C6 ho hf HF6 HR4 he3 hu3
    go_wp2_with fail
    refine C7.out.mono ?_
    rintro e w8 ⟨A6, c6, rfl, ho, hf⟩
    have HF8 := Lib.hid (HF7.out.no_trans hf)
    have HR5 := Lib.hid (HR4'.out.no hf)
    have HR6 := Lib.hid ho.rd
    clear C7 ho hf HF7 HR4'
    by_cases hz1 : e1 = 0
    · obtain ⟨hz2, hz3⟩ := HSP.out.1.1 hz1
      have hu := HSP.out.2 hz1
      rw [hu] at HR5
      subst hz1 hz2 hz3
      have C8 := Lib.hid (same_yes HR5.out HR6.out c4 c6 (by have := HN.out; omega))
      clear hu HSP HR5 HR6
      go_wp2_with fail
      refine C8.out.mono ?_
      rintro e w9 ⟨rfl, hf⟩
      have HF9 := Lib.hid (HF8.out.no_trans hf)
      clear C8 hf HF8
      go_wp2_with fail
      refine (HA.out _ HF9.out).mono ?_
      rintro e w10 ⟨rfl, hf⟩
      go_wp2_with fail
      go_ret
      exact ⟨rfl, hf.noBelow⟩
    · have q1 : (e1 == 0) = false := by rw [beq_eq_false_iff_ne]; exact hz1
      have h23 : ¬ (e2 = 0 ∧ e3 = 0) := fun h => hz1 (HSP.out.1.2 h)
      clear HSP HR5 HR6
      by_cases hz2 : e2 = 0
      · have q2 : (e2 == 0) = true := by simp [hz2]
        have q3 : (e3 == 0) = false := by rw [beq_eq_false_iff_ne]; exact fun h => h23 ⟨hz2, h⟩
        clear h23
        go_wp2_with fail
        refine (HA.out _ HF8.out).mono ?_
        rintro e w10 ⟨rfl, hf⟩
        go_wp2_with fail
        go_ret
        exact ⟨rfl, hf.noBelow⟩
      · have q2 : (e2 == 0) = false := by rw [beq_eq_false_iff_ne]; exact hz2
        clear h23
        go_wp2_with fail
        refine (HA.out _ HF8.out).mono ?_
        rintro e w10 ⟨rfl, hf⟩
        go_wp2_with fail
        go_ret
        exact ⟨rfl, hf.noBelow⟩
end
end Go.Proofs.YtegoebkdcogggaaDoor

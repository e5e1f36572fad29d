/-
  Columns of the world: the walk of GenColumns. No statement of the seat is proved here.
-/
import Derived.Test.YtcoednijggoeiaaGnE
import Derived.Test.YtcoednijggoeiaaPik
namespace Go.Proofs.Ytcoednijggoeiaa
open Go.RowKit Go.Deep

theorem cellZ_nat (s : W64) {x y : Nat} (hx : x < 128) (hy : y < 128) : cellZ s x y = celN (hgtN s (x / 8)) (mixB s (BitVec.ofNat 64 (y * 128 + x))).toNat y := by
  rw [cellZ_in hx hy]
  rfl
theorem col_air (s : W64) {x y : Nat} (hx : x < 128) (h : y + 1 < hgtN s (x / 8)) : cellZ s x y = 0 := by
  have := hgt_in s (x / 8)
  rw [cellZ_nat s hx (by omega)]
  unfold celN
  rw [if_neg (by omega), if_pos (by omega)]
theorem col_grow (s : W64) {x y : Nat} (hx : x < 128) (h : y + 1 = hgtN s (x / 8)) : cellZ s x y = 4 ∨ cellZ s x y = 3 ∨ cellZ s x y = 0 := by
  have := hgt_in s (x / 8)
  rw [cellZ_nat s hx (by omega)]
  unfold celN
  rw [if_pos h]
  exact grow_in _
theorem col_dirt (s : W64) {x y : Nat} (hx : x < 128) (h : hgtN s (x / 8) ≤ y) (h2 : y < hgtN s (x / 8) + 3) : cellZ s x y = 1 := by
  have := hgt_in s (x / 8)
  rw [cellZ_nat s hx (by omega)]
  unfold celN
  rw [if_neg (by omega), if_neg (by omega), if_pos h2]
theorem col_stone (s : W64) {x y : Nat} (hx : x < 128) (hy : y < 128) (h : hgtN s (x / 8) + 3 ≤ y) : cellZ s x y = 7 ∨ cellZ s x y = 2 := by
  rw [cellZ_nat s hx hy]
  unfold celN
  rw [if_neg (by omega), if_neg (by omega), if_neg (by omega)]
  split
  · exact .inl rfl
  · exact .inr rfl
/-- Where the ground's growth, or the ground, begins. -/
theorem col_top (s : W64) {x : Nat} (hx : x < 128) : ∃ T : Nat, (∀ y, y < T → cellZ s x (y : Int) = 0) ∧ T < 128 ∧ 39 ≤ T ∧ ((T + 1 = hgtN s (x / 8) ∧ cellZ s x T = 4) ∨ (T + 1 = hgtN s (x / 8) ∧ cellZ s x T = 3) ∨ (T = hgtN s (x / 8) ∧ cellZ s x T = 1)) := by
  have hh := hgt_in s (x / 8)
  have hg := col_grow s hx (y := hgtN s (x / 8) - 1) (by omega)
  rcases hg with h | h | h
  · exact ⟨hgtN s (x / 8) - 1, fun y hy => col_air s hx (by omega), by omega, by omega, .inl ⟨by omega, h⟩⟩
  · exact ⟨hgtN s (x / 8) - 1, fun y hy => col_air s hx (by omega), by omega, by omega, .inr (.inl ⟨by omega, h⟩)⟩
  · refine ⟨hgtN s (x / 8), fun y hy => ?_, by omega, by omega, .inr (.inr ⟨rfl, col_dirt s hx (Nat.le_refl _) (by omega)⟩)⟩
    by_cases e : y + 1 < hgtN s (x / 8)
    · exact col_air s hx e
    · rw [show y = hgtN s (x / 8) - 1 by omega]
      exact h
section
variable {w w' : World} {s : W64}
set_option maxRecDepth 100000 in
set_option maxHeartbeats 1600000 in
theorem gcols_walk (s : W64) (col : Int) (w : World) : Calls Try.prog 5 #[u64v s, .int .i64 col] w fun e w' => e = .returned (.bool true) ∧ Fr No w w' := by
  have HP := Lib.hid (fun W => pick_any W col 128 (by decide) (by decide))
  have hx := pick_lt col (n := 128) (by decide)
  generalize pick col 128 = x at *
  have HC := Lib.hid (fun u v W => gcell_any s u v W)
  have HAW := Lib.hid (fun W => gawake_any W)
  obtain ⟨T, hT, hT1, hT2, hT3⟩ := col_top s hx
  have HT := Lib.hid hT
  have HT3 := Lib.hid hT3
  have hh := hgt_in s (x / 8)
  have HD := Lib.hid (fun (u y : Nat) (hu : u < 128) (hux : u / 8 = x / 8) (h : hgtN s (x / 8) ≤ y) (h2 : y < hgtN s (x / 8) + 3) => col_dirt s hu (y := y) (by rw [hux]; exact h) (by rw [hux]; exact h2))
  have HE := Lib.hid (fun (u y : Nat) (hu : u < 128) (hux : u / 8 = x / 8) (hy : y < 128) (h : hgtN s (x / 8) + 3 ≤ y) => col_stone s hu hy (by rw [hux]; exact h))
  clear hT hT3
  obtain ⟨h, hhh⟩ : ∃ h, hgtN s (x / 8) = h := ⟨_, rfl⟩
  rw [hhh] at HT3 hh HD HE
  clear hhh
  obtain ⟨f, hf⟩ : ∃ f : Int → Int → Nat, cellZ s = f := ⟨_, rfl⟩
  rw [hf] at HT HT3 HD HE
  unfold u64v at *
  have HC2 : Hid (∀ u v W, Calls Try.prog 9 #[.int .u64 (s.toNat : Int), .int .i64 u, .int .i64 v] W fun e w' => e = .returned (.int .u8 (f u v : Int)) ∧ Fr No W w') := Lib.hid (fun u v W => by rw [← hf]; exact HC.out u v W)
  clear HC hf
  obtain ⟨sz, hsz⟩ : ∃ z : Int, (s.toNat : Int) = z := ⟨_, rfl⟩
  rw [hsz] at HC2 ⊢
  clear hsz
  go_enter Try.func5, Try.ntmps5
  go_wp2_with fail
  refine (HP.out _).mono ?_
  rintro e w1 ⟨rfl, rfl⟩
  go_wp2_with fail
  go_loopw [6] (fun v6 wr => ∃ y : Nat, y ≤ T ∧ v6 = .int .i64 (y : Int) ∧ Fr No w1 wr) (fun v6 _ => T - (intOf v6).toNat)
  case atStart => exact ⟨0, by omega, rfl, Fr.refl _ _⟩
  case round =>
    obtain ⟨y, hy, rfl, hf⟩ := hrel
    have HFr := Lib.hid hf
    clear hf
    by_cases hlt : y < T
    · have C1 := Lib.hid (fun W => HC2.out (x : Int) (y : Int) W)
      have e1 := HT.out y hlt
      rw [e1] at C1
      clear e1
      have hy128 : (y : Int) < 128 := by omega
      have hwi : IntKind.i64.wrap ((y : Int) + 1) = ((y + 1 : Nat) : Int) := by
        rw [show ((y : Int) + 1) = ((y + 1 : Nat) : Int) by omega]
        exact IntWalk.i64_in _ (by omega)
      go_wp2_with fail
      refine (C1.out _).mono ?_
      rintro e w2 ⟨rfl, hf⟩
      have HF2 := Lib.hid (HFr.out.no_trans hf)
      clear hf
      go_wp2_with fail
      go_roundw
      case rel => exact ⟨y + 1, by omega, by go_num, HF2.out⟩
      case measure => simp [intOf]; omega
    · have hyT : y = T := by omega
      subst hyT
      have C1 := Lib.hid (fun W => HC2.out (x : Int) (y : Int) W)
      have hy128 : (y : Int) < 128 := by omega
      have HNZ : Hid (((f x y : Int) == 0) = false) := Lib.hid (by have := HT3.out; rw [beq_eq_false_iff_ne]; omega)
      obtain ⟨q, hq⟩ : ∃ q : Int, (f x y : Int) = q := ⟨_, rfl⟩
      have HT4 : Hid ((y + 1 = h ∧ q = 4) ∨ (y + 1 = h ∧ q = 3) ∨ (y = h ∧ q = 1)) := Lib.hid (by have := HT3.out; omega)
      rw [hq] at C1 HNZ
      clear hq HT3
      have hnz := HNZ.out
      go_wp2_with fail
      refine (C1.out _).mono ?_
      rintro e w2 ⟨rfl, hf⟩
      have HF2 := Lib.hid (HFr.out.no_trans hf)
      clear hf HFr
      go_wp2_with fail
      refine (C1.out _).mono ?_
      rintro e w3 ⟨rfl, hf⟩
      have HF3 := Lib.hid (HF2.out.no_trans hf)
      clear hf HF2 HNZ hnz
      have hwi : IntKind.i64.wrap ((y : Int) + 1) = ((y + 1 : Nat) : Int) := by
        rw [show ((y : Int) + 1) = ((y + 1 : Nat) : Int) by omega]
        exact IntWalk.i64_in _ (by omega)
      have HWI := Lib.hid hwi
      clear hwi
      go_upto_region 7 with fail
      go_cut [36] from 31 to 36 (fun v36 W => v36 = .bool (decide (y + 1 = h)) ∧ W = w3)
      case first =>
        have h3 := HT4.out
        rcases h3 with ⟨h3, rfl⟩ | ⟨h3, rfl⟩ | ⟨h3, rfl⟩
        · have HDC : Hid (decide (y + 1 = h) = true) := Lib.hid (decide_eq_true h3)
          clear h3
          go_wp2_with fail
          go_meet
          exact ⟨by rw [HDC.out], rfl⟩
        · have HDC : Hid (decide (y + 1 = h) = true) := Lib.hid (decide_eq_true h3)
          clear h3
          go_wp2_with fail
          go_meet
          exact ⟨by rw [HDC.out], rfl⟩
        · have HDC : Hid (decide (y + 1 = h) = false) := Lib.hid (decide_eq_false (by omega))
          clear h3
          go_wp2_with fail
          go_meet
          exact ⟨by rw [HDC.out], rfl⟩
      case rest =>
      obtain ⟨rfl, rfl⟩ := hcut
      obtain ⟨bq, hbq⟩ : ∃ bq, decide (y + 1 = h) = bq := ⟨_, rfl⟩
      have HBQ : Hid ((bq = true ∧ y + 1 = h) ∨ (bq = false ∧ y = h)) := Lib.hid (by
        have h3 := HT4.out
        rcases h3 with ⟨h3, _⟩ | ⟨h3, _⟩ | ⟨h3, _⟩
        · exact .inl ⟨by rw [← hbq]; exact decide_eq_true h3, h3⟩
        · exact .inl ⟨by rw [← hbq]; exact decide_eq_true h3, h3⟩
        · exact .inr ⟨by rw [← hbq]; exact decide_eq_false (by omega), h3⟩)
      rw [hbq]
      clear hbq
      go_upto_if 36 with fail
      go_cut [6] from 37 to 38 (fun v6 W => v6 = .int .i64 (h : Int) ∧ W = wc)
      case first =>
        have hwi := HWI.out
        have h3 := HBQ.out
        rcases h3 with ⟨rfl, h3⟩ | ⟨rfl, h3⟩
        · have H3 := Lib.hid h3
          clear h3
          go_wp2_with fail
          go_meet
          exact ⟨by rw [← H3.out]; rfl, rfl⟩
        · have H3 := Lib.hid h3
          clear h3
          go_wp2_with fail
          go_meet
          exact ⟨by rw [← H3.out], rfl⟩
      case rest =>
      obtain ⟨rfl, rfl⟩ := hcut
      clear HT4 HBQ HWI C1 hlt hy
      have hy39 : 39 ≤ y := by omega
      clear hy128
      go_wp2_with fail
      go_loopw [39] (fun v39 wr => ∃ k : Nat, k ≤ 3 ∧ v39 = .int .i64 (k : Int) ∧ Fr No w1 wr) (fun v39 _ => 3 - (intOf v39).toNat)
      case atStart => exact ⟨0, by omega, rfl, HF3.out⟩
      case round =>
        obtain ⟨k, hk, rfl, hf⟩ := hrel
        have HFr := Lib.hid hf
        clear hf
        by_cases hk3 : k < 3
        · have e1 := HD.out x (h + k) hx rfl (by omega) (by omega)
          have C1 := Lib.hid (fun W => HC2.out (x : Int) ((h + k : Nat) : Int) W)
          rw [e1] at C1
          clear e1
          obtain ⟨hk', hhk⟩ : ∃ z : Int, ((h + k : Nat) : Int) = z := ⟨_, rfl⟩
          rw [hhk] at C1
          have hwa : IntKind.i64.wrap ((h : Int) + (k : Int)) = hk' := by rw [IntWalk.i64_in _ (by omega)]; omega
          have hwi : IntKind.i64.wrap ((k : Int) + 1) = ((k + 1 : Nat) : Int) := by
            rw [show ((k : Int) + 1) = ((k + 1 : Nat) : Int) by omega]
            exact IntWalk.i64_in _ (by omega)
          clear hhk
          go_wp2_with fail
          refine (C1.out _).mono ?_
          rintro e w4 ⟨rfl, hf⟩
          have HF4 := Lib.hid (HFr.out.no_trans hf)
          clear hf
          go_wp2_with fail
          go_roundw
          case rel => exact ⟨k + 1, by omega, by go_num, HF4.out⟩
          case measure => simp [intOf]; omega
        · have hk3' : k = 3 := by omega
          obtain ⟨kz, hkz⟩ : ∃ z : Int, (k : Int) = z := ⟨_, rfl⟩
          rw [hkz]
          obtain rfl : kz = 3 := by omega
          clear hkz hk3 hk3' hk
          obtain ⟨h3, hh3⟩ : ∃ z : Int, ((h + 3 : Nat) : Int) = z := ⟨_, rfl⟩
          have hwa : IntKind.i64.wrap ((h : Int) + 3) = h3 := by rw [IntWalk.i64_in _ (by omega)]; omega
          have H33 := Lib.hid hh3
          clear hh3
          go_wp2_with fail
          clear hwa
          have HFr1 := HFr
          clear HFr
          go_loopw [10, 11] (fun v10 _ wr => ∃ j : Nat, h + 3 ≤ j ∧ j ≤ 128 ∧ v10 = .int .i64 (j : Int) ∧ Fr No w1 wr) (fun v10 _ _ => 128 - (intOf v10).toNat)
          case atStart => exact ⟨h + 3, by omega, by omega, by rw [← H33.out], HFr1.out⟩
          case round =>
            obtain ⟨j, hj1, hj2, rfl, hf⟩ := hrel
            have HFr := Lib.hid hf
            clear hf
            by_cases hj : j < 128
            · have e1 := HE.out x j hx rfl hj hj1
              have C1 := Lib.hid (fun W => HC2.out (x : Int) (j : Int) W)
              have hwi : IntKind.i64.wrap ((j : Int) + 1) = ((j + 1 : Nat) : Int) := by
                rw [show ((j : Int) + 1) = ((j + 1 : Nat) : Int) by omega]
                exact IntWalk.i64_in _ (by omega)
              rcases e1 with e1 | e1
              all_goals (
                rw [e1] at C1
                clear e1
                go_wp2_with fail
                refine (C1.out _).mono ?_
                rintro e w4 ⟨rfl, hf⟩
                have HF4 := Lib.hid (HFr.out.no_trans hf)
                clear hf
                go_wp2_with fail
                go_roundw
                case rel => exact ⟨j + 1, by omega, by omega, by go_num, HF4.out⟩
                case measure => simp [intOf]; omega)
            · have hj128 : j = 128 := by omega
              obtain ⟨jz, hjz⟩ : ∃ z : Int, (j : Int) = z := ⟨_, rfl⟩
              rw [hjz]
              obtain rfl : jz = 128 := by omega
              clear hjz hj128 hj
              obtain ⟨x8, hx8⟩ : ∃ z : Nat, x / 8 * 8 = z := ⟨_, rfl⟩
              obtain ⟨q8, hq8⟩ : ∃ z : Int, (x : Int) / 8 = z := ⟨_, rfl⟩
              have hq8b : 0 ≤ q8 ∧ q8 < 16 ∧ q8 * 8 = (x8 : Int) := by omega
              have hwq : wrap64 q8 = q8 := IntWalk.wrap64_in _ (by omega)
              have hwx : IntKind.i64.wrap (q8 * 8) = (x8 : Int) := by rw [hq8b.2.2]; exact IntWalk.i64_in _ (by omega)
              have hwe : IntKind.i64.wrap ((x8 : Int) + 8) = (x8 : Int) + 8 := IntWalk.i64_in _ (by omega)
              have HX8 := Lib.hid (show x8 + 8 ≤ 128 ∧ ∀ u, x8 ≤ u → u < x8 + 8 → u / 8 = x / 8 from ⟨by omega, fun u h1 h2 => by omega⟩)
              clear hx8 hj1 hj2
              go_wp2_with fail
              have HFr2 := HFr
              clear HFr
              go_loopw [12] (fun v12 wr => ∃ u : Nat, x8 ≤ u ∧ u ≤ x8 + 8 ∧ v12 = .int .i64 (u : Int) ∧ Fr No w1 wr) (fun v12 _ => x8 + 8 - (intOf v12).toNat)
              case atStart => exact ⟨x8, by omega, by omega, rfl, HFr2.out⟩
              case round =>
                obtain ⟨u, hu1, hu2, rfl, hf⟩ := hrel
                have HFr := Lib.hid hf
                clear hf
                by_cases hu : u < x8 + 8
                · have hux := HX8.out.2 u hu1 hu
                  have hu128 : u < 128 := by have := HX8.out.1; omega
                  have e1 := HD.out u h hu128 hux (by omega) (by omega)
                  have e2 := HD.out u (h + 2) hu128 hux (by omega) (by omega)
                  have e3 := HE.out u (h + 3) hu128 hux (by omega) (by omega)
                  have C1 := Lib.hid (fun W => HC2.out (u : Int) (h : Int) W)
                  have C2 := Lib.hid (fun W => HC2.out (u : Int) ((h + 2 : Nat) : Int) W)
                  have C3 := Lib.hid (fun W => HC2.out (u : Int) ((h + 3 : Nat) : Int) W)
                  rw [e1] at C1
                  rw [e2] at C2
                  clear e1 e2
                  obtain ⟨z2, hz2⟩ : ∃ z : Int, ((h + 2 : Nat) : Int) = z := ⟨_, rfl⟩
                  obtain ⟨z3, hz3⟩ : ∃ z : Int, ((h + 3 : Nat) : Int) = z := ⟨_, rfl⟩
                  have hw2 : IntKind.i64.wrap ((h : Int) + 2) = z2 := by rw [IntWalk.i64_in _ (by omega)]; omega
                  have hw3 : IntKind.i64.wrap ((h : Int) + 3) = z3 := by rw [IntWalk.i64_in _ (by omega)]; omega
                  rw [hz2] at C2
                  rw [hz3] at C3
                  obtain ⟨r, hr⟩ : ∃ r : Int, (f (u : Int) ((h + 3 : Nat) : Int) : Int) = r := ⟨_, rfl⟩
                  rw [← hz3, hr] at C3
                  rw [hz3] at C3
                  have hr1 : (r == 1) = false := by rw [beq_eq_false_iff_ne]; omega
                  clear e3 hr hz2 hz3
                  have hwi : IntKind.i64.wrap ((u : Int) + 1) = ((u + 1 : Nat) : Int) := by
                    have := HX8.out.1
                    rw [show ((u : Int) + 1) = ((u + 1 : Nat) : Int) by omega]
                    exact IntWalk.i64_in _ (by omega)
                  have hui : (u : Int) < (x8 : Int) + 8 := by omega
                  clear hux
                  go_wp2_with fail
                  refine (C1.out _).mono ?_
                  rintro e w4 ⟨rfl, hf⟩
                  have HF4 := Lib.hid (HFr.out.no_trans hf)
                  clear hf
                  go_wp2_with fail
                  refine (C2.out _).mono ?_
                  rintro e w5 ⟨rfl, hf⟩
                  have HF5 := Lib.hid (HF4.out.no_trans hf)
                  clear hf
                  go_wp2_with fail
                  refine (C3.out _).mono ?_
                  rintro e w6 ⟨rfl, hf⟩
                  have HF6 := Lib.hid (HF5.out.no_trans hf)
                  clear hf
                  go_wp2_with fail
                  go_roundw
                  case rel => exact ⟨u + 1, by omega, by omega, by go_num, HF6.out⟩
                  case measure => simp [intOf]; omega
                · have hui : ¬ (u : Int) < (x8 : Int) + 8 := by omega
                  have q1 : (y : Int) ≥ 39 := by omega
                  have q2 : (h : Int) ≥ 40 := by omega
                  have q3 : (h : Int) ≤ 71 := by omega
                  go_wp2_with fail
                  refine (HAW.out _).mono ?_
                  rintro e w6 ⟨rfl, hf⟩
                  have HF6 := Lib.hid (HFr.out.no_trans hf)
                  clear hf
                  go_wp2_with fail
                  go_ret
                  exact ⟨rfl, HF6.out⟩
theorem gcols_call {a : Int} (col : Int) (w : World) (ha : 0 ≤ a) (ha' : a ≤ 18446744073709551615) :
    Calls Try.prog 5 #[.int .u64 a, .int .i64 col] w fun e w' => e = .returned (.bool true) ∧ Below w.heap.size w w' := by
  obtain ⟨s, rfl⟩ := w64_of ha ha'
  exact (gcols_walk s col w).mono (fun e w' h => ⟨h.1, h.2.noBelow⟩)
end
end Go.Proofs.Ytcoednijggoeiaa

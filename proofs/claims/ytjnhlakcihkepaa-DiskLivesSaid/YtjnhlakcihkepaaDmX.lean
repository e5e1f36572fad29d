/-
  DiskLives: the walk. No statement of the seat is proved here.
-/
import Derived.Test.YtjnhlakcihkepaaDmW
import Derived.Test.YtjnhlakcihkepaaDmC
import Derived.Test.YtjnhlakcihkepaaFrameE
import Derived.Deep.RegionHeld3
import Derived.Deep.CutBlock
import Derived.Deep.DeepCutAuto
namespace Go.Proofs.Ytjnhlakcihkepaa
open Go.RowKit Go.Maps

set_option maxRecDepth 100000 in
theorem ClAt.all {W : World} {b o : Nat} {x : Cl} (h : ClAt W ⟨b, o, none⟩ x) :
    W.cell? ⟨b, o, none⟩ = some (.int .u8 (x.wh : Int)) ∧ W.cell? ⟨b, o + 1, none⟩ = some (.string x.nm) ∧ W.cell? ⟨b, o + 2, none⟩ = some (.string x.to) ∧ W.cell? ⟨b, o + 3, none⟩ = some (.slice x.B.A x.B.n x.B.c) ∧
      W.cell? ⟨b, o + 4, none⟩ = some (.int .i64 x.n) ∧ W.cell? ⟨b, o + 5, none⟩ = some (.slice x.K x.kn x.kc) := by
  obtain ⟨h0, h1, h2, h3, h4, h5, _⟩ := h
  simp only [Addr.add_lit] at h1 h2 h3 h4 h5
  exact ⟨h0, h1, h2, h3, h4, h5⟩
set_option maxHeartbeats 8000000 in
set_option maxRecDepth 100000 in
theorem lives_walk (r : Int) (A A2 A3 : Option Addr) (n c n2 c2 n3 c3 : Nat) (xs : List Lv) (ars : List Int) (kks : List Iv) (w : World) (hx : RowOf w 1 (LvAt w) A n xs) (ha : RowOf w 1 (InAt w) A2 n2 ars) (hk : RowOf w 1 (IvAt w) A3 n3 kks) (hr0 : 0 ≤ r) (hr1 : r ≤ 65535) :
    Calls Try.prog 3 #[.int .u16 r, .slice A n c, .slice A2 n2 c2, .slice A3 n3 c3] w fun e w' => e = .returned (.bool true) ∧ Below w.heap.size w w' := by
  have HA := Lib.hid (fun W => awake_any W)
  have hmm : r % 2001 = (((r % 2001).toNat : Nat) : Int) := by
    have := Int.emod_nonneg r (b := 2001) (by omega)
    omega
  have hml : (r % 2001).toNat ≤ 2000 := by
    have := Int.emod_lt_of_pos r (b := 2001) (by omega)
    omega
  obtain ⟨m, HM⟩ : ∃ m, Hid ((r % 2001).toNat = m) := ⟨_, rfl⟩
  rw [HM.out] at hmm hml
  have hnew := new_dsk m w (by omega)
  obtain ⟨B, HBB⟩ : ∃ B, Hid (w.heap.size = B) := ⟨_, rfl⟩
  rw [HBB.out] at hnew ⊢
  obtain ⟨D, HDD⟩ : ∃ D, Hid (B + 1 = D) := ⟨_, rfl⟩
  rw [HDD.out] at hnew
  have HNEW := Lib.hid hnew
  have HX := Lib.hid hx
  have HAR := Lib.hid ha
  have HKR := Lib.hid hk
  clear hnew hx ha hk
  go_enter Try.func3, Try.ntmps3
  go_wp2_with fail
  refine HNEW.out.mono ?_
  rintro e w0 ⟨rfl, hd, hb⟩
  have HB0 := Lib.hid hb
  have HN0 := Lib.hid (Nx.refl hd)
  have HFOOT := Lib.hid (show ∀ k, foot D B [] k → B ≤ k by
    intro k hk
    rcases hk with e | e | ⟨f, hf, _⟩
    · have := HDD.out; omega
    · omega
    · cases hf)
  clear hd hb HNEW
  go_wp2_with fail
  go_loopw [11] (fun vi wr => ∃ (i : Nat) (s : St), i ≤ 5 ∧ i ≤ n ∧ vi = .int .i64 (i : Int) ∧ Nx D B w0 ⟨false, false, 0, m, []⟩ wr s ∧ s.fl = false) (fun vi _ => 5 - (intOf vi).toNat)
  case atStart => exact ⟨0, _, by omega, by omega, rfl, HN0.out, rfl⟩
  case round =>
    obtain ⟨i, s, hi5, hin, rfl, hN, hfl⟩ := hrel
    have HN := Lib.hid hN
    have HFLS := Lib.hid hfl
    have HBr := Lib.hid (HB0.out.trans (hN.2.1.below (by have := HB0.out.size; rw [HBB.out] at this; exact this) HFOOT.out))
    clear hN hfl
    by_cases hlt : i < n ∧ i < 5
    · obtain ⟨hlt, hlt2⟩ := hlt
      obtain ⟨b, o, rfl, hb, hc⟩ := HX.out.2 (by omega)
      have hix : i < xs.length := by rw [HX.out.1]; exact hlt
      obtain ⟨⟨XA, xn, xc, xx⟩, hxe⟩ : ∃ x, xs[i] = x := ⟨_, rfl⟩
      have hxi := hc i hix
      rw [hxe, Nat.mul_one] at hxi
      have HXI := Lib.hid hxi
      have HXC := Lib.hid (show ∀ W, Below B w W → W.cell? ⟨b, o + i, none⟩ = some (.slice XA xn xc) from fun W hW => (hW.cell (p := ⟨b, o + i, none⟩) (by rw [← HBB.out]; exact hb)).trans HXI.out.1)
      clear hc hix hxe hxi hb
      have hwi : IntKind.i64.wrap ((i : Int) + 1) = ((i + 1 : Nat) : Int) := by
        rw [show ((i : Int) + 1) = ((i + 1 : Nat) : Int) by omega]
        exact IntWalk.i64_in _ (by omega)
      have hd5 : decide ((i : Int) < 5) = true := by rw [decide_eq_true_eq]; omega
      by_cases h2 : i < n2
      · obtain ⟨b2, o2, rfl, hb2, hc2⟩ := HAR.out.2 (by omega)
        have hix2 : i < ars.length := by rw [HAR.out.1]; exact h2
        obtain ⟨ar, hare⟩ : ∃ x, ars[i] = x := ⟨_, rfl⟩
        have hxa := hc2 i hix2
        rw [hare, Nat.mul_one] at hxa
        have hca : ∀ W, Below B w W → W.cell? ⟨b2, o2 + i, none⟩ = some (.int .i64 ar) := fun W hW => (hW.cell (p := ⟨b2, o2 + i, none⟩) (by rw [← HBB.out]; exact hb2)).trans hxa.1
        have hcr := hca _ HBr.out
        have HAB := Lib.hid hxa.2
        clear hc2 hix2 hare hxa hca hb2
        by_cases h0 : 0 ≤ ar
        · have hd0 : decide (0 ≤ ar) = true := by rw [decide_eq_true_eq]; exact h0
          go_wp2_with fail
          refine (arm_dsk HN.out.1 HFLS.out ar HAB.out.2).mono ?_
          rintro e w1 ⟨rfl, hnx⟩
          have HN1 := Lib.hid (HN.out.trans hnx)
          obtain ⟨s1, HS1⟩ : ∃ s1, Hid (({ s with bd := true, lf := (max ar 0).toNat } : St) = s1) := ⟨_, rfl⟩
          have HFL1 : Hid (s1.fl = false) := by show _ = _; rw [← HS1.out]; exact HFLS.out
          rw [HS1.out] at HN1
          clear hnx hcr
          go_wp2_with fail
          refine (taken_any HN1.out.1 HFL1.out).mono ?_
          rintro e w2 ⟨v1, v2, v3, rfl, hS, hf2⟩
          obtain ⟨A4, x4, c4, rfl⟩ : ∃ A x c, v1 = .slice A x c := by
            rcases hS.o1.2 with ⟨rfl, e⟩ | ⟨g, cap, cur, rfl, _⟩ <;> exact ⟨_, _, _, rfl⟩
          obtain ⟨A5, x5, c5, rfl⟩ : ∃ A x c, v2 = .slice A x c := by
            rcases hS.o2.2 with ⟨rfl, e⟩ | ⟨g, cap, cur, rfl, _⟩ <;> exact ⟨_, _, _, rfl⟩
          obtain ⟨A6, x6, c6, rfl⟩ : ∃ A x c, v3 = .slice A x c := by
            rcases hS.o3.2 with ⟨rfl, e⟩ | ⟨g, cap, cur, rfl, _⟩ <;> exact ⟨_, _, _, rfl⟩
          have HSH := Lib.hid hS
          have HF2 := Lib.hid hf2
          clear hS hf2
          go_upto_block 2 with fail
          obtain ⟨Z, HZ⟩ : ∃ Z, Hid (w2.heap.size = Z) := ⟨_, rfl⟩
          rw [HZ.out]
          obtain ⟨w3, HW3⟩ : ∃ w3, Hid (w2.alloc (.cells #[.slice A4 x4 c4, .slice A5 x5 c5, .slice A6 x6 c6] 33) = w3) := ⟨_, rfl⟩
          rw [HW3.out]
          have HN3 := Lib.hid (show Nx D B w0 _ w3 s1 by rw [← HW3.out]; exact (HN1.out.then_no HF2.out).then_no (Fr.alloc No w2 _))
          have hZ1 : ¬ foot D B s1.fs Z := fun e => by
            have := HN1.out.1.foot_lt e
            have := HF2.out.size
            rw [HZ.out] at this
            omega
          have HWA := Lib.hid (show Wa w3 D B Z s1.fs (.slice A4 x4 c4) (.slice A5 x5 c5) (.slice A6 x6 c6) s1.ab.fs by
            refine Wa.take HN1.out.1 HSH.out ?_ ?_ hZ1 (.inl (Nat.le_of_eq HZ.out))
            · rw [← HW3.out]; exact Fr.alloc _ w2 _
            · rw [← HW3.out, ← HZ.out]; exact heap_alloc_new _ _)
          have HZ0 := Lib.hid (show w0.heap.size ≤ Z by have := HN1.out.2.1.size; have := HF2.out.size; have := HZ.out; omega)
          clear hZ1 HSH HW3
          go_cut [] (fun wx => ∃ (s2 : St) (u1 u2 u3 : Value), Nx D B w0 ⟨false, false, 0, m, []⟩ wx s2 ∧ Wa wx D B Z s2.fs u1 u2 u3 s2.ab.fs)
          case first =>
            go_wp2_with fail
            go_loopw [13] (fun vk wr' => ∃ (k : Nat) (s2 : St) (u1 u2 u3 : Value), k ≤ 30 ∧ k ≤ xn ∧ vk = .int .i64 (k : Int) ∧ Nx D B w0 ⟨false, false, 0, m, []⟩ wr' s2 ∧ Wa wr' D B Z s2.fs u1 u2 u3 s2.ab.fs) (fun vk _ => 30 - (intOf vk).toNat)
            case atStart => exact ⟨0, s1, _, _, _, by omega, by omega, rfl, HN3.out, HWA.out⟩
            case round =>
              obtain ⟨k, s2, u1, u2, u3, hk30, hkn, rfl, hN2, hW2⟩ := hrel
              have HN2 := Lib.hid hN2
              have HW2 := Lib.hid hW2
              have HB2 := Lib.hid (HB0.out.trans (hN2.2.1.below (by have := HB0.out.size; rw [HBB.out] at this; exact this) HFOOT.out))
              clear hN2 hW2
              have hcx := HXC.out _ HB2.out
              have hwk : IntKind.i64.wrap ((k : Int) + 1) = ((k + 1 : Nat) : Int) := by
                rw [show ((k : Int) + 1) = ((k + 1 : Nat) : Int) by omega]
                exact IntWalk.i64_in _ (by omega)
              by_cases hkl : k < xn
              · by_cases hk3 : k < 30
                · have hd3 : decide ((k : Int) < 30) = true := by rw [decide_eq_true_eq]; omega
                  obtain ⟨b1, o1, rfl, hb1, hc1⟩ := HXI.out.2.2 (show 0 < xn by omega)
                  have hl1 : xx.length = xn := HXI.out.2.1
                  have hix1 : k < xx.length := by omega
                  obtain ⟨y, hye⟩ : ∃ y, xx[k] = y := ⟨_, rfl⟩
                  have hyk : ClAt w ⟨b1, o1 + k * 6, none⟩ xx[k] := hc1 k hix1
                  rw [hye] at hyk
                  have HCL := Lib.hid (show ∀ W, Below B w W → ClAt W ⟨b1, o1 + k * 6, none⟩ y from fun W hW => hyk.below HBB.out (by rw [← HBB.out]; exact hb1) hW)
                  clear hc1 hix1 hye hyk hl1 hb1
                  go_wp2_with fail
                  refine (down_dsk HN2.out.1).mono ?_
                  rintro e w4 ⟨rfl, rfl⟩
                  obtain ⟨f2, HF2'⟩ : ∃ f, Hid (s2.fl = f) := ⟨_, rfl⟩
                  rw [HF2'.out]
                  cases f2 with
                  | true =>
                    go_wp2_with fail
                    go_meet
                    exact ⟨s2, _, _, _, HN2.out, HW2.out⟩
                  | false =>
                    obtain ⟨q0, q1, q2, q3, q4, q5⟩ := (HCL.out _ HB2.out).all
                    go_wp2_with fail
                    refine (fits_any y _).mono ?_
                    rintro e w5 ⟨rfl, hf5⟩
                    have HN5 := Lib.hid (HN2.out.then_no hf5)
                    have HW5 := Lib.hid (HW2.out.no HN2.out.1 hf5)
                    have HB5 := Lib.hid (HB2.out.trans (hf5.noBelow.mono (by have := HB2.out.size; rw [HBB.out] at this; exact this)))
                    clear hf5 q0 q1 q2 q3 q4 q5 hcx
                    cases hfit : y.fits with
                    | false =>
                      go_wp2_with fail
                      go_roundw
                      case rel => exact ⟨k + 1, s2, _, _, _, by omega, by omega, by go_num, HN5.out, HW5.out⟩
                      case measure => simp [intOf]; omega
                    | true =>
                      have hcx := HXC.out _ HB5.out
                      have hcl := HCL.out _ HB5.out
                      obtain ⟨q0, q1, q2, q3, q4, q5⟩ := hcl.all
                      obtain ⟨_, _, _, _, _, _, hw8, hz1, hz2, hrd⟩ := hcl
                      have HDO := Lib.hid (does_any HN5.out.1 y hz1 hz2 hrd hw8)
                      have HFE := Lib.hid (does_fel s2.ab y (show s2.ab.fl = false from HF2'.out))
                      clear hz1 hz2 hrd hw8 hfit
                      go_wp2_with fail
                      refine HDO.out.mono ?_
                      rintro e w6 ⟨s3, rfl, hN, hab⟩
                      have HN6 := Lib.hid (HN5.out.trans hN)
                      have HW6 := Lib.hid (HW5.out.next hN)
                      have hfe := HFE.out
                      unfold Fel at hfe
                      rw [← hab] at hfe
                      have HFE2 := Lib.hid hfe
                      clear hN hab q0 q1 q2 q3 q4 q5 hcx hfe
                      obtain ⟨cd, HCD⟩ : ∃ cd, Hid ((s2.ab.does y).1 = cd) := ⟨_, rfl⟩
                      rw [HCD.out] at HFE2 ⊢
                      have HD6 := Lib.hid (down_dsk HN6.out.1)
                      by_cases hcd : cd = 15
                      · subst hcd
                        have hfl3 : s3.fl = true := HFE2.out.1.trans (by decide)
                        have hfs3 : s3.ab.fs = s2.ab.fs := HFE2.out.2 hfl3
                        rw [hfl3] at HD6
                        go_wp2_with fail
                        refine HD6.out.mono ?_
                        rintro e w7 ⟨rfl, rfl⟩
                        go_wp2_with fail
                        refine HD6.out.mono ?_
                        rintro e w7 ⟨rfl, rfl⟩
                        go_wp2_with fail
                        go_roundw
                        case rel => exact ⟨k + 1, s3, _, _, _, by omega, by omega, by go_num, HN6.out, by rw [hfs3]; exact HW6.out⟩
                        case measure => simp [intOf]; omega
                      · have hfl3 : s3.fl = false := by have := HFE2.out.1; rw [decide_eq_false hcd] at this; exact this
                        have hcd2 : (cd == 15) = false := by rw [beq_eq_false_iff_ne]; exact hcd
                        rw [hfl3] at HD6
                        go_wp2_with fail
                        refine HD6.out.mono ?_
                        rintro e w7 ⟨rfl, rfl⟩
                        go_wp2_with fail
                        refine HD6.out.mono ?_
                        rintro e w7 ⟨rfl, rfl⟩
                        go_wp2_with fail
                        refine (taken_any HN6.out.1 hfl3).mono ?_
                        rintro e w8 ⟨r1, r2, r3, rfl, hS8, hf8⟩
                        obtain ⟨A7, x7, c7, rfl⟩ : ∃ A x c, r1 = .slice A x c := by
                          rcases hS8.o1.2 with ⟨rfl, e⟩ | ⟨g, cap, cur, rfl, _⟩ <;> exact ⟨_, _, _, rfl⟩
                        obtain ⟨A8, x8, c8, rfl⟩ : ∃ A x c, r2 = .slice A x c := by
                          rcases hS8.o2.2 with ⟨rfl, e⟩ | ⟨g, cap, cur, rfl, _⟩ <;> exact ⟨_, _, _, rfl⟩
                        obtain ⟨A9, x9, c9, rfl⟩ : ∃ A x c, r3 = .slice A x c := by
                          rcases hS8.o3.2 with ⟨rfl, e⟩ | ⟨g, cap, cur, rfl, _⟩ <;> exact ⟨_, _, _, rfl⟩
                        have hW8 := HW6.out.no HN6.out.1 hf8
                        have hc0 : ∃ d0 d1 d2, w8.cell? ⟨Z, 0, none⟩ = some d0 ∧ w8.cell? ⟨Z, 1, none⟩ = some d1 ∧ w8.cell? ⟨Z, 2, none⟩ = some d2 := by
                          unfold World.cell?
                          rw [hW8.blk]
                          exact ⟨_, _, _, rfl, rfl, rfl⟩
                        obtain ⟨d0, d1, d2, k0, k1, k2⟩ := hc0
                        have z0 : w8.frozen? ⟨Z, 0, none⟩ = false := by unfold World.frozen?; rw [hW8.blk]; rfl
                        have z1 : w8.frozen? ⟨Z, 1, none⟩ = false := by unfold World.frozen?; rw [hW8.blk]; rfl
                        have z2 : w8.frozen? ⟨Z, 2, none⟩ = false := by unfold World.frozen?; rw [hW8.blk]; rfl
                        have hbz := heap_cells_set _ Z 2 _ _ (.slice A9 x9 c9) (heap_cells_set _ Z 1 _ _ (.slice A8 x8 c8) (heap_cells_set _ Z 0 _ _ (.slice A7 x7 c7) hW8.blk))
                        have hfz : Fr (fun k => k = Z) w8 (((w8.setCell ⟨Z, 0, none⟩ (.slice A7 x7 c7)).setCell ⟨Z, 1, none⟩ (.slice A8 x8 c8)).setCell ⟨Z, 2, none⟩ (.slice A9 x9 c9)) :=
                          ((Fr.setCell w8 ⟨Z, 0, none⟩ _ (F := fun k => k = Z) rfl).trans (Fr.setCell _ ⟨Z, 1, none⟩ _ (F := fun k => k = Z) rfl) (fun _ _ e => e)).trans (Fr.setCell _ ⟨Z, 2, none⟩ _ (F := fun k => k = Z) rfl) (fun _ _ e => e)
                        have HN9 := Lib.hid (Nx.set (HN6.out.then_no hf8) hfz HZ0.out HW6.out.off)
                        have HW9 := Lib.hid (Wa.take HN6.out.1 hS8 hfz hbz HW6.out.off (.inr ⟨_, _, hW8.blk⟩))
                        clear hW8 hbz hfz hS8 hf8
                        go_wp2_with fail
                        go_roundw
                        case rel => exact ⟨k + 1, s3, _, _, _, by omega, by omega, by go_num, HN9.out, HW9.out⟩
                        case measure => simp [intOf]; omega
                · have hd3 : decide ((k : Int) < 30) = false := by rw [decide_eq_false_iff_not]; omega
                  go_wp2_with fail
                  go_meet
                  exact ⟨s2, _, _, _, HN2.out, HW2.out⟩
              · have hke : k = xn := by omega
                subst hke
                go_wp2_with fail
                go_meet
                exact ⟨s2, _, _, _, HN2.out, HW2.out⟩
          case rest =>
            obtain ⟨s2, u1, u2, u3, hN2, hW2⟩ := hcut
            obtain ⟨U1, X1, C1, rfl⟩ : ∃ A x c, u1 = .slice A x c := by
              rcases hW2.sho.o1.2 with ⟨rfl, e⟩ | ⟨g, cap, cur, rfl, _⟩ <;> exact ⟨_, _, _, rfl⟩
            obtain ⟨U2, X2, C2, rfl⟩ : ∃ A x c, u2 = .slice A x c := by
              rcases hW2.sho.o2.2 with ⟨rfl, e⟩ | ⟨g, cap, cur, rfl, _⟩ <;> exact ⟨_, _, _, rfl⟩
            obtain ⟨U3, X3, C3, rfl⟩ : ∃ A x c, u3 = .slice A x c := by
              rcases hW2.sho.o3.2 with ⟨rfl, e⟩ | ⟨g, cap, cur, rfl, _⟩ <;> exact ⟨_, _, _, rfl⟩
            have HN4 := Lib.hid hN2
            have HW4 := Lib.hid hW2
            have HB4 := Lib.hid (HB0.out.trans (hN2.2.1.below (by have := HB0.out.size; rw [HBB.out] at this; exact this) HFOOT.out))
            have HFT4 := Lib.hid (show ∀ k, foot D B s2.fs k → B ≤ k from fun k hk => by
              rcases hN2.2.2 k hk with e | e
              · exact HFOOT.out k e
              · have := HB0.out.size
                rw [HBB.out] at this
                omega)
            clear hN2 hW2
            by_cases h3 : i < n3
            · obtain ⟨b3, o3, rfl, hb3, hc3⟩ := HKR.out.2 (by omega)
              have hix3 : i < kks.length := by rw [HKR.out.1]; exact h3
              obtain ⟨⟨KA, kn, kc, ks⟩, hke⟩ : ∃ x, kks[i] = x := ⟨_, rfl⟩
              have hki := hc3 i hix3
              rw [hke, Nat.mul_one] at hki
              have hck : wc.cell? ⟨b3, o3 + i, none⟩ = some (.slice KA kn kc) := (HB4.out.cell (p := ⟨b3, o3 + i, none⟩) (by rw [← HBB.out]; exact hb3)).trans hki.1
              have HRI := Lib.hid (show RdI wc (foot D B s2.fs) KA kn ks by
                refine ⟨hki.2.1, fun h0 => ?_⟩
                obtain ⟨b4, o4, e4, hb4, hc4⟩ := hki.2.2 h0
                have hb4B : b4 < B := by rw [← HBB.out]; exact hb4
                refine ⟨b4, o4, e4, ?_, fun e => by have := HFT4.out b4 e; omega, fun j hj => ?_⟩
                · have := HB4.out.size
                  rw [← HBB.out] at hb4B
                  omega
                · have := (hc4 j hj).1
                  rw [Nat.mul_one] at this
                  exact (HB4.out.cell (p := ⟨b4, o4 + j, none⟩) hb4B).trans this)
              clear hc3 hix3 hke hki hb3
              by_cases h250 : kn ≤ 250
              · have hd250 : decide ((kn : Int) ≤ 250) = true := by rw [decide_eq_true_eq]; omega
                have KLE := Lib.hid h250
                have HEQ := Lib.hid (fun (fs4 : List Fl) (h : CrR ks s2.fs s2.fs.length fs4) => crr_lists h)
                go_wp2_with fail
                refine (crash_any HN4.out.1 KA kn kc ks HRI.out).mono ?_
                rintro e w8 ⟨rfl, fs4, hcr, hnx⟩
                have HN8 := Lib.hid (HN4.out.trans hnx)
                have hW8 := HW4.out.next hnx
                have HW8 := Lib.hid hW8
                have HRI8 := Lib.hid (HRI.out.keep hnx.2.1)
                have hq := HEQ.out fs4 hcr
                have e1 : s2.ab.fs.map (·.nm) = s2.fs.map (·.nm) := by show (s2.fs.map Fl.ab).map _ = _; rw [List.map_map]; rfl
                have e2 : s2.ab.fs.map (·.bs) = s2.fs.map (·.bs) := by show (s2.fs.map Fl.ab).map _ = _; rw [List.map_map]; rfl
                have e3 : s2.ab.fs.map (·.fm) = s2.fs.map (·.fm) := by show (s2.fs.map Fl.ab).map _ = _; rw [List.map_map]; rfl
                have e4 : s2.ab.fs.length = s2.fs.length := by show (s2.fs.map Fl.ab).length = _; simp
                rw [← e1, ← e2, ← e3, ← e4] at hq
                have HTRUE := Lib.hid (show (decide (fs4.map (·.nm) = s2.ab.fs.map (·.nm)) && (decide (fs4.map (·.bs) = keptB ks (s2.ab.fs.map (·.bs)) (s2.ab.fs.map (·.fm)) s2.ab.fs.length) && decide (fs4.map (·.fm) = keptE ks (s2.ab.fs.map (·.bs)) (s2.ab.fs.map (·.fm)) s2.ab.fs.length))) = true by
                  rw [decide_eq_true hq.1, decide_eq_true hq.2.1, decide_eq_true hq.2.2]
                  rfl)
                have HL200 := Lib.hid (show s2.ab.fs.length ≤ 200 ∧ fs4.length ≤ 200 from ⟨by rw [e4]; exact HN4.out.1.few, HN8.out.1.few⟩)
                have HFM := Lib.hid (show ∀ (j : Nat) (b : List UInt8) (e : Nat), (s2.ab.fs.map (·.bs))[j]? = some b → (s2.ab.fs.map (·.fm))[j]? = some e → e ≤ b.length ∧ b.length ≤ 16777216 by
                  intro j b e hb he
                  rw [e2, List.getElem?_map] at hb
                  rw [e3, List.getElem?_map] at he
                  cases hj : s2.fs[j]? with
                  | none => rw [hj] at hb; cases hb
                  | some f =>
                    rw [hj] at hb he
                    have hb' : f.bs = b := by simpa using hb
                    have he' : f.fm = e := by simpa using he
                    have hm := List.mem_of_getElem? hj
                    have := HN4.out.1.firm f hm
                    have := used_mem hm
                    have := HN4.out.1.room
                    have := HN4.out.1.most
                    subst hb' he'
                    omega)
                have hzc : ∀ W, Fr No w8 W → W.cell? ⟨Z, 0, none⟩ = some (.slice U1 X1 C1) ∧ W.cell? ⟨Z, 1, none⟩ = some (.slice U2 X2 C2) ∧ W.cell? ⟨Z, 2, none⟩ = some (.slice U3 X3 C3) := fun W hf => by
                  have := (HW8.out.no HN8.out.1 hf).blk
                  unfold World.cell?
                  rw [this]
                  exact ⟨rfl, rfl, rfl⟩
                have HZC := Lib.hid hzc
                have hz8 := hzc _ (Fr.refl No w8)
                have hz8d := hzc _ (Fr.drew No w8)
                have HD8 := Lib.hid (down_dsk (HN8.out.1.no (Fr.drew No w8)))
                have HT8 := Lib.hid (taken_any (HN8.out.1.no (Fr.drew No w8)) rfl)
                clear hnx hW8 hq e1 e2 e3 e4 hcr hzc HEQ
                go_wp2_with fail
                go_region_held3 (fun W => W.cell? ⟨Z, 0, none⟩ = some (.slice U1 X1 C1) ∧ W.cell? ⟨Z, 1, none⟩ = some (.slice U2 X2 C2) ∧ W.cell? ⟨Z, 2, none⟩ = some (.slice U3 X3 C3))
                  (first | exact hz12 | exact hz11 | exact hz10 | exact hz8d | exact hz8)
                  (first
                    | (go_at_call 11; (refine HD8.out.mono ?_); rintro e w9 ⟨rfl, rfl⟩)
                    | (go_at_call 10; (refine HT8.out.mono ?_); rintro e w10 ⟨r1, r2, r3, rfl, hS10, hf10⟩; have HF10 := Lib.hid ((Fr.drew No w8).no_trans hf10); have HS10 := Lib.hid hS10; have hz10 := HZC.out _ HF10.out; clear hS10 hf10)
                    | (go_at_call 16; (refine (kept_any (HW8.out.no HN8.out.1 HF10.out).sho HL200.out.1 (HRI8.out.keep (HF10.out.mono (fun _ _ e => e.elim))) KLE.out HFM.out).mono ?_); rintro e w11 ⟨p2, p3, rfl, hS11, hf11⟩; have HF11 := Lib.hid (HF10.out.no_trans hf11); have HS11 := Lib.hid hS11; have HSA := Lib.hid (show Sho w8.drew.heap.size w8.drew.heap.size w11 r1 r2 r3 fs4.length (fs4.map (·.nm)) (fs4.map (·.bs)) (fs4.map (·.fm)) from ⟨own_keep HS10.out.o1 (fun k hk => hf11.block k (HS10.out.o1.lt k hk).2 (fun e => e)), own_keep HS10.out.o2 (fun k hk => hf11.block k (HS10.out.o2.lt k hk).2 (fun e => e)), own_keep HS10.out.o3 (fun k hk => hf11.block k (HS10.out.o3.lt k hk).2 (fun e => e))⟩); have hz11 := HZC.out _ HF11.out; have hsame := same_any HSA.out HS11.out (by have := HL200.out; omega) (by have := HL200.out; omega); rw [HTRUE.out] at hsame; have HSAME := Lib.hid hsame; clear hS11 hf11 hsame)
                    | (go_at_call 15; (refine HSAME.out.mono ?_); rintro e w12 ⟨rfl, hf12⟩; have HF12 := Lib.hid (HF11.out.no_trans hf12); have hz12 := HZC.out _ HF12.out; clear hf12))
                all_goals (
                  have HN12 := Lib.hid (HN8.out.then_no HF12.out)
                  clear hz8 hz8d hz10 hz11 hz12
                  go_wp2_with fail
                  go_roundw
                  case measure => simp [intOf]; omega
                  case rel => exact ⟨i + 1, _, by omega, by omega, by first | rfl | go_num, HN12.out, rfl⟩)
              · have hd250 : decide ((kn : Int) ≤ 250) = false := by rw [decide_eq_false_iff_not]; omega
                have KLE := Lib.hid (Nat.zero_le 250)
                clear HRI
                have HRI := Lib.hid (RdI.nil (w := wc) (F := foot D B s2.fs) (A := none))
                have HEQ := Lib.hid (fun (fs4 : List Fl) (h : CrR [] s2.fs s2.fs.length fs4) => crr_lists h)
                go_wp2_with fail
                refine (crash_any HN4.out.1 none 0 0 [] HRI.out).mono ?_
                rintro e w8 ⟨rfl, fs4, hcr, hnx⟩
                have HN8 := Lib.hid (HN4.out.trans hnx)
                have hW8 := HW4.out.next hnx
                have HW8 := Lib.hid hW8
                have HRI8 := Lib.hid (HRI.out.keep hnx.2.1)
                have hq := HEQ.out fs4 hcr
                have e1 : s2.ab.fs.map (·.nm) = s2.fs.map (·.nm) := by show (s2.fs.map Fl.ab).map _ = _; rw [List.map_map]; rfl
                have e2 : s2.ab.fs.map (·.bs) = s2.fs.map (·.bs) := by show (s2.fs.map Fl.ab).map _ = _; rw [List.map_map]; rfl
                have e3 : s2.ab.fs.map (·.fm) = s2.fs.map (·.fm) := by show (s2.fs.map Fl.ab).map _ = _; rw [List.map_map]; rfl
                have e4 : s2.ab.fs.length = s2.fs.length := by show (s2.fs.map Fl.ab).length = _; simp
                rw [← e1, ← e2, ← e3, ← e4] at hq
                have HTRUE := Lib.hid (show (decide (fs4.map (·.nm) = s2.ab.fs.map (·.nm)) && (decide (fs4.map (·.bs) = keptB [] (s2.ab.fs.map (·.bs)) (s2.ab.fs.map (·.fm)) s2.ab.fs.length) && decide (fs4.map (·.fm) = keptE [] (s2.ab.fs.map (·.bs)) (s2.ab.fs.map (·.fm)) s2.ab.fs.length))) = true by
                  rw [decide_eq_true hq.1, decide_eq_true hq.2.1, decide_eq_true hq.2.2]
                  rfl)
                have HL200 := Lib.hid (show s2.ab.fs.length ≤ 200 ∧ fs4.length ≤ 200 from ⟨by rw [e4]; exact HN4.out.1.few, HN8.out.1.few⟩)
                have HFM := Lib.hid (show ∀ (j : Nat) (b : List UInt8) (e : Nat), (s2.ab.fs.map (·.bs))[j]? = some b → (s2.ab.fs.map (·.fm))[j]? = some e → e ≤ b.length ∧ b.length ≤ 16777216 by
                  intro j b e hb he
                  rw [e2, List.getElem?_map] at hb
                  rw [e3, List.getElem?_map] at he
                  cases hj : s2.fs[j]? with
                  | none => rw [hj] at hb; cases hb
                  | some f =>
                    rw [hj] at hb he
                    have hb' : f.bs = b := by simpa using hb
                    have he' : f.fm = e := by simpa using he
                    have hm := List.mem_of_getElem? hj
                    have := HN4.out.1.firm f hm
                    have := used_mem hm
                    have := HN4.out.1.room
                    have := HN4.out.1.most
                    subst hb' he'
                    omega)
                have hzc : ∀ W, Fr No w8 W → W.cell? ⟨Z, 0, none⟩ = some (.slice U1 X1 C1) ∧ W.cell? ⟨Z, 1, none⟩ = some (.slice U2 X2 C2) ∧ W.cell? ⟨Z, 2, none⟩ = some (.slice U3 X3 C3) := fun W hf => by
                  have := (HW8.out.no HN8.out.1 hf).blk
                  unfold World.cell?
                  rw [this]
                  exact ⟨rfl, rfl, rfl⟩
                have HZC := Lib.hid hzc
                have hz8 := hzc _ (Fr.refl No w8)
                have hz8d := hzc _ (Fr.drew No w8)
                have HD8 := Lib.hid (down_dsk (HN8.out.1.no (Fr.drew No w8)))
                have HT8 := Lib.hid (taken_any (HN8.out.1.no (Fr.drew No w8)) rfl)
                clear hnx hW8 hq e1 e2 e3 e4 hcr hzc HEQ
                go_wp2_with fail
                go_region_held3 (fun W => W.cell? ⟨Z, 0, none⟩ = some (.slice U1 X1 C1) ∧ W.cell? ⟨Z, 1, none⟩ = some (.slice U2 X2 C2) ∧ W.cell? ⟨Z, 2, none⟩ = some (.slice U3 X3 C3))
                  (first | exact hz12 | exact hz11 | exact hz10 | exact hz8d | exact hz8)
                  (first
                    | (go_at_call 11; (refine HD8.out.mono ?_); rintro e w9 ⟨rfl, rfl⟩)
                    | (go_at_call 10; (refine HT8.out.mono ?_); rintro e w10 ⟨r1, r2, r3, rfl, hS10, hf10⟩; have HF10 := Lib.hid ((Fr.drew No w8).no_trans hf10); have HS10 := Lib.hid hS10; have hz10 := HZC.out _ HF10.out; clear hS10 hf10)
                    | (go_at_call 16; (refine (kept_any (HW8.out.no HN8.out.1 HF10.out).sho HL200.out.1 (HRI8.out.keep (HF10.out.mono (fun _ _ e => e.elim))) KLE.out HFM.out).mono ?_); rintro e w11 ⟨p2, p3, rfl, hS11, hf11⟩; have HF11 := Lib.hid (HF10.out.no_trans hf11); have HS11 := Lib.hid hS11; have HSA := Lib.hid (show Sho w8.drew.heap.size w8.drew.heap.size w11 r1 r2 r3 fs4.length (fs4.map (·.nm)) (fs4.map (·.bs)) (fs4.map (·.fm)) from ⟨own_keep HS10.out.o1 (fun k hk => hf11.block k (HS10.out.o1.lt k hk).2 (fun e => e)), own_keep HS10.out.o2 (fun k hk => hf11.block k (HS10.out.o2.lt k hk).2 (fun e => e)), own_keep HS10.out.o3 (fun k hk => hf11.block k (HS10.out.o3.lt k hk).2 (fun e => e))⟩); have hz11 := HZC.out _ HF11.out; have hsame := same_any HSA.out HS11.out (by have := HL200.out; omega) (by have := HL200.out; omega); rw [HTRUE.out] at hsame; have HSAME := Lib.hid hsame; clear hS11 hf11 hsame)
                    | (go_at_call 15; (refine HSAME.out.mono ?_); rintro e w12 ⟨rfl, hf12⟩; have HF12 := Lib.hid (HF11.out.no_trans hf12); have hz12 := HZC.out _ HF12.out; clear hf12))
                all_goals (
                  have HN12 := Lib.hid (HN8.out.then_no HF12.out)
                  clear hz8 hz8d hz10 hz11 hz12
                  go_wp2_with fail
                  go_roundw
                  case measure => simp [intOf]; omega
                  case rel => exact ⟨i + 1, _, by omega, by omega, by first | rfl | go_num, HN12.out, rfl⟩)
            · have KLE := Lib.hid (Nat.zero_le 250)
              have HRI := Lib.hid (RdI.nil (w := wc) (F := foot D B s2.fs) (A := none))
              have HEQ := Lib.hid (fun (fs4 : List Fl) (h : CrR [] s2.fs s2.fs.length fs4) => crr_lists h)
              go_wp2_with fail
              refine (crash_any HN4.out.1 none 0 0 [] HRI.out).mono ?_
              rintro e w8 ⟨rfl, fs4, hcr, hnx⟩
              have HN8 := Lib.hid (HN4.out.trans hnx)
              have hW8 := HW4.out.next hnx
              have HW8 := Lib.hid hW8
              have HRI8 := Lib.hid (HRI.out.keep hnx.2.1)
              have hq := HEQ.out fs4 hcr
              have e1 : s2.ab.fs.map (·.nm) = s2.fs.map (·.nm) := by show (s2.fs.map Fl.ab).map _ = _; rw [List.map_map]; rfl
              have e2 : s2.ab.fs.map (·.bs) = s2.fs.map (·.bs) := by show (s2.fs.map Fl.ab).map _ = _; rw [List.map_map]; rfl
              have e3 : s2.ab.fs.map (·.fm) = s2.fs.map (·.fm) := by show (s2.fs.map Fl.ab).map _ = _; rw [List.map_map]; rfl
              have e4 : s2.ab.fs.length = s2.fs.length := by show (s2.fs.map Fl.ab).length = _; simp
              rw [← e1, ← e2, ← e3, ← e4] at hq
              have HTRUE := Lib.hid (show (decide (fs4.map (·.nm) = s2.ab.fs.map (·.nm)) && (decide (fs4.map (·.bs) = keptB [] (s2.ab.fs.map (·.bs)) (s2.ab.fs.map (·.fm)) s2.ab.fs.length) && decide (fs4.map (·.fm) = keptE [] (s2.ab.fs.map (·.bs)) (s2.ab.fs.map (·.fm)) s2.ab.fs.length))) = true by
                rw [decide_eq_true hq.1, decide_eq_true hq.2.1, decide_eq_true hq.2.2]
                rfl)
              have HL200 := Lib.hid (show s2.ab.fs.length ≤ 200 ∧ fs4.length ≤ 200 from ⟨by rw [e4]; exact HN4.out.1.few, HN8.out.1.few⟩)
              have HFM := Lib.hid (show ∀ (j : Nat) (b : List UInt8) (e : Nat), (s2.ab.fs.map (·.bs))[j]? = some b → (s2.ab.fs.map (·.fm))[j]? = some e → e ≤ b.length ∧ b.length ≤ 16777216 by
                intro j b e hb he
                rw [e2, List.getElem?_map] at hb
                rw [e3, List.getElem?_map] at he
                cases hj : s2.fs[j]? with
                | none => rw [hj] at hb; cases hb
                | some f =>
                  rw [hj] at hb he
                  have hb' : f.bs = b := by simpa using hb
                  have he' : f.fm = e := by simpa using he
                  have hm := List.mem_of_getElem? hj
                  have := HN4.out.1.firm f hm
                  have := used_mem hm
                  have := HN4.out.1.room
                  have := HN4.out.1.most
                  subst hb' he'
                  omega)
              have hzc : ∀ W, Fr No w8 W → W.cell? ⟨Z, 0, none⟩ = some (.slice U1 X1 C1) ∧ W.cell? ⟨Z, 1, none⟩ = some (.slice U2 X2 C2) ∧ W.cell? ⟨Z, 2, none⟩ = some (.slice U3 X3 C3) := fun W hf => by
                have := (HW8.out.no HN8.out.1 hf).blk
                unfold World.cell?
                rw [this]
                exact ⟨rfl, rfl, rfl⟩
              have HZC := Lib.hid hzc
              have hz8 := hzc _ (Fr.refl No w8)
              have hz8d := hzc _ (Fr.drew No w8)
              have HD8 := Lib.hid (down_dsk (HN8.out.1.no (Fr.drew No w8)))
              have HT8 := Lib.hid (taken_any (HN8.out.1.no (Fr.drew No w8)) rfl)
              clear hnx hW8 hq e1 e2 e3 e4 hcr hzc HEQ
              go_wp2_with fail
              go_region_held3 (fun W => W.cell? ⟨Z, 0, none⟩ = some (.slice U1 X1 C1) ∧ W.cell? ⟨Z, 1, none⟩ = some (.slice U2 X2 C2) ∧ W.cell? ⟨Z, 2, none⟩ = some (.slice U3 X3 C3))
                (first | exact hz12 | exact hz11 | exact hz10 | exact hz8d | exact hz8)
                (first
                  | (go_at_call 11; (refine HD8.out.mono ?_); rintro e w9 ⟨rfl, rfl⟩)
                  | (go_at_call 10; (refine HT8.out.mono ?_); rintro e w10 ⟨r1, r2, r3, rfl, hS10, hf10⟩; have HF10 := Lib.hid ((Fr.drew No w8).no_trans hf10); have HS10 := Lib.hid hS10; have hz10 := HZC.out _ HF10.out; clear hS10 hf10)
                  | (go_at_call 16; (refine (kept_any (HW8.out.no HN8.out.1 HF10.out).sho HL200.out.1 (HRI8.out.keep (HF10.out.mono (fun _ _ e => e.elim))) KLE.out HFM.out).mono ?_); rintro e w11 ⟨p2, p3, rfl, hS11, hf11⟩; have HF11 := Lib.hid (HF10.out.no_trans hf11); have HS11 := Lib.hid hS11; have HSA := Lib.hid (show Sho w8.drew.heap.size w8.drew.heap.size w11 r1 r2 r3 fs4.length (fs4.map (·.nm)) (fs4.map (·.bs)) (fs4.map (·.fm)) from ⟨own_keep HS10.out.o1 (fun k hk => hf11.block k (HS10.out.o1.lt k hk).2 (fun e => e)), own_keep HS10.out.o2 (fun k hk => hf11.block k (HS10.out.o2.lt k hk).2 (fun e => e)), own_keep HS10.out.o3 (fun k hk => hf11.block k (HS10.out.o3.lt k hk).2 (fun e => e))⟩); have hz11 := HZC.out _ HF11.out; have hsame := same_any HSA.out HS11.out (by have := HL200.out; omega) (by have := HL200.out; omega); rw [HTRUE.out] at hsame; have HSAME := Lib.hid hsame; clear hS11 hf11 hsame)
                  | (go_at_call 15; (refine HSAME.out.mono ?_); rintro e w12 ⟨rfl, hf12⟩; have HF12 := Lib.hid (HF11.out.no_trans hf12); have hz12 := HZC.out _ HF12.out; clear hf12))
              all_goals (
                have HN12 := Lib.hid (HN8.out.then_no HF12.out)
                clear hz8 hz8d hz10 hz11 hz12
                go_wp2_with fail
                go_roundw
                case measure => simp [intOf]; omega
                case rel => exact ⟨i + 1, _, by omega, by omega, by first | rfl | go_num, HN12.out, rfl⟩)
        · have hd0 : decide (0 ≤ ar) = false := by rw [decide_eq_false_iff_not]; exact h0
          have HN1 := Lib.hid HN.out
          have HFL1 := Lib.hid HFLS.out
          obtain ⟨s1, HS1⟩ : ∃ s1, Hid (s = s1) := ⟨_, rfl⟩
          rw [HS1.out] at HN1 HFL1
          go_wp2_with fail
          refine (taken_any HN1.out.1 HFL1.out).mono ?_
          rintro e w2 ⟨v1, v2, v3, rfl, hS, hf2⟩
          obtain ⟨A4, x4, c4, rfl⟩ : ∃ A x c, v1 = .slice A x c := by
            rcases hS.o1.2 with ⟨rfl, e⟩ | ⟨g, cap, cur, rfl, _⟩ <;> exact ⟨_, _, _, rfl⟩
          obtain ⟨A5, x5, c5, rfl⟩ : ∃ A x c, v2 = .slice A x c := by
            rcases hS.o2.2 with ⟨rfl, e⟩ | ⟨g, cap, cur, rfl, _⟩ <;> exact ⟨_, _, _, rfl⟩
          obtain ⟨A6, x6, c6, rfl⟩ : ∃ A x c, v3 = .slice A x c := by
            rcases hS.o3.2 with ⟨rfl, e⟩ | ⟨g, cap, cur, rfl, _⟩ <;> exact ⟨_, _, _, rfl⟩
          have HSH := Lib.hid hS
          have HF2 := Lib.hid hf2
          clear hS hf2
          go_upto_block 2 with fail
          obtain ⟨Z, HZ⟩ : ∃ Z, Hid (w2.heap.size = Z) := ⟨_, rfl⟩
          rw [HZ.out]
          obtain ⟨w3, HW3⟩ : ∃ w3, Hid (w2.alloc (.cells #[.slice A4 x4 c4, .slice A5 x5 c5, .slice A6 x6 c6] 33) = w3) := ⟨_, rfl⟩
          rw [HW3.out]
          have HN3 := Lib.hid (show Nx D B w0 _ w3 s1 by rw [← HW3.out]; exact (HN1.out.then_no HF2.out).then_no (Fr.alloc No w2 _))
          have hZ1 : ¬ foot D B s1.fs Z := fun e => by
            have := HN1.out.1.foot_lt e
            have := HF2.out.size
            rw [HZ.out] at this
            omega
          have HWA := Lib.hid (show Wa w3 D B Z s1.fs (.slice A4 x4 c4) (.slice A5 x5 c5) (.slice A6 x6 c6) s1.ab.fs by
            refine Wa.take HN1.out.1 HSH.out ?_ ?_ hZ1 (.inl (Nat.le_of_eq HZ.out))
            · rw [← HW3.out]; exact Fr.alloc _ w2 _
            · rw [← HW3.out, ← HZ.out]; exact heap_alloc_new _ _)
          have HZ0 := Lib.hid (show w0.heap.size ≤ Z by have := HN1.out.2.1.size; have := HF2.out.size; have := HZ.out; omega)
          clear hZ1 HSH HW3
          go_cut [] (fun wx => ∃ (s2 : St) (u1 u2 u3 : Value), Nx D B w0 ⟨false, false, 0, m, []⟩ wx s2 ∧ Wa wx D B Z s2.fs u1 u2 u3 s2.ab.fs)
          case first =>
            go_wp2_with fail
            go_loopw [13] (fun vk wr' => ∃ (k : Nat) (s2 : St) (u1 u2 u3 : Value), k ≤ 30 ∧ k ≤ xn ∧ vk = .int .i64 (k : Int) ∧ Nx D B w0 ⟨false, false, 0, m, []⟩ wr' s2 ∧ Wa wr' D B Z s2.fs u1 u2 u3 s2.ab.fs) (fun vk _ => 30 - (intOf vk).toNat)
            case atStart => exact ⟨0, s1, _, _, _, by omega, by omega, rfl, HN3.out, HWA.out⟩
            case round =>
              obtain ⟨k, s2, u1, u2, u3, hk30, hkn, rfl, hN2, hW2⟩ := hrel
              have HN2 := Lib.hid hN2
              have HW2 := Lib.hid hW2
              have HB2 := Lib.hid (HB0.out.trans (hN2.2.1.below (by have := HB0.out.size; rw [HBB.out] at this; exact this) HFOOT.out))
              clear hN2 hW2
              have hcx := HXC.out _ HB2.out
              have hwk : IntKind.i64.wrap ((k : Int) + 1) = ((k + 1 : Nat) : Int) := by
                rw [show ((k : Int) + 1) = ((k + 1 : Nat) : Int) by omega]
                exact IntWalk.i64_in _ (by omega)
              by_cases hkl : k < xn
              · by_cases hk3 : k < 30
                · have hd3 : decide ((k : Int) < 30) = true := by rw [decide_eq_true_eq]; omega
                  obtain ⟨b1, o1, rfl, hb1, hc1⟩ := HXI.out.2.2 (show 0 < xn by omega)
                  have hl1 : xx.length = xn := HXI.out.2.1
                  have hix1 : k < xx.length := by omega
                  obtain ⟨y, hye⟩ : ∃ y, xx[k] = y := ⟨_, rfl⟩
                  have hyk : ClAt w ⟨b1, o1 + k * 6, none⟩ xx[k] := hc1 k hix1
                  rw [hye] at hyk
                  have HCL := Lib.hid (show ∀ W, Below B w W → ClAt W ⟨b1, o1 + k * 6, none⟩ y from fun W hW => hyk.below HBB.out (by rw [← HBB.out]; exact hb1) hW)
                  clear hc1 hix1 hye hyk hl1 hb1
                  go_wp2_with fail
                  refine (down_dsk HN2.out.1).mono ?_
                  rintro e w4 ⟨rfl, rfl⟩
                  obtain ⟨f2, HF2'⟩ : ∃ f, Hid (s2.fl = f) := ⟨_, rfl⟩
                  rw [HF2'.out]
                  cases f2 with
                  | true =>
                    go_wp2_with fail
                    go_meet
                    exact ⟨s2, _, _, _, HN2.out, HW2.out⟩
                  | false =>
                    obtain ⟨q0, q1, q2, q3, q4, q5⟩ := (HCL.out _ HB2.out).all
                    go_wp2_with fail
                    refine (fits_any y _).mono ?_
                    rintro e w5 ⟨rfl, hf5⟩
                    have HN5 := Lib.hid (HN2.out.then_no hf5)
                    have HW5 := Lib.hid (HW2.out.no HN2.out.1 hf5)
                    have HB5 := Lib.hid (HB2.out.trans (hf5.noBelow.mono (by have := HB2.out.size; rw [HBB.out] at this; exact this)))
                    clear hf5 q0 q1 q2 q3 q4 q5 hcx
                    cases hfit : y.fits with
                    | false =>
                      go_wp2_with fail
                      go_roundw
                      case rel => exact ⟨k + 1, s2, _, _, _, by omega, by omega, by go_num, HN5.out, HW5.out⟩
                      case measure => simp [intOf]; omega
                    | true =>
                      have hcx := HXC.out _ HB5.out
                      have hcl := HCL.out _ HB5.out
                      obtain ⟨q0, q1, q2, q3, q4, q5⟩ := hcl.all
                      obtain ⟨_, _, _, _, _, _, hw8, hz1, hz2, hrd⟩ := hcl
                      have HDO := Lib.hid (does_any HN5.out.1 y hz1 hz2 hrd hw8)
                      have HFE := Lib.hid (does_fel s2.ab y (show s2.ab.fl = false from HF2'.out))
                      clear hz1 hz2 hrd hw8 hfit
                      go_wp2_with fail
                      refine HDO.out.mono ?_
                      rintro e w6 ⟨s3, rfl, hN, hab⟩
                      have HN6 := Lib.hid (HN5.out.trans hN)
                      have HW6 := Lib.hid (HW5.out.next hN)
                      have hfe := HFE.out
                      unfold Fel at hfe
                      rw [← hab] at hfe
                      have HFE2 := Lib.hid hfe
                      clear hN hab q0 q1 q2 q3 q4 q5 hcx hfe
                      obtain ⟨cd, HCD⟩ : ∃ cd, Hid ((s2.ab.does y).1 = cd) := ⟨_, rfl⟩
                      rw [HCD.out] at HFE2 ⊢
                      have HD6 := Lib.hid (down_dsk HN6.out.1)
                      by_cases hcd : cd = 15
                      · subst hcd
                        have hfl3 : s3.fl = true := HFE2.out.1.trans (by decide)
                        have hfs3 : s3.ab.fs = s2.ab.fs := HFE2.out.2 hfl3
                        rw [hfl3] at HD6
                        go_wp2_with fail
                        refine HD6.out.mono ?_
                        rintro e w7 ⟨rfl, rfl⟩
                        go_wp2_with fail
                        refine HD6.out.mono ?_
                        rintro e w7 ⟨rfl, rfl⟩
                        go_wp2_with fail
                        go_roundw
                        case rel => exact ⟨k + 1, s3, _, _, _, by omega, by omega, by go_num, HN6.out, by rw [hfs3]; exact HW6.out⟩
                        case measure => simp [intOf]; omega
                      · have hfl3 : s3.fl = false := by have := HFE2.out.1; rw [decide_eq_false hcd] at this; exact this
                        have hcd2 : (cd == 15) = false := by rw [beq_eq_false_iff_ne]; exact hcd
                        rw [hfl3] at HD6
                        go_wp2_with fail
                        refine HD6.out.mono ?_
                        rintro e w7 ⟨rfl, rfl⟩
                        go_wp2_with fail
                        refine HD6.out.mono ?_
                        rintro e w7 ⟨rfl, rfl⟩
                        go_wp2_with fail
                        refine (taken_any HN6.out.1 hfl3).mono ?_
                        rintro e w8 ⟨r1, r2, r3, rfl, hS8, hf8⟩
                        obtain ⟨A7, x7, c7, rfl⟩ : ∃ A x c, r1 = .slice A x c := by
                          rcases hS8.o1.2 with ⟨rfl, e⟩ | ⟨g, cap, cur, rfl, _⟩ <;> exact ⟨_, _, _, rfl⟩
                        obtain ⟨A8, x8, c8, rfl⟩ : ∃ A x c, r2 = .slice A x c := by
                          rcases hS8.o2.2 with ⟨rfl, e⟩ | ⟨g, cap, cur, rfl, _⟩ <;> exact ⟨_, _, _, rfl⟩
                        obtain ⟨A9, x9, c9, rfl⟩ : ∃ A x c, r3 = .slice A x c := by
                          rcases hS8.o3.2 with ⟨rfl, e⟩ | ⟨g, cap, cur, rfl, _⟩ <;> exact ⟨_, _, _, rfl⟩
                        have hW8 := HW6.out.no HN6.out.1 hf8
                        have hc0 : ∃ d0 d1 d2, w8.cell? ⟨Z, 0, none⟩ = some d0 ∧ w8.cell? ⟨Z, 1, none⟩ = some d1 ∧ w8.cell? ⟨Z, 2, none⟩ = some d2 := by
                          unfold World.cell?
                          rw [hW8.blk]
                          exact ⟨_, _, _, rfl, rfl, rfl⟩
                        obtain ⟨d0, d1, d2, k0, k1, k2⟩ := hc0
                        have z0 : w8.frozen? ⟨Z, 0, none⟩ = false := by unfold World.frozen?; rw [hW8.blk]; rfl
                        have z1 : w8.frozen? ⟨Z, 1, none⟩ = false := by unfold World.frozen?; rw [hW8.blk]; rfl
                        have z2 : w8.frozen? ⟨Z, 2, none⟩ = false := by unfold World.frozen?; rw [hW8.blk]; rfl
                        have hbz := heap_cells_set _ Z 2 _ _ (.slice A9 x9 c9) (heap_cells_set _ Z 1 _ _ (.slice A8 x8 c8) (heap_cells_set _ Z 0 _ _ (.slice A7 x7 c7) hW8.blk))
                        have hfz : Fr (fun k => k = Z) w8 (((w8.setCell ⟨Z, 0, none⟩ (.slice A7 x7 c7)).setCell ⟨Z, 1, none⟩ (.slice A8 x8 c8)).setCell ⟨Z, 2, none⟩ (.slice A9 x9 c9)) :=
                          ((Fr.setCell w8 ⟨Z, 0, none⟩ _ (F := fun k => k = Z) rfl).trans (Fr.setCell _ ⟨Z, 1, none⟩ _ (F := fun k => k = Z) rfl) (fun _ _ e => e)).trans (Fr.setCell _ ⟨Z, 2, none⟩ _ (F := fun k => k = Z) rfl) (fun _ _ e => e)
                        have HN9 := Lib.hid (Nx.set (HN6.out.then_no hf8) hfz HZ0.out HW6.out.off)
                        have HW9 := Lib.hid (Wa.take HN6.out.1 hS8 hfz hbz HW6.out.off (.inr ⟨_, _, hW8.blk⟩))
                        clear hW8 hbz hfz hS8 hf8
                        go_wp2_with fail
                        go_roundw
                        case rel => exact ⟨k + 1, s3, _, _, _, by omega, by omega, by go_num, HN9.out, HW9.out⟩
                        case measure => simp [intOf]; omega
                · have hd3 : decide ((k : Int) < 30) = false := by rw [decide_eq_false_iff_not]; omega
                  go_wp2_with fail
                  go_meet
                  exact ⟨s2, _, _, _, HN2.out, HW2.out⟩
              · have hke : k = xn := by omega
                subst hke
                go_wp2_with fail
                go_meet
                exact ⟨s2, _, _, _, HN2.out, HW2.out⟩
          case rest =>
            obtain ⟨s2, u1, u2, u3, hN2, hW2⟩ := hcut
            obtain ⟨U1, X1, C1, rfl⟩ : ∃ A x c, u1 = .slice A x c := by
              rcases hW2.sho.o1.2 with ⟨rfl, e⟩ | ⟨g, cap, cur, rfl, _⟩ <;> exact ⟨_, _, _, rfl⟩
            obtain ⟨U2, X2, C2, rfl⟩ : ∃ A x c, u2 = .slice A x c := by
              rcases hW2.sho.o2.2 with ⟨rfl, e⟩ | ⟨g, cap, cur, rfl, _⟩ <;> exact ⟨_, _, _, rfl⟩
            obtain ⟨U3, X3, C3, rfl⟩ : ∃ A x c, u3 = .slice A x c := by
              rcases hW2.sho.o3.2 with ⟨rfl, e⟩ | ⟨g, cap, cur, rfl, _⟩ <;> exact ⟨_, _, _, rfl⟩
            have HN4 := Lib.hid hN2
            have HW4 := Lib.hid hW2
            have HB4 := Lib.hid (HB0.out.trans (hN2.2.1.below (by have := HB0.out.size; rw [HBB.out] at this; exact this) HFOOT.out))
            have HFT4 := Lib.hid (show ∀ k, foot D B s2.fs k → B ≤ k from fun k hk => by
              rcases hN2.2.2 k hk with e | e
              · exact HFOOT.out k e
              · have := HB0.out.size
                rw [HBB.out] at this
                omega)
            clear hN2 hW2
            by_cases h3 : i < n3
            · obtain ⟨b3, o3, rfl, hb3, hc3⟩ := HKR.out.2 (by omega)
              have hix3 : i < kks.length := by rw [HKR.out.1]; exact h3
              obtain ⟨⟨KA, kn, kc, ks⟩, hke⟩ : ∃ x, kks[i] = x := ⟨_, rfl⟩
              have hki := hc3 i hix3
              rw [hke, Nat.mul_one] at hki
              have hck : wc.cell? ⟨b3, o3 + i, none⟩ = some (.slice KA kn kc) := (HB4.out.cell (p := ⟨b3, o3 + i, none⟩) (by rw [← HBB.out]; exact hb3)).trans hki.1
              have HRI := Lib.hid (show RdI wc (foot D B s2.fs) KA kn ks by
                refine ⟨hki.2.1, fun h0 => ?_⟩
                obtain ⟨b4, o4, e4, hb4, hc4⟩ := hki.2.2 h0
                have hb4B : b4 < B := by rw [← HBB.out]; exact hb4
                refine ⟨b4, o4, e4, ?_, fun e => by have := HFT4.out b4 e; omega, fun j hj => ?_⟩
                · have := HB4.out.size
                  rw [← HBB.out] at hb4B
                  omega
                · have := (hc4 j hj).1
                  rw [Nat.mul_one] at this
                  exact (HB4.out.cell (p := ⟨b4, o4 + j, none⟩) hb4B).trans this)
              clear hc3 hix3 hke hki hb3
              by_cases h250 : kn ≤ 250
              · have hd250 : decide ((kn : Int) ≤ 250) = true := by rw [decide_eq_true_eq]; omega
                have KLE := Lib.hid h250
                have HEQ := Lib.hid (fun (fs4 : List Fl) (h : CrR ks s2.fs s2.fs.length fs4) => crr_lists h)
                go_wp2_with fail
                refine (crash_any HN4.out.1 KA kn kc ks HRI.out).mono ?_
                rintro e w8 ⟨rfl, fs4, hcr, hnx⟩
                have HN8 := Lib.hid (HN4.out.trans hnx)
                have hW8 := HW4.out.next hnx
                have HW8 := Lib.hid hW8
                have HRI8 := Lib.hid (HRI.out.keep hnx.2.1)
                have hq := HEQ.out fs4 hcr
                have e1 : s2.ab.fs.map (·.nm) = s2.fs.map (·.nm) := by show (s2.fs.map Fl.ab).map _ = _; rw [List.map_map]; rfl
                have e2 : s2.ab.fs.map (·.bs) = s2.fs.map (·.bs) := by show (s2.fs.map Fl.ab).map _ = _; rw [List.map_map]; rfl
                have e3 : s2.ab.fs.map (·.fm) = s2.fs.map (·.fm) := by show (s2.fs.map Fl.ab).map _ = _; rw [List.map_map]; rfl
                have e4 : s2.ab.fs.length = s2.fs.length := by show (s2.fs.map Fl.ab).length = _; simp
                rw [← e1, ← e2, ← e3, ← e4] at hq
                have HTRUE := Lib.hid (show (decide (fs4.map (·.nm) = s2.ab.fs.map (·.nm)) && (decide (fs4.map (·.bs) = keptB ks (s2.ab.fs.map (·.bs)) (s2.ab.fs.map (·.fm)) s2.ab.fs.length) && decide (fs4.map (·.fm) = keptE ks (s2.ab.fs.map (·.bs)) (s2.ab.fs.map (·.fm)) s2.ab.fs.length))) = true by
                  rw [decide_eq_true hq.1, decide_eq_true hq.2.1, decide_eq_true hq.2.2]
                  rfl)
                have HL200 := Lib.hid (show s2.ab.fs.length ≤ 200 ∧ fs4.length ≤ 200 from ⟨by rw [e4]; exact HN4.out.1.few, HN8.out.1.few⟩)
                have HFM := Lib.hid (show ∀ (j : Nat) (b : List UInt8) (e : Nat), (s2.ab.fs.map (·.bs))[j]? = some b → (s2.ab.fs.map (·.fm))[j]? = some e → e ≤ b.length ∧ b.length ≤ 16777216 by
                  intro j b e hb he
                  rw [e2, List.getElem?_map] at hb
                  rw [e3, List.getElem?_map] at he
                  cases hj : s2.fs[j]? with
                  | none => rw [hj] at hb; cases hb
                  | some f =>
                    rw [hj] at hb he
                    have hb' : f.bs = b := by simpa using hb
                    have he' : f.fm = e := by simpa using he
                    have hm := List.mem_of_getElem? hj
                    have := HN4.out.1.firm f hm
                    have := used_mem hm
                    have := HN4.out.1.room
                    have := HN4.out.1.most
                    subst hb' he'
                    omega)
                have hzc : ∀ W, Fr No w8 W → W.cell? ⟨Z, 0, none⟩ = some (.slice U1 X1 C1) ∧ W.cell? ⟨Z, 1, none⟩ = some (.slice U2 X2 C2) ∧ W.cell? ⟨Z, 2, none⟩ = some (.slice U3 X3 C3) := fun W hf => by
                  have := (HW8.out.no HN8.out.1 hf).blk
                  unfold World.cell?
                  rw [this]
                  exact ⟨rfl, rfl, rfl⟩
                have HZC := Lib.hid hzc
                have hz8 := hzc _ (Fr.refl No w8)
                have hz8d := hzc _ (Fr.drew No w8)
                have HD8 := Lib.hid (down_dsk (HN8.out.1.no (Fr.drew No w8)))
                have HT8 := Lib.hid (taken_any (HN8.out.1.no (Fr.drew No w8)) rfl)
                clear hnx hW8 hq e1 e2 e3 e4 hcr hzc HEQ
                go_wp2_with fail
                go_region_held3 (fun W => W.cell? ⟨Z, 0, none⟩ = some (.slice U1 X1 C1) ∧ W.cell? ⟨Z, 1, none⟩ = some (.slice U2 X2 C2) ∧ W.cell? ⟨Z, 2, none⟩ = some (.slice U3 X3 C3))
                  (first | exact hz12 | exact hz11 | exact hz10 | exact hz8d | exact hz8)
                  (first
                    | (go_at_call 11; (refine HD8.out.mono ?_); rintro e w9 ⟨rfl, rfl⟩)
                    | (go_at_call 10; (refine HT8.out.mono ?_); rintro e w10 ⟨r1, r2, r3, rfl, hS10, hf10⟩; have HF10 := Lib.hid ((Fr.drew No w8).no_trans hf10); have HS10 := Lib.hid hS10; have hz10 := HZC.out _ HF10.out; clear hS10 hf10)
                    | (go_at_call 16; (refine (kept_any (HW8.out.no HN8.out.1 HF10.out).sho HL200.out.1 (HRI8.out.keep (HF10.out.mono (fun _ _ e => e.elim))) KLE.out HFM.out).mono ?_); rintro e w11 ⟨p2, p3, rfl, hS11, hf11⟩; have HF11 := Lib.hid (HF10.out.no_trans hf11); have HS11 := Lib.hid hS11; have HSA := Lib.hid (show Sho w8.drew.heap.size w8.drew.heap.size w11 r1 r2 r3 fs4.length (fs4.map (·.nm)) (fs4.map (·.bs)) (fs4.map (·.fm)) from ⟨own_keep HS10.out.o1 (fun k hk => hf11.block k (HS10.out.o1.lt k hk).2 (fun e => e)), own_keep HS10.out.o2 (fun k hk => hf11.block k (HS10.out.o2.lt k hk).2 (fun e => e)), own_keep HS10.out.o3 (fun k hk => hf11.block k (HS10.out.o3.lt k hk).2 (fun e => e))⟩); have hz11 := HZC.out _ HF11.out; have hsame := same_any HSA.out HS11.out (by have := HL200.out; omega) (by have := HL200.out; omega); rw [HTRUE.out] at hsame; have HSAME := Lib.hid hsame; clear hS11 hf11 hsame)
                    | (go_at_call 15; (refine HSAME.out.mono ?_); rintro e w12 ⟨rfl, hf12⟩; have HF12 := Lib.hid (HF11.out.no_trans hf12); have hz12 := HZC.out _ HF12.out; clear hf12))
                all_goals (
                  have HN12 := Lib.hid (HN8.out.then_no HF12.out)
                  clear hz8 hz8d hz10 hz11 hz12
                  go_wp2_with fail
                  go_roundw
                  case measure => simp [intOf]; omega
                  case rel => exact ⟨i + 1, _, by omega, by omega, by first | rfl | go_num, HN12.out, rfl⟩)
              · have hd250 : decide ((kn : Int) ≤ 250) = false := by rw [decide_eq_false_iff_not]; omega
                have KLE := Lib.hid (Nat.zero_le 250)
                clear HRI
                have HRI := Lib.hid (RdI.nil (w := wc) (F := foot D B s2.fs) (A := none))
                have HEQ := Lib.hid (fun (fs4 : List Fl) (h : CrR [] s2.fs s2.fs.length fs4) => crr_lists h)
                go_wp2_with fail
                refine (crash_any HN4.out.1 none 0 0 [] HRI.out).mono ?_
                rintro e w8 ⟨rfl, fs4, hcr, hnx⟩
                have HN8 := Lib.hid (HN4.out.trans hnx)
                have hW8 := HW4.out.next hnx
                have HW8 := Lib.hid hW8
                have HRI8 := Lib.hid (HRI.out.keep hnx.2.1)
                have hq := HEQ.out fs4 hcr
                have e1 : s2.ab.fs.map (·.nm) = s2.fs.map (·.nm) := by show (s2.fs.map Fl.ab).map _ = _; rw [List.map_map]; rfl
                have e2 : s2.ab.fs.map (·.bs) = s2.fs.map (·.bs) := by show (s2.fs.map Fl.ab).map _ = _; rw [List.map_map]; rfl
                have e3 : s2.ab.fs.map (·.fm) = s2.fs.map (·.fm) := by show (s2.fs.map Fl.ab).map _ = _; rw [List.map_map]; rfl
                have e4 : s2.ab.fs.length = s2.fs.length := by show (s2.fs.map Fl.ab).length = _; simp
                rw [← e1, ← e2, ← e3, ← e4] at hq
                have HTRUE := Lib.hid (show (decide (fs4.map (·.nm) = s2.ab.fs.map (·.nm)) && (decide (fs4.map (·.bs) = keptB [] (s2.ab.fs.map (·.bs)) (s2.ab.fs.map (·.fm)) s2.ab.fs.length) && decide (fs4.map (·.fm) = keptE [] (s2.ab.fs.map (·.bs)) (s2.ab.fs.map (·.fm)) s2.ab.fs.length))) = true by
                  rw [decide_eq_true hq.1, decide_eq_true hq.2.1, decide_eq_true hq.2.2]
                  rfl)
                have HL200 := Lib.hid (show s2.ab.fs.length ≤ 200 ∧ fs4.length ≤ 200 from ⟨by rw [e4]; exact HN4.out.1.few, HN8.out.1.few⟩)
                have HFM := Lib.hid (show ∀ (j : Nat) (b : List UInt8) (e : Nat), (s2.ab.fs.map (·.bs))[j]? = some b → (s2.ab.fs.map (·.fm))[j]? = some e → e ≤ b.length ∧ b.length ≤ 16777216 by
                  intro j b e hb he
                  rw [e2, List.getElem?_map] at hb
                  rw [e3, List.getElem?_map] at he
                  cases hj : s2.fs[j]? with
                  | none => rw [hj] at hb; cases hb
                  | some f =>
                    rw [hj] at hb he
                    have hb' : f.bs = b := by simpa using hb
                    have he' : f.fm = e := by simpa using he
                    have hm := List.mem_of_getElem? hj
                    have := HN4.out.1.firm f hm
                    have := used_mem hm
                    have := HN4.out.1.room
                    have := HN4.out.1.most
                    subst hb' he'
                    omega)
                have hzc : ∀ W, Fr No w8 W → W.cell? ⟨Z, 0, none⟩ = some (.slice U1 X1 C1) ∧ W.cell? ⟨Z, 1, none⟩ = some (.slice U2 X2 C2) ∧ W.cell? ⟨Z, 2, none⟩ = some (.slice U3 X3 C3) := fun W hf => by
                  have := (HW8.out.no HN8.out.1 hf).blk
                  unfold World.cell?
                  rw [this]
                  exact ⟨rfl, rfl, rfl⟩
                have HZC := Lib.hid hzc
                have hz8 := hzc _ (Fr.refl No w8)
                have hz8d := hzc _ (Fr.drew No w8)
                have HD8 := Lib.hid (down_dsk (HN8.out.1.no (Fr.drew No w8)))
                have HT8 := Lib.hid (taken_any (HN8.out.1.no (Fr.drew No w8)) rfl)
                clear hnx hW8 hq e1 e2 e3 e4 hcr hzc HEQ
                go_wp2_with fail
                go_region_held3 (fun W => W.cell? ⟨Z, 0, none⟩ = some (.slice U1 X1 C1) ∧ W.cell? ⟨Z, 1, none⟩ = some (.slice U2 X2 C2) ∧ W.cell? ⟨Z, 2, none⟩ = some (.slice U3 X3 C3))
                  (first | exact hz12 | exact hz11 | exact hz10 | exact hz8d | exact hz8)
                  (first
                    | (go_at_call 11; (refine HD8.out.mono ?_); rintro e w9 ⟨rfl, rfl⟩)
                    | (go_at_call 10; (refine HT8.out.mono ?_); rintro e w10 ⟨r1, r2, r3, rfl, hS10, hf10⟩; have HF10 := Lib.hid ((Fr.drew No w8).no_trans hf10); have HS10 := Lib.hid hS10; have hz10 := HZC.out _ HF10.out; clear hS10 hf10)
                    | (go_at_call 16; (refine (kept_any (HW8.out.no HN8.out.1 HF10.out).sho HL200.out.1 (HRI8.out.keep (HF10.out.mono (fun _ _ e => e.elim))) KLE.out HFM.out).mono ?_); rintro e w11 ⟨p2, p3, rfl, hS11, hf11⟩; have HF11 := Lib.hid (HF10.out.no_trans hf11); have HS11 := Lib.hid hS11; have HSA := Lib.hid (show Sho w8.drew.heap.size w8.drew.heap.size w11 r1 r2 r3 fs4.length (fs4.map (·.nm)) (fs4.map (·.bs)) (fs4.map (·.fm)) from ⟨own_keep HS10.out.o1 (fun k hk => hf11.block k (HS10.out.o1.lt k hk).2 (fun e => e)), own_keep HS10.out.o2 (fun k hk => hf11.block k (HS10.out.o2.lt k hk).2 (fun e => e)), own_keep HS10.out.o3 (fun k hk => hf11.block k (HS10.out.o3.lt k hk).2 (fun e => e))⟩); have hz11 := HZC.out _ HF11.out; have hsame := same_any HSA.out HS11.out (by have := HL200.out; omega) (by have := HL200.out; omega); rw [HTRUE.out] at hsame; have HSAME := Lib.hid hsame; clear hS11 hf11 hsame)
                    | (go_at_call 15; (refine HSAME.out.mono ?_); rintro e w12 ⟨rfl, hf12⟩; have HF12 := Lib.hid (HF11.out.no_trans hf12); have hz12 := HZC.out _ HF12.out; clear hf12))
                all_goals (
                  have HN12 := Lib.hid (HN8.out.then_no HF12.out)
                  clear hz8 hz8d hz10 hz11 hz12
                  go_wp2_with fail
                  go_roundw
                  case measure => simp [intOf]; omega
                  case rel => exact ⟨i + 1, _, by omega, by omega, by first | rfl | go_num, HN12.out, rfl⟩)
            · have KLE := Lib.hid (Nat.zero_le 250)
              have HRI := Lib.hid (RdI.nil (w := wc) (F := foot D B s2.fs) (A := none))
              have HEQ := Lib.hid (fun (fs4 : List Fl) (h : CrR [] s2.fs s2.fs.length fs4) => crr_lists h)
              go_wp2_with fail
              refine (crash_any HN4.out.1 none 0 0 [] HRI.out).mono ?_
              rintro e w8 ⟨rfl, fs4, hcr, hnx⟩
              have HN8 := Lib.hid (HN4.out.trans hnx)
              have hW8 := HW4.out.next hnx
              have HW8 := Lib.hid hW8
              have HRI8 := Lib.hid (HRI.out.keep hnx.2.1)
              have hq := HEQ.out fs4 hcr
              have e1 : s2.ab.fs.map (·.nm) = s2.fs.map (·.nm) := by show (s2.fs.map Fl.ab).map _ = _; rw [List.map_map]; rfl
              have e2 : s2.ab.fs.map (·.bs) = s2.fs.map (·.bs) := by show (s2.fs.map Fl.ab).map _ = _; rw [List.map_map]; rfl
              have e3 : s2.ab.fs.map (·.fm) = s2.fs.map (·.fm) := by show (s2.fs.map Fl.ab).map _ = _; rw [List.map_map]; rfl
              have e4 : s2.ab.fs.length = s2.fs.length := by show (s2.fs.map Fl.ab).length = _; simp
              rw [← e1, ← e2, ← e3, ← e4] at hq
              have HTRUE := Lib.hid (show (decide (fs4.map (·.nm) = s2.ab.fs.map (·.nm)) && (decide (fs4.map (·.bs) = keptB [] (s2.ab.fs.map (·.bs)) (s2.ab.fs.map (·.fm)) s2.ab.fs.length) && decide (fs4.map (·.fm) = keptE [] (s2.ab.fs.map (·.bs)) (s2.ab.fs.map (·.fm)) s2.ab.fs.length))) = true by
                rw [decide_eq_true hq.1, decide_eq_true hq.2.1, decide_eq_true hq.2.2]
                rfl)
              have HL200 := Lib.hid (show s2.ab.fs.length ≤ 200 ∧ fs4.length ≤ 200 from ⟨by rw [e4]; exact HN4.out.1.few, HN8.out.1.few⟩)
              have HFM := Lib.hid (show ∀ (j : Nat) (b : List UInt8) (e : Nat), (s2.ab.fs.map (·.bs))[j]? = some b → (s2.ab.fs.map (·.fm))[j]? = some e → e ≤ b.length ∧ b.length ≤ 16777216 by
                intro j b e hb he
                rw [e2, List.getElem?_map] at hb
                rw [e3, List.getElem?_map] at he
                cases hj : s2.fs[j]? with
                | none => rw [hj] at hb; cases hb
                | some f =>
                  rw [hj] at hb he
                  have hb' : f.bs = b := by simpa using hb
                  have he' : f.fm = e := by simpa using he
                  have hm := List.mem_of_getElem? hj
                  have := HN4.out.1.firm f hm
                  have := used_mem hm
                  have := HN4.out.1.room
                  have := HN4.out.1.most
                  subst hb' he'
                  omega)
              have hzc : ∀ W, Fr No w8 W → W.cell? ⟨Z, 0, none⟩ = some (.slice U1 X1 C1) ∧ W.cell? ⟨Z, 1, none⟩ = some (.slice U2 X2 C2) ∧ W.cell? ⟨Z, 2, none⟩ = some (.slice U3 X3 C3) := fun W hf => by
                have := (HW8.out.no HN8.out.1 hf).blk
                unfold World.cell?
                rw [this]
                exact ⟨rfl, rfl, rfl⟩
              have HZC := Lib.hid hzc
              have hz8 := hzc _ (Fr.refl No w8)
              have hz8d := hzc _ (Fr.drew No w8)
              have HD8 := Lib.hid (down_dsk (HN8.out.1.no (Fr.drew No w8)))
              have HT8 := Lib.hid (taken_any (HN8.out.1.no (Fr.drew No w8)) rfl)
              clear hnx hW8 hq e1 e2 e3 e4 hcr hzc HEQ
              go_wp2_with fail
              go_region_held3 (fun W => W.cell? ⟨Z, 0, none⟩ = some (.slice U1 X1 C1) ∧ W.cell? ⟨Z, 1, none⟩ = some (.slice U2 X2 C2) ∧ W.cell? ⟨Z, 2, none⟩ = some (.slice U3 X3 C3))
                (first | exact hz12 | exact hz11 | exact hz10 | exact hz8d | exact hz8)
                (first
                  | (go_at_call 11; (refine HD8.out.mono ?_); rintro e w9 ⟨rfl, rfl⟩)
                  | (go_at_call 10; (refine HT8.out.mono ?_); rintro e w10 ⟨r1, r2, r3, rfl, hS10, hf10⟩; have HF10 := Lib.hid ((Fr.drew No w8).no_trans hf10); have HS10 := Lib.hid hS10; have hz10 := HZC.out _ HF10.out; clear hS10 hf10)
                  | (go_at_call 16; (refine (kept_any (HW8.out.no HN8.out.1 HF10.out).sho HL200.out.1 (HRI8.out.keep (HF10.out.mono (fun _ _ e => e.elim))) KLE.out HFM.out).mono ?_); rintro e w11 ⟨p2, p3, rfl, hS11, hf11⟩; have HF11 := Lib.hid (HF10.out.no_trans hf11); have HS11 := Lib.hid hS11; have HSA := Lib.hid (show Sho w8.drew.heap.size w8.drew.heap.size w11 r1 r2 r3 fs4.length (fs4.map (·.nm)) (fs4.map (·.bs)) (fs4.map (·.fm)) from ⟨own_keep HS10.out.o1 (fun k hk => hf11.block k (HS10.out.o1.lt k hk).2 (fun e => e)), own_keep HS10.out.o2 (fun k hk => hf11.block k (HS10.out.o2.lt k hk).2 (fun e => e)), own_keep HS10.out.o3 (fun k hk => hf11.block k (HS10.out.o3.lt k hk).2 (fun e => e))⟩); have hz11 := HZC.out _ HF11.out; have hsame := same_any HSA.out HS11.out (by have := HL200.out; omega) (by have := HL200.out; omega); rw [HTRUE.out] at hsame; have HSAME := Lib.hid hsame; clear hS11 hf11 hsame)
                  | (go_at_call 15; (refine HSAME.out.mono ?_); rintro e w12 ⟨rfl, hf12⟩; have HF12 := Lib.hid (HF11.out.no_trans hf12); have hz12 := HZC.out _ HF12.out; clear hf12))
              all_goals (
                have HN12 := Lib.hid (HN8.out.then_no HF12.out)
                clear hz8 hz8d hz10 hz11 hz12
                go_wp2_with fail
                go_roundw
                case measure => simp [intOf]; omega
                case rel => exact ⟨i + 1, _, by omega, by omega, by first | rfl | go_num, HN12.out, rfl⟩)
      · have HN1 := Lib.hid HN.out
        have HFL1 := Lib.hid HFLS.out
        obtain ⟨s1, HS1⟩ : ∃ s1, Hid (s = s1) := ⟨_, rfl⟩
        rw [HS1.out] at HN1 HFL1
        go_wp2_with fail
        refine (taken_any HN1.out.1 HFL1.out).mono ?_
        rintro e w2 ⟨v1, v2, v3, rfl, hS, hf2⟩
        obtain ⟨A4, x4, c4, rfl⟩ : ∃ A x c, v1 = .slice A x c := by
          rcases hS.o1.2 with ⟨rfl, e⟩ | ⟨g, cap, cur, rfl, _⟩ <;> exact ⟨_, _, _, rfl⟩
        obtain ⟨A5, x5, c5, rfl⟩ : ∃ A x c, v2 = .slice A x c := by
          rcases hS.o2.2 with ⟨rfl, e⟩ | ⟨g, cap, cur, rfl, _⟩ <;> exact ⟨_, _, _, rfl⟩
        obtain ⟨A6, x6, c6, rfl⟩ : ∃ A x c, v3 = .slice A x c := by
          rcases hS.o3.2 with ⟨rfl, e⟩ | ⟨g, cap, cur, rfl, _⟩ <;> exact ⟨_, _, _, rfl⟩
        have HSH := Lib.hid hS
        have HF2 := Lib.hid hf2
        clear hS hf2
        go_upto_block 2 with fail
        obtain ⟨Z, HZ⟩ : ∃ Z, Hid (w2.heap.size = Z) := ⟨_, rfl⟩
        rw [HZ.out]
        obtain ⟨w3, HW3⟩ : ∃ w3, Hid (w2.alloc (.cells #[.slice A4 x4 c4, .slice A5 x5 c5, .slice A6 x6 c6] 33) = w3) := ⟨_, rfl⟩
        rw [HW3.out]
        have HN3 := Lib.hid (show Nx D B w0 _ w3 s1 by rw [← HW3.out]; exact (HN1.out.then_no HF2.out).then_no (Fr.alloc No w2 _))
        have hZ1 : ¬ foot D B s1.fs Z := fun e => by
          have := HN1.out.1.foot_lt e
          have := HF2.out.size
          rw [HZ.out] at this
          omega
        have HWA := Lib.hid (show Wa w3 D B Z s1.fs (.slice A4 x4 c4) (.slice A5 x5 c5) (.slice A6 x6 c6) s1.ab.fs by
          refine Wa.take HN1.out.1 HSH.out ?_ ?_ hZ1 (.inl (Nat.le_of_eq HZ.out))
          · rw [← HW3.out]; exact Fr.alloc _ w2 _
          · rw [← HW3.out, ← HZ.out]; exact heap_alloc_new _ _)
        have HZ0 := Lib.hid (show w0.heap.size ≤ Z by have := HN1.out.2.1.size; have := HF2.out.size; have := HZ.out; omega)
        clear hZ1 HSH HW3
        go_cut [] (fun wx => ∃ (s2 : St) (u1 u2 u3 : Value), Nx D B w0 ⟨false, false, 0, m, []⟩ wx s2 ∧ Wa wx D B Z s2.fs u1 u2 u3 s2.ab.fs)
        case first =>
          go_wp2_with fail
          go_loopw [13] (fun vk wr' => ∃ (k : Nat) (s2 : St) (u1 u2 u3 : Value), k ≤ 30 ∧ k ≤ xn ∧ vk = .int .i64 (k : Int) ∧ Nx D B w0 ⟨false, false, 0, m, []⟩ wr' s2 ∧ Wa wr' D B Z s2.fs u1 u2 u3 s2.ab.fs) (fun vk _ => 30 - (intOf vk).toNat)
          case atStart => exact ⟨0, s1, _, _, _, by omega, by omega, rfl, HN3.out, HWA.out⟩
          case round =>
            obtain ⟨k, s2, u1, u2, u3, hk30, hkn, rfl, hN2, hW2⟩ := hrel
            have HN2 := Lib.hid hN2
            have HW2 := Lib.hid hW2
            have HB2 := Lib.hid (HB0.out.trans (hN2.2.1.below (by have := HB0.out.size; rw [HBB.out] at this; exact this) HFOOT.out))
            clear hN2 hW2
            have hcx := HXC.out _ HB2.out
            have hwk : IntKind.i64.wrap ((k : Int) + 1) = ((k + 1 : Nat) : Int) := by
              rw [show ((k : Int) + 1) = ((k + 1 : Nat) : Int) by omega]
              exact IntWalk.i64_in _ (by omega)
            by_cases hkl : k < xn
            · by_cases hk3 : k < 30
              · have hd3 : decide ((k : Int) < 30) = true := by rw [decide_eq_true_eq]; omega
                obtain ⟨b1, o1, rfl, hb1, hc1⟩ := HXI.out.2.2 (show 0 < xn by omega)
                have hl1 : xx.length = xn := HXI.out.2.1
                have hix1 : k < xx.length := by omega
                obtain ⟨y, hye⟩ : ∃ y, xx[k] = y := ⟨_, rfl⟩
                have hyk : ClAt w ⟨b1, o1 + k * 6, none⟩ xx[k] := hc1 k hix1
                rw [hye] at hyk
                have HCL := Lib.hid (show ∀ W, Below B w W → ClAt W ⟨b1, o1 + k * 6, none⟩ y from fun W hW => hyk.below HBB.out (by rw [← HBB.out]; exact hb1) hW)
                clear hc1 hix1 hye hyk hl1 hb1
                go_wp2_with fail
                refine (down_dsk HN2.out.1).mono ?_
                rintro e w4 ⟨rfl, rfl⟩
                obtain ⟨f2, HF2'⟩ : ∃ f, Hid (s2.fl = f) := ⟨_, rfl⟩
                rw [HF2'.out]
                cases f2 with
                | true =>
                  go_wp2_with fail
                  go_meet
                  exact ⟨s2, _, _, _, HN2.out, HW2.out⟩
                | false =>
                  obtain ⟨q0, q1, q2, q3, q4, q5⟩ := (HCL.out _ HB2.out).all
                  go_wp2_with fail
                  refine (fits_any y _).mono ?_
                  rintro e w5 ⟨rfl, hf5⟩
                  have HN5 := Lib.hid (HN2.out.then_no hf5)
                  have HW5 := Lib.hid (HW2.out.no HN2.out.1 hf5)
                  have HB5 := Lib.hid (HB2.out.trans (hf5.noBelow.mono (by have := HB2.out.size; rw [HBB.out] at this; exact this)))
                  clear hf5 q0 q1 q2 q3 q4 q5 hcx
                  cases hfit : y.fits with
                  | false =>
                    go_wp2_with fail
                    go_roundw
                    case rel => exact ⟨k + 1, s2, _, _, _, by omega, by omega, by go_num, HN5.out, HW5.out⟩
                    case measure => simp [intOf]; omega
                  | true =>
                    have hcx := HXC.out _ HB5.out
                    have hcl := HCL.out _ HB5.out
                    obtain ⟨q0, q1, q2, q3, q4, q5⟩ := hcl.all
                    obtain ⟨_, _, _, _, _, _, hw8, hz1, hz2, hrd⟩ := hcl
                    have HDO := Lib.hid (does_any HN5.out.1 y hz1 hz2 hrd hw8)
                    have HFE := Lib.hid (does_fel s2.ab y (show s2.ab.fl = false from HF2'.out))
                    clear hz1 hz2 hrd hw8 hfit
                    go_wp2_with fail
                    refine HDO.out.mono ?_
                    rintro e w6 ⟨s3, rfl, hN, hab⟩
                    have HN6 := Lib.hid (HN5.out.trans hN)
                    have HW6 := Lib.hid (HW5.out.next hN)
                    have hfe := HFE.out
                    unfold Fel at hfe
                    rw [← hab] at hfe
                    have HFE2 := Lib.hid hfe
                    clear hN hab q0 q1 q2 q3 q4 q5 hcx hfe
                    obtain ⟨cd, HCD⟩ : ∃ cd, Hid ((s2.ab.does y).1 = cd) := ⟨_, rfl⟩
                    rw [HCD.out] at HFE2 ⊢
                    have HD6 := Lib.hid (down_dsk HN6.out.1)
                    by_cases hcd : cd = 15
                    · subst hcd
                      have hfl3 : s3.fl = true := HFE2.out.1.trans (by decide)
                      have hfs3 : s3.ab.fs = s2.ab.fs := HFE2.out.2 hfl3
                      rw [hfl3] at HD6
                      go_wp2_with fail
                      refine HD6.out.mono ?_
                      rintro e w7 ⟨rfl, rfl⟩
                      go_wp2_with fail
                      refine HD6.out.mono ?_
                      rintro e w7 ⟨rfl, rfl⟩
                      go_wp2_with fail
                      go_roundw
                      case rel => exact ⟨k + 1, s3, _, _, _, by omega, by omega, by go_num, HN6.out, by rw [hfs3]; exact HW6.out⟩
                      case measure => simp [intOf]; omega
                    · have hfl3 : s3.fl = false := by have := HFE2.out.1; rw [decide_eq_false hcd] at this; exact this
                      have hcd2 : (cd == 15) = false := by rw [beq_eq_false_iff_ne]; exact hcd
                      rw [hfl3] at HD6
                      go_wp2_with fail
                      refine HD6.out.mono ?_
                      rintro e w7 ⟨rfl, rfl⟩
                      go_wp2_with fail
                      refine HD6.out.mono ?_
                      rintro e w7 ⟨rfl, rfl⟩
                      go_wp2_with fail
                      refine (taken_any HN6.out.1 hfl3).mono ?_
                      rintro e w8 ⟨r1, r2, r3, rfl, hS8, hf8⟩
                      obtain ⟨A7, x7, c7, rfl⟩ : ∃ A x c, r1 = .slice A x c := by
                        rcases hS8.o1.2 with ⟨rfl, e⟩ | ⟨g, cap, cur, rfl, _⟩ <;> exact ⟨_, _, _, rfl⟩
                      obtain ⟨A8, x8, c8, rfl⟩ : ∃ A x c, r2 = .slice A x c := by
                        rcases hS8.o2.2 with ⟨rfl, e⟩ | ⟨g, cap, cur, rfl, _⟩ <;> exact ⟨_, _, _, rfl⟩
                      obtain ⟨A9, x9, c9, rfl⟩ : ∃ A x c, r3 = .slice A x c := by
                        rcases hS8.o3.2 with ⟨rfl, e⟩ | ⟨g, cap, cur, rfl, _⟩ <;> exact ⟨_, _, _, rfl⟩
                      have hW8 := HW6.out.no HN6.out.1 hf8
                      have hc0 : ∃ d0 d1 d2, w8.cell? ⟨Z, 0, none⟩ = some d0 ∧ w8.cell? ⟨Z, 1, none⟩ = some d1 ∧ w8.cell? ⟨Z, 2, none⟩ = some d2 := by
                        unfold World.cell?
                        rw [hW8.blk]
                        exact ⟨_, _, _, rfl, rfl, rfl⟩
                      obtain ⟨d0, d1, d2, k0, k1, k2⟩ := hc0
                      have z0 : w8.frozen? ⟨Z, 0, none⟩ = false := by unfold World.frozen?; rw [hW8.blk]; rfl
                      have z1 : w8.frozen? ⟨Z, 1, none⟩ = false := by unfold World.frozen?; rw [hW8.blk]; rfl
                      have z2 : w8.frozen? ⟨Z, 2, none⟩ = false := by unfold World.frozen?; rw [hW8.blk]; rfl
                      have hbz := heap_cells_set _ Z 2 _ _ (.slice A9 x9 c9) (heap_cells_set _ Z 1 _ _ (.slice A8 x8 c8) (heap_cells_set _ Z 0 _ _ (.slice A7 x7 c7) hW8.blk))
                      have hfz : Fr (fun k => k = Z) w8 (((w8.setCell ⟨Z, 0, none⟩ (.slice A7 x7 c7)).setCell ⟨Z, 1, none⟩ (.slice A8 x8 c8)).setCell ⟨Z, 2, none⟩ (.slice A9 x9 c9)) :=
                        ((Fr.setCell w8 ⟨Z, 0, none⟩ _ (F := fun k => k = Z) rfl).trans (Fr.setCell _ ⟨Z, 1, none⟩ _ (F := fun k => k = Z) rfl) (fun _ _ e => e)).trans (Fr.setCell _ ⟨Z, 2, none⟩ _ (F := fun k => k = Z) rfl) (fun _ _ e => e)
                      have HN9 := Lib.hid (Nx.set (HN6.out.then_no hf8) hfz HZ0.out HW6.out.off)
                      have HW9 := Lib.hid (Wa.take HN6.out.1 hS8 hfz hbz HW6.out.off (.inr ⟨_, _, hW8.blk⟩))
                      clear hW8 hbz hfz hS8 hf8
                      go_wp2_with fail
                      go_roundw
                      case rel => exact ⟨k + 1, s3, _, _, _, by omega, by omega, by go_num, HN9.out, HW9.out⟩
                      case measure => simp [intOf]; omega
              · have hd3 : decide ((k : Int) < 30) = false := by rw [decide_eq_false_iff_not]; omega
                go_wp2_with fail
                go_meet
                exact ⟨s2, _, _, _, HN2.out, HW2.out⟩
            · have hke : k = xn := by omega
              subst hke
              go_wp2_with fail
              go_meet
              exact ⟨s2, _, _, _, HN2.out, HW2.out⟩
        case rest =>
          obtain ⟨s2, u1, u2, u3, hN2, hW2⟩ := hcut
          obtain ⟨U1, X1, C1, rfl⟩ : ∃ A x c, u1 = .slice A x c := by
            rcases hW2.sho.o1.2 with ⟨rfl, e⟩ | ⟨g, cap, cur, rfl, _⟩ <;> exact ⟨_, _, _, rfl⟩
          obtain ⟨U2, X2, C2, rfl⟩ : ∃ A x c, u2 = .slice A x c := by
            rcases hW2.sho.o2.2 with ⟨rfl, e⟩ | ⟨g, cap, cur, rfl, _⟩ <;> exact ⟨_, _, _, rfl⟩
          obtain ⟨U3, X3, C3, rfl⟩ : ∃ A x c, u3 = .slice A x c := by
            rcases hW2.sho.o3.2 with ⟨rfl, e⟩ | ⟨g, cap, cur, rfl, _⟩ <;> exact ⟨_, _, _, rfl⟩
          have HN4 := Lib.hid hN2
          have HW4 := Lib.hid hW2
          have HB4 := Lib.hid (HB0.out.trans (hN2.2.1.below (by have := HB0.out.size; rw [HBB.out] at this; exact this) HFOOT.out))
          have HFT4 := Lib.hid (show ∀ k, foot D B s2.fs k → B ≤ k from fun k hk => by
            rcases hN2.2.2 k hk with e | e
            · exact HFOOT.out k e
            · have := HB0.out.size
              rw [HBB.out] at this
              omega)
          clear hN2 hW2
          by_cases h3 : i < n3
          · obtain ⟨b3, o3, rfl, hb3, hc3⟩ := HKR.out.2 (by omega)
            have hix3 : i < kks.length := by rw [HKR.out.1]; exact h3
            obtain ⟨⟨KA, kn, kc, ks⟩, hke⟩ : ∃ x, kks[i] = x := ⟨_, rfl⟩
            have hki := hc3 i hix3
            rw [hke, Nat.mul_one] at hki
            have hck : wc.cell? ⟨b3, o3 + i, none⟩ = some (.slice KA kn kc) := (HB4.out.cell (p := ⟨b3, o3 + i, none⟩) (by rw [← HBB.out]; exact hb3)).trans hki.1
            have HRI := Lib.hid (show RdI wc (foot D B s2.fs) KA kn ks by
              refine ⟨hki.2.1, fun h0 => ?_⟩
              obtain ⟨b4, o4, e4, hb4, hc4⟩ := hki.2.2 h0
              have hb4B : b4 < B := by rw [← HBB.out]; exact hb4
              refine ⟨b4, o4, e4, ?_, fun e => by have := HFT4.out b4 e; omega, fun j hj => ?_⟩
              · have := HB4.out.size
                rw [← HBB.out] at hb4B
                omega
              · have := (hc4 j hj).1
                rw [Nat.mul_one] at this
                exact (HB4.out.cell (p := ⟨b4, o4 + j, none⟩) hb4B).trans this)
            clear hc3 hix3 hke hki hb3
            by_cases h250 : kn ≤ 250
            · have hd250 : decide ((kn : Int) ≤ 250) = true := by rw [decide_eq_true_eq]; omega
              have KLE := Lib.hid h250
              have HEQ := Lib.hid (fun (fs4 : List Fl) (h : CrR ks s2.fs s2.fs.length fs4) => crr_lists h)
              go_wp2_with fail
              refine (crash_any HN4.out.1 KA kn kc ks HRI.out).mono ?_
              rintro e w8 ⟨rfl, fs4, hcr, hnx⟩
              have HN8 := Lib.hid (HN4.out.trans hnx)
              have hW8 := HW4.out.next hnx
              have HW8 := Lib.hid hW8
              have HRI8 := Lib.hid (HRI.out.keep hnx.2.1)
              have hq := HEQ.out fs4 hcr
              have e1 : s2.ab.fs.map (·.nm) = s2.fs.map (·.nm) := by show (s2.fs.map Fl.ab).map _ = _; rw [List.map_map]; rfl
              have e2 : s2.ab.fs.map (·.bs) = s2.fs.map (·.bs) := by show (s2.fs.map Fl.ab).map _ = _; rw [List.map_map]; rfl
              have e3 : s2.ab.fs.map (·.fm) = s2.fs.map (·.fm) := by show (s2.fs.map Fl.ab).map _ = _; rw [List.map_map]; rfl
              have e4 : s2.ab.fs.length = s2.fs.length := by show (s2.fs.map Fl.ab).length = _; simp
              rw [← e1, ← e2, ← e3, ← e4] at hq
              have HTRUE := Lib.hid (show (decide (fs4.map (·.nm) = s2.ab.fs.map (·.nm)) && (decide (fs4.map (·.bs) = keptB ks (s2.ab.fs.map (·.bs)) (s2.ab.fs.map (·.fm)) s2.ab.fs.length) && decide (fs4.map (·.fm) = keptE ks (s2.ab.fs.map (·.bs)) (s2.ab.fs.map (·.fm)) s2.ab.fs.length))) = true by
                rw [decide_eq_true hq.1, decide_eq_true hq.2.1, decide_eq_true hq.2.2]
                rfl)
              have HL200 := Lib.hid (show s2.ab.fs.length ≤ 200 ∧ fs4.length ≤ 200 from ⟨by rw [e4]; exact HN4.out.1.few, HN8.out.1.few⟩)
              have HFM := Lib.hid (show ∀ (j : Nat) (b : List UInt8) (e : Nat), (s2.ab.fs.map (·.bs))[j]? = some b → (s2.ab.fs.map (·.fm))[j]? = some e → e ≤ b.length ∧ b.length ≤ 16777216 by
                intro j b e hb he
                rw [e2, List.getElem?_map] at hb
                rw [e3, List.getElem?_map] at he
                cases hj : s2.fs[j]? with
                | none => rw [hj] at hb; cases hb
                | some f =>
                  rw [hj] at hb he
                  have hb' : f.bs = b := by simpa using hb
                  have he' : f.fm = e := by simpa using he
                  have hm := List.mem_of_getElem? hj
                  have := HN4.out.1.firm f hm
                  have := used_mem hm
                  have := HN4.out.1.room
                  have := HN4.out.1.most
                  subst hb' he'
                  omega)
              have hzc : ∀ W, Fr No w8 W → W.cell? ⟨Z, 0, none⟩ = some (.slice U1 X1 C1) ∧ W.cell? ⟨Z, 1, none⟩ = some (.slice U2 X2 C2) ∧ W.cell? ⟨Z, 2, none⟩ = some (.slice U3 X3 C3) := fun W hf => by
                have := (HW8.out.no HN8.out.1 hf).blk
                unfold World.cell?
                rw [this]
                exact ⟨rfl, rfl, rfl⟩
              have HZC := Lib.hid hzc
              have hz8 := hzc _ (Fr.refl No w8)
              have hz8d := hzc _ (Fr.drew No w8)
              have HD8 := Lib.hid (down_dsk (HN8.out.1.no (Fr.drew No w8)))
              have HT8 := Lib.hid (taken_any (HN8.out.1.no (Fr.drew No w8)) rfl)
              clear hnx hW8 hq e1 e2 e3 e4 hcr hzc HEQ
              go_wp2_with fail
              go_region_held3 (fun W => W.cell? ⟨Z, 0, none⟩ = some (.slice U1 X1 C1) ∧ W.cell? ⟨Z, 1, none⟩ = some (.slice U2 X2 C2) ∧ W.cell? ⟨Z, 2, none⟩ = some (.slice U3 X3 C3))
                (first | exact hz12 | exact hz11 | exact hz10 | exact hz8d | exact hz8)
                (first
                  | (go_at_call 11; (refine HD8.out.mono ?_); rintro e w9 ⟨rfl, rfl⟩)
                  | (go_at_call 10; (refine HT8.out.mono ?_); rintro e w10 ⟨r1, r2, r3, rfl, hS10, hf10⟩; have HF10 := Lib.hid ((Fr.drew No w8).no_trans hf10); have HS10 := Lib.hid hS10; have hz10 := HZC.out _ HF10.out; clear hS10 hf10)
                  | (go_at_call 16; (refine (kept_any (HW8.out.no HN8.out.1 HF10.out).sho HL200.out.1 (HRI8.out.keep (HF10.out.mono (fun _ _ e => e.elim))) KLE.out HFM.out).mono ?_); rintro e w11 ⟨p2, p3, rfl, hS11, hf11⟩; have HF11 := Lib.hid (HF10.out.no_trans hf11); have HS11 := Lib.hid hS11; have HSA := Lib.hid (show Sho w8.drew.heap.size w8.drew.heap.size w11 r1 r2 r3 fs4.length (fs4.map (·.nm)) (fs4.map (·.bs)) (fs4.map (·.fm)) from ⟨own_keep HS10.out.o1 (fun k hk => hf11.block k (HS10.out.o1.lt k hk).2 (fun e => e)), own_keep HS10.out.o2 (fun k hk => hf11.block k (HS10.out.o2.lt k hk).2 (fun e => e)), own_keep HS10.out.o3 (fun k hk => hf11.block k (HS10.out.o3.lt k hk).2 (fun e => e))⟩); have hz11 := HZC.out _ HF11.out; have hsame := same_any HSA.out HS11.out (by have := HL200.out; omega) (by have := HL200.out; omega); rw [HTRUE.out] at hsame; have HSAME := Lib.hid hsame; clear hS11 hf11 hsame)
                  | (go_at_call 15; (refine HSAME.out.mono ?_); rintro e w12 ⟨rfl, hf12⟩; have HF12 := Lib.hid (HF11.out.no_trans hf12); have hz12 := HZC.out _ HF12.out; clear hf12))
              all_goals (
                have HN12 := Lib.hid (HN8.out.then_no HF12.out)
                clear hz8 hz8d hz10 hz11 hz12
                go_wp2_with fail
                go_roundw
                case measure => simp [intOf]; omega
                case rel => exact ⟨i + 1, _, by omega, by omega, by first | rfl | go_num, HN12.out, rfl⟩)
            · have hd250 : decide ((kn : Int) ≤ 250) = false := by rw [decide_eq_false_iff_not]; omega
              have KLE := Lib.hid (Nat.zero_le 250)
              clear HRI
              have HRI := Lib.hid (RdI.nil (w := wc) (F := foot D B s2.fs) (A := none))
              have HEQ := Lib.hid (fun (fs4 : List Fl) (h : CrR [] s2.fs s2.fs.length fs4) => crr_lists h)
              go_wp2_with fail
              refine (crash_any HN4.out.1 none 0 0 [] HRI.out).mono ?_
              rintro e w8 ⟨rfl, fs4, hcr, hnx⟩
              have HN8 := Lib.hid (HN4.out.trans hnx)
              have hW8 := HW4.out.next hnx
              have HW8 := Lib.hid hW8
              have HRI8 := Lib.hid (HRI.out.keep hnx.2.1)
              have hq := HEQ.out fs4 hcr
              have e1 : s2.ab.fs.map (·.nm) = s2.fs.map (·.nm) := by show (s2.fs.map Fl.ab).map _ = _; rw [List.map_map]; rfl
              have e2 : s2.ab.fs.map (·.bs) = s2.fs.map (·.bs) := by show (s2.fs.map Fl.ab).map _ = _; rw [List.map_map]; rfl
              have e3 : s2.ab.fs.map (·.fm) = s2.fs.map (·.fm) := by show (s2.fs.map Fl.ab).map _ = _; rw [List.map_map]; rfl
              have e4 : s2.ab.fs.length = s2.fs.length := by show (s2.fs.map Fl.ab).length = _; simp
              rw [← e1, ← e2, ← e3, ← e4] at hq
              have HTRUE := Lib.hid (show (decide (fs4.map (·.nm) = s2.ab.fs.map (·.nm)) && (decide (fs4.map (·.bs) = keptB [] (s2.ab.fs.map (·.bs)) (s2.ab.fs.map (·.fm)) s2.ab.fs.length) && decide (fs4.map (·.fm) = keptE [] (s2.ab.fs.map (·.bs)) (s2.ab.fs.map (·.fm)) s2.ab.fs.length))) = true by
                rw [decide_eq_true hq.1, decide_eq_true hq.2.1, decide_eq_true hq.2.2]
                rfl)
              have HL200 := Lib.hid (show s2.ab.fs.length ≤ 200 ∧ fs4.length ≤ 200 from ⟨by rw [e4]; exact HN4.out.1.few, HN8.out.1.few⟩)
              have HFM := Lib.hid (show ∀ (j : Nat) (b : List UInt8) (e : Nat), (s2.ab.fs.map (·.bs))[j]? = some b → (s2.ab.fs.map (·.fm))[j]? = some e → e ≤ b.length ∧ b.length ≤ 16777216 by
                intro j b e hb he
                rw [e2, List.getElem?_map] at hb
                rw [e3, List.getElem?_map] at he
                cases hj : s2.fs[j]? with
                | none => rw [hj] at hb; cases hb
                | some f =>
                  rw [hj] at hb he
                  have hb' : f.bs = b := by simpa using hb
                  have he' : f.fm = e := by simpa using he
                  have hm := List.mem_of_getElem? hj
                  have := HN4.out.1.firm f hm
                  have := used_mem hm
                  have := HN4.out.1.room
                  have := HN4.out.1.most
                  subst hb' he'
                  omega)
              have hzc : ∀ W, Fr No w8 W → W.cell? ⟨Z, 0, none⟩ = some (.slice U1 X1 C1) ∧ W.cell? ⟨Z, 1, none⟩ = some (.slice U2 X2 C2) ∧ W.cell? ⟨Z, 2, none⟩ = some (.slice U3 X3 C3) := fun W hf => by
                have := (HW8.out.no HN8.out.1 hf).blk
                unfold World.cell?
                rw [this]
                exact ⟨rfl, rfl, rfl⟩
              have HZC := Lib.hid hzc
              have hz8 := hzc _ (Fr.refl No w8)
              have hz8d := hzc _ (Fr.drew No w8)
              have HD8 := Lib.hid (down_dsk (HN8.out.1.no (Fr.drew No w8)))
              have HT8 := Lib.hid (taken_any (HN8.out.1.no (Fr.drew No w8)) rfl)
              clear hnx hW8 hq e1 e2 e3 e4 hcr hzc HEQ
              go_wp2_with fail
              go_region_held3 (fun W => W.cell? ⟨Z, 0, none⟩ = some (.slice U1 X1 C1) ∧ W.cell? ⟨Z, 1, none⟩ = some (.slice U2 X2 C2) ∧ W.cell? ⟨Z, 2, none⟩ = some (.slice U3 X3 C3))
                (first | exact hz12 | exact hz11 | exact hz10 | exact hz8d | exact hz8)
                (first
                  | (go_at_call 11; (refine HD8.out.mono ?_); rintro e w9 ⟨rfl, rfl⟩)
                  | (go_at_call 10; (refine HT8.out.mono ?_); rintro e w10 ⟨r1, r2, r3, rfl, hS10, hf10⟩; have HF10 := Lib.hid ((Fr.drew No w8).no_trans hf10); have HS10 := Lib.hid hS10; have hz10 := HZC.out _ HF10.out; clear hS10 hf10)
                  | (go_at_call 16; (refine (kept_any (HW8.out.no HN8.out.1 HF10.out).sho HL200.out.1 (HRI8.out.keep (HF10.out.mono (fun _ _ e => e.elim))) KLE.out HFM.out).mono ?_); rintro e w11 ⟨p2, p3, rfl, hS11, hf11⟩; have HF11 := Lib.hid (HF10.out.no_trans hf11); have HS11 := Lib.hid hS11; have HSA := Lib.hid (show Sho w8.drew.heap.size w8.drew.heap.size w11 r1 r2 r3 fs4.length (fs4.map (·.nm)) (fs4.map (·.bs)) (fs4.map (·.fm)) from ⟨own_keep HS10.out.o1 (fun k hk => hf11.block k (HS10.out.o1.lt k hk).2 (fun e => e)), own_keep HS10.out.o2 (fun k hk => hf11.block k (HS10.out.o2.lt k hk).2 (fun e => e)), own_keep HS10.out.o3 (fun k hk => hf11.block k (HS10.out.o3.lt k hk).2 (fun e => e))⟩); have hz11 := HZC.out _ HF11.out; have hsame := same_any HSA.out HS11.out (by have := HL200.out; omega) (by have := HL200.out; omega); rw [HTRUE.out] at hsame; have HSAME := Lib.hid hsame; clear hS11 hf11 hsame)
                  | (go_at_call 15; (refine HSAME.out.mono ?_); rintro e w12 ⟨rfl, hf12⟩; have HF12 := Lib.hid (HF11.out.no_trans hf12); have hz12 := HZC.out _ HF12.out; clear hf12))
              all_goals (
                have HN12 := Lib.hid (HN8.out.then_no HF12.out)
                clear hz8 hz8d hz10 hz11 hz12
                go_wp2_with fail
                go_roundw
                case measure => simp [intOf]; omega
                case rel => exact ⟨i + 1, _, by omega, by omega, by first | rfl | go_num, HN12.out, rfl⟩)
          · have KLE := Lib.hid (Nat.zero_le 250)
            have HRI := Lib.hid (RdI.nil (w := wc) (F := foot D B s2.fs) (A := none))
            have HEQ := Lib.hid (fun (fs4 : List Fl) (h : CrR [] s2.fs s2.fs.length fs4) => crr_lists h)
            go_wp2_with fail
            refine (crash_any HN4.out.1 none 0 0 [] HRI.out).mono ?_
            rintro e w8 ⟨rfl, fs4, hcr, hnx⟩
            have HN8 := Lib.hid (HN4.out.trans hnx)
            have hW8 := HW4.out.next hnx
            have HW8 := Lib.hid hW8
            have HRI8 := Lib.hid (HRI.out.keep hnx.2.1)
            have hq := HEQ.out fs4 hcr
            have e1 : s2.ab.fs.map (·.nm) = s2.fs.map (·.nm) := by show (s2.fs.map Fl.ab).map _ = _; rw [List.map_map]; rfl
            have e2 : s2.ab.fs.map (·.bs) = s2.fs.map (·.bs) := by show (s2.fs.map Fl.ab).map _ = _; rw [List.map_map]; rfl
            have e3 : s2.ab.fs.map (·.fm) = s2.fs.map (·.fm) := by show (s2.fs.map Fl.ab).map _ = _; rw [List.map_map]; rfl
            have e4 : s2.ab.fs.length = s2.fs.length := by show (s2.fs.map Fl.ab).length = _; simp
            rw [← e1, ← e2, ← e3, ← e4] at hq
            have HTRUE := Lib.hid (show (decide (fs4.map (·.nm) = s2.ab.fs.map (·.nm)) && (decide (fs4.map (·.bs) = keptB [] (s2.ab.fs.map (·.bs)) (s2.ab.fs.map (·.fm)) s2.ab.fs.length) && decide (fs4.map (·.fm) = keptE [] (s2.ab.fs.map (·.bs)) (s2.ab.fs.map (·.fm)) s2.ab.fs.length))) = true by
              rw [decide_eq_true hq.1, decide_eq_true hq.2.1, decide_eq_true hq.2.2]
              rfl)
            have HL200 := Lib.hid (show s2.ab.fs.length ≤ 200 ∧ fs4.length ≤ 200 from ⟨by rw [e4]; exact HN4.out.1.few, HN8.out.1.few⟩)
            have HFM := Lib.hid (show ∀ (j : Nat) (b : List UInt8) (e : Nat), (s2.ab.fs.map (·.bs))[j]? = some b → (s2.ab.fs.map (·.fm))[j]? = some e → e ≤ b.length ∧ b.length ≤ 16777216 by
              intro j b e hb he
              rw [e2, List.getElem?_map] at hb
              rw [e3, List.getElem?_map] at he
              cases hj : s2.fs[j]? with
              | none => rw [hj] at hb; cases hb
              | some f =>
                rw [hj] at hb he
                have hb' : f.bs = b := by simpa using hb
                have he' : f.fm = e := by simpa using he
                have hm := List.mem_of_getElem? hj
                have := HN4.out.1.firm f hm
                have := used_mem hm
                have := HN4.out.1.room
                have := HN4.out.1.most
                subst hb' he'
                omega)
            have hzc : ∀ W, Fr No w8 W → W.cell? ⟨Z, 0, none⟩ = some (.slice U1 X1 C1) ∧ W.cell? ⟨Z, 1, none⟩ = some (.slice U2 X2 C2) ∧ W.cell? ⟨Z, 2, none⟩ = some (.slice U3 X3 C3) := fun W hf => by
              have := (HW8.out.no HN8.out.1 hf).blk
              unfold World.cell?
              rw [this]
              exact ⟨rfl, rfl, rfl⟩
            have HZC := Lib.hid hzc
            have hz8 := hzc _ (Fr.refl No w8)
            have hz8d := hzc _ (Fr.drew No w8)
            have HD8 := Lib.hid (down_dsk (HN8.out.1.no (Fr.drew No w8)))
            have HT8 := Lib.hid (taken_any (HN8.out.1.no (Fr.drew No w8)) rfl)
            clear hnx hW8 hq e1 e2 e3 e4 hcr hzc HEQ
            go_wp2_with fail
            go_region_held3 (fun W => W.cell? ⟨Z, 0, none⟩ = some (.slice U1 X1 C1) ∧ W.cell? ⟨Z, 1, none⟩ = some (.slice U2 X2 C2) ∧ W.cell? ⟨Z, 2, none⟩ = some (.slice U3 X3 C3))
              (first | exact hz12 | exact hz11 | exact hz10 | exact hz8d | exact hz8)
              (first
                | (go_at_call 11; (refine HD8.out.mono ?_); rintro e w9 ⟨rfl, rfl⟩)
                | (go_at_call 10; (refine HT8.out.mono ?_); rintro e w10 ⟨r1, r2, r3, rfl, hS10, hf10⟩; have HF10 := Lib.hid ((Fr.drew No w8).no_trans hf10); have HS10 := Lib.hid hS10; have hz10 := HZC.out _ HF10.out; clear hS10 hf10)
                | (go_at_call 16; (refine (kept_any (HW8.out.no HN8.out.1 HF10.out).sho HL200.out.1 (HRI8.out.keep (HF10.out.mono (fun _ _ e => e.elim))) KLE.out HFM.out).mono ?_); rintro e w11 ⟨p2, p3, rfl, hS11, hf11⟩; have HF11 := Lib.hid (HF10.out.no_trans hf11); have HS11 := Lib.hid hS11; have HSA := Lib.hid (show Sho w8.drew.heap.size w8.drew.heap.size w11 r1 r2 r3 fs4.length (fs4.map (·.nm)) (fs4.map (·.bs)) (fs4.map (·.fm)) from ⟨own_keep HS10.out.o1 (fun k hk => hf11.block k (HS10.out.o1.lt k hk).2 (fun e => e)), own_keep HS10.out.o2 (fun k hk => hf11.block k (HS10.out.o2.lt k hk).2 (fun e => e)), own_keep HS10.out.o3 (fun k hk => hf11.block k (HS10.out.o3.lt k hk).2 (fun e => e))⟩); have hz11 := HZC.out _ HF11.out; have hsame := same_any HSA.out HS11.out (by have := HL200.out; omega) (by have := HL200.out; omega); rw [HTRUE.out] at hsame; have HSAME := Lib.hid hsame; clear hS11 hf11 hsame)
                | (go_at_call 15; (refine HSAME.out.mono ?_); rintro e w12 ⟨rfl, hf12⟩; have HF12 := Lib.hid (HF11.out.no_trans hf12); have hz12 := HZC.out _ HF12.out; clear hf12))
            all_goals (
              have HN12 := Lib.hid (HN8.out.then_no HF12.out)
              clear hz8 hz8d hz10 hz11 hz12
              go_wp2_with fail
              go_roundw
              case measure => simp [intOf]; omega
              case rel => exact ⟨i + 1, _, by omega, by omega, by first | rfl | go_num, HN12.out, rfl⟩)
    · by_cases hl : i < n
      · have hi5' : i = 5 := by omega
        subst hi5'
        clear hlt
        go_wp2_with fail
        refine (HA.out _).mono ?_
        rintro e w7 ⟨rfl, hb⟩
        have HB7 := Lib.hid hb
        clear hb
        go_wp2_with fail
        go_ret
        exact ⟨rfl, HBr.out.trans (HB7.out.mono (by have := HBr.out.size; rw [HBB.out] at this; omega))⟩
      · have hin' : i = n := by omega
        subst hin'
        clear hlt hl
        go_wp2_with fail
        refine (HA.out _).mono ?_
        rintro e w7 ⟨rfl, hb⟩
        have HB7 := Lib.hid hb
        clear hb
        go_wp2_with fail
        go_ret
        exact ⟨rfl, HBr.out.trans (HB7.out.mono (by have := HBr.out.size; rw [HBB.out] at this; omega))⟩
end Go.Proofs.Ytjnhlakcihkepaa

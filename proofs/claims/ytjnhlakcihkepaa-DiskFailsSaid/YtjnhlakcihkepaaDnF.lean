/-
  DiskFails: the walk. No statement of the seat is proved here.
-/
import Derived.Test.YtjnhlakcihkepaaDmZ
namespace Go.Proofs.Ytjnhlakcihkepaa
open Go.RowKit Go.Maps

set_option maxRecDepth 100000 in
theorem alike_maps {s t : St} (e : s.ab.fs = t.ab.fs) : s.fs.length = t.fs.length ∧ s.fs.map (·.nm) = t.fs.map (·.nm) ∧ s.fs.map (·.bs) = t.fs.map (·.bs) ∧ s.fs.map (·.fm) = t.fs.map (·.fm) := by
  have e' : s.fs.map Fl.ab = t.fs.map Fl.ab := e
  refine ⟨?_, ?_, ?_, ?_⟩
  · have := congrArg List.length e'
    simpa using this
  · have := congrArg (List.map Af.nm) e'
    rw [List.map_map, List.map_map] at this
    exact this
  · have := congrArg (List.map Af.bs) e'
    rw [List.map_map, List.map_map] at this
    exact this
  · have := congrArg (List.map Af.fm) e'
    rw [List.map_map, List.map_map] at this
    exact this
set_option maxRecDepth 100000 in
theorem alike_sho {s t : St} (e : s.ab.fs = t.ab.fs) {B1 B : Nat} {w : World} {v1 v2 v3 : Value} (h : Sho B1 B w v1 v2 v3 t.fs.length (t.fs.map (·.nm)) (t.fs.map (·.bs)) (t.fs.map (·.fm))) :
    Sho B1 B w v1 v2 v3 s.fs.length (s.fs.map (·.nm)) (s.fs.map (·.bs)) (s.fs.map (·.fm)) := by
  obtain ⟨e1, e2, e3, e4⟩ := alike_maps e
  rw [e1, e2, e3, e4]
  exact h
set_option maxRecDepth 100000 in
theorem alike_true {s t : St} (e : s.ab.fs = t.ab.fs) : (decide (s.fs.map (·.nm) = t.fs.map (·.nm)) && (decide (s.fs.map (·.bs) = t.fs.map (·.bs)) && decide (s.fs.map (·.fm) = t.fs.map (·.fm)))) = true := by
  obtain ⟨e1, e2, e3, e4⟩ := alike_maps e
  rw [decide_eq_true e2, decide_eq_true e3, decide_eq_true e4]
  rfl
set_option maxHeartbeats 8000000 in
set_option maxRecDepth 100000 in
theorem fails_walk (r st : Int) (A : Option Addr) (n c : Nat) (xs : List Cl) (w : World) (hx : RowOf w 6 (ClAt w) A n xs) (hr0 : 0 ≤ r) (hr1 : r ≤ 65535) (hs0 : 0 ≤ st) (hs1 : st ≤ 255) :
    Calls Try.prog 4 #[.int .u16 r, .slice A n c, .int .u8 st] w fun e w' => e = .returned (.bool true) ∧ Below w.heap.size w w' := by
  have HA := Lib.hid (fun W => awake_any W)
  have hmm : r % 2001 = (((r % 2001).toNat : Nat) : Int) := by
    have := Int.emod_nonneg r (b := 2001) (by omega)
    omega
  have hml : (r % 2001).toNat ≤ 2000 := by
    have := Int.emod_lt_of_pos r (b := 2001) (by omega)
    omega
  have hss : st % 31 = (((st % 31).toNat : Nat) : Int) := by
    have := Int.emod_nonneg st (b := 31) (by omega)
    omega
  have hsl : (st % 31).toNat ≤ 30 := by
    have := Int.emod_lt_of_pos st (b := 31) (by omega)
    omega
  obtain ⟨m, HM⟩ : ∃ m, Hid ((r % 2001).toNat = m) := ⟨_, rfl⟩
  obtain ⟨l0, HL0⟩ : ∃ m, Hid ((st % 31).toNat = m) := ⟨_, rfl⟩
  rw [HM.out] at hmm hml
  rw [HL0.out] at hss hsl
  have HNEW := Lib.hid (fun W => new_dsk m W (by omega))
  obtain ⟨B, HBB⟩ : ∃ B, Hid (w.heap.size = B) := ⟨_, rfl⟩
  have HX := Lib.hid hx
  clear hx
  go_enter Try.func4, Try.ntmps4
  go_wp2_with fail
  refine (HNEW.out _).mono ?_
  rintro e w1 ⟨rfl, hd1, hb1⟩
  have HD1 := Lib.hid hd1
  have HB1 := Lib.hid hb1
  clear hd1 hb1
  go_wp2_with fail
  refine (HNEW.out _).mono ?_
  rintro e w2 ⟨rfl, hd2, hb2⟩
  have hlt1 := fun k hk => HD1.out.foot_lt (k := k) hk
  have htw : Two B w w2 (w.heap.size + 1) w.heap.size (w1.heap.size + 1) w1.heap.size ⟨false, false, 0, m, []⟩ ⟨false, false, 0, m, []⟩ := by
    have h1 := HB1.out.size
    have h2 := HBB.out
    refine ⟨?_, hd2, fun k hk hk2 => ?_, fun k hk => ?_, fun k hk => ?_, ?_⟩
    · exact HD1.out.keep (F := fun k => w1.heap.size ≤ k) ⟨hb2.os, hb2.tape, hb2.output, hb2.size, fun k hk _ => hb2.block k hk⟩ (fun k hk hf => by have := hlt1 k hk; omega)
    · have := hlt1 k hk
      rcases hk2 with e | e | ⟨f, hf, _⟩
      · omega
      · omega
      · cases hf
    · rcases hk with e | e | ⟨f, hf, _⟩
      · omega
      · omega
      · cases hf
    · rcases hk with e | e | ⟨f, hf, _⟩
      · omega
      · omega
      · cases hf
    · exact (HB1.out.mono (by omega)).trans (hb2.mono (by omega))
  obtain ⟨D, HDD⟩ : ∃ D, Hid (w.heap.size + 1 = D) := ⟨_, rfl⟩
  obtain ⟨D2, HDD2⟩ : ∃ D, Hid (w1.heap.size + 1 = D) := ⟨_, rfl⟩
  obtain ⟨M2, HMM2⟩ : ∃ M, Hid (w1.heap.size = M) := ⟨_, rfl⟩
  rw [HDD.out, HDD2.out] at htw ⊢
  rw [HBB.out, HMM2.out] at htw
  have HTW := Lib.hid htw
  clear htw hd2 hb2 hlt1 HNEW HD1 HB1
  go_wp2_with fail
  refine (arm_dsk HTW.out.a rfl (l0 : Int) (by omega)).mono ?_
  rintro e w3 ⟨rfl, hnx⟩
  have hB2 : B ≤ w2.heap.size := by have := HTW.out.bel.size; rw [HBB.out] at this; exact this
  have htw3 := HTW.out.left hB2 hnx
  rw [show (max (l0 : Int) 0).toNat = l0 by omega] at htw3
  have HTW3 := Lib.hid htw3
  clear hnx hB2 htw3
  go_wp2_with fail
  go_loopw [11, 12] (fun vl vi wr => ∃ (i l : Nat) (s t : St), i ≤ 50 ∧ i ≤ n ∧ l ≤ 30 ∧ vl = .int .i64 (l : Int) ∧ vi = .int .i64 (i : Int) ∧ Two B w wr D B D2 M2 s t ∧ Step2 m l s t) (fun _ vi _ => 50 - (intOf vi).toNat)
  case atStart => exact ⟨0, l0, _, _, by omega, by omega, hsl, rfl, rfl, HTW3.out, rfl, rfl, rfl, rfl, .inr ⟨rfl, rfl, rfl, rfl⟩⟩
  case round =>
    obtain ⟨i, l, s, t, hi, hin, hl, rfl, rfl, hT, hS⟩ := hrel
    have HT := Lib.hid hT
    have HS := Lib.hid hS
    have HBr := Lib.hid (show B ≤ wr.heap.size by have := hT.bel.size; rw [HBB.out] at this; exact this)
    clear hT hS
    by_cases hlt : i < n ∧ i < 50
    · obtain ⟨hlt, hlt2⟩ := hlt
      obtain ⟨b, o, rfl, hb, hc⟩ := HX.out.2 (by omega)
      have hix : i < xs.length := by rw [HX.out.1]; exact hlt
      obtain ⟨x, hxe⟩ : ∃ x, xs[i] = x := ⟨_, rfl⟩
      have hbs := hc i hix
      rw [hxe] at hbs
      have HCL := Lib.hid (show ∀ W, Below B w W → ClAt W ⟨b, o + i * 6, none⟩ x from fun W hW => hbs.below HBB.out (by rw [← HBB.out]; exact hb) hW)
      clear hc hbs hxe hix hb
      obtain ⟨q0, q1, q2, q3, q4, q5⟩ := (HCL.out _ HT.out.bel).alle
      have hwi : IntKind.i64.wrap ((i : Int) + 1) = ((i + 1 : Nat) : Int) := by
        rw [show ((i : Int) + 1) = ((i + 1 : Nat) : Int) by omega]
        exact IntWalk.i64_in _ (by omega)
      have hd50 : decide ((i : Int) < 50) = true := by rw [decide_eq_true_eq]; omega
      go_wp2_with fail
      refine (fits_any x _).mono ?_
      rintro e w4 ⟨rfl, hf⟩
      have HT4 := Lib.hid (HT.out.no HBr.out hf)
      have HB4 := Lib.hid (show B ≤ w4.heap.size by have := HBr.out; have := hf.size; omega)
      clear hf q0 q1 q2 q3 q4 q5
      cases hfit : x.fits with
      | false =>
        go_wp2_with fail
        go_roundw
        case rel => exact ⟨i + 1, l, s, t, by omega, by omega, hl, rfl, by go_num, HT4.out, HS.out⟩
        case measure => simp [intOf]; omega
      | true =>
        have HDN := Lib.hid (down_dsk HT4.out.a)
        cases hfs : s.fl with
        | true =>
          rw [hfs] at HDN
          go_wp2_with fail
          refine HDN.out.mono ?_
          rintro e w5 ⟨rfl, rfl⟩
          have hcl := HCL.out _ HT4.out.bel
          obtain ⟨q0, q1, q2, q3, q4, q5⟩ := hcl.alle
          obtain ⟨_, _, _, _, _, _, hw8, hz1, hz2, hrd⟩ := hcl
          by_cases h5 : x.wh ≤ 5
          · have hw5 : decide ((x.wh : Int) ≤ 5) = true := by rw [decide_eq_true_eq]; omega
            have hdn := does_down s.ab x hfs h5
            have hdo := does_any HT4.out.a x hz1 hz2 hrd hw8
            rw [hdn] at hdo
            have HDO := Lib.hid hdo
            clear hdo hdn hz1 hz2 hrd hw8
            go_wp2_with fail
            refine HDO.out.mono ?_
            rintro e w6 ⟨s', rfl, hN, hab⟩
            have HT6 := Lib.hid (HT4.out.left HB4.out hN)
            have hfl' : s'.fl = true := by have e : s'.ab.fl = s.ab.fl := by rw [hab]
                                           exact e.trans hfs
            have hmo' : s'.mo = m := by have e : s'.ab.mo = s.ab.mo := by rw [hab]
                                        exact e.trans HS.out.mo
            have HS6 := Lib.hid (show Step2 m l s' t from ⟨hmo', HS.out.mo2, HS.out.fl2, HS.out.bd2, .inl hfl'⟩)
            have HD6 := Lib.hid (down_dsk HT6.out.a)
            rw [hfl'] at HD6
            clear hN hab q0 q1 q2 q3 q4 q5
            go_wp2_with fail
            refine HD6.out.mono ?_
            rintro e w7 ⟨rfl, rfl⟩
            go_wp2_with fail
            go_roundw
            case rel => exact ⟨i + 1, l, s', t, by omega, by omega, hl, rfl, by go_num, HT6.out, HS6.out⟩
            case measure => simp [intOf]; omega
          · have hw5 : decide ((x.wh : Int) ≤ 5) = false := by rw [decide_eq_false_iff_not]; omega
            clear hz1 hz2 hrd hw8
            go_wp2_with fail
            refine HDN.out.mono ?_
            rintro e w7 ⟨rfl, rfl⟩
            go_wp2_with fail
            go_roundw
            case rel => exact ⟨i + 1, l, s, t, by omega, by omega, hl, rfl, by go_num, HT4.out, HS.out⟩
            case measure => simp [intOf]; omega
        | false =>
          rw [hfs] at HDN
          go_wp2_with fail
          refine HDN.out.mono ?_
          rintro e w5 ⟨rfl, rfl⟩
          have hway := HS.out.way.resolve_left (by rw [hfs]; simp)
          go_wp2_with fail
          refine (taken_any HT4.out.b HS.out.fl2).mono ?_
          rintro e w6 ⟨v1, v2, v3, rfl, hS6, hf6⟩
          obtain ⟨A4, x4, c4, rfl⟩ : ∃ A x c, v1 = .slice A x c := by
            rcases hS6.o1.2 with ⟨rfl, e⟩ | ⟨g, cap, cur, rfl, _⟩ <;> exact ⟨_, _, _, rfl⟩
          obtain ⟨A5, x5, c5, rfl⟩ : ∃ A x c, v2 = .slice A x c := by
            rcases hS6.o2.2 with ⟨rfl, e⟩ | ⟨g, cap, cur, rfl, _⟩ <;> exact ⟨_, _, _, rfl⟩
          obtain ⟨A6, x6, c6, rfl⟩ : ∃ A x c, v3 = .slice A x c := by
            rcases hS6.o3.2 with ⟨rfl, e⟩ | ⟨g, cap, cur, rfl, _⟩ <;> exact ⟨_, _, _, rfl⟩
          obtain ⟨w7, HW7⟩ : ∃ w7, Hid (w6.alloc (.cells #[.slice A4 x4 c4, .slice A5 x5 c5, .slice A6 x6 c6] 33) = w7) := ⟨_, rfl⟩
          have hf7 : Fr No w4 w7 := by rw [← HW7.out]; exact hf6.no_trans (Fr.alloc No w6 _)
          obtain ⟨Z, HZ⟩ : ∃ Z, Hid (w6.heap.size = Z) := ⟨_, rfl⟩
          have hb7 : w7.heap[Z]? = some (.cells #[.slice A4 x4 c4, .slice A5 x5 c5, .slice A6 x6 c6] 33 (0, 0)) := by rw [← HW7.out, ← HZ.out]; exact heap_alloc_new _ _
          have hz7 : Fr (fun k => k = Z) w6 w7 := by rw [← HW7.out]; exact Fr.alloc _ w6 _
          have hzs : w4.heap.size ≤ Z := by have := hf6.size; rw [HZ.out] at this; exact this
          have HT7 := Lib.hid (HT4.out.no HB4.out hf7)
          have HB7 := Lib.hid (show B ≤ w7.heap.size by have := HB4.out; have := hf7.size; omega)
          have HWB := Lib.hid (Wa.take HT4.out.b hS6 hz7 hb7 (fun e => by have := HT4.out.b.foot_lt e; omega) (.inl (Nat.le_of_eq HZ.out)))
          have hWA := Wa.take HT4.out.a (alike_sho hway.2.2.2 hS6) hz7 hb7 (fun e => by have := HT4.out.a.foot_lt e; omega) (.inl (Nat.le_of_eq HZ.out))
          rw [hway.2.2.2] at hWA
          have HWA := Lib.hid hWA
          have hcl := HCL.out _ HT7.out.bel
          have hcl6 := hcl
          rw [← HW7.out] at hcl6
          obtain ⟨q0, q1, q2, q3, q4, q5⟩ := hcl6.alle
          obtain ⟨_, _, _, _, _, _, hw8, hz1, hz2, hrd⟩ := hcl
          have HDO := Lib.hid (does_any HT7.out.b x hz1 hz2 hrd hw8)
          clear hS6 hf6 hf7 hb7 hz7 hzs hWA hway hcl6 hz1 hz2 hrd hw8
          go_wp2_with fail
          rw [HW7.out]
          refine HDO.out.mono ?_
          rintro e w8 ⟨t', rfl, hN8, hab8⟩
          have HT8 := Lib.hid (HT7.out.right HB7.out hN8)
          have HWB8 := Lib.hid (HWB.out.next hN8)
          have HWA8 := Lib.hid (HWA.out.other HWB.out hN8)
          have HB8 := Lib.hid (show B ≤ w8.heap.size by have := HB7.out; have := hN8.2.1.size; omega)
          have HAB8 := Lib.hid hab8
          rw [HZ.out]
          clear hN8 hab8 q0 q1 q2 q3 q4 q5
          have hcl := HCL.out _ HT8.out.bel
          obtain ⟨q0, q1, q2, q3, q4, q5⟩ := hcl.alle
          obtain ⟨_, _, _, _, _, _, hw8, hz1, hz2, hrd⟩ := hcl
          have HDO2 := Lib.hid (does_any HT8.out.a x hz1 hz2 hrd hw8)
          clear hz1 hz2 hrd hw8
          go_wp2_with fail
          refine HDO2.out.mono ?_
          rintro e w9 ⟨s', rfl, hN9, hab9⟩
          have HT9 := Lib.hid (HT8.out.left HB8.out hN9)
          have HWB9 := Lib.hid (HWB8.out.other HWA8.out hN9)
          have HWA9 := Lib.hid (HWA8.out.next hN9)
          have HB9 := Lib.hid (show B ≤ w9.heap.size by have := HB8.out; have := hN9.2.1.size; omega)
          obtain ⟨xc, hstep⟩ := HS.out.call hfs x
          have hcs := hstep s' t' hab9 HAB8.out
          clear hN9 hab9 hstep q0 q1 q2 q3 q4 q5
          rcases hcs with ⟨h0, ht, hs, hS9, hfl9, hfs9⟩ | ⟨h0, hl0, ht, hs, hS9, hfl9, hfs9⟩ | ⟨h0, hl0, ht, hs, hS9, hfl9, hfs9⟩
          · rw [ht, hs]
            have HS9 := Lib.hid hS9
            have hx1 : (xc != 0) = true := by rw [bne_iff_ne]; exact h0
            have hx2 : (xc == 0) = false := by rw [beq_eq_false_iff_ne]; exact h0
            have hx3 : (xc != xc) = false := by simp
            clear hS9 ht hs
            have HD9 := Lib.hid (down_dsk HT9.out.a)
            rw [hfl9] at HD9
            go_wp2_with fail
            refine HD9.out.mono ?_
            rintro e wz ⟨rfl, rfl⟩
            go_wp2_with fail
            refine (taken_any HT9.out.a hfl9).mono ?_
            rintro e w10 ⟨r1, r2, r3, rfl, hSa, hfa⟩
            obtain ⟨A7, x7, c7, rfl⟩ : ∃ A x c, r1 = .slice A x c := by
              rcases hSa.o1.2 with ⟨rfl, e⟩ | ⟨g, cap, cur, rfl, _⟩ <;> exact ⟨_, _, _, rfl⟩
            obtain ⟨A8, x8, c8, rfl⟩ : ∃ A x c, r2 = .slice A x c := by
              rcases hSa.o2.2 with ⟨rfl, e⟩ | ⟨g, cap, cur, rfl, _⟩ <;> exact ⟨_, _, _, rfl⟩
            obtain ⟨A9, x9, c9, rfl⟩ : ∃ A x c, r3 = .slice A x c := by
              rcases hSa.o3.2 with ⟨rfl, e⟩ | ⟨g, cap, cur, rfl, _⟩ <;> exact ⟨_, _, _, rfl⟩
            have HT10 := Lib.hid (HT9.out.no HB9.out hfa)
            have HB10 := Lib.hid (show B ≤ w10.heap.size by have := HB9.out; have := hfa.size; omega)
            have HSa := Lib.hid hSa
            clear hSa hfa
            go_wp2_with fail
            refine (taken_any HT10.out.b HS9.out.fl2).mono ?_
            rintro e w11 ⟨p1, p2, p3, rfl, hSb, hfb⟩
            obtain ⟨Ab7, xb7, cb7, rfl⟩ : ∃ A x c, p1 = .slice A x c := by
              rcases hSb.o1.2 with ⟨rfl, e⟩ | ⟨g, cap, cur, rfl, _⟩ <;> exact ⟨_, _, _, rfl⟩
            obtain ⟨Ab8, xb8, cb8, rfl⟩ : ∃ A x c, p2 = .slice A x c := by
              rcases hSb.o2.2 with ⟨rfl, e⟩ | ⟨g, cap, cur, rfl, _⟩ <;> exact ⟨_, _, _, rfl⟩
            obtain ⟨Ab9, xb9, cb9, rfl⟩ : ∃ A x c, p3 = .slice A x c := by
              rcases hSb.o3.2 with ⟨rfl, e⟩ | ⟨g, cap, cur, rfl, _⟩ <;> exact ⟨_, _, _, rfl⟩
            have HT11 := Lib.hid (HT10.out.no HB10.out hfb)
            have HB11 := Lib.hid (show B ≤ w11.heap.size by have := HB10.out; have := hfb.size; omega)
            have hsame := same_any (show Sho w9.heap.size w9.heap.size w11 _ _ _ s'.fs.length (s'.fs.map (·.nm)) (s'.fs.map (·.bs)) (s'.fs.map (·.fm)) from ⟨own_keep HSa.out.o1 (fun k hk => hfb.block k (HSa.out.o1.lt k hk).2 (fun e => e)), own_keep HSa.out.o2 (fun k hk => hfb.block k (HSa.out.o2.lt k hk).2 (fun e => e)), own_keep HSa.out.o3 (fun k hk => hfb.block k (HSa.out.o3.lt k hk).2 (fun e => e))⟩) hSb (by have := HT9.out.a.few; omega) (by have := HT9.out.b.few; omega)
            rw [alike_true hfs9] at hsame
            have HSAME := Lib.hid hsame
            clear hsame hSb hfb
            go_wp2_with fail
            refine HSAME.out.mono ?_
            rintro e w12 ⟨rfl, hf12⟩
            have HT12 := Lib.hid (HT11.out.no HB11.out hf12)
            clear hf12
            go_wp2_with fail
            go_roundw
            case rel => exact ⟨i + 1, l, s', t', by omega, by omega, hl, rfl, by go_num, HT12.out, HS9.out⟩
            case measure => simp [intOf]; omega
          · subst h0
            rw [ht, hs]
            have HS9 := Lib.hid hS9
            have hx1 : decide ((0 : Int) < (l : Int)) = true := by rw [decide_eq_true_eq]; omega
            have hwl : IntKind.i64.wrap ((l : Int) - 1) = ((l - 1 : Nat) : Int) := by
              rw [show ((l : Int) - 1) = ((l - 1 : Nat) : Int) by omega]
              exact IntWalk.i64_in _ (by omega)
            clear hS9 ht hs
            have HD9 := Lib.hid (down_dsk HT9.out.a)
            rw [hfl9] at HD9
            go_wp2_with fail
            refine HD9.out.mono ?_
            rintro e wz ⟨rfl, rfl⟩
            go_wp2_with fail
            refine (taken_any HT9.out.a hfl9).mono ?_
            rintro e w10 ⟨r1, r2, r3, rfl, hSa, hfa⟩
            obtain ⟨A7, x7, c7, rfl⟩ : ∃ A x c, r1 = .slice A x c := by
              rcases hSa.o1.2 with ⟨rfl, e⟩ | ⟨g, cap, cur, rfl, _⟩ <;> exact ⟨_, _, _, rfl⟩
            obtain ⟨A8, x8, c8, rfl⟩ : ∃ A x c, r2 = .slice A x c := by
              rcases hSa.o2.2 with ⟨rfl, e⟩ | ⟨g, cap, cur, rfl, _⟩ <;> exact ⟨_, _, _, rfl⟩
            obtain ⟨A9, x9, c9, rfl⟩ : ∃ A x c, r3 = .slice A x c := by
              rcases hSa.o3.2 with ⟨rfl, e⟩ | ⟨g, cap, cur, rfl, _⟩ <;> exact ⟨_, _, _, rfl⟩
            have HT10 := Lib.hid (HT9.out.no HB9.out hfa)
            have HB10 := Lib.hid (show B ≤ w10.heap.size by have := HB9.out; have := hfa.size; omega)
            have HSa := Lib.hid hSa
            clear hSa hfa
            go_wp2_with fail
            refine (taken_any HT10.out.b HS9.out.fl2).mono ?_
            rintro e w11 ⟨p1, p2, p3, rfl, hSb, hfb⟩
            obtain ⟨Ab7, xb7, cb7, rfl⟩ : ∃ A x c, p1 = .slice A x c := by
              rcases hSb.o1.2 with ⟨rfl, e⟩ | ⟨g, cap, cur, rfl, _⟩ <;> exact ⟨_, _, _, rfl⟩
            obtain ⟨Ab8, xb8, cb8, rfl⟩ : ∃ A x c, p2 = .slice A x c := by
              rcases hSb.o2.2 with ⟨rfl, e⟩ | ⟨g, cap, cur, rfl, _⟩ <;> exact ⟨_, _, _, rfl⟩
            obtain ⟨Ab9, xb9, cb9, rfl⟩ : ∃ A x c, p3 = .slice A x c := by
              rcases hSb.o3.2 with ⟨rfl, e⟩ | ⟨g, cap, cur, rfl, _⟩ <;> exact ⟨_, _, _, rfl⟩
            have HT11 := Lib.hid (HT10.out.no HB10.out hfb)
            have HB11 := Lib.hid (show B ≤ w11.heap.size by have := HB10.out; have := hfb.size; omega)
            have hsame := same_any (show Sho w9.heap.size w9.heap.size w11 _ _ _ s'.fs.length (s'.fs.map (·.nm)) (s'.fs.map (·.bs)) (s'.fs.map (·.fm)) from ⟨own_keep HSa.out.o1 (fun k hk => hfb.block k (HSa.out.o1.lt k hk).2 (fun e => e)), own_keep HSa.out.o2 (fun k hk => hfb.block k (HSa.out.o2.lt k hk).2 (fun e => e)), own_keep HSa.out.o3 (fun k hk => hfb.block k (HSa.out.o3.lt k hk).2 (fun e => e))⟩) hSb (by have := HT9.out.a.few; omega) (by have := HT9.out.b.few; omega)
            rw [alike_true hfs9] at hsame
            have HSAME := Lib.hid hsame
            clear hsame hSb hfb
            go_wp2_with fail
            refine HSAME.out.mono ?_
            rintro e w12 ⟨rfl, hf12⟩
            have HT12 := Lib.hid (HT11.out.no HB11.out hf12)
            clear hf12
            go_wp2_with fail
            go_roundw
            case rel => exact ⟨i + 1, l - 1, s', t', by omega, by omega, by omega, by first | rfl | go_num, by go_num, HT12.out, HS9.out⟩
            case measure => simp [intOf]; omega
          · subst h0 hl0
            rw [ht, hs]
            have HS9 := Lib.hid hS9
            have hx4 : x4 = t.ab.fs.length := by
              rcases HWA9.out.sho.o1.2 with ⟨e, e0⟩ | ⟨g, cap, cur, e, _⟩
              · injection e with _ e _; omega
              · injection e
            have hx5 : x5 = t.ab.fs.length := by
              rcases HWA9.out.sho.o2.2 with ⟨e, e0⟩ | ⟨g, cap, cur, e, _⟩
              · injection e with _ e _; omega
              · injection e
            have hx6 : x6 = t.ab.fs.length := by
              rcases HWA9.out.sho.o3.2 with ⟨e, e0⟩ | ⟨g, cap, cur, e, _⟩
              · injection e with _ e _; omega
              · injection e
            obtain ⟨L, HLL⟩ : ∃ L, Hid (t.ab.fs = L) := ⟨_, rfl⟩
            rw [HLL.out] at HWA9 HWB9 hx4 hx5 hx6 hfs9
            have hLs : L.length = s'.fs.length := by rw [← hfs9]; show (s'.fs.map Fl.ab).length = _; simp
            have hLn : s'.fs.map (·.nm) = L.map (·.nm) := by rw [← hfs9]; show _ = (s'.fs.map Fl.ab).map _; rw [List.map_map]; rfl
            have HLS := Lib.hid (And.intro hLs (And.intro hLn hfs9))
            have HXS := Lib.hid (And.intro hx4 (And.intro hx5 hx6))
            have hzc : ∀ W, Fr No w9 W → W.cell? ⟨Z, 0, none⟩ = some (.slice A4 x4 c4) ∧ W.cell? ⟨Z, 1, none⟩ = some (.slice A5 x5 c5) ∧ W.cell? ⟨Z, 2, none⟩ = some (.slice A6 x6 c6) := fun W hf => by
              have := (HWA9.out.no HT9.out.a hf).blk
              unfold World.cell?
              rw [this]
              exact ⟨rfl, rfl, rfl⟩
            have HZC := Lib.hid hzc
            have hz9 := (hzc _ (Fr.refl No w9)).1
            have hz9d := (hzc _ (Fr.drew No w9)).1
            have HD9 := Lib.hid (down_dsk (HT9.out.a.no (Fr.drew No w9)))
            rw [hfl9] at HD9
            have HLI := Lib.hid (list_any (HT9.out.a.no (Fr.drew No w9)))
            clear hS9 ht hs hx4 hx5 hx6 hLs hLn hzc hfs9
            go_wp2_with fail
            go_region_held3 (fun W => W.cell? ⟨Z, 0, none⟩ = some (.slice A4 x4 c4))
              (first | exact hz11 | exact hz10 | exact hz9d | exact hz9)
              (first
                | (go_at_call 11; (refine HD9.out.mono ?_); rintro e wz ⟨rfl, rfl⟩)
                | (go_at_call 19; (refine HLI.out.mono ?_); rintro e w10 ⟨v, rfl, hv, hf10⟩; have HF10 := Lib.hid ((Fr.drew No w9).no_trans hf10); have HV := Lib.hid hv; have hz10 := (HZC.out _ HF10.out).1; have htx := texts_any (xs := s'.fs.map (·.nm)) (ys := L.map (·.nm)) HV.out (HWA9.out.no HT9.out.a HF10.out).sho.o1 (by have := HT9.out.a.few; omega) (by have := HT9.out.a.few; have := HLS.out.1; omega); rw [decide_eq_true HLS.out.2.1] at htx; have HTX := Lib.hid htx; clear hv hf10 htx)
                | (go_at_call 18; (refine HTX.out.mono ?_); rintro e w11 ⟨rfl, hf11⟩; have HF11 := Lib.hid (HF10.out.no_trans hf11); have hz11 := (HZC.out _ HF11.out).1; clear hf11))
            all_goals (
              clear hz9 hz9d hz10
              go_wp2_with fail
              go_loopw [99] (fun vk wr' => ∃ k : Nat, k ≤ x4 ∧ vk = .int .i64 (k : Int) ∧ Fr No w9 wr') (fun vk _ => x4 - (intOf vk).toNat)
              case atStart => exact ⟨0, Nat.zero_le _, rfl, HF11.out⟩
              case round =>
                obtain ⟨k, hk, rfl, hfk⟩ := hrel
                have HFK := Lib.hid hfk
                clear hfk
                by_cases hkl : k < x4
                · have hks : k < s'.fs.length := by have := HLS.out.1; have := HXS.out.1; omega
                  obtain ⟨f, hf⟩ : ∃ f, s'.fs[k]? = some f := ⟨_, List.getElem?_eq_getElem hks⟩
                  have hLk : L[k]? = some f.ab := by
                    rw [← HLS.out.2.2]
                    show (s'.fs.map Fl.ab)[k]? = _
                    rw [List.getElem?_map, hf]
                    rfl
                  have hW := HWA9.out.no HT9.out.a HFK.out
                  obtain ⟨G, rfl⟩ : ∃ G, A4 = some ⟨G, 0, none⟩ := by
                    rcases hW.sho.o1.2 with ⟨e, e0⟩ | ⟨G, cap, cur, e, _⟩
                    · have := HXS.out.1; omega
                    · injection e with e; exact ⟨G, e⟩
                  obtain ⟨G2, rfl⟩ : ∃ G, A5 = some ⟨G, 0, none⟩ := by
                    rcases hW.sho.o2.2 with ⟨e, e0⟩ | ⟨G, cap, cur, e, _⟩
                    · have := HXS.out.1; omega
                    · injection e with e; exact ⟨G, e⟩
                  obtain ⟨G3, rfl⟩ : ∃ G, A6 = some ⟨G, 0, none⟩ := by
                    rcases hW.sho.o3.2 with ⟨e, e0⟩ | ⟨G, cap, cur, e, _⟩
                    · have := HXS.out.1; omega
                    · injection e with e; exact ⟨G, e⟩
                  have g1 := hW.sho.o1.cells (g := G) rfl k (.string ⟨f.nm.toArray⟩) (svs_at (by rw [List.getElem?_map, hLk]; rfl))
                  have g2 := hW.sho.o2.cells (g := G2) rfl k (.string ⟨f.bs.toArray⟩) (svs_at (by rw [List.getElem?_map, hLk]; rfl))
                  have g3 := hW.sho.o3.cells (g := G3) rfl k (.int .i64 (f.fm : Int)) (ivs_at (by rw [List.getElem?_map, hLk]; rfl))
                  rw [Addr.add_lit, Nat.zero_add] at g1 g2 g3
                  have hmem := List.mem_of_getElem? hf
                  have hfnd : fnd f.nm s'.fs = some f := fnd_apart HT9.out.a.apart hmem
                  have hsz : (⟨f.nm.toArray⟩ : ByteArray).size ≤ maxLen := by
                    have hq := HT9.out.a.nms f hmem
                    unfold isNm at hq
                    simp only [Bool.and_eq_true, decide_eq_true_eq] at hq
                    exact szL f.nm (by omega)
                  have hle : s'.len (⟨f.nm.toArray⟩ : ByteArray).data.toList = f.bs.length := by
                    show s'.len f.nm = _
                    unfold St.len
                    rw [hfnd]
                  have hfr : s'.frm (⟨f.nm.toArray⟩ : ByteArray).data.toList = f.fm := by
                    show s'.frm f.nm = _
                    unfold St.frm
                    rw [hfnd]
                  have hSZ := fun W (hw : Fr No w9 W) => size_any (HT9.out.a.no hw) ⟨f.nm.toArray⟩ hsz
                  have hSY := fun W (hw : Fr No w9 W) => synced_any (HT9.out.a.no hw) ⟨f.nm.toArray⟩ hsz
                  rw [hle] at hSZ
                  rw [hfr] at hSY
                  have HSZ := Lib.hid hSZ
                  have HSY := Lib.hid hSY
                  have HQQ := Lib.hid (show ∀ W, Fr No wr W → W.cell? ⟨Z, 1, none⟩ = some (.slice (some ⟨G2, 0, none⟩) x5 c5) ∧ W.cell? ⟨Z, 2, none⟩ = some (.slice (some ⟨G3, 0, none⟩) x6 c6) ∧ W.cell? ⟨G2, k, none⟩ = some (.string ⟨f.bs.toArray⟩) ∧ W.cell? ⟨G3, k, none⟩ = some (.int .i64 (f.fm : Int)) from fun W hw =>
                    ⟨(HZC.out _ (HFK.out.no_trans hw)).2.1, (HZC.out _ (HFK.out.no_trans hw)).2.2, hw.cell g2 (fun e => e), hw.cell g3 (fun e => e)⟩)
                  have y0 := HQQ.out _ (Fr.refl No wr)
                  have y1 := HQQ.out _ (Fr.drew No wr)
                  have hk5 : k < x5 := by have := HXS.out; omega
                  have hk6 : k < x6 := by have := HXS.out; omega
                  have hbsz : (⟨f.bs.toArray⟩ : ByteArray).size = f.bs.length := by show f.bs.toArray.size = _; simp
                  have hwk : IntKind.i64.wrap ((k : Int) + 1) = ((k + 1 : Nat) : Int) := by
                    have := HT9.out.a.few
                    rw [show ((k : Int) + 1) = ((k + 1 : Nat) : Int) by omega]
                    exact IntWalk.i64_in _ (by omega)
                  clear hW hmem hfnd hsz hle hfr hSZ hSY g2 g3 hLk hf hks
                  go_wp2_with fail
                  go_region_held3 (fun W => W.cell? ⟨Z, 1, none⟩ = some (.slice (some ⟨G2, 0, none⟩) x5 c5) ∧ W.cell? ⟨Z, 2, none⟩ = some (.slice (some ⟨G3, 0, none⟩) x6 c6) ∧ W.cell? ⟨G2, k, none⟩ = some (.string ⟨f.bs.toArray⟩) ∧ W.cell? ⟨G3, k, none⟩ = some (.int .i64 (f.fm : Int)))
                    (first | exact y3 | exact y2 | exact y1 | exact y0)
                    (first
                      | (go_at_call 20; (refine (HSZ.out _ (HFK.out.no_trans (Fr.drew No _))).mono ?_); rintro e w12 ⟨rfl, hf12⟩; have HF12 := Lib.hid ((Fr.drew No wr).no_trans hf12); have y2 := HQQ.out _ HF12.out; clear hf12)
                      | (go_at_call 21; (refine (HSY.out _ (HFK.out.no_trans HF12.out)).mono ?_); rintro e w13 ⟨rfl, hf13⟩; have HF13 := Lib.hid (HF12.out.no_trans hf13); have y3 := HQQ.out _ HF13.out; clear hf13))
                  all_goals (
                    have HF14 := Lib.hid (HFK.out.no_trans HF13.out)
                    clear y0 y1 y2 y3
                    go_wp2_with fail
                    go_roundw
                    case rel => exact ⟨k + 1, by omega, by go_num, HF14.out⟩
                    case measure => simp [intOf]; omega)
                · have hke : k = x4 := by omega
                  subst hke
                  have HT14 := Lib.hid (HT9.out.no HB9.out HFK.out)
                  go_wp2_with fail
                  go_roundw
                  case rel => exact ⟨i + 1, 0, s', t', by omega, by omega, by omega, rfl, by go_num, HT14.out, HS9.out⟩
                  case measure => simp [intOf]; omega)
    · by_cases hl2 : i < n
      · have hi5' : i = 50 := by omega
        subst hi5'
        clear hlt
        go_wp2_with fail
        refine (HA.out _).mono ?_
        rintro e w7 ⟨rfl, hb⟩
        have HB7 := Lib.hid hb
        clear hb
        go_wp2_with fail
        go_ret
        exact ⟨rfl, (HT.out.bel.mono (Nat.le_of_eq HBB.out)).trans (HB7.out.mono (by have := HBr.out; have := HBB.out; omega))⟩
      · have hin' : i = n := by omega
        subst hin'
        clear hlt hl2
        go_wp2_with fail
        refine (HA.out _).mono ?_
        rintro e w7 ⟨rfl, hb⟩
        have HB7 := Lib.hid hb
        clear hb
        go_wp2_with fail
        go_ret
        exact ⟨rfl, (HT.out.bel.mono (Nat.le_of_eq HBB.out)).trans (HB7.out.mono (by have := HBr.out; have := HBB.out; omega))⟩
end Go.Proofs.Ytjnhlakcihkepaa

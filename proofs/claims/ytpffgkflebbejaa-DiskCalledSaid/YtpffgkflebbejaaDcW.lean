/-
  DiskCalled: the walk. No statement of the seat is proved here.
-/
import Derived.Test.YtpffgkflebbejaaDcN
import Derived.Test.YtpffgkflebbejaaDnM
import Derived.Test.YtpffgkflebbejaaFrameA
import Derived.Lib.OthersKept
import Derived.WalkSmall
import Derived.Deep.RegionHeld3
namespace Go.Proofs.Ytpffgkflebbejaa
open Go.RowKit Go.Maps

/-- What is held in a region that draws its order may grow on the way. -/
theorem wpAnyH_mono {P : Program} {md : Region.Mode} {ops : Array Oper} {Q : Exit → Act → World → Prop} {S S' : World → Prop} (h : ∀ w, S' w → S w) :
    ∀ (fuel : Nat) (listed : Array Bool) (a : Act) (w : World), wpAnyH P md ops Q S' fuel listed a w → wpAnyH P md ops Q S fuel listed a w
  | 0, _, _, _, hw => hw
  | fuel + 1, _, _, _, hw => ⟨hw.1, fun i hi => wpOp_mono (fun _ _ hk => ⟨h _ hk.1, wpAnyH_mono h fuel _ _ _ hk.2⟩) (hw.2 i hi)⟩

def abc : ByteArray := ⟨#[97, 98, 99, 100, 101, 102]⟩
def nmA (j : Nat) : ByteArray := ⟨#[UInt8.ofNat (97 + j)]⟩
theorem nmA_list (j : Nat) : (nmA j).data.toList = [UInt8.ofNat (97 + j)] := rfl
theorem abc_ascii {i : Nat} (h : i < 6) : ∃ hs : i < abc.size, (abc[i]'hs).toNat < 128 := by
  have : i = 0 ∨ i = 1 ∨ i = 2 ∨ i = 3 ∨ i = 4 ∨ i = 5 := by omega
  rcases this with rfl | rfl | rfl | rfl | rfl | rfl <;> exact ⟨by decide +kernel, by decide +kernel⟩
theorem abc_one {i : Nat} (h : i < 6) : abc.extract i (i + 1) = nmA i := by
  have : i = 0 ∨ i = 1 ∨ i = 2 ∨ i = 3 ∨ i = 4 ∨ i = 5 := by omega
  rcases this with rfl | rfl | rfl | rfl | rfl | rfl <;> decide +kernel
theorem abc_tail {j : Nat} (h : j < 6) : (abc.extract j 6).size = 6 - j ∧ (abc.extract j 6).extract 0 1 = nmA j := by
  have : j = 0 ∨ j = 1 ∨ j = 2 ∨ j = 3 ∨ j = 4 ∨ j = 5 := by omega
  rcases this with rfl | rfl | rfl | rfl | rfl | rfl <;> exact ⟨by decide +kernel, by decide +kernel⟩
set_option maxHeartbeats 16000000 in
set_option maxRecDepth 100000 in
theorem called_walk (a0 a1 a2 a3 a4 a5 : UInt8) (A : Option Addr) (n c : Nat) (xs : List (Nat × Nat)) (w : World) (hx : RowOf w 2 (PrAt w) A n xs) :
    Calls Try.prog 6 #[.agg #[.int .u8 (a0.toNat : Int), .int .u8 (a1.toNat : Int), .int .u8 (a2.toNat : Int), .int .u8 (a3.toNat : Int), .int .u8 (a4.toNat : Int), .int .u8 (a5.toNat : Int)], .slice A n c] w fun e w' => e = .returned (.bool true) ∧ Below w.heap.size w w' := by
  have HA := Lib.hid (fun W => awake_any W)
  have HNEW := Lib.hid (show ∀ W, Calls Try.prog 8 #[.int .i64 100] W fun e w' => e = .returned (.tuple #[.pointer (some ⟨W.heap.size + 1, 0, none⟩), .int .i64 0]) ∧ Dsk w' (W.heap.size + 1) W.heap.size ⟨false, false, 0, 100, []⟩ ∧ Below W.heap.size W w' from fun W => new_dsk 100 W (by omega))
  have HX := Lib.hid hx
  obtain ⟨F, HF⟩ : ∃ F : Nat → Nat, Hid (∀ k, F k = ([a0, a1, a2, a3, a4, a5].getD k 0).toNat) := ⟨_, fun _ => rfl⟩
  have hm := fun W => run_makeMap (P := Try.prog) 55 W
  clear hx
  go_enter Try.func6, Try.ntmps6
  go_wp2_with fail
  obtain ⟨wb, hwb⟩ : ∃ wb, w.alloc (.cells #[.int .u8 (a0.toNat : Int), .int .u8 (a1.toNat : Int), .int .u8 (a2.toNat : Int), .int .u8 (a3.toNat : Int), .int .u8 (a4.toNat : Int), .int .u8 (a5.toNat : Int)] 53) = wb := ⟨_, rfl⟩
  rw [hwb]
  have HY := Lib.hid (show ∀ k, k < 6 → wb.cell? ⟨w.heap.size, k, none⟩ = some (.int .u8 (F k : Int)) from fun k hk => by
    rw [← hwb, HF.out]
    unfold World.cell?
    rw [heap_alloc_new]
    have : k = 0 ∨ k = 1 ∨ k = 2 ∨ k = 3 ∨ k = 4 ∨ k = 5 := by omega
    rcases this with rfl | rfl | rfl | rfl | rfl | rfl <;> rfl)
  have HBW := Lib.hid (show Below w.heap.size w wb from by rw [← hwb]; exact (Below.refl _ w).alloc (Nat.le_refl _) _)
  have HSZ := Lib.hid (show wb.heap.size = w.heap.size + 1 from by rw [← hwb]; simp)
  clear hwb
  have HX := Lib.hid (show RowOf w 2 (PrAt w) A n xs from HX.out)
  obtain ⟨Y, HYY⟩ : ∃ Y, Hid (w.heap.size = Y) := ⟨_, rfl⟩
  rw [HYY.out] at HY HSZ ⊢
  refine (HNEW.out _).mono ?_
  rintro e w1 ⟨rfl, hd1, hb1⟩
  have HD1 := Lib.hid hd1
  have HB1 := Lib.hid hb1
  obtain ⟨D, HDD⟩ : ∃ D, Hid (wb.heap.size + 1 = D) := ⟨_, rfl⟩
  obtain ⟨B, HBB⟩ : ∃ B, Hid (wb.heap.size = B) := ⟨_, rfl⟩
  rw [HDD.out] at HD1 ⊢
  rw [HBB.out] at HD1 HB1
  clear hd1 hb1 HNEW
  go_wp2_with fail
  obtain ⟨X, HXX⟩ : ∃ X, Hid (w1.heap.size = X) := ⟨_, rfl⟩
  obtain ⟨I, HII⟩ : ∃ I, Hid (X + 1 = I) := ⟨_, rfl⟩
  obtain ⟨w2, HW2⟩ : ∃ w2, Hid ((w1.alloc (.map #[] 0)).iter abc 0 = w2) := ⟨_, rfl⟩
  have HIT := Lib.hid (show w2.heap[I]? = some (.stringIter abc 0) from by
    rw [← HW2.out, ← HII.out, ← HXX.out]
    have := World.iter_heap (w1.alloc (.map #[] 0)) abc 0
    rw [World.size_alloc] at this
    exact this)
  have HAM := Lib.hid (show Amp B wb w2 D B X ⟨false, false, 0, 100, []⟩ [] [] from by
    have h1 := HB1.out.size
    rw [HBB.out] at h1
    have e : w2 = (w1.alloc (.map #[] 0)).alloc (.stringIter abc 0) := HW2.out.symm
    have hm0 : (w1.alloc (.map #[] 0)).ownsMap Try.prog 9 inR X 0 (datI []) := by rw [← HXX.out]; exact World.ownsMap_made w1 Try.prog 9 inR
    have hf : Fr No w1 w2 := by rw [e]; exact (Fr.alloc No w1 _).no_trans (Fr.alloc No _ _)
    refine ⟨HD1.out.no hf, by rw [e]; exact hm0.alloc _, far HD1.out (by rw [HXX.out]; exact Nat.le_refl _), fun k hk => ?_, by rw [← HXX.out]; exact h1, rfl, HB1.out.trans (hf.noBelow.mono h1)⟩
    rcases hk with e | e | ⟨f, hf, _⟩
    · have := HDD.out; have := HBB.out; omega
    · omega
    · cases hf)
  have HOFI := Lib.hid (show ¬ foot D B ([] : List Fl) I from fun hf => by
    have h2 := HD1.out.foot_lt hf
    have := HII.out; have := HXX.out; omega)
  have HLB : Hid (∀ {W s fs ms}, Amp B wb W D B X s fs ms → B ≤ W.heap.size) := fun h => h.size HBB.out.symm
  have HBI : Hid (B ≤ I ∧ I ≠ X) := by have := HAM.out.fx; have := HII.out; exact ⟨by omega, by omega⟩
  rw [show (⟨#[97, 98, 99, 100, 101, 102]⟩ : ByteArray) = abc from rfl]
  rw [HXX.out, HII.out, HW2.out]
  go_loopw [8] (fun v8 wr => ∃ (i : Nat) (s : St) (fs : List Af), i ≤ 6 ∧ wr.heap[I]? = some (.stringIter abc i) ∧ Amp B wb wr D B X s fs fs ∧ fs.length = i ∧ aused fs = 3 * i ∧ (∀ f ∈ fs, Gd F f) ∧ (∀ f ∈ fs, ∃ j, j < i ∧ f.nm = [UInt8.ofNat (97 + j)]) ∧ ¬ foot D B s.fs I)
    (fun _ wr => 6 - wr.iterPos I)
  case atStart => exact ⟨0, _, [], by omega, HIT.out, HAM.out, rfl, rfl, (fun f hf => by cases hf), (fun f hf => by cases hf), HOFI.out⟩
  case round =>
    obtain ⟨i, s, fs, hi, hit, hM, hlen, hus, hgd, hnm, hoff⟩ := hrel
    have hpos0 := iterPos_of hit
    have HM := Lib.hid hM
    have HIT := Lib.hid hit
    have HGD := Lib.hid hgd
    have HNM := Lib.hid hnm
    have HOF := Lib.hid hoff
    have HUS := Lib.hid hus
    clear hM hgd hnm hoff hit HAM HOFI hus
    by_cases hi6 : i < 6
    · obtain ⟨hs6, has⟩ := abc_ascii hi6
      have hnx : ∀ ty, (Instr.next (.pointer (some ⟨I, 0, none⟩)) true ty).run Try.prog wr = _ := fun ty => Lib.run_next_ascii_at wr I abc i ty HIT.out hs6 has
      have hit1 := Lib.iterAt_heap wr I abc i (i + 1) HIT.out
      obtain ⟨w3, hw3⟩ : ∃ w3, wr.iterAt I abc (i + 1) = w3 := ⟨_, rfl⟩
      have hfI : Fr (fun k => k = I) wr w3 := by rw [← hw3]; exact ⟨rfl, rfl, rfl, by rw [Lib.iterAt_size]; exact Nat.le_refl _, fun k _ hk => Lib.iterAt_other wr I k abc (i + 1) hk⟩
      rw [hw3] at hnx hit1
      have HIT1 := Lib.hid hit1
      have HM1 := Lib.hid (HM.out.other (HLB.out HM.out) hfI HOF.out HBI.out.2 HBI.out.1)
      clear hw3 hfI hit1
      have hex : abc.extract i (i + 1) = nmA i := abc_one hi6
      have hasz : abc.size = 6 := rfl
      have hw1 : IntKind.i64.wrap ((i : Int) + 1) = ((i + 1 : Nat) : Int) := by
        rw [show ((i : Int) + 1) = ((i + 1 : Nat) : Int) by omega]
        exact IntWalk.i64_in _ (by omega)
      have hw2 : IntKind.u8.wrap (i : Int) = (i : Int) := by simp [IntKind.wrap, IntKind.signed, IntKind.bits]; omega
      have hw4 : IntKind.i64.wrap (10 * (i : Int)) = ((10 * i : Nat) : Int) := by
        rw [show (10 * (i : Int)) = ((10 * i : Nat) : Int) by omega]
        exact IntWalk.i64_in _ (by omega)
      have hw5 : IntKind.u8.wrap ((10 * i : Nat) : Int) = ((10 * i : Nat) : Int) := by simp [IntKind.wrap, IntKind.signed, IntKind.bits]; omega
      have hyc : w3.cell? ⟨Y, i, none⟩ = some (.int .u8 (F i : Int)) := (HM1.out.bel.cell (p := ⟨Y, i, none⟩) (by have := HSZ.out; have := HBB.out; show Y < B; omega)).trans (HY.out i hi6)
      have hyl : Y < w3.heap.size := by have := HLB.out HM1.out; have := HSZ.out; have := HBB.out; omega
      have hyc2 := fun o => (World.cell?_alloc_lt w3 o ⟨Y, i, none⟩ hyl).trans hyc
      obtain ⟨k, HK⟩ : ∃ k, Hid (F i % 4 = k) := ⟨_, rfl⟩
      have hk4 : k < 4 := by rw [← HK.out]; omega
      have hrem : ((F i : Nat) : Int) % 4 = ((k : Nat) : Int) := by rw [← HK.out]; omega
      go_wp2_with fail
      obtain ⟨w4, hw4⟩ : ∃ w4, w3.alloc (.cells #[.int .u8 (i : Int), .int .u8 (10 * (i : Int)), .int .u8 7] 5) = w4 := ⟨_, rfl⟩
      have HM4 := Lib.hid (HM1.out.no (HLB.out HM1.out) (show Fr No w3 w4 from by rw [← hw4]; exact Fr.alloc No w3 _))
      have hbk : w4.heap[w3.heap.size]? = some (.cells #[.int .u8 (i : Int), .int .u8 ((10 * i : Nat) : Int), .int .u8 7] 5 (0, 0)) := by
        rw [← hw4, Int.natCast_mul]
        exact heap_alloc_new _ _
      have hit4 : w4.heap[I]? = some (.stringIter abc (i + 1)) := by
        rw [← hw4]
        exact (Below.heap_alloc _ _ _ (lt_of_block HIT1.out)).trans HIT1.out
      have hog : ¬ foot D B s.fs w3.heap.size := far HM1.out.d (Nat.le_refl _)
      have hIG : I ≠ w3.heap.size := by have := lt_of_block HIT1.out; omega
      rw [hw4]
      clear hw4
      obtain ⟨G, HGG⟩ : ∃ G, Hid (w3.heap.size = G) := ⟨_, rfl⟩
      rw [HGG.out] at hbk hog hIG ⊢
      have hno : ∀ g ∈ fs, g.nm ≠ [UInt8.ofNat (97 + i)] := fun g hg => by
        obtain ⟨j, hj, e⟩ := HNM.out g hg
        rw [e]
        exact nm6_ne hi6 (by omega) (by omega)
      have hl3 : (b3 i).length = 3 := rfl
      have hlk : ((b3 i).take k).length = k := by rw [List.length_take]; omega
      have hN1 := new_one (nm := [UInt8.ofNat (97 + i)]) (fs := fs) (l := (b3 i).take k) (m := (b3 i).drop k) (nm6 hi6) hno (by rw [hlk, List.length_drop, HUS.out]; omega) (by omega) (fun f => aused_ins f fs) (fun f => alen_ins f fs)
      rw [List.take_append_drop, hlk] at hN1
      have HNO := Lib.hid hno
      have HN1 := Lib.hid hN1
      have hsz1 : (nmA i).size ≤ maxLen := by show (1 : Nat) ≤ maxLen; unfold maxLen; omega
      have HSZ1 := Lib.hid hsz1
      have hap := append_ab HM4.out.d (nmA i) hsz1 (some ⟨G, 0, none⟩) k 3 _ (rd3 hi6 hbk 0 k (by omega))
      rw [HM4.out.ab, nmA_list, List.drop_zero, HN1.out.1] at hap
      have HBK := Lib.hid hbk
      have HIT4 := Lib.hid hit4
      clear hbk hit4 hN1 hno hl3 hlk hsz1 hyc2 hyc hyl hnx
      refine hap.mono ?_
      rintro e w5 ⟨s5, rfl, hN5, hab5⟩
      obtain ⟨hg5, hog5, hgl5⟩ := hold hN5 (lt_of_block HBK.out) hog
      obtain ⟨hi5, hoi5, hil5⟩ := hold hN5 (lt_of_block HIT4.out) HOF.out
      have HM5 := Lib.hid (HM4.out.call (HLB.out HM4.out) hN5 hab5)
      have HBK5 := Lib.hid (hg5.trans HBK.out)
      have HIT5 := Lib.hid (hi5.trans HIT4.out)
      have hsy := sync_ab HM5.out.d (nmA i) HSZ1.out
      rw [HM5.out.ab, nmA_list, HN1.out.2.1] at hsy
      have HSY := Lib.hid hsy
      clear hap hN5 hab5 hg5 hgl5 hi5 hil5 hog hsy
      go_wp2_with fail
      refine HSY.out.mono ?_
      rintro e w6 ⟨s6, rfl, hN6, hab6⟩
      obtain ⟨hg6, hog6, hgl6⟩ := hold hN6 (lt_of_block HBK5.out) hog5
      obtain ⟨hi6', hoi6, hil6⟩ := hold hN6 (lt_of_block HIT5.out) hoi5
      have HM6 := Lib.hid (HM5.out.call (HLB.out HM5.out) hN6 hab6)
      have HBK6 := Lib.hid (hg6.trans HBK5.out)
      have HIT6 := Lib.hid (hi6'.trans HIT5.out)
      have HOG6 := Lib.hid hog6
      have HOI6 := Lib.hid hoi6
      clear hN6 hab6 hg6 hgl6 hi6' hil6 hog5 hoi5 hog6 hoi6 HSY
      have HAP2 := Lib.hid (show ∀ A n c, Rd w6 w6.heap.size A n ((b3 i).drop k) → Calls Try.prog 23 #[.pointer (some ⟨D, 0, none⟩), .string (nmA i), .slice A n c] w6 (Abs D B w6 s6 (0, Hun (ains ⟨[UInt8.ofNat (97 + i)], b3 i, k⟩ fs))) from fun A n c hr => by
        have h := append_ab HM6.out.d (nmA i) HSZ1.out A n c _ hr
        rw [HM6.out.ab, nmA_list, HN1.out.2.2] at h
        exact h)
      have hk5 : k = 0 ∨ k = 1 ∨ k = 2 ∨ k = 3 := by omega
      rcases hk5 with rfl | rfl | rfl | rfl
      all_goals (
        go_wp2_with fail
        refine (HAP2.out _ _ _ (by first | exact rd3 hi6 HBK6.out 0 3 (by omega) | exact rd3 hi6 HBK6.out 1 2 (by omega) | exact rd3 hi6 HBK6.out 2 1 (by omega) | exact ⟨rfl, fun h => absurd h (by omega)⟩)).mono ?_
        rintro e w7 ⟨s7, rfl, hN7, hab7⟩
        obtain ⟨hi7, hoi7, hil7⟩ := hold hN7 (lt_of_block HIT6.out) HOI6.out
        have HM7 := Lib.hid (HM6.out.call (HLB.out HM6.out) hN7 hab7)
        have HIT7 := Lib.hid (hi7.trans HIT6.out)
        have HOI7 := Lib.hid hoi7
        clear hN7 hab7 hi7 hil7 hoi7 HAP2
        go_wp2_with (at_mapUpdate; refine wpList_mapUpdate_in _ rfl _ _ _ 55 rfl 9 3 kS Try.underlying55 inR X fs.length (datI fs) rfl HM7.out.m (by unfold maxLen; omega) _ _ (.string [UInt8.ofNat (97 + i)]) rfl rfl (WideMaps.keyOf_string_mk Try.underlying9 HSZ1.out) (.lit (.int .i64 (i : Int))) [] rfl ?_; intro w8 hm8 ht8; simp only [Act.put])
        have HM8 := Lib.hid (show Amp B wb w8 D B X s7 (ains ⟨[UInt8.ofNat (97 + i)], b3 i, F i % 4⟩ fs) (ains ⟨[UInt8.ofNat (97 + i)], b3 i, F i % 4⟩ fs) from by
          rw [HK.out]
          have hq := datI_put ⟨[UInt8.ofNat (97 + i)], b3 i, F i % 4⟩ fs
          have hhd : (⟨[UInt8.ofNat (97 + i)], b3 i, F i % 4⟩ : Af).hd = i := by
            show (UInt8.ofNat i).toNat = i
            rw [UInt8.toNat_ofNat']
            omega
          rw [hhd, aput_no HNO.out, HK.out] at hq
          rw [hq] at hm8
          exact HM7.out.turn (HLB.out HM7.out) hm8 (Fr.grown ht8.grown (fun k e => by injection e with e; exact e.symm)))
        have hit8 : w8.heap[I]? = some (.stringIter abc (i + 1)) := ((Fr.grown (F := fun k => k = X) ht8.grown (fun k e => by injection e with e; exact e.symm)).block I (lt_of_block HIT7.out) HBI.out.2).trans HIT7.out
        clear hm8 ht8
        go_roundw
        case rel => exact ⟨i + 1, s7, _, by omega, hit8, HM8.out, by rw [alen_ins]; omega, by rw [aused_ins, HUS.out]; show 3 * i + 3 = _; omega, fun f hf => by
          rcases mem_ains' hf with e | e
          · rw [e]; exact ⟨i, i, hi6, hi6, rfl, rfl, rfl⟩
          · exact HGD.out f e, fun f hf => by
          rcases mem_ains' hf with e | e
          · rw [e]; exact ⟨i, by omega, rfl⟩
          · obtain ⟨j, hj, e⟩ := HNM.out f e
            exact ⟨j, by omega, e⟩, HOI7.out⟩
        case measure => rw [iterPos_of hit8, hpos0]; omega)
    · have hie : i = 6 := by omega
      subst hie
      have hnx : ∀ ty, (Instr.next (.pointer (some ⟨I, 0, none⟩)) true ty).run Try.prog wr = _ := fun ty => Lib.run_next_end_at wr I abc 6 ty HIT.out (by decide +kernel)
      clear hi6 hi hpos0
      go_wp2_with fail
      clear hnx
      go_loopw [12] (fun vi wr => ∃ (q : Nat) (s : St) (fs : List Af), q ≤ 40 ∧ q ≤ n ∧ vi = .int .i64 (q : Int) ∧ Amp B wb wr D B X s fs fs ∧ (∀ f ∈ fs, Gd F f)) (fun vi _ => 40 - (intOf vi).toNat)
      case atStart => exact ⟨0, s, fs, by omega, by omega, rfl, HM.out, HGD.out⟩
      case round =>
        clear HM HGD HIT HNM HOF HUS hlen
        obtain ⟨q, s, fs, hq, hqn, rfl, hM, hgd⟩ := hrel
        have HM := Lib.hid hM
        have HGD := Lib.hid hgd
        clear hM hgd
        by_cases hlt : q < n ∧ q < 40
        · obtain ⟨hlt, hlt2⟩ := hlt
          obtain ⟨b, o, rfl, hb, hc⟩ := HX.out.2 (by omega)
          have hix : q < xs.length := by rw [HX.out.1]; exact hlt
          obtain ⟨x, hxe⟩ : ∃ x, xs[q] = x := ⟨_, rfl⟩
          have hpr := hc q hix
          rw [hxe] at hpr
          have hcell : ∀ r v, w.cell? ⟨b, r, none⟩ = some v → wr.cell? ⟨b, r, none⟩ = some v := fun r v h => (HM.out.bel.cell (p := ⟨b, r, none⟩) (by have := HSZ.out; have := HBB.out; have := HYY.out; show b < B; omega)).trans ((HBW.out.cell (p := ⟨b, r, none⟩) hb).trans h)
          have y0 := hcell _ _ hpr.1
          have y1 := hcell (o + q * 2 + 1) _ (by have := hpr.2; rw [Addr.add_lit] at this; exact this)
          have y0d : wr.drew.cell? ⟨b, o + q * 2, none⟩ = some (.int .u8 (x.1 : Int)) := y0
          have y1d : wr.drew.cell? ⟨b, o + q * 2 + 1, none⟩ = some (.int .u8 (x.2 : Int)) := y1
          obtain ⟨j1, HJ1⟩ : ∃ j, Hid (x.1 % 6 = j) := ⟨_, rfl⟩
          obtain ⟨j2, HJ2⟩ : ∃ j, Hid (x.2 % 6 = j) := ⟨_, rfl⟩
          have hj1 : j1 < 6 := by rw [← HJ1.out]; omega
          have hj2 : j2 < 6 := by rw [← HJ2.out]; omega
          have hr1 : ((x.1 : Nat) : Int) % 6 = ((j1 : Nat) : Int) := by rw [← HJ1.out]; omega
          have hr2 : ((x.2 : Nat) : Int) % 6 = ((j2 : Nat) : Int) := by rw [← HJ2.out]; omega
          obtain ⟨hs1, he1⟩ := abc_tail hj1
          obtain ⟨hs2, he2⟩ := abc_tail hj2
          have hasz : abc.size = 6 := rfl
          have hwi : IntKind.i64.wrap ((q : Int) + 1) = ((q + 1 : Nat) : Int) := by
            rw [show ((q : Int) + 1) = ((q + 1 : Nat) : Int) by omega]
            exact IntWalk.i64_in _ (by omega)
          have hd40 : decide ((q : Int) < 40) = true := by rw [decide_eq_true_eq]; omega
          have hg1 : (j1 : Int) ≤ 6 := by omega
          have hg2 : (j2 : Int) ≤ 6 := by omega
          have hg3 : ¬ (6 : Int) < (j1 : Int) := by omega
          have hg4 : ¬ (6 : Int) < (j2 : Int) := by omega
          have hg5 : ¬ 6 - j1 < 1 := by omega
          have hg6 : ¬ 6 - j2 < 1 := by omega
          have hg7 : 1 ≤ 6 - j1 := by omega
          have hg8 : 1 ≤ 6 - j2 := by omega
          have hg9 : j1 ≤ 6 := by omega
          have hg10 : j2 ≤ 6 := by omega
          clear hc hpr hcell hxe hix
          go_wp2_with fail
          go_quiet (fail)
          simp only [show ((⟨#[97, 98, 99, 100, 101, 102]⟩ : ByteArray).extract j1 6).extract 0 1 = nmA j1 from he1, show ((⟨#[97, 98, 99, 100, 101, 102]⟩ : ByteArray).extract j2 6).extract 0 1 = nmA j2 from he2]
          obtain ⟨w5, hw5⟩ : ∃ w5, wr.drewN nq = w5 := ⟨_, rfl⟩
          have HM5 := Lib.hid (HM.out.no (HLB.out HM.out) (show Fr No wr w5 from by rw [← hw5]; exact Fr.drewN No wr nq))
          rw [hw5]
          have HZ1 := Lib.hid (show (nmA j1).size ≤ maxLen from by show (1 : Nat) ≤ maxLen; unfold maxLen; omega)
          have HZ2 := Lib.hid (show (nmA j2).size ≤ maxLen from by show (1 : Nat) ≤ maxLen; unfold maxLen; omega)
          have HRN := Lib.hid (show ∀ W, Fr No w5 W → _ from fun W hW => rename_ab (HM5.out.no (HLB.out HM5.out) hW).d (nmA j1) (nmA j2) HZ1.out HZ2.out)
          rw [HM5.out.ab, nmA_list, nmA_list] at HRN
          clear hw5 hg1 hg2 hg3 hg4 hg5 hg6 hg7 hg8 hg9 hg10 y0 y1 y0d y1d hs1 hs2 he1 he2 hr1 hr2 hasz
          cases hfn : afnd [UInt8.ofNat (97 + j1)] fs with
          | none =>
            rw [hun_rename_no hfn] at HRN
            have HFN := Lib.hid (show afnd (nmA j1).data.toList fs = none from hfn)
            clear hfn
            go_wp2_with (at_lookup; refine wpList_lookI rfl _ _ rfl HM5.out.m (nmA j1) HZ1.out rfl rfl ?_; rw [HFN.out])
            refine (HRN.out _ (Fr.refl _ _)).mono ?_
            rintro e w7 ⟨s7, rfl, hN7, hab7⟩
            have HM7 := Lib.hid (HM5.out.call (HLB.out HM5.out) hN7 hab7)
            clear hN7 hab7 HRN
            go_wp2_with fail
            refine (list_any HM7.out.d).mono ?_
            rintro e w8 ⟨v, rfl, hv, hf8⟩
            obtain ⟨AL, cL, rfl⟩ : ∃ A c, v = .slice A s7.fs.length c := by
              rcases hv.2 with ⟨rfl, e⟩ | ⟨g, cap, cur, rfl, _⟩
              · exact ⟨none, 0, by rw [e]⟩
              · exact ⟨_, _, rfl⟩
            have HM8 := Lib.hid (HM7.out.no (HLB.out HM7.out) hf8)
            rw [HM8.out.len]
            have hln : ∀ ty, (Builtin.len_ #[55] ty #[.map (some X)]).run Try.prog w8 = .ok (.int .i64 (fs.length : Int)) w8 := fun ty => by
              have h := HM8.out.m.len Try.underlying55 ty
              rw [datI_size] at h
              exact h
            clear hv hf8
            go_wp2_with (at_range; refine wpList_range_own _ rfl _ 55 rfl 9 3 kS Try.underlying55 inR X fs.length (datI fs) rfl HM8.out.m ?_; intro w9 hrg9 hg9 hs9)
            clear hln
            go_frame
            go_loopw [18] (fun v18 wr => ∃ (left : Lit → Bool) (cnt : Nat), wr.ranges Try.prog 9 inR X w8.heap.size fs.length (datI fs) left cnt ∧ Fr No w8 wr) (fun _ wr => wr.rangeLeft X w8.heap.size)
            case atStart => exact ⟨_, _, hrg9, Fr.grown hg9 (fun k e => by cases e)⟩
            case round =>
              obtain ⟨left, cnt, hrg, hfr⟩ := hrel
              have HF := Lib.hid hfr
              clear hfr hs9 hg9 hrg9
              go_wp2_with (at_next; refine wpList_next_ranges _ rfl _ rfl 9 kS inR Proofs.encStr (fun c : Int => Value.int .i64 c) (fun key kl hk => by obtain ⟨x, hx, _⟩ := Maps.keyOf_str Try.underlying9 hk; exact ⟨x, hx⟩) (fun v y hv => by obtain ⟨c, e, _⟩ := inR_inv hv; exact ⟨c, e⟩) X w8.heap.size fs.length _ _ _ rfl hrg ?_ ?_)
              · intro hc0 hl0
                have HMN := Lib.hid (HM8.out.no (HLB.out HM8.out) HF.out)
                go_wp2_with fail
                go_roundw
                case rel => exact ⟨q + 1, s7, fs, by omega, by omega, by go_num, HMN.out, HGD.out⟩
                case measure => simp [intOf]; omega
              · intro x' cc kl y1 y2 w10 cnt2 hkey hlk hv hat hrg2 hlt' hg2 hs2 hen
                obtain ⟨x2, ex, rfl, _⟩ := Maps.keyOf_str Try.underlying9 hkey
                have hxx : x' = x2 := by
                  injection ex with ex
                  have := congrArg (fun b : ByteArray => b.data.toList) ex
                  simpa using this
                subst hxx
                obtain ⟨f0, hff, rfl⟩ := datI_came hv hat
                obtain ⟨hmem, hfnm⟩ := afnd_some hff
                have hg0 := HGD.out f0 hmem
                obtain ⟨hk6, hfb, hfm⟩ := hg0.hd
                obtain ⟨k, hkk⟩ : ∃ k, f0.hd = k := ⟨_, rfl⟩
                rw [hkk] at hk6 hfb hfm hen ⊢
                have hz1 : (⟨x'.toArray⟩ : ByteArray).size ≤ maxLen := by
                  obtain ⟨j, _, _, _, hn, _⟩ := hg0
                  rw [← hfnm, hn]
                  show (1 : Nat) ≤ maxLen
                  unfold maxLen
                  omega
                obtain ⟨g0, hgf, hgb, hgm⟩ := HM8.out.file hff
                obtain ⟨m, HMM⟩ : ∃ m, Hid (F k % 4 = m) := ⟨_, rfl⟩
                have HFY := Lib.hid (show ∀ W, Fr No w8 W → _ from fun W hW => file_yes (HM8.out.d.no hW) ⟨x'.toArray⟩ hz1 HM8.out.up g0 hgf (b3 k) m (hgb.trans hfb) (by rw [hgm, hfm, HMM.out]))
                have hrem : ((F k : Nat) : Int) % 4 = ((m : Nat) : Int) := by rw [← HMM.out]; omega
                have hrem2 : IntKind.i64.wrap (((F k : Nat) : Int).tmod 4) = ((m : Nat) : Int) := by
                  rw [Int.tmod_eq_emod_of_nonneg (by omega), hrem]
                  exact IntWalk.i64_in _ (by rw [← HMM.out]; omega)
                have hrem3 : ((F k : Nat) : Int).tmod 4 = ((m : Nat) : Int) := by
                  rw [Int.tmod_eq_emod_of_nonneg (by omega), hrem]
                have hm4 : m < 4 := by rw [← HMM.out]; omega
                have hw2 : IntKind.u8.wrap (k : Int) = (k : Int) := by simp [IntKind.wrap, IntKind.signed, IntKind.bits]; omega
                have hw4 : IntKind.i64.wrap (10 * (k : Int)) = 10 * (k : Int) := IntWalk.i64_in _ (by omega)
                have hw5 : IntKind.u8.wrap (10 * (k : Int)) = 10 * (k : Int) := by simp [IntKind.wrap, IntKind.signed, IntKind.bits]; omega
                have hb1 : (0 : Int) ≤ (k : Int) := by omega
                have hb2 : (k : Int) < 6 := by omega
                have hwm : IntKind.i64.wrap (m : Int) = (m : Int) := IntWalk.i64_in _ (by omega)
                have HG := Lib.hid hg2
                have HL := Lib.hid hlt'
                have HR := Lib.hid hrg2
                have HF10 := Lib.hid (show Fr No w8 w10 from (HF.out.trans (G := fun k => k = w8.heap.size) (Fr.grown HG.out (fun k e => by injection e with e; exact e.symm)) (fun i hi e => by omega)))
                have hy8 : w8.cell? ⟨Y, k, none⟩ = some (.int .u8 (F k : Int)) := (HM8.out.bel.cell (p := ⟨Y, k, none⟩) (by have := HSZ.out; have := HBB.out; show Y < B; omega)).trans (HY.out k hk6)
                have HYC := Lib.hid (show ∀ W, Fr No w8 W → W.cell? ⟨Y, k, none⟩ = some (.int .u8 (F k : Int)) from fun W hW => hW.cell hy8 (fun e => e))
                clear hkey hlk hv hat hlt' hrg2 hs2 hg2 hff hmem hfnm hg0 hfb hfm hkk hz1 hgf hgb hgm hy8
                simp only [Proofs.encStr] at hen ⊢
                go_wp2_with fail
                have hcv : ∀ W G fr, W.heap[G]? = some (.cells #[.int .u8 (k : Int), .int .u8 (10 * (k : Int)), .int .u8 7] 5 fr) → (convert 37 9 (.slice (some ⟨G, 0, none⟩) 3 3)).run Try.prog W = .ok (.string ⟨(b3 k).toArray⟩) W := fun W G fr h => str_rule 3 (rd3 hk6 (by rw [Int.natCast_mul]; exact h) 0 3 (by omega))
                obtain ⟨u0, HU0⟩ : ∃ u, Hid (w10.drew = u) := ⟨_, rfl⟩
                have HFU := Lib.hid (show Fr No w8 u0 from by rw [← HU0.out]; exact HF10.out.no_trans (Fr.drew No w10))
                have HFV := Lib.hid (show Fr No w10 u0 from by rw [← HU0.out]; exact Fr.drew No w10)
                refine wp_region_held_drew (S := fun W => Fr No u0 W) (by kernel_rfl) (by rw [HU0.out]; exact Fr.refl _ _) (fun hHeld => ?_)
                rw [HU0.out] at hHeld ⊢
                refine wpAnyH_take (i := 0) (oi := _) (v := .pointer (some ⟨D, 0, none⟩)) rfl (by kernel_rfl) (by kernel_rfl) (by kernel_rfl) (fun _ _ _ h => h) (Or.inl ⟨by rfl, fun W hS => by rfl⟩) hHeld ?_
                try simp only [Act.put, List.getElem_toArray, List.getElem_cons_zero, List.setIfInBounds_toArray, List.set_cons_zero, List.set_cons_succ]
                refine wpAnyH_take (i := 1) (oi := _) (v := .string ⟨x'.toArray⟩) rfl (by kernel_rfl) (by kernel_rfl) (by kernel_rfl) (fun _ _ _ h => h) (Or.inl ⟨by rfl, fun W hS => by rfl⟩) hHeld ?_
                try simp only [Act.put, List.getElem_toArray, List.getElem_cons_zero, List.getElem_cons_succ, List.setIfInBounds_toArray, List.set_cons_zero, List.set_cons_succ]
                refine wpAnyH_take (i := 2) (oi := _) (v := .int .i64 (k : Int)) rfl (by kernel_rfl) (by kernel_rfl) (by kernel_rfl) (fun _ _ _ h => h) (Or.inl ⟨by rfl, fun W hS => by rfl⟩) hHeld ?_
                try simp only [Act.put, List.getElem_toArray, List.getElem_cons_zero, List.getElem_cons_succ, List.setIfInBounds_toArray, List.set_cons_zero, List.set_cons_succ]
                refine wpAnyH_take (i := 3) (oi := _) (v := .int .u8 (k : Int)) rfl (by kernel_rfl) (by kernel_rfl) (by kernel_rfl) (fun _ _ _ h => h) (Or.inl ⟨by rfl, fun W hS => by go_simp⟩) hHeld ?_
                try simp only [Act.put, List.getElem_toArray, List.getElem_cons_zero, List.getElem_cons_succ, List.setIfInBounds_toArray, List.set_cons_zero, List.set_cons_succ]
                refine wpAnyH_take (i := 4) (oi := _) (v := .int .i64 (k : Int)) rfl (by kernel_rfl) (by kernel_rfl) (by kernel_rfl) (fun _ _ _ h => h) (Or.inl ⟨by rfl, fun W hS => by rfl⟩) hHeld ?_
                try simp only [Act.put, List.getElem_toArray, List.getElem_cons_zero, List.getElem_cons_succ, List.setIfInBounds_toArray, List.set_cons_zero, List.set_cons_succ]
                refine wpAnyH_take (i := 5) (oi := _) (v := .int .i64 (10 * (k : Int))) rfl (by kernel_rfl) (by kernel_rfl) (by kernel_rfl) (fun _ _ _ h => h) (Or.inl ⟨by rfl, fun W hS => by go_simp⟩) hHeld ?_
                try simp only [Act.put, List.getElem_toArray, List.getElem_cons_zero, List.getElem_cons_succ, List.setIfInBounds_toArray, List.set_cons_zero, List.set_cons_succ]
                refine wpAnyH_take (i := 6) (oi := _) (v := .int .u8 (10 * (k : Int))) rfl (by kernel_rfl) (by kernel_rfl) (by kernel_rfl) (fun _ _ _ h => h) (Or.inl ⟨by rfl, fun W hS => by go_simp⟩) hHeld ?_
                try simp only [Act.put, List.getElem_toArray, List.getElem_cons_zero, List.getElem_cons_succ, List.setIfInBounds_toArray, List.set_cons_zero, List.set_cons_succ]
                refine wpAnyH_take (i := 9) (oi := _) (v := .int .i64 (k : Int)) rfl (by kernel_rfl) (by kernel_rfl) (by kernel_rfl) (fun _ _ _ h => h) (Or.inl ⟨by rfl, fun W hS => by rfl⟩) hHeld ?_
                try simp only [Act.put, List.getElem_toArray, List.getElem_cons_zero, List.getElem_cons_succ, List.setIfInBounds_toArray, List.set_cons_zero, List.set_cons_succ]
                refine wpAnyH_take (i := 10) (oi := _) (v := .pointer (some ⟨Y, k, none⟩)) rfl (by kernel_rfl) (by kernel_rfl) (by kernel_rfl) (fun _ _ _ h => h) (Or.inl ⟨by rfl, fun W hS => by go_simp⟩) hHeld ?_
                try simp only [Act.put, List.getElem_toArray, List.getElem_cons_zero, List.getElem_cons_succ, List.setIfInBounds_toArray, List.set_cons_zero, List.set_cons_succ]
                refine wpAnyH_take (i := 11) (oi := _) (v := .int .u8 (F k : Int)) rfl (by kernel_rfl) (by kernel_rfl) (by kernel_rfl) (fun _ _ _ h => h) (Or.inl ⟨by rfl, fun W hS => by have q0 := HYC.out W (HFU.out.no_trans hS); go_simp⟩) hHeld ?_
                try simp only [Act.put, List.getElem_toArray, List.getElem_cons_zero, List.getElem_cons_succ, List.setIfInBounds_toArray, List.set_cons_zero, List.set_cons_succ]
                refine wpAnyH_take (i := 12) (oi := _) (v := .int .u8 (m : Int)) rfl (by kernel_rfl) (by kernel_rfl) (by kernel_rfl) (fun _ _ _ h => h) (Or.inl ⟨by rfl, fun W hS => by go_simp⟩) hHeld ?_
                try simp only [Act.put, List.getElem_toArray, List.getElem_cons_zero, List.getElem_cons_succ, List.setIfInBounds_toArray, List.set_cons_zero, List.set_cons_succ]
                refine wpAnyH_take (i := 13) (oi := _) (v := .int .i64 (m : Int)) rfl (by kernel_rfl) (by kernel_rfl) (by kernel_rfl) (fun _ _ _ h => h) (Or.inl ⟨by rfl, fun W hS => by go_simp⟩) hHeld ?_
                try simp only [Act.put, List.getElem_toArray, List.getElem_cons_zero, List.getElem_cons_succ, List.setIfInBounds_toArray, List.set_cons_zero, List.set_cons_succ]
                clear hHeld
                refine wpAnyH_ready (rs := [7]) (by kernel_rfl) (by simp) ?_
                refine AllReadyH.cons (o := _) rfl (fun K hK => ?_) AllReadyH.nil
                rw [if_pos (by rfl)]
                go_wp2_with fail
                refine hK.out _ _ (Fr.alloc No u0 _) (fun _ => ?_)
                clear hK K
                try simp only [Act.put, List.getElem_toArray, List.getElem_cons_zero, List.getElem_cons_succ, List.setIfInBounds_toArray, List.set_cons_zero, List.set_cons_succ]
                obtain ⟨u1, hu1⟩ : ∃ u, u0.alloc (.cells #[.int .u8 (k : Int), .int .u8 (10 * (k : Int)), .int .u8 7] 5) = u := ⟨_, rfl⟩
                have hc1 := fun W (hW : Fr No u1 W) => hcv W u0.heap.size (0, 0) ((hW.block _ (by rw [← hu1]; simp) (fun e => e)).trans (by rw [← hu1]; exact heap_alloc_new _ _))
                have hf01 : Fr No u0 u1 := by rw [← hu1]; exact Fr.alloc No u0 _
                rw [hu1]
                have HC1 := Lib.hid hc1
                have HF01 := Lib.hid hf01
                clear hcv hc1 hf01 hu1
                refine wpAnyH_mono (S' := fun W => Fr No u1 W) (fun W h => HF01.out.no_trans h) _ _ _ _ ?_
                have hHeld : Fr No u1 u1 := Fr.refl _ _
                refine wpAnyH_take (i := 8) (oi := _) (v := .string ⟨(b3 k).toArray⟩) rfl (by kernel_rfl) (by kernel_rfl) (by kernel_rfl) (fun _ _ _ h => h) (Or.inl ⟨by rfl, fun W hS => by have e := HC1.out W hS; go_simp⟩) hHeld ?_
                try simp only [Act.put, List.getElem_toArray, List.getElem_cons_zero, List.getElem_cons_succ, List.setIfInBounds_toArray, List.set_cons_zero, List.set_cons_succ]
                clear hHeld
                refine wpAnyH_ready (rs := [14]) (by kernel_rfl) (by simp) ?_
                refine AllReadyH.cons (o := _) rfl (fun K hK => ?_) AllReadyH.nil
                rw [if_pos (by rfl)]
                go_wp2_with fail
                refine (HFY.out _ (HFU.out.no_trans HF01.out)).mono ?_
                rintro e w12 ⟨rfl, hf12⟩
                have HF12 := Lib.hid ((HFU.out.no_trans HF01.out).no_trans hf12)
                have hf1 : Fr No w10 w12 := (HFV.out.no_trans HF01.out).no_trans hf12
                refine hK.out _ _ hf12 (fun hHeld => ?_)
                clear hK K hf12
                try simp only [Act.put, List.getElem_toArray, List.getElem_cons_zero, List.getElem_cons_succ, List.setIfInBounds_toArray, List.set_cons_zero, List.set_cons_succ]
                refine wpAnyH_take (i := 15) (oi := _) (v := .bool false) rfl (by kernel_rfl) (by kernel_rfl) (by kernel_rfl) (fun _ _ _ h => h) (Or.inl ⟨by rfl, fun W hS => by go_simp⟩) hHeld ?_
                try simp only [Act.put, List.getElem_toArray, List.getElem_cons_zero, List.getElem_cons_succ, List.setIfInBounds_toArray, List.set_cons_zero, List.set_cons_succ]
                refine wpAnyH_done (by kernel_rfl) ?_ _
                have HRK := Lib.hid (HR.out.kept (row := none) (show w10.grownBy w12 none from ⟨hf1.os, hf1.tape, hf1.output, hf1.size, fun k hk _ => hf1.block k hk (fun e => e)⟩) (by simp) (by simp))
                clear hHeld hf1
                go_wp2_with fail
                go_roundw
                case rel => exact ⟨_, cnt2, HRK.out, HF12.out⟩
                case measure => rw [HRK.out.left_eq, hrg.left_eq]; exact HL.out

          | some f =>
            rw [hun_rename_ok hfn (nm6 hj2)] at HRN
            have HFN := Lib.hid (show afnd (nmA j1).data.toList fs = some f from hfn)
            obtain ⟨hmf, _⟩ := afnd_some hfn
            obtain ⟨fz, hfz⟩ : ∃ fz, aput ⟨[UInt8.ofNat (97 + j2)], f.bs, f.fm⟩ (adel [UInt8.ofNat (97 + j1)] fs) = fz := ⟨_, rfl⟩
            rw [hfz] at HRN
            have HGZ := Lib.hid (show ∀ g ∈ fz, Gd F g from fun g hg => by
              rw [← hfz] at hg
              rcases mem_aput' hg with e | e
              · rw [e]; exact (HGD.out f hmf).called hj2
              · exact HGD.out g (mem_adel' e))
            have HFZ := Lib.hid hfz
            have hfew : fs.length ≤ 200 := by have := HM5.out.len; have := HM5.out.d.few; omega
            have hdl := alen_del [UInt8.ofNat (97 + j1)] fs
            clear hfn hmf hfz
            go_wp2_with (at_lookup; refine wpList_lookI rfl _ _ rfl HM5.out.m (nmA j1) HZ1.out rfl rfl ?_; rw [HFN.out])
            refine (HRN.out _ (Fr.refl _ _)).mono ?_
            rintro e w7 ⟨s7, rfl, hN7, hab7⟩
            have HM7 := Lib.hid (HM5.out.call (HLB.out HM5.out) hN7 hab7)
            clear hN7 hab7 HRN
            go_wp2_with (first
              | (at_delete; refine wpList_delete_own _ rfl _ _ 55 9 rfl 3 kS Try.underlying55 inR X fs.length (datI fs) rfl HM7.out.m _ (.string [UInt8.ofNat (97 + j1)]) rfl (WideMaps.keyOf_string_mk Try.underlying9 HZ1.out) ?_; intro w8 hm8 ht8; rw [datI_del] at hm8; have HM8 := Lib.hid (HM7.out.turn (HLB.out HM7.out) hm8 (Fr.grown ht8.grown (fun k e => by injection e with e; exact e.symm))); clear hm8 ht8)
              | (at_mapUpdate; refine wpList_mapUpdate_in _ rfl _ _ _ 55 rfl 9 3 kS Try.underlying55 inR X (adel [UInt8.ofNat (97 + j1)] fs).length (datI (adel [UInt8.ofNat (97 + j1)] fs)) rfl HM8.out.m (by unfold maxLen; omega) _ _ (.string [UInt8.ofNat (97 + j2)]) rfl rfl (WideMaps.keyOf_string_mk Try.underlying9 HZ2.out) (.lit (.int .i64 (f.hd : Int))) [] rfl ?_; intro w9 hm9 ht9; have hq := datI_put ⟨[UInt8.ofNat (97 + j2)], f.bs, f.fm⟩ (adel [UInt8.ofNat (97 + j1)] fs); rw [HFZ.out] at hq; have HM9 := Lib.hid (show Amp B wb w9 D B X s7 fz fz from HM8.out.turn (ms' := fz) (HLB.out HM8.out) (by rw [← hq]; exact hm9) (Fr.grown ht9.grown (fun k e => by injection e with e; exact e.symm))); clear hm9 ht9 hq))
            refine (list_any HM9.out.d).mono ?_
            rintro e v8 ⟨v, rfl, hv, hq8⟩
            obtain ⟨AL, cL, rfl⟩ : ∃ A c, v = .slice A s7.fs.length c := by
              rcases hv.2 with ⟨rfl, e⟩ | ⟨g, cap, cur, rfl, _⟩
              · exact ⟨none, 0, by rw [e]⟩
              · exact ⟨_, _, rfl⟩
            have HQ8 := Lib.hid (HM9.out.no (HLB.out HM9.out) hq8)
            rw [HQ8.out.len]
            have hln : ∀ ty, (Builtin.len_ #[55] ty #[.map (some X)]).run Try.prog v8 = .ok (.int .i64 (fz.length : Int)) v8 := fun ty => by
              have h := HQ8.out.m.len Try.underlying55 ty
              rw [datI_size] at h
              exact h
            clear hv hq8
            go_wp2_with (at_range; refine wpList_range_own _ rfl _ 55 rfl 9 3 kS Try.underlying55 inR X fz.length (datI fz) rfl HQ8.out.m ?_; intro w9 hrg9 hg9 hs9)
            clear hln
            go_frame
            go_loopw [18] (fun v18 wr => ∃ (left : Lit → Bool) (cnt : Nat), wr.ranges Try.prog 9 inR X v8.heap.size fz.length (datI fz) left cnt ∧ Fr No v8 wr) (fun _ wr => wr.rangeLeft X v8.heap.size)
            case atStart => exact ⟨_, _, hrg9, Fr.grown hg9 (fun k e => by cases e)⟩
            case round =>
              obtain ⟨left, cnt, hrg, hfr⟩ := hrel
              have HF := Lib.hid hfr
              clear hfr hs9 hg9 hrg9
              go_wp2_with (at_next; refine wpList_next_ranges _ rfl _ rfl 9 kS inR Proofs.encStr (fun c : Int => Value.int .i64 c) (fun key kl hk => by obtain ⟨x, hx, _⟩ := Maps.keyOf_str Try.underlying9 hk; exact ⟨x, hx⟩) (fun v y hv => by obtain ⟨c, e, _⟩ := inR_inv hv; exact ⟨c, e⟩) X v8.heap.size fz.length _ _ _ rfl hrg ?_ ?_)
              · intro hc0 hl0
                have HMN := Lib.hid (HQ8.out.no (HLB.out HQ8.out) HF.out)
                go_wp2_with fail
                go_roundw
                case rel => exact ⟨q + 1, s7, fz, by omega, by omega, by go_num, HMN.out, HGZ.out⟩
                case measure => simp [intOf]; omega
              · intro x' cc kl y1 y2 w10 cnt2 hkey hlk hv hat hrg2 hlt' hg2 hs2 hen
                obtain ⟨x2, ex, rfl, _⟩ := Maps.keyOf_str Try.underlying9 hkey
                have hxx : x' = x2 := by
                  injection ex with ex
                  have := congrArg (fun b : ByteArray => b.data.toList) ex
                  simpa using this
                subst hxx
                obtain ⟨f0, hff, rfl⟩ := datI_came hv hat
                obtain ⟨hmem, hfnm⟩ := afnd_some hff
                have hg0 := HGZ.out f0 hmem
                obtain ⟨hk6, hfb, hfm⟩ := hg0.hd
                obtain ⟨k, hkk⟩ : ∃ k, f0.hd = k := ⟨_, rfl⟩
                rw [hkk] at hk6 hfb hfm hen ⊢
                have hz1 : (⟨x'.toArray⟩ : ByteArray).size ≤ maxLen := by
                  obtain ⟨j, _, _, _, hn, _⟩ := hg0
                  rw [← hfnm, hn]
                  show (1 : Nat) ≤ maxLen
                  unfold maxLen
                  omega
                obtain ⟨g0, hgf, hgb, hgm⟩ := HQ8.out.file hff
                obtain ⟨m, HMM⟩ : ∃ m, Hid (F k % 4 = m) := ⟨_, rfl⟩
                have HFY := Lib.hid (show ∀ W, Fr No v8 W → _ from fun W hW => file_yes (HQ8.out.d.no hW) ⟨x'.toArray⟩ hz1 HQ8.out.up g0 hgf (b3 k) m (hgb.trans hfb) (by rw [hgm, hfm, HMM.out]))
                have hrem : ((F k : Nat) : Int) % 4 = ((m : Nat) : Int) := by rw [← HMM.out]; omega
                have hrem2 : IntKind.i64.wrap (((F k : Nat) : Int).tmod 4) = ((m : Nat) : Int) := by
                  rw [Int.tmod_eq_emod_of_nonneg (by omega), hrem]
                  exact IntWalk.i64_in _ (by rw [← HMM.out]; omega)
                have hrem3 : ((F k : Nat) : Int).tmod 4 = ((m : Nat) : Int) := by
                  rw [Int.tmod_eq_emod_of_nonneg (by omega), hrem]
                have hm4 : m < 4 := by rw [← HMM.out]; omega
                have hw2 : IntKind.u8.wrap (k : Int) = (k : Int) := by simp [IntKind.wrap, IntKind.signed, IntKind.bits]; omega
                have hw4 : IntKind.i64.wrap (10 * (k : Int)) = 10 * (k : Int) := IntWalk.i64_in _ (by omega)
                have hw5 : IntKind.u8.wrap (10 * (k : Int)) = 10 * (k : Int) := by simp [IntKind.wrap, IntKind.signed, IntKind.bits]; omega
                have hb1 : (0 : Int) ≤ (k : Int) := by omega
                have hb2 : (k : Int) < 6 := by omega
                have hwm : IntKind.i64.wrap (m : Int) = (m : Int) := IntWalk.i64_in _ (by omega)
                have HG := Lib.hid hg2
                have HL := Lib.hid hlt'
                have HR := Lib.hid hrg2
                have HF10 := Lib.hid (show Fr No v8 w10 from (HF.out.trans (G := fun k => k = v8.heap.size) (Fr.grown HG.out (fun k e => by injection e with e; exact e.symm)) (fun i hi e => by omega)))
                have hy8 : v8.cell? ⟨Y, k, none⟩ = some (.int .u8 (F k : Int)) := (HQ8.out.bel.cell (p := ⟨Y, k, none⟩) (by have := HSZ.out; have := HBB.out; show Y < B; omega)).trans (HY.out k hk6)
                have HYC := Lib.hid (show ∀ W, Fr No v8 W → W.cell? ⟨Y, k, none⟩ = some (.int .u8 (F k : Int)) from fun W hW => hW.cell hy8 (fun e => e))
                clear hkey hlk hv hat hlt' hrg2 hs2 hg2 hff hmem hfnm hg0 hfb hfm hkk hz1 hgf hgb hgm hy8
                simp only [Proofs.encStr] at hen ⊢
                go_wp2_with fail
                have hcv : ∀ W G fr, W.heap[G]? = some (.cells #[.int .u8 (k : Int), .int .u8 (10 * (k : Int)), .int .u8 7] 5 fr) → (convert 37 9 (.slice (some ⟨G, 0, none⟩) 3 3)).run Try.prog W = .ok (.string ⟨(b3 k).toArray⟩) W := fun W G fr h => str_rule 3 (rd3 hk6 (by rw [Int.natCast_mul]; exact h) 0 3 (by omega))
                obtain ⟨u0, HU0⟩ : ∃ u, Hid (w10.drew = u) := ⟨_, rfl⟩
                have HFU := Lib.hid (show Fr No v8 u0 from by rw [← HU0.out]; exact HF10.out.no_trans (Fr.drew No w10))
                have HFV := Lib.hid (show Fr No w10 u0 from by rw [← HU0.out]; exact Fr.drew No w10)
                refine wp_region_held_drew (S := fun W => Fr No u0 W) (by kernel_rfl) (by rw [HU0.out]; exact Fr.refl _ _) (fun hHeld => ?_)
                rw [HU0.out] at hHeld ⊢
                refine wpAnyH_take (i := 0) (oi := _) (v := .pointer (some ⟨D, 0, none⟩)) rfl (by kernel_rfl) (by kernel_rfl) (by kernel_rfl) (fun _ _ _ h => h) (Or.inl ⟨by rfl, fun W hS => by rfl⟩) hHeld ?_
                try simp only [Act.put, List.getElem_toArray, List.getElem_cons_zero, List.setIfInBounds_toArray, List.set_cons_zero, List.set_cons_succ]
                refine wpAnyH_take (i := 1) (oi := _) (v := .string ⟨x'.toArray⟩) rfl (by kernel_rfl) (by kernel_rfl) (by kernel_rfl) (fun _ _ _ h => h) (Or.inl ⟨by rfl, fun W hS => by rfl⟩) hHeld ?_
                try simp only [Act.put, List.getElem_toArray, List.getElem_cons_zero, List.getElem_cons_succ, List.setIfInBounds_toArray, List.set_cons_zero, List.set_cons_succ]
                refine wpAnyH_take (i := 2) (oi := _) (v := .int .i64 (k : Int)) rfl (by kernel_rfl) (by kernel_rfl) (by kernel_rfl) (fun _ _ _ h => h) (Or.inl ⟨by rfl, fun W hS => by rfl⟩) hHeld ?_
                try simp only [Act.put, List.getElem_toArray, List.getElem_cons_zero, List.getElem_cons_succ, List.setIfInBounds_toArray, List.set_cons_zero, List.set_cons_succ]
                refine wpAnyH_take (i := 3) (oi := _) (v := .int .u8 (k : Int)) rfl (by kernel_rfl) (by kernel_rfl) (by kernel_rfl) (fun _ _ _ h => h) (Or.inl ⟨by rfl, fun W hS => by go_simp⟩) hHeld ?_
                try simp only [Act.put, List.getElem_toArray, List.getElem_cons_zero, List.getElem_cons_succ, List.setIfInBounds_toArray, List.set_cons_zero, List.set_cons_succ]
                refine wpAnyH_take (i := 4) (oi := _) (v := .int .i64 (k : Int)) rfl (by kernel_rfl) (by kernel_rfl) (by kernel_rfl) (fun _ _ _ h => h) (Or.inl ⟨by rfl, fun W hS => by rfl⟩) hHeld ?_
                try simp only [Act.put, List.getElem_toArray, List.getElem_cons_zero, List.getElem_cons_succ, List.setIfInBounds_toArray, List.set_cons_zero, List.set_cons_succ]
                refine wpAnyH_take (i := 5) (oi := _) (v := .int .i64 (10 * (k : Int))) rfl (by kernel_rfl) (by kernel_rfl) (by kernel_rfl) (fun _ _ _ h => h) (Or.inl ⟨by rfl, fun W hS => by go_simp⟩) hHeld ?_
                try simp only [Act.put, List.getElem_toArray, List.getElem_cons_zero, List.getElem_cons_succ, List.setIfInBounds_toArray, List.set_cons_zero, List.set_cons_succ]
                refine wpAnyH_take (i := 6) (oi := _) (v := .int .u8 (10 * (k : Int))) rfl (by kernel_rfl) (by kernel_rfl) (by kernel_rfl) (fun _ _ _ h => h) (Or.inl ⟨by rfl, fun W hS => by go_simp⟩) hHeld ?_
                try simp only [Act.put, List.getElem_toArray, List.getElem_cons_zero, List.getElem_cons_succ, List.setIfInBounds_toArray, List.set_cons_zero, List.set_cons_succ]
                refine wpAnyH_take (i := 9) (oi := _) (v := .int .i64 (k : Int)) rfl (by kernel_rfl) (by kernel_rfl) (by kernel_rfl) (fun _ _ _ h => h) (Or.inl ⟨by rfl, fun W hS => by rfl⟩) hHeld ?_
                try simp only [Act.put, List.getElem_toArray, List.getElem_cons_zero, List.getElem_cons_succ, List.setIfInBounds_toArray, List.set_cons_zero, List.set_cons_succ]
                refine wpAnyH_take (i := 10) (oi := _) (v := .pointer (some ⟨Y, k, none⟩)) rfl (by kernel_rfl) (by kernel_rfl) (by kernel_rfl) (fun _ _ _ h => h) (Or.inl ⟨by rfl, fun W hS => by go_simp⟩) hHeld ?_
                try simp only [Act.put, List.getElem_toArray, List.getElem_cons_zero, List.getElem_cons_succ, List.setIfInBounds_toArray, List.set_cons_zero, List.set_cons_succ]
                refine wpAnyH_take (i := 11) (oi := _) (v := .int .u8 (F k : Int)) rfl (by kernel_rfl) (by kernel_rfl) (by kernel_rfl) (fun _ _ _ h => h) (Or.inl ⟨by rfl, fun W hS => by have q0 := HYC.out W (HFU.out.no_trans hS); go_simp⟩) hHeld ?_
                try simp only [Act.put, List.getElem_toArray, List.getElem_cons_zero, List.getElem_cons_succ, List.setIfInBounds_toArray, List.set_cons_zero, List.set_cons_succ]
                refine wpAnyH_take (i := 12) (oi := _) (v := .int .u8 (m : Int)) rfl (by kernel_rfl) (by kernel_rfl) (by kernel_rfl) (fun _ _ _ h => h) (Or.inl ⟨by rfl, fun W hS => by go_simp⟩) hHeld ?_
                try simp only [Act.put, List.getElem_toArray, List.getElem_cons_zero, List.getElem_cons_succ, List.setIfInBounds_toArray, List.set_cons_zero, List.set_cons_succ]
                refine wpAnyH_take (i := 13) (oi := _) (v := .int .i64 (m : Int)) rfl (by kernel_rfl) (by kernel_rfl) (by kernel_rfl) (fun _ _ _ h => h) (Or.inl ⟨by rfl, fun W hS => by go_simp⟩) hHeld ?_
                try simp only [Act.put, List.getElem_toArray, List.getElem_cons_zero, List.getElem_cons_succ, List.setIfInBounds_toArray, List.set_cons_zero, List.set_cons_succ]
                clear hHeld
                refine wpAnyH_ready (rs := [7]) (by kernel_rfl) (by simp) ?_
                refine AllReadyH.cons (o := _) rfl (fun K hK => ?_) AllReadyH.nil
                rw [if_pos (by rfl)]
                go_wp2_with fail
                refine hK.out _ _ (Fr.alloc No u0 _) (fun _ => ?_)
                clear hK K
                try simp only [Act.put, List.getElem_toArray, List.getElem_cons_zero, List.getElem_cons_succ, List.setIfInBounds_toArray, List.set_cons_zero, List.set_cons_succ]
                obtain ⟨u1, hu1⟩ : ∃ u, u0.alloc (.cells #[.int .u8 (k : Int), .int .u8 (10 * (k : Int)), .int .u8 7] 5) = u := ⟨_, rfl⟩
                have hc1 := fun W (hW : Fr No u1 W) => hcv W u0.heap.size (0, 0) ((hW.block _ (by rw [← hu1]; simp) (fun e => e)).trans (by rw [← hu1]; exact heap_alloc_new _ _))
                have hf01 : Fr No u0 u1 := by rw [← hu1]; exact Fr.alloc No u0 _
                rw [hu1]
                have HC1 := Lib.hid hc1
                have HF01 := Lib.hid hf01
                clear hcv hc1 hf01 hu1
                refine wpAnyH_mono (S' := fun W => Fr No u1 W) (fun W h => HF01.out.no_trans h) _ _ _ _ ?_
                have hHeld : Fr No u1 u1 := Fr.refl _ _
                refine wpAnyH_take (i := 8) (oi := _) (v := .string ⟨(b3 k).toArray⟩) rfl (by kernel_rfl) (by kernel_rfl) (by kernel_rfl) (fun _ _ _ h => h) (Or.inl ⟨by rfl, fun W hS => by have e := HC1.out W hS; go_simp⟩) hHeld ?_
                try simp only [Act.put, List.getElem_toArray, List.getElem_cons_zero, List.getElem_cons_succ, List.setIfInBounds_toArray, List.set_cons_zero, List.set_cons_succ]
                clear hHeld
                refine wpAnyH_ready (rs := [14]) (by kernel_rfl) (by simp) ?_
                refine AllReadyH.cons (o := _) rfl (fun K hK => ?_) AllReadyH.nil
                rw [if_pos (by rfl)]
                go_wp2_with fail
                refine (HFY.out _ (HFU.out.no_trans HF01.out)).mono ?_
                rintro e w12 ⟨rfl, hf12⟩
                have HF12 := Lib.hid ((HFU.out.no_trans HF01.out).no_trans hf12)
                have hf1 : Fr No w10 w12 := (HFV.out.no_trans HF01.out).no_trans hf12
                refine hK.out _ _ hf12 (fun hHeld => ?_)
                clear hK K hf12
                try simp only [Act.put, List.getElem_toArray, List.getElem_cons_zero, List.getElem_cons_succ, List.setIfInBounds_toArray, List.set_cons_zero, List.set_cons_succ]
                refine wpAnyH_take (i := 15) (oi := _) (v := .bool false) rfl (by kernel_rfl) (by kernel_rfl) (by kernel_rfl) (fun _ _ _ h => h) (Or.inl ⟨by rfl, fun W hS => by go_simp⟩) hHeld ?_
                try simp only [Act.put, List.getElem_toArray, List.getElem_cons_zero, List.getElem_cons_succ, List.setIfInBounds_toArray, List.set_cons_zero, List.set_cons_succ]
                refine wpAnyH_done (by kernel_rfl) ?_ _
                have HRK := Lib.hid (HR.out.kept (row := none) (show w10.grownBy w12 none from ⟨hf1.os, hf1.tape, hf1.output, hf1.size, fun k hk _ => hf1.block k hk (fun e => e)⟩) (by simp) (by simp))
                clear hHeld hf1
                go_wp2_with fail
                go_roundw
                case rel => exact ⟨_, cnt2, HRK.out, HF12.out⟩
                case measure => rw [HRK.out.left_eq, hrg.left_eq]; exact HL.out

        · by_cases hl2 : q < n
          · have hq40 : q = 40 := by omega
            subst hq40
            clear hlt
            go_wp2_with fail
            refine (HA.out _).mono ?_
            rintro e w7 ⟨rfl, hb⟩
            have HB7 := Lib.hid hb
            clear hb
            go_wp2_with fail
            go_ret
            have h1 := HLB.out HM.out
            have h2 := HBB.out
            have h3 := HSZ.out
            have h4 := HYY.out
            exact ⟨rfl, (HBW.out.trans (HM.out.bel.mono (by omega))).trans (HB7.out.mono (by omega))⟩
          · have hqn' : q = n := by omega
            subst hqn'
            clear hlt hl2
            go_wp2_with fail
            refine (HA.out _).mono ?_
            rintro e w7 ⟨rfl, hb⟩
            have HB7 := Lib.hid hb
            clear hb
            go_wp2_with fail
            go_ret
            have h1 := HLB.out HM.out
            have h2 := HBB.out
            have h3 := HSZ.out
            have h4 := HYY.out
            exact ⟨rfl, (HBW.out.trans (HM.out.bel.mono (by omega))).trans (HB7.out.mono (by omega))⟩
set_option maxRecDepth 100000 in
theorem called_any (l : List UInt8) (hl : l.length = 6) (A : Option Addr) (n c : Nat) (xs : List (Nat × Nat)) (w : World) (hx : RowOf w 2 (PrAt w) A n xs) :
    Calls Try.prog 6 #[.agg (bvs l).toArray, .slice A n c] w fun e w' => e = .returned (.bool true) ∧ Below w.heap.size w w' := by
  match l, hl with
  | [a0, a1, a2, a3, a4, a5], _ => exact called_walk a0 a1 a2 a3 a4 a5 A n c xs w hx
end Go.Proofs.Ytpffgkflebbejaa

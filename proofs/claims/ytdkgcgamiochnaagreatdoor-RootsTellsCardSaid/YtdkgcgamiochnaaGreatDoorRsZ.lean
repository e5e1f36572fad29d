/-
  Several texts in one: RsA, RsB, RsC. No statement of the seat is proved here.
-/
import Derived.Test.YtdkgcgamiochnaaGreatDoorRtZ
import Derived.Test.YtdkgcgamiochnaaGreatDoorRfZ
import Derived.Deep.CutBlock
namespace Go.Proofs.YtdkgcgamiochnaaGreatDoor
open Go.RowKit Go.Deep

theorem rmay_any (n : Int) (w : World) : Calls Tryz.prog 25 #[.int .i64 n] w fun e w' => e = .returned (.bool (decide (0 ≤ n ∧ n ≤ 9007199254740992))) ∧ w' = w := by
  by_cases h1 : 0 ≤ n
  · by_cases h2 : n ≤ 9007199254740992
    · have e1 : decide (0 ≤ n) = true := decide_eq_true h1
      have e2 : decide (n ≤ 9007199254740992) = true := decide_eq_true h2
      have e3 : decide (0 ≤ n ∧ n ≤ 9007199254740992) = true := decide_eq_true ⟨h1, h2⟩
      rw [e3]
      clear h1 h2 e3
      go_enter Tryz.func25, Tryz.ntmps25
      go_wp2_with fail
      go_ret
      exact ⟨rfl, rfl⟩
    · have e1 : decide (0 ≤ n) = true := decide_eq_true h1
      have e2 : decide (n ≤ 9007199254740992) = false := decide_eq_false h2
      have e3 : decide (0 ≤ n ∧ n ≤ 9007199254740992) = false := decide_eq_false (fun h => h2 h.2)
      rw [e3]
      clear h1 h2 e3
      go_enter Tryz.func25, Tryz.ntmps25
      go_wp2_with fail
      go_ret
      exact ⟨rfl, rfl⟩
  · have e1 : decide (0 ≤ n) = false := decide_eq_false h1
    have e3 : decide (0 ≤ n ∧ n ≤ 9007199254740992) = false := decide_eq_false (fun h => h1 h.1)
    rw [e3]
    clear h1 e3
    go_enter Tryz.func25, Tryz.ntmps25
    go_wp2_with fail
    go_ret
    exact ⟨rfl, rfl⟩
theorem mgc_lit (w : World) : Rd (w.alloc (.cells #[.int .u8 72, .int .u8 83, .int .u8 82, .int .u8 49] 5)) (w.alloc (.cells #[.int .u8 72, .int .u8 83, .int .u8 82, .int .u8 49] 5)).heap.size (some ⟨w.heap.size, 0, none⟩) 4 mgc := by
  refine ⟨rfl, fun _ => ⟨w.heap.size, 0, rfl, by rw [World.size_alloc]; omega, fun j hj => ?_⟩⟩
  rw [World.cell?_alloc_mark, Nat.zero_add]
  have hj' : j < 4 := hj
  have : j = 0 ∨ j = 1 ∨ j = 2 ∨ j = 3 := by omega
  rcases this with rfl | rfl | rfl | rfl <;> rfl
set_option maxHeartbeats 4000000 in
set_option maxRecDepth 100000 in
theorem rBytes_any (a t c : Int) (A : Option Addr) (n k : Nat) (l : List UInt8) (w : World) (h : Rd w w.heap.size A n l) (hn : n ≤ 10000) :
    Calls Tryz.prog 8 #[.agg #[.int .i64 a, .int .i64 t, .int .i64 c, .slice A n k]] w (Byp w (byR a t c l)) := by
  have hf1 := Fr.alloc No w (.cells #[.int .i64 a, .int .i64 t, .int .i64 c, .slice A n k] 24)
  have hb1 := heap_alloc_new w (.cells #[.int .i64 a, .int .i64 t, .int .i64 c, .slice A n k] 24)
  have h1 := rd_offR hf1 h (fun _ _ _ e => e)
  have HL := Lib.hid h.1
  have HM := Lib.hid rmay_any
  obtain ⟨Q, HQ⟩ : ∃ Q : Ending → World → Prop, Hid (Byp w (byR a t c l) = Q) := ⟨_, rfl⟩
  rw [HQ.out]
  obtain ⟨ma, hma⟩ : ∃ q, decide (0 ≤ a ∧ a ≤ 9007199254740992) = q := ⟨_, rfl⟩
  obtain ⟨mt, hmt⟩ : ∃ q, decide (0 ≤ t ∧ t ≤ 9007199254740992) = q := ⟨_, rfl⟩
  obtain ⟨mc, hmc⟩ : ∃ q, decide (0 ≤ c ∧ c ≤ 9007199254740992) = q := ⟨_, rfl⟩
  have hrg : rgt a t c = (ma && !(a == 0) && mt && mc) := by
    rw [← hma, ← hmt, ← hmc]
    unfold rgt
    by_cases ha : a = 0
    · rw [ha]; simp
    · rw [show (a == 0) = false from by rw [beq_eq_false_iff_ne]; exact ha, show decide (1 ≤ a ∧ a ≤ 9007199254740992) = decide (0 ≤ a ∧ a ≤ 9007199254740992) from by congr 1; apply propext; omega]
      simp [Bool.and_assoc]
  have HRG := Lib.hid hrg
  have MA := Lib.hid (fun W => by have := rmay_any a W; rw [hma] at this; exact this)
  have MT := Lib.hid (fun W => by have := rmay_any t W; rw [hmt] at this; exact this)
  have MC := Lib.hid (fun W => by have := rmay_any c W; rw [hmc] at this; exact this)
  have HMA := Lib.hid (And.intro hma (And.intro hmt hmc))
  have HB1 := Lib.hid (show Below w.heap.size w (w.alloc (.cells #[.int .i64 a, .int .i64 t, .int .i64 c, .slice A n k] 24)) from hf1.noBelow)
  clear hrg hma hmt hmc h hf1 HM
  go_enter Tryz.func8, Tryz.ntmps8
  go_upto_region 1 with fail
  obtain ⟨P, hP⟩ : ∃ P, w.heap.size = P := ⟨_, rfl⟩
  obtain ⟨w1, hw1⟩ : ∃ u, w.alloc (.cells #[.int .i64 a, .int .i64 t, .int .i64 c, .slice A n k] 24) = u := ⟨_, rfl⟩
  rw [hw1] at h1 hb1 HB1 ⊢
  rw [hP] at hb1 ⊢
  have HP := Lib.hid hP
  have HBX : Hid (∀ W, Below w1.heap.size w1 W → W.cell? ⟨P, 0, none⟩ = some (.int .i64 a) ∧ W.cell? ⟨P, 1, none⟩ = some (.int .i64 t) ∧ W.cell? ⟨P, 2, none⟩ = some (.int .i64 c) ∧ W.cell? ⟨P, 3, none⟩ = some (.slice A n k)) := Lib.hid fun W hW => by
    have hb := (hW.block P (Array.getElem?_eq_some_iff.1 hb1).1).trans hb1
    unfold World.cell?
    rw [hb]
    exact ⟨rfl, rfl, rfl, rfl⟩
  have HD := Lib.hid (fun W (h : Below w1.heap.size w1 W) => ((h1.below h).more h.size : Rd W W.heap.size A n l))
  have HN := Lib.hid hn
  obtain ⟨b0, b1, b2, b3⟩ := HBX.out w1 (Below.refl _ _)
  have HBAD : Hid ((ma && !(a == 0) && mt && mc) = false → ∀ W, Below w1.heap.size w1 W → Q (.returned (.tuple #[.slice none 0 0, .int .i64 2])) W) := Lib.hid fun hg W hW => by
    rw [← HQ.out]
    unfold byR
    rw [HRG.out, hg, if_neg Bool.false_ne_true]
    exact ⟨none, 0, 0, rfl, Nat.le_refl _, Rd.nil, HB1.out.trans (hW.mono HB1.out.size)⟩
  clear hw1 hP h1 hb1 hn
  cases ma with
  | false =>
    have HR := Lib.hid (HBAD.out (by simp) w1 (Below.refl _ _))
    clear HBAD HRG
    go_wp2_with (go_at_call 25; refine (MA.out _).mono ?_; rintro e w9 ⟨rfl, rfl⟩)
    exact HR.out
  | true =>
  by_cases ha0 : a = 0
  · have e0 : (a == 0) = true := by simp [ha0]
    have HR := Lib.hid (HBAD.out (by rw [e0]; rfl) w1 (Below.refl _ _))
    clear HBAD HRG ha0
    go_wp2_with (go_at_call 25; refine (MA.out _).mono ?_; rintro e w9 ⟨rfl, rfl⟩)
    exact HR.out
  have e0 : (a == 0) = false := by rw [beq_eq_false_iff_ne]; exact ha0
  cases mt with
  | false =>
    have HR := Lib.hid (HBAD.out (by simp) w1 (Below.refl _ _))
    clear HBAD HRG
    go_wp2_with fail
    refine (MA.out _).mono ?_
    rintro e w9 ⟨rfl, rfl⟩
    go_wp2_with fail
    refine (MT.out _).mono ?_
    rintro e w9 ⟨rfl, rfl⟩
    go_wp2_with fail
    exact HR.out
  | true =>
  cases mc with
  | false =>
    have HR := Lib.hid (HBAD.out (by simp) w1 (Below.refl _ _))
    clear HBAD HRG
    go_wp2_with fail
    refine (MA.out _).mono ?_
    rintro e w9 ⟨rfl, rfl⟩
    go_wp2_with fail
    refine (MT.out _).mono ?_
    rintro e w9 ⟨rfl, rfl⟩
    go_wp2_with fail
    refine (MC.out _).mono ?_
    rintro e w9 ⟨rfl, rfl⟩
    go_wp2_with fail
    exact HR.out
  | true =>
  obtain ⟨ka, kt, kc⟩ := HMA.out
  have ka := of_decide_eq_true ka
  have kt := of_decide_eq_true kt
  have kc := of_decide_eq_true kc
  obtain ⟨x, rfl⟩ := Int.eq_ofNat_of_zero_le ka.1
  obtain ⟨y, rfl⟩ := Int.eq_ofNat_of_zero_le kt.1
  obtain ⟨z, rfl⟩ := Int.eq_ofNat_of_zero_le kc.1
  have hx : x ≤ 9007199254740992 := by omega
  have hy : y ≤ 9007199254740992 := by omega
  have hz : z ≤ 9007199254740992 := by omega
  have HX := Lib.hid (And.intro hx (And.intro hy hz))
  have hbl : Hid (Q = Byp w (Rn.bytes ⟨x, y, z, l⟩, 0)) := Lib.hid (by
    rw [← HQ.out]
    unfold byR
    rw [HRG.out, e0]
    rfl)
  have hxl : (varint x).length ≤ 9 := varint_len9 hx
  have hyl : (varint y).length ≤ 9 := varint_len9 hy
  have hzl : (varint z).length ≤ 9 := varint_len9 hz
  have HVL := Lib.hid (And.intro hxl (And.intro hyl hzl))
  have hnl : ¬ (1048576 : Int) < (n : Int) := by have := HN.out; omega
  have hwx : IntKind.u64.wrap (x : Int) = (x : Int) := by rw [IntKind.wrap_u64]; omega
  have hwy : IntKind.u64.wrap (y : Int) = (y : Int) := by rw [IntKind.wrap_u64]; omega
  have hwz : IntKind.u64.wrap (z : Int) = (z : Int) := by rw [IntKind.wrap_u64]; omega
  have HW := Lib.hid (And.intro hwx (And.intro hwy hwz))
  clear HBAD HRG HQ HMA ka kt kc hx hy hz hxl hyl hzl hwx hwy hwz
  go_wp2_with fail
  refine (MA.out _).mono ?_
  rintro e w9 ⟨rfl, rfl⟩
  go_wp2_with fail
  refine (MT.out _).mono ?_
  rintro e w9 ⟨rfl, rfl⟩
  go_wp2_with fail
  refine (MC.out _).mono ?_
  rintro e w9 ⟨rfl, rfl⟩
  obtain ⟨hwx, hwy, hwz⟩ := HW.out
  have C1 := Lib.hid (uint_ref (some ⟨w9.heap.size, 0, none⟩) 4 4 x mgc _ (mgc_lit w9) (by omega) (by have := HX.out; omega))
  have hbm : Below w9.heap.size w9 (w9.alloc (.cells #[.int .u8 72, .int .u8 83, .int .u8 82, .int .u8 49] 5)) := (Fr.alloc No w9 _).noBelow
  have HBM := Lib.hid hbm
  clear hbm MA MT MC b1 b2
  have bb := (HBX.out _ HBM.out)
  go_wp2_with fail
  refine C1.out.mono ?_
  intro e w2 hp
  obtain ⟨A2, n2, c2, rfl, _, hc2, hr2, hb2⟩ := hp.str
  have HB2 := Lib.hid (HBM.out.trans (hb2.mono HBM.out.size))
  have HR2 := Lib.hid (fun W (h : Below w2.heap.size w2 W) => ((hr2.below h).more h.size : Rd W W.heap.size A2 n2 (mgc ++ varint x)))
  have HN2 := Lib.hid (show n2 ≤ 13 by have h1 := hr2.1; have h2 := HVL.out; simp only [List.length_append] at h1; have h3 : mgc.length = 4 := rfl; omega)
  clear hp hc2 hr2 hb2 C1 b0 b3 bb
  go_upto_region 6 with fail
  have C2 := Lib.hid (fun W (h : Below w2.heap.size w2 W) => uint_ref A2 n2 c2 y _ W (HR2.out W h) (by have := HN2.out; omega) (by have := HX.out; omega))
  obtain ⟨_, d1, d2, _⟩ := HBX.out w2 HB2.out
  obtain ⟨_, dd1, dd2, _⟩ := HBX.out w2.drew (HB2.out.trans ((Fr.drew No w2).noBelow.mono HB2.out.size))
  go_region_held3 (fun W => W.cell? ⟨P, 1, none⟩ = some (.int .i64 (y : Int)) ∧ W.cell? ⟨P, 2, none⟩ = some (.int .i64 (z : Int)))
    (first | exact d6 | exact d5 | exact ⟨dd1, dd2⟩ | exact ⟨d1, d2⟩)
    (first
      | (go_at_call_of 26 (Value.slice A2 n2 c2); refine (C2.out _ (Fr.drew No w2).noBelow).mono ?_; intro e w5 hp; obtain ⟨A5, n5, c5, rfl, _, hc5, hr5, hb5⟩ := hp.str; have HB5 := Lib.hid (HB2.out.trans (((Fr.drew No w2).noBelow.trans (hb5.mono (Fr.drew No w2).size)).mono HB2.out.size)); have HR5 := Lib.hid hr5; have d5 : w5.cell? ⟨P, 1, none⟩ = some (.int .i64 (y : Int)) ∧ w5.cell? ⟨P, 2, none⟩ = some (.int .i64 (z : Int)) := ⟨(HBX.out w5 HB5.out).2.1, (HBX.out w5 HB5.out).2.2.1⟩; clear hp hc5 hr5 hb5)
      | (go_at_call_of 26 (Value.slice A5 n5 c5); refine (uint_ref A5 n5 c5 z _ w5 HR5.out (by have h1 := HR5.out.1; have h2 := HVL.out; simp only [List.length_append] at h1; have h3 : mgc.length = 4 := rfl; omega) (by have := HX.out; omega)).mono ?_; intro e w6 hp; obtain ⟨A6, n6, c6, rfl, _, hc6, hr6, hb6⟩ := hp.str; have HB6 := Lib.hid (HB5.out.trans (hb6.mono HB5.out.size)); have HR6 := Lib.hid hr6; have d6 : w6.cell? ⟨P, 1, none⟩ = some (.int .i64 (y : Int)) ∧ w6.cell? ⟨P, 2, none⟩ = some (.int .i64 (z : Int)) := ⟨(HBX.out w6 HB6.out).2.1, (HBX.out w6 HB6.out).2.2.1⟩; clear hp hc6 hr6 hb6))
  clear d1 d2 dd1 dd2 d5 d6 C2 HR2 HR5
  have HL6 : Hid (n6 ≤ 31) := Lib.hid (by have h1 := HR6.out.1; have h2 := HVL.out; simp only [List.length_append] at h1; have h3 : mgc.length = 4 := rfl; omega)
  obtain ⟨_, _, _, b3⟩ := HBX.out w6 HB6.out
  have C3 := Lib.hid (blob_ref A6 A n6 c6 n k _ l w6 HR6.out (HD.out w6 HB6.out) (by have := HL6.out; omega) (by have := HN.out; omega))
  go_wp2_with fail
  refine C3.out.mono ?_
  intro e w7 hp
  obtain ⟨A7, n7, c7, rfl, _, hc7, hr7, hb7⟩ := hp.str
  have HB7 := Lib.hid (HB6.out.trans (hb7.mono HB6.out.size))
  have hvn : (varint n).length ≤ 9 := varint_len9 (by have := HN.out; unfold top; omega)
  have C4 := Lib.hid (seal_ref A7 n7 c7 _ w7 hr7 (by have h1 := hr7.1; have h2 := HR6.out.1; have h3 := HL6.out; have h4 := HN.out; have h5 := HL.out; simp only [List.length_append] at h1 h2; omega))
  clear hp hc7 hr7 hb7 C3 b3 hvn
  go_wp2_with fail
  refine C4.out.mono ?_
  intro e w8 hp
  obtain ⟨A8, n8, c8, rfl, _, hc8, hr8, hb8⟩ := hp.str
  have HC8 := Lib.hid hc8
  have HB8 := Lib.hid (HB7.out.trans (hb8.mono HB7.out.size))
  have HR8 := Lib.hid hr8
  clear hp hc8 hr8 hb8 C4
  go_wp2_with fail
  rw [hbl.out]
  refine ⟨A8, n8, c8, rfl, HC8.out, ?_, HB1.out.trans (HB8.out.mono HB1.out.size)⟩
  have e : (Rn.bytes ⟨x, y, z, l⟩, (0 : Int)).1 = mgc ++ varint x ++ varint y ++ varint z ++ (varint n ++ l) ++ be4 (crc (mgc ++ varint x ++ varint y ++ varint z ++ (varint n ++ l))) := by
    show Rn.bytes ⟨x, y, z, l⟩ = _
    unfold Rn.bytes Rn.body
    dsimp only
    rw [HL.out]
  rw [e]
  exact HR8.out
end Go.Proofs.YtdkgcgamiochnaaGreatDoor
namespace Go.Proofs.YtdkgcgamiochnaaGreatDoor
open Go.RowKit Go.Deep

theorem run_anyC (l : List UInt8) (A : Option Addr) (n c : Nat) (w : World) (hr : Rd w w.heap.size A n l) (hn : n ≤ 20000) (hc : n ≤ c) :
    Calls Tryz.prog 30 #[.slice A n c] w fun e w' => ∃ A n c, e = .returned (.tuple #[.slice A n c, .int .i64 ((unS l).2 : Int)]) ∧ Rd w' w'.heap.size A n (unS l).1 ∧ Below w.heap.size w w' ∧ n ≤ c := by
  have hl := hr.len
  by_cases h4 : n < 4
  · refine (unseal_ref_short A n c w h4).mono ?_
    rintro e w' ⟨rfl, rfl⟩
    have : unS l = ([], 11) := by unfold unS; rw [if_pos (by omega)]
    rw [this]
    exact ⟨none, 0, 0, rfl, Rd.nil, Below.refl _ _, Nat.le_refl _⟩
  · by_cases he : crc (l.take (n - 4)) = numB (l.drop (n - 4))
    · refine ((unseal_ref l A n c w hr hc hn (by omega)).2 he).mono ?_
      rintro e w' ⟨v, rfl, hp⟩
      obtain ⟨A', n', c', hv, _, hnc, hrd, hb⟩ := hp
      injection hv with hv
      subst hv
      have : unS l = (l.take (n - 4), 0) := by unfold unS; rw [hl, if_neg h4, if_pos he]
      rw [this]
      exact ⟨A', n', c', rfl, hrd, hb, hnc⟩
    · refine ((unseal_ref l A n c w hr hc hn (by omega)).1 he).mono ?_
      rintro e w' ⟨rfl, hb⟩
      have : unS l = ([], 12) := by unfold unS; rw [hl, if_neg h4, if_neg he]
      rw [this]
      exact ⟨none, 0, 0, rfl, Rd.nil, hb, Nat.le_refl _⟩
theorem rdR_no0 {l : List UInt8} (h : l.take 4 ≠ mgc) : (rdR l).2 = false := by unfold rdR; rw [if_pos h]
theorem rdR_noG {l : List UInt8} {k : Nat} (hk : k < 3) (h : (gk l k).2.2 ≠ 0 ∨ top < (gk l k).1) : (rdR l).2 = false := by
  unfold rdR
  split
  · rfl
  · split
    · rfl
    · rename_i h0
      split
      · rfl
      · rename_i h1
        split
        · rfl
        · rename_i h2
          exfalso
          have : k = 0 ∨ k = 1 ∨ k = 2 := by omega
          rcases this with rfl | rfl | rfl
          · exact h0 h
          · exact h1 h
          · exact h2 h
theorem rdR_noB {l : List UInt8} (h : (getB l (atK l 3) 1048576).2.2 ≠ 0 ∨ (getB l (atK l 3) 1048576).2.1 ≠ l.length ∨ (gk l 0).1 = 0) : (rdR l).2 = false := by
  unfold rdR
  repeat' split
  all_goals first | rfl | exact absurd h (by assumption)
theorem take4_short {l : List UInt8} (h : l.length < 4) : l.take 4 ≠ mgc := fun e => by
  have h1 := congrArg List.length e
  rw [List.length_take] at h1
  have h2 : mgc.length = 4 := rfl
  omega
theorem take4_long {l : List UInt8} (h : 4 ≤ l.length) : ∃ x0 x1 x2 x3 r, l = x0 :: x1 :: x2 :: x3 :: r := by
  match l, h with
  | x0 :: x1 :: x2 :: x3 :: r, _ => exact ⟨x0, x1, x2, x3, r, rfl⟩
theorem rdR_yes {l : List UInt8} (hm : l.take 4 = mgc) (h0 : (gk l 0).2.2 = 0 ∧ (gk l 0).1 ≤ top) (h1 : (gk l 1).2.2 = 0 ∧ (gk l 1).1 ≤ top) (h2 : (gk l 2).2.2 = 0 ∧ (gk l 2).1 ≤ top) (hb : (getB l (atK l 3) 1048576).2.2 = 0 ∧ (getB l (atK l 3) 1048576).2.1 = l.length) (hz : 1 ≤ (gk l 0).1) :
    rdR l = (⟨(gk l 0).1, (gk l 1).1, (gk l 2).1, (getB l (atK l 3) 1048576).1⟩, true) := by
  unfold rdR
  rw [if_neg (fun h => h hm), if_neg (by omega), if_neg (by omega), if_neg (by omega), if_neg (by omega)]
theorem take4_iff {x0 x1 x2 x3 : UInt8} {r : List UInt8} : (x0 :: x1 :: x2 :: x3 :: r).take 4 = mgc ↔ x0 = 72 ∧ x1 = 83 ∧ x2 = 82 ∧ x3 = 49 := by
  simp [mgc]
theorem u8_bne (x : UInt8) (k : Nat) (hk : k < 256) : ((x.toNat : Int) != (k : Int)) = !(decide (x = UInt8.ofNat k)) := by
  by_cases h : x = UInt8.ofNat k
  · subst h
    simp [UInt8.toNat_ofNat']
    omega
  · rw [decide_eq_false h]
    simp only [Bool.not_false, bne_iff_ne]
    intro e
    apply h
    apply UInt8.toNat_inj.1
    rw [UInt8.toNat_ofNat']
    omega
set_option maxHeartbeats 8000000 in
set_option maxRecDepth 100000 in
theorem rParse_any (l : List UInt8) (A : Option Addr) (n c : Nat) (w : World) (hr : Rd w w.heap.size A n l) (hn : n ≤ 20000) (hc : n ≤ c) :
    Calls Tryz.prog 10 #[.slice A n c] w (Prsd w (prs l)) := by
  have hP0 := heap_alloc_new w (.cells #[.int .i64 0, .int .i64 0, .int .i64 0, .slice none 0 0] 24)
  have hB0 := (Below.refl w.heap.size w).alloc (Nat.le_refl _) (.cells #[.int .i64 0, .int .i64 0, .int .i64 0, .slice none 0 0] 24)
  have hS0 : (w.alloc (.cells #[.int .i64 0, .int .i64 0, .int .i64 0, .slice none 0 0] 24)).heap.size = w.heap.size + 1 := World.size_alloc _ _
  have HU := Lib.hid (run_anyC l A n c (w.alloc (.cells #[.int .i64 0, .int .i64 0, .int .i64 0, .slice none 0 0] 24)) ((hr.below hB0).more (by omega)) hn hc)
  obtain ⟨Q, HQ⟩ : ∃ Q : Ending → World → Prop, Hid (Prsd w (prs l) = Q) := ⟨_, rfl⟩
  rw [HQ.out]
  obtain ⟨P, HP⟩ : ∃ P, Hid (w.heap.size = P) := ⟨_, rfl⟩
  rw [HP.out] at hP0 hB0 hS0
  have HP0 := Lib.hid hP0
  have HB0 := Lib.hid hB0
  have HS0 := Lib.hid hS0
  have HLEN := Lib.hid (show l.length ≤ 20000 by rw [hr.1]; exact hn)
  clear hr hc hn hP0 hB0 hS0
  go_enter Tryz.func10, Tryz.ntmps10
  go_wp2_with fail
  refine HU.out.mono ?_
  rintro e w1 ⟨A1, n1, c1, rfl, hr1, hb1, hc1⟩
  rw [HP.out]
  rw [HS0.out] at hb1
  have hP1 := (hb1.block P (by omega)).trans HP0.out
  have HB1 := Lib.hid (HB0.out.trans (hb1.mono (by omega)))
  have HS1 := Lib.hid (show P < w1.heap.size by have := hb1.size; have := HS0.out; omega)
  obtain ⟨m, er, hu⟩ : ∃ m er, unS l = (m, er) := ⟨_, _, rfl⟩
  have hml : m.length ≤ 20000 := by
    have h1 := unS_len l
    rw [hu] at h1
    have h2 : m.length ≤ l.length := h1
    have := HLEN.out
    omega
  rw [hu] at hr1 ⊢
  dsimp only at hr1
  have HUL := Lib.hid hu
  have HPZ := Lib.hid (fun W (h : Below w1.heap.size w1 W) => (h.block P HS1.out).trans hP1)
  have HD := Lib.hid (fun W (h : Below w1.heap.size w1 W) => ((hr1.below h).more h.size : Rd W W.heap.size A1 n1 m))
  have HNM := Lib.hid (And.intro hr1.1 (And.intro hml hc1))
  have HZ : Hid (∀ (x : Nat) W, prs l = (Rn.zero, x) → Below w1.heap.size w1 W → ∀ W', Below P W W' → Q (.returned (.tuple #[.agg #[.int .i64 0, .int .i64 0, .int .i64 0, .slice none 0 0], .int .i64 (x : Int)])) W') := Lib.hid fun x W he hW W' hW' => by
    rw [← HQ.out, he]
    exact prsd_zero (x := x) (by rw [HP.out]; exact (HB1.out.trans (hW.mono (Nat.le_of_lt HS1.out))).trans hW')
  simp only
  clear hr1 hb1 hc1 hu hml hP1
  by_cases he : er = 0
  case neg =>
    have heb : ((er : Int) != 0) = true := by rw [bne_iff_ne]; omega
    have HE := Lib.hid (show prs l = (Rn.zero, er) from (by unfold prs; rw [HUL.out]; simp only; rw [if_pos he]))
    have hP1 := HPZ.out w1 (Below.refl _ _)
    have p0 : w1.cell? ⟨P, 0, none⟩ = some (.int .i64 0) := by unfold World.cell?; rw [hP1]; rfl
    have p1 : w1.cell? ⟨P, 1, none⟩ = some (.int .i64 0) := by unfold World.cell?; rw [hP1]; rfl
    have p2 : w1.cell? ⟨P, 2, none⟩ = some (.int .i64 0) := by unfold World.cell?; rw [hP1]; rfl
    have p3 : w1.cell? ⟨P, 3, none⟩ = some (.slice none 0 0) := by unfold World.cell?; rw [hP1]; rfl
    have z0 : w1.frozen? ⟨P, 0, none⟩ = false := by unfold World.frozen?; rw [hP1]; rfl
    have z1 : w1.frozen? ⟨P, 1, none⟩ = false := by unfold World.frozen?; rw [hP1]; rfl
    have z2 : w1.frozen? ⟨P, 2, none⟩ = false := by unfold World.frozen?; rw [hP1]; rfl
    have z3 : w1.frozen? ⟨P, 3, none⟩ = false := by unfold World.frozen?; rw [hP1]; rfl
    go_wp2_with fail
    refine bodyPost_ret (results_cell_tmp_row (p := 2) rfl _ _ P 24 #[.int .i64 0, .int .i64 0, .int .i64 0, .slice none 0 0] (0, 0) _ rfl (four_setR hP1 _ _ _ _).1 Tryz.underlying24 rfl (by kernel_rfl)) rfl ?_
    exact HZ.out er w1 HE.out (Below.refl _ _) _ (four_setR hP1 _ _ _ _).2
  subst he
  have HBAD : Hid ((rdR m).2 = false → prs l = (Rn.zero, 10)) := Lib.hid (fun hok => by unfold prs; rw [HUL.out]; simp only; rw [if_neg (by simp), hok]; rfl)
  have HB4 := Lib.hid (Below.refl w1.heap.size w1)
  go_upto_region 4 with fail
  go_cut [46] from 20 to 46 (fun v46 wx => v46 = .bool (decide (m.take 4 ≠ mgc)) ∧ wx = w1)
  case first =>
    have hnm := HNM.out.1
    have hrd := HD.out w1 HB4.out
    by_cases hsh : m.length < 4
    · have h4 : (n1 : Int) < 4 := by omega
      have K0 : Hid (decide (m.take 4 ≠ mgc) = true) := Lib.hid (decide_eq_true (take4_short hsh))
      clear hrd hsh hnm
      go_wp2_with fail
      go_meet
      exact ⟨by rw [K0.out], rfl⟩
    · obtain ⟨x0, x1, x2, x3, r, rfl⟩ := take4_long (l := m) (by omega)
      have h4 : ¬ (n1 : Int) < 4 := by omega
      have h4n : 4 ≤ n1 := by omega
      obtain ⟨b, o, rfl, _, hcell⟩ := hrd.2 (by omega)
      have y0 := hcell 0 (by simp)
      have y1 := hcell 1 (by simp)
      have y2 := hcell 2 (by simp)
      have y3 := hcell 3 (by simp)
      simp only [List.getElem_cons_zero, List.getElem_cons_succ, Nat.add_zero] at y0 y1 y2 y3
      have hi0 : (0 : Int) < (n1 : Int) := by omega
      have hi1 : (1 : Int) < (n1 : Int) := by omega
      have hi2 : (2 : Int) < (n1 : Int) := by omega
      have hi3 : (3 : Int) < (n1 : Int) := by omega
      have K0 : Hid (∀ q, decide ((x0 :: x1 :: x2 :: x3 :: r).take 4 ≠ mgc) = q ↔ (!(decide (x0 = 72 ∧ x1 = 83 ∧ x2 = 82 ∧ x3 = 49))) = q) := Lib.hid fun q => by
        have e : decide ((x0 :: x1 :: x2 :: x3 :: r).take 4 ≠ mgc) = !(decide (x0 = 72 ∧ x1 = 83 ∧ x2 = 82 ∧ x3 = 49)) := by
          rw [← decide_not]
          congr 1
          exact propext (not_congr take4_iff)
        rw [e]
      have t0 := u8_bne x0 72 (by omega)
      have t1 := u8_bne x1 83 (by omega)
      have t2 := u8_bne x2 82 (by omega)
      have t3 := u8_bne x3 49 (by omega)
      clear hcell hrd hnm hsh
      by_cases g0 : x0 = 72
      case neg =>
        have q0 : ((x0.toNat : Int) != 72) = true := by have e : (x0.toNat : Int) != ((72 : Nat) : Int) := (by rw [t0, decide_eq_false (show ¬ x0 = UInt8.ofNat 72 from g0)]; rfl); exact e
        have K1 : Hid (decide ((x0 :: x1 :: x2 :: x3 :: r).take 4 ≠ mgc) = true) := Lib.hid ((K0.out true).2 (by rw [decide_eq_false (fun h => g0 h.1)]; rfl))
        clear K0 t0 t1 t2 t3 g0
        go_wp2_with fail
        go_meet
        exact ⟨by rw [K1.out], rfl⟩
      have q0 : ((x0.toNat : Int) != 72) = false := by rw [g0]; rfl
      by_cases g1 : x1 = 83
      case neg =>
        have q1 : ((x1.toNat : Int) != 83) = true := by have e : (x1.toNat : Int) != ((83 : Nat) : Int) := (by rw [t1, decide_eq_false (show ¬ x1 = UInt8.ofNat 83 from g1)]; rfl); exact e
        have K1 : Hid (decide ((x0 :: x1 :: x2 :: x3 :: r).take 4 ≠ mgc) = true) := Lib.hid ((K0.out true).2 (by rw [decide_eq_false (fun h => g1 h.2.1)]; rfl))
        clear K0 t0 t1 t2 t3 g1
        go_wp2_with fail
        go_meet
        exact ⟨by rw [K1.out], rfl⟩
      have q1 : ((x1.toNat : Int) != 83) = false := by rw [g1]; rfl
      by_cases g2 : x2 = 82
      case neg =>
        have q2 : ((x2.toNat : Int) != 82) = true := by have e : (x2.toNat : Int) != ((82 : Nat) : Int) := (by rw [t2, decide_eq_false (show ¬ x2 = UInt8.ofNat 82 from g2)]; rfl); exact e
        have K1 : Hid (decide ((x0 :: x1 :: x2 :: x3 :: r).take 4 ≠ mgc) = true) := Lib.hid ((K0.out true).2 (by rw [decide_eq_false (fun h => g2 h.2.2.1)]; rfl))
        clear K0 t0 t1 t2 t3 g2
        go_wp2_with fail
        go_meet
        exact ⟨by rw [K1.out], rfl⟩
      have q2 : ((x2.toNat : Int) != 82) = false := by rw [g2]; rfl
      by_cases g3 : x3 = 49
      case neg =>
        have q3 : ((x3.toNat : Int) != 49) = true := by have e : (x3.toNat : Int) != ((49 : Nat) : Int) := (by rw [t3, decide_eq_false (show ¬ x3 = UInt8.ofNat 49 from g3)]; rfl); exact e
        have K1 : Hid (decide ((x0 :: x1 :: x2 :: x3 :: r).take 4 ≠ mgc) = true) := Lib.hid ((K0.out true).2 (by rw [decide_eq_false (fun h => g3 h.2.2.2)]; rfl))
        clear K0 t0 t1 t2 t3 g3
        go_wp2_with fail
        go_meet
        exact ⟨by rw [K1.out], rfl⟩
      have q3 : ((x3.toNat : Int) != 49) = false := by rw [g3]; rfl
      have K1 : Hid (decide ((x0 :: x1 :: x2 :: x3 :: r).take 4 ≠ mgc) = false) := Lib.hid ((K0.out false).2 (by rw [decide_eq_true ⟨g0, g1, g2, g3⟩]; rfl))
      clear K0 t0 t1 t2 t3 g0 g1 g2 g3
      go_wp2_with fail
      go_meet
      exact ⟨by rw [K1.out], rfl⟩
  case rest =>
  obtain ⟨rfl, rfl⟩ := hcut
  by_cases hmg : m.take 4 = mgc
  case neg =>
    have em : decide (m.take 4 ≠ mgc) = true := decide_eq_true hmg
    rw [em]
    have HE := Lib.hid (show prs l = (Rn.zero, 10) from (HBAD.out (rdR_no0 hmg)))
    have hP1 := HPZ.out wc (Below.refl _ _)
    have p0 : wc.cell? ⟨P, 0, none⟩ = some (.int .i64 0) := by unfold World.cell?; rw [hP1]; rfl
    have p1 : wc.cell? ⟨P, 1, none⟩ = some (.int .i64 0) := by unfold World.cell?; rw [hP1]; rfl
    have p2 : wc.cell? ⟨P, 2, none⟩ = some (.int .i64 0) := by unfold World.cell?; rw [hP1]; rfl
    have p3 : wc.cell? ⟨P, 3, none⟩ = some (.slice none 0 0) := by unfold World.cell?; rw [hP1]; rfl
    have z0 : wc.frozen? ⟨P, 0, none⟩ = false := by unfold World.frozen?; rw [hP1]; rfl
    have z1 : wc.frozen? ⟨P, 1, none⟩ = false := by unfold World.frozen?; rw [hP1]; rfl
    have z2 : wc.frozen? ⟨P, 2, none⟩ = false := by unfold World.frozen?; rw [hP1]; rfl
    have z3 : wc.frozen? ⟨P, 3, none⟩ = false := by unfold World.frozen?; rw [hP1]; rfl
    go_wp2_with fail
    refine bodyPost_ret (results_cell_tmp_row (p := 2) rfl _ _ P 24 #[.int .i64 0, .int .i64 0, .int .i64 0, .slice none 0 0] (0, 0) _ rfl (four_setR hP1 _ _ _ _).1 Tryz.underlying24 rfl (by kernel_rfl)) rfl ?_
    exact HZ.out 10 wc HE.out (Below.refl _ _) _ (four_setR hP1 _ _ _ _).2
  have em : decide (m.take 4 ≠ mgc) = false := decide_eq_false (fun h => h hmg)
  rw [em]
  clear em
  have C0 := Lib.hid (rget_any m A1 n1 c1 4 wc (HD.out wc HB4.out) (by have := HNM.out; omega) HNM.out.2.2)
  rw [show getU m 4 = gk m 0 from rfl] at C0
  have hlt0 : (gk m 0).1 < 2 ^ 64 := by rw [gk_at]; exact getU_lt _ _
  obtain ⟨s0, q0, e0, hg0⟩ : ∃ s q e, gk m 0 = (s, q, e) := ⟨_, _, _, rfl⟩
  rw [hg0] at C0 hlt0
  unfold tup at C0
  dsimp only at C0 hlt0
  have HG0 := Lib.hid hg0
  clear hg0
  go_wp2_with fail
  refine C0.out.mono ?_
  rintro e v0 ⟨rfl, hb⟩
  have HV0 := Lib.hid ((HB4.out).trans (hb.mono (HB4.out).size))
  clear hb C0
  by_cases he0 : e0 = 0
  case neg =>
    have heb : ((e0 : Int) != 0) = true := by rw [bne_iff_ne]; omega
    have HE := Lib.hid (show prs l = (Rn.zero, 10) from (HBAD.out (rdR_noG (k := 0) (by omega) (.inl (by rw [HG0.out]; exact he0)))))
    have hP1 := HPZ.out v0 HV0.out
    have p0 : v0.cell? ⟨P, 0, none⟩ = some (.int .i64 0) := by unfold World.cell?; rw [hP1]; rfl
    have p1 : v0.cell? ⟨P, 1, none⟩ = some (.int .i64 0) := by unfold World.cell?; rw [hP1]; rfl
    have p2 : v0.cell? ⟨P, 2, none⟩ = some (.int .i64 0) := by unfold World.cell?; rw [hP1]; rfl
    have p3 : v0.cell? ⟨P, 3, none⟩ = some (.slice none 0 0) := by unfold World.cell?; rw [hP1]; rfl
    have z0 : v0.frozen? ⟨P, 0, none⟩ = false := by unfold World.frozen?; rw [hP1]; rfl
    have z1 : v0.frozen? ⟨P, 1, none⟩ = false := by unfold World.frozen?; rw [hP1]; rfl
    have z2 : v0.frozen? ⟨P, 2, none⟩ = false := by unfold World.frozen?; rw [hP1]; rfl
    have z3 : v0.frozen? ⟨P, 3, none⟩ = false := by unfold World.frozen?; rw [hP1]; rfl
    go_wp2_with fail
    refine bodyPost_ret (results_cell_tmp_row (p := 2) rfl _ _ P 24 #[.int .i64 0, .int .i64 0, .int .i64 0, .slice none 0 0] (0, 0) _ rfl (four_setR hP1 _ _ _ _).1 Tryz.underlying24 rfl (by kernel_rfl)) rfl ?_
    exact HZ.out 10 v0 HE.out HV0.out _ (four_setR hP1 _ _ _ _).2
  subst he0
  by_cases h1 : s0 < 1
  case pos =>
    have h1a : (s0 : Int) < 1 := by omega
    have h1b : decide ((s0 : Int) < 1) = true := decide_eq_true h1a
    have HE := Lib.hid (show prs l = (Rn.zero, 10) from (HBAD.out (rdR_noB (.inr (.inr (by rw [HG0.out]; show s0 = 0; omega))))))
    have hP1 := HPZ.out v0 HV0.out
    have p0 : v0.cell? ⟨P, 0, none⟩ = some (.int .i64 0) := by unfold World.cell?; rw [hP1]; rfl
    have p1 : v0.cell? ⟨P, 1, none⟩ = some (.int .i64 0) := by unfold World.cell?; rw [hP1]; rfl
    have p2 : v0.cell? ⟨P, 2, none⟩ = some (.int .i64 0) := by unfold World.cell?; rw [hP1]; rfl
    have p3 : v0.cell? ⟨P, 3, none⟩ = some (.slice none 0 0) := by unfold World.cell?; rw [hP1]; rfl
    have z0 : v0.frozen? ⟨P, 0, none⟩ = false := by unfold World.frozen?; rw [hP1]; rfl
    have z1 : v0.frozen? ⟨P, 1, none⟩ = false := by unfold World.frozen?; rw [hP1]; rfl
    have z2 : v0.frozen? ⟨P, 2, none⟩ = false := by unfold World.frozen?; rw [hP1]; rfl
    have z3 : v0.frozen? ⟨P, 3, none⟩ = false := by unfold World.frozen?; rw [hP1]; rfl
    go_wp2_with fail
    refine bodyPost_ret (results_cell_tmp_row (p := 2) rfl _ _ P 24 #[.int .i64 0, .int .i64 0, .int .i64 0, .slice none 0 0] (0, 0) _ rfl (four_setR hP1 _ _ _ _).1 Tryz.underlying24 rfl (by kernel_rfl)) rfl ?_
    exact HZ.out 10 v0 HE.out HV0.out _ (four_setR hP1 _ _ _ _).2
  have h1a : ¬ (s0 : Int) < 1 := by omega
  by_cases h20 : 9007199254740992 < s0
  case pos =>
    have h2a : (9007199254740992 : Int) < (s0 : Int) := by omega
    have HE := Lib.hid (show prs l = (Rn.zero, 10) from (HBAD.out (rdR_noG (k := 0) (by omega) (.inr (by rw [HG0.out]; exact h20)))))
    have hP1 := HPZ.out v0 HV0.out
    have p0 : v0.cell? ⟨P, 0, none⟩ = some (.int .i64 0) := by unfold World.cell?; rw [hP1]; rfl
    have p1 : v0.cell? ⟨P, 1, none⟩ = some (.int .i64 0) := by unfold World.cell?; rw [hP1]; rfl
    have p2 : v0.cell? ⟨P, 2, none⟩ = some (.int .i64 0) := by unfold World.cell?; rw [hP1]; rfl
    have p3 : v0.cell? ⟨P, 3, none⟩ = some (.slice none 0 0) := by unfold World.cell?; rw [hP1]; rfl
    have z0 : v0.frozen? ⟨P, 0, none⟩ = false := by unfold World.frozen?; rw [hP1]; rfl
    have z1 : v0.frozen? ⟨P, 1, none⟩ = false := by unfold World.frozen?; rw [hP1]; rfl
    have z2 : v0.frozen? ⟨P, 2, none⟩ = false := by unfold World.frozen?; rw [hP1]; rfl
    have z3 : v0.frozen? ⟨P, 3, none⟩ = false := by unfold World.frozen?; rw [hP1]; rfl
    go_wp2_with fail
    refine bodyPost_ret (results_cell_tmp_row (p := 2) rfl _ _ P 24 #[.int .i64 0, .int .i64 0, .int .i64 0, .slice none 0 0] (0, 0) _ rfl (four_setR hP1 _ _ _ _).1 Tryz.underlying24 rfl (by kernel_rfl)) rfl ?_
    exact HZ.out 10 v0 HE.out HV0.out _ (four_setR hP1 _ _ _ _).2
  have h2a0 : ¬ (9007199254740992 : Int) < (s0 : Int) := by omega
  have C1 := Lib.hid (rget_any m A1 n1 c1 (((gk m 0).2.1 : Nat) : Int) v0 (HD.out v0 HV0.out) (by have := HNM.out; omega) HNM.out.2.2)
  rw [show getU m (((gk m 0).2.1 : Nat) : Int) = gk m 1 from rfl] at C1
  have hlt1 : (gk m 1).1 < 2 ^ 64 := by rw [gk_at]; exact getU_lt _ _
  obtain ⟨s1, q1, e1, hg1⟩ : ∃ s q e, gk m 1 = (s, q, e) := ⟨_, _, _, rfl⟩
  rw [hg1] at C1 hlt1
  unfold tup at C1
  dsimp only at C1 hlt1
  have HG1 := Lib.hid hg1
  rw [HG0.out] at C1
  dsimp only at C1
  clear hg1
  go_wp2_with fail
  refine C1.out.mono ?_
  rintro e v1 ⟨rfl, hb⟩
  have HV1 := Lib.hid ((HV0.out).trans (hb.mono (HV0.out).size))
  clear hb C1
  by_cases he1 : e1 = 0
  case neg =>
    have heb : ((e1 : Int) != 0) = true := by rw [bne_iff_ne]; omega
    have HE := Lib.hid (show prs l = (Rn.zero, 10) from (HBAD.out (rdR_noG (k := 1) (by omega) (.inl (by rw [HG1.out]; exact he1)))))
    have hP1 := HPZ.out v1 HV1.out
    have p0 : v1.cell? ⟨P, 0, none⟩ = some (.int .i64 0) := by unfold World.cell?; rw [hP1]; rfl
    have p1 : v1.cell? ⟨P, 1, none⟩ = some (.int .i64 0) := by unfold World.cell?; rw [hP1]; rfl
    have p2 : v1.cell? ⟨P, 2, none⟩ = some (.int .i64 0) := by unfold World.cell?; rw [hP1]; rfl
    have p3 : v1.cell? ⟨P, 3, none⟩ = some (.slice none 0 0) := by unfold World.cell?; rw [hP1]; rfl
    have z0 : v1.frozen? ⟨P, 0, none⟩ = false := by unfold World.frozen?; rw [hP1]; rfl
    have z1 : v1.frozen? ⟨P, 1, none⟩ = false := by unfold World.frozen?; rw [hP1]; rfl
    have z2 : v1.frozen? ⟨P, 2, none⟩ = false := by unfold World.frozen?; rw [hP1]; rfl
    have z3 : v1.frozen? ⟨P, 3, none⟩ = false := by unfold World.frozen?; rw [hP1]; rfl
    go_wp2_with fail
    refine bodyPost_ret (results_cell_tmp_row (p := 2) rfl _ _ P 24 #[.int .i64 0, .int .i64 0, .int .i64 0, .slice none 0 0] (0, 0) _ rfl (four_setR hP1 _ _ _ _).1 Tryz.underlying24 rfl (by kernel_rfl)) rfl ?_
    exact HZ.out 10 v1 HE.out HV1.out _ (four_setR hP1 _ _ _ _).2
  subst he1
  by_cases h21 : 9007199254740992 < s1
  case pos =>
    have h2a : (9007199254740992 : Int) < (s1 : Int) := by omega
    have HE := Lib.hid (show prs l = (Rn.zero, 10) from (HBAD.out (rdR_noG (k := 1) (by omega) (.inr (by rw [HG1.out]; exact h21)))))
    have hP1 := HPZ.out v1 HV1.out
    have p0 : v1.cell? ⟨P, 0, none⟩ = some (.int .i64 0) := by unfold World.cell?; rw [hP1]; rfl
    have p1 : v1.cell? ⟨P, 1, none⟩ = some (.int .i64 0) := by unfold World.cell?; rw [hP1]; rfl
    have p2 : v1.cell? ⟨P, 2, none⟩ = some (.int .i64 0) := by unfold World.cell?; rw [hP1]; rfl
    have p3 : v1.cell? ⟨P, 3, none⟩ = some (.slice none 0 0) := by unfold World.cell?; rw [hP1]; rfl
    have z0 : v1.frozen? ⟨P, 0, none⟩ = false := by unfold World.frozen?; rw [hP1]; rfl
    have z1 : v1.frozen? ⟨P, 1, none⟩ = false := by unfold World.frozen?; rw [hP1]; rfl
    have z2 : v1.frozen? ⟨P, 2, none⟩ = false := by unfold World.frozen?; rw [hP1]; rfl
    have z3 : v1.frozen? ⟨P, 3, none⟩ = false := by unfold World.frozen?; rw [hP1]; rfl
    go_wp2_with fail
    refine bodyPost_ret (results_cell_tmp_row (p := 2) rfl _ _ P 24 #[.int .i64 0, .int .i64 0, .int .i64 0, .slice none 0 0] (0, 0) _ rfl (four_setR hP1 _ _ _ _).1 Tryz.underlying24 rfl (by kernel_rfl)) rfl ?_
    exact HZ.out 10 v1 HE.out HV1.out _ (four_setR hP1 _ _ _ _).2
  have h2a1 : ¬ (9007199254740992 : Int) < (s1 : Int) := by omega
  have C2 := Lib.hid (rget_any m A1 n1 c1 (((gk m 1).2.1 : Nat) : Int) v1 (HD.out v1 HV1.out) (by have := HNM.out; omega) HNM.out.2.2)
  rw [show getU m (((gk m 1).2.1 : Nat) : Int) = gk m 2 from rfl] at C2
  have hlt2 : (gk m 2).1 < 2 ^ 64 := by rw [gk_at]; exact getU_lt _ _
  obtain ⟨s2, q2, e2, hg2⟩ : ∃ s q e, gk m 2 = (s, q, e) := ⟨_, _, _, rfl⟩
  rw [hg2] at C2 hlt2
  unfold tup at C2
  dsimp only at C2 hlt2
  have HG2 := Lib.hid hg2
  rw [HG1.out] at C2
  dsimp only at C2
  clear hg2
  go_wp2_with fail
  refine C2.out.mono ?_
  rintro e v2 ⟨rfl, hb⟩
  have HV2 := Lib.hid ((HV1.out).trans (hb.mono (HV1.out).size))
  clear hb C2
  by_cases he2 : e2 = 0
  case neg =>
    have heb : ((e2 : Int) != 0) = true := by rw [bne_iff_ne]; omega
    have HE := Lib.hid (show prs l = (Rn.zero, 10) from (HBAD.out (rdR_noG (k := 2) (by omega) (.inl (by rw [HG2.out]; exact he2)))))
    have hP1 := HPZ.out v2 HV2.out
    have p0 : v2.cell? ⟨P, 0, none⟩ = some (.int .i64 0) := by unfold World.cell?; rw [hP1]; rfl
    have p1 : v2.cell? ⟨P, 1, none⟩ = some (.int .i64 0) := by unfold World.cell?; rw [hP1]; rfl
    have p2 : v2.cell? ⟨P, 2, none⟩ = some (.int .i64 0) := by unfold World.cell?; rw [hP1]; rfl
    have p3 : v2.cell? ⟨P, 3, none⟩ = some (.slice none 0 0) := by unfold World.cell?; rw [hP1]; rfl
    have z0 : v2.frozen? ⟨P, 0, none⟩ = false := by unfold World.frozen?; rw [hP1]; rfl
    have z1 : v2.frozen? ⟨P, 1, none⟩ = false := by unfold World.frozen?; rw [hP1]; rfl
    have z2 : v2.frozen? ⟨P, 2, none⟩ = false := by unfold World.frozen?; rw [hP1]; rfl
    have z3 : v2.frozen? ⟨P, 3, none⟩ = false := by unfold World.frozen?; rw [hP1]; rfl
    go_wp2_with fail
    refine bodyPost_ret (results_cell_tmp_row (p := 2) rfl _ _ P 24 #[.int .i64 0, .int .i64 0, .int .i64 0, .slice none 0 0] (0, 0) _ rfl (four_setR hP1 _ _ _ _).1 Tryz.underlying24 rfl (by kernel_rfl)) rfl ?_
    exact HZ.out 10 v2 HE.out HV2.out _ (four_setR hP1 _ _ _ _).2
  subst he2
  by_cases h22 : 9007199254740992 < s2
  case pos =>
    have h2a : (9007199254740992 : Int) < (s2 : Int) := by omega
    have HE := Lib.hid (show prs l = (Rn.zero, 10) from (HBAD.out (rdR_noG (k := 2) (by omega) (.inr (by rw [HG2.out]; exact h22)))))
    have hP1 := HPZ.out v2 HV2.out
    have p0 : v2.cell? ⟨P, 0, none⟩ = some (.int .i64 0) := by unfold World.cell?; rw [hP1]; rfl
    have p1 : v2.cell? ⟨P, 1, none⟩ = some (.int .i64 0) := by unfold World.cell?; rw [hP1]; rfl
    have p2 : v2.cell? ⟨P, 2, none⟩ = some (.int .i64 0) := by unfold World.cell?; rw [hP1]; rfl
    have p3 : v2.cell? ⟨P, 3, none⟩ = some (.slice none 0 0) := by unfold World.cell?; rw [hP1]; rfl
    have z0 : v2.frozen? ⟨P, 0, none⟩ = false := by unfold World.frozen?; rw [hP1]; rfl
    have z1 : v2.frozen? ⟨P, 1, none⟩ = false := by unfold World.frozen?; rw [hP1]; rfl
    have z2 : v2.frozen? ⟨P, 2, none⟩ = false := by unfold World.frozen?; rw [hP1]; rfl
    have z3 : v2.frozen? ⟨P, 3, none⟩ = false := by unfold World.frozen?; rw [hP1]; rfl
    go_wp2_with fail
    refine bodyPost_ret (results_cell_tmp_row (p := 2) rfl _ _ P 24 #[.int .i64 0, .int .i64 0, .int .i64 0, .slice none 0 0] (0, 0) _ rfl (four_setR hP1 _ _ _ _).1 Tryz.underlying24 rfl (by kernel_rfl)) rfl ?_
    exact HZ.out 10 v2 HE.out HV2.out _ (four_setR hP1 _ _ _ _).2
  have h2a2 : ¬ (9007199254740992 : Int) < (s2 : Int) := by omega
  have hbq : getB m (atK m 3) 1048576 = getB m ((q2 : Nat) : Int) 1048576 := by
    show getB m (((gk m 2).2.1 : Nat) : Int) 1048576 = _
    rw [HG2.out]
  have HBQ := Lib.hid hbq
  clear hbq
  by_cases hbe : (getB m ((q2 : Nat) : Int) 1048576).2.2 = 0
  case neg =>
    have C3 := Lib.hid (rblob_err m A1 n1 c1 ((q2 : Nat) : Int) 1048576 v2 (HD.out v2 HV2.out) (by have := HNM.out; omega) HNM.out.2.2 (by omega) hbe)
    obtain ⟨e3, he3⟩ : ∃ e3, (getB m ((q2 : Nat) : Int) 1048576).2.2 = e3 := ⟨_, rfl⟩
    have HBE := Lib.hid hbe
    rw [he3] at C3 hbe
    clear he3
    go_wp2_with fail
    refine C3.out.mono ?_
    rintro e v3 ⟨rfl, hb⟩
    have HV3 := Lib.hid (HV2.out.trans (hb.mono HV2.out.size))
    have heb : ((e3 : Int) != 0) = true := by rw [bne_iff_ne]; omega
    clear hb C3 hbe
    have HE := Lib.hid (show prs l = (Rn.zero, 10) from (HBAD.out (rdR_noB (.inl (by rw [HBQ.out]; exact HBE.out)))))
    have hP1 := HPZ.out v3 HV3.out
    have p0 : v3.cell? ⟨P, 0, none⟩ = some (.int .i64 0) := by unfold World.cell?; rw [hP1]; rfl
    have p1 : v3.cell? ⟨P, 1, none⟩ = some (.int .i64 0) := by unfold World.cell?; rw [hP1]; rfl
    have p2 : v3.cell? ⟨P, 2, none⟩ = some (.int .i64 0) := by unfold World.cell?; rw [hP1]; rfl
    have p3 : v3.cell? ⟨P, 3, none⟩ = some (.slice none 0 0) := by unfold World.cell?; rw [hP1]; rfl
    have z0 : v3.frozen? ⟨P, 0, none⟩ = false := by unfold World.frozen?; rw [hP1]; rfl
    have z1 : v3.frozen? ⟨P, 1, none⟩ = false := by unfold World.frozen?; rw [hP1]; rfl
    have z2 : v3.frozen? ⟨P, 2, none⟩ = false := by unfold World.frozen?; rw [hP1]; rfl
    have z3 : v3.frozen? ⟨P, 3, none⟩ = false := by unfold World.frozen?; rw [hP1]; rfl
    go_wp2_with fail
    refine bodyPost_ret (results_cell_tmp_row (p := 2) rfl _ _ P 24 #[.int .i64 0, .int .i64 0, .int .i64 0, .slice none 0 0] (0, 0) _ rfl (four_setR hP1 _ _ _ _).1 Tryz.underlying24 rfl (by kernel_rfl)) rfl ?_
    exact HZ.out 10 v3 HE.out HV3.out _ (four_setR hP1 _ _ _ _).2
  have C3 := Lib.hid (rblob_ok m A1 n1 c1 ((q2 : Nat) : Int) 1048576 v2 (HD.out v2 HV2.out) (by have := HNM.out; omega) HNM.out.2.2 (by omega) hbe)
  obtain ⟨bl, qb, eb, hgb⟩ : ∃ bl qb eb, getB m ((q2 : Nat) : Int) 1048576 = (bl, qb, eb) := ⟨_, _, _, rfl⟩
  rw [hgb] at C3 hbe
  dsimp only at C3 hbe
  subst hbe
  have HGB := Lib.hid hgb
  clear hgb
  go_wp2_with fail
  refine C3.out.mono ?_
  rintro e v3 ⟨vv, rfl, hp⟩
  obtain ⟨vv2, hvv, hown, hb⟩ := hp
  injection hvv with hvv
  subst hvv
  have HV3 := Lib.hid (HV2.out.trans (hb.mono HV2.out.size))
  have HOWN := Lib.hid hown
  clear hown hb C3
  have hlm : m.length = n1 := HNM.out.1.symm ▸ rfl
  by_cases hqn : qb = n1
  case neg =>
    have hqe : ((qb : Int) != (n1 : Int)) = true := by rw [bne_iff_ne]; omega
    have HE := Lib.hid (show prs l = (Rn.zero, 10) from (HBAD.out (rdR_noB (.inr (.inl (by rw [HBQ.out, HGB.out]; show qb ≠ m.length; rw [hlm]; exact hqn))))))
    have hP1 := HPZ.out v3 HV3.out
    have p0 : v3.cell? ⟨P, 0, none⟩ = some (.int .i64 0) := by unfold World.cell?; rw [hP1]; rfl
    have p1 : v3.cell? ⟨P, 1, none⟩ = some (.int .i64 0) := by unfold World.cell?; rw [hP1]; rfl
    have p2 : v3.cell? ⟨P, 2, none⟩ = some (.int .i64 0) := by unfold World.cell?; rw [hP1]; rfl
    have p3 : v3.cell? ⟨P, 3, none⟩ = some (.slice none 0 0) := by unfold World.cell?; rw [hP1]; rfl
    have z0 : v3.frozen? ⟨P, 0, none⟩ = false := by unfold World.frozen?; rw [hP1]; rfl
    have z1 : v3.frozen? ⟨P, 1, none⟩ = false := by unfold World.frozen?; rw [hP1]; rfl
    have z2 : v3.frozen? ⟨P, 2, none⟩ = false := by unfold World.frozen?; rw [hP1]; rfl
    have z3 : v3.frozen? ⟨P, 3, none⟩ = false := by unfold World.frozen?; rw [hP1]; rfl
    go_wp2_with fail
    refine bodyPost_ret (results_cell_tmp_row (p := 2) rfl _ _ P 24 #[.int .i64 0, .int .i64 0, .int .i64 0, .slice none 0 0] (0, 0) _ rfl (four_setR hP1 _ _ _ _).1 Tryz.underlying24 rfl (by kernel_rfl)) rfl ?_
    exact HZ.out 10 v3 HE.out HV3.out _ (four_setR hP1 _ _ _ _).2
  subst hqn
  have hqe : ((qb : Int) != (qb : Int)) = false := by simp
  have hw0 : IntKind.i64.wrap (s0 : Int) = (s0 : Int) := IntWalk.i64_in _ (by omega)
  have hw1 : IntKind.i64.wrap (s1 : Int) = (s1 : Int) := IntWalk.i64_in _ (by omega)
  have hw2 : IntKind.i64.wrap (s2 : Int) = (s2 : Int) := IntWalk.i64_in _ (by omega)
  have HE := Lib.hid (show prs l = (⟨s0, s1, s2, bl⟩, 0) by
    have hy := rdR_yes hmg (by rw [HG0.out]; exact ⟨rfl, by show s0 ≤ top; unfold top; omega⟩) (by rw [HG1.out]; exact ⟨rfl, by show s1 ≤ top; unfold top; omega⟩) (by rw [HG2.out]; exact ⟨rfl, by show s2 ≤ top; unfold top; omega⟩) (by rw [HBQ.out, HGB.out]; exact ⟨rfl, hlm.symm⟩) (by rw [HG0.out]; show 1 ≤ s0; omega)
    rw [HG0.out, HG1.out, HG2.out, HBQ.out, HGB.out] at hy
    unfold prs
    rw [HUL.out]
    simp only
    rw [if_neg (by simp), hy]
    rfl)
  obtain ⟨A3, c3, rfl, _, _⟩ := own_shape HOWN.out
  have hP1 := HPZ.out v3 HV3.out
  have p0 : v3.cell? ⟨P, 0, none⟩ = some (.int .i64 0) := by unfold World.cell?; rw [hP1]; rfl
  have p1 : v3.cell? ⟨P, 1, none⟩ = some (.int .i64 0) := by unfold World.cell?; rw [hP1]; rfl
  have p2 : v3.cell? ⟨P, 2, none⟩ = some (.int .i64 0) := by unfold World.cell?; rw [hP1]; rfl
  have p3 : v3.cell? ⟨P, 3, none⟩ = some (.slice none 0 0) := by unfold World.cell?; rw [hP1]; rfl
  have z0 : v3.frozen? ⟨P, 0, none⟩ = false := by unfold World.frozen?; rw [hP1]; rfl
  have z1 : v3.frozen? ⟨P, 1, none⟩ = false := by unfold World.frozen?; rw [hP1]; rfl
  have z2 : v3.frozen? ⟨P, 2, none⟩ = false := by unfold World.frozen?; rw [hP1]; rfl
  have z3 : v3.frozen? ⟨P, 3, none⟩ = false := by unfold World.frozen?; rw [hP1]; rfl
  have HP3 := Lib.hid hP1
  have H4 := Lib.hid (four_setR hP1 (.int .i64 (s0 : Int)) (.int .i64 (s1 : Int)) (.int .i64 (s2 : Int)) (.slice A3 bl.length c3))
  clear hP1 hlm hlt0 hlt1 hlt2
  go_wp2_with fail
  refine bodyPost_ret (results_cell_tmp_row (p := 2) rfl _ _ P 24 #[.int .i64 (s0 : Int), .int .i64 (s1 : Int), .int .i64 (s2 : Int), .slice A3 bl.length c3] (0, 0) _ rfl H4.out.1 Tryz.underlying24 rfl (by kernel_rfl)) rfl ?_
  rw [← HQ.out, HE.out]
  refine ⟨A3, bl.length, c3, rfl, ?_, ?_⟩
  · refine rd_offR (four_setF v3 P (.int .i64 (s0 : Int)) (.int .i64 (s1 : Int)) (.int .i64 (s2 : Int)) (.slice A3 bl.length c3)) (Rd.own HOWN.out) (fun h0 a ha e => ?_)
    exact rd_noroot (Rd.own HOWN.out) HP3.out h0 a ha e
  · rw [HP.out]
    exact (HB1.out.trans (HV3.out.mono (Nat.le_of_lt HS1.out))).trans H4.out.2
end Go.Proofs.YtdkgcgamiochnaaGreatDoor
namespace Go.Proofs.YtdkgcgamiochnaaGreatDoor
open Go.RowKit Go.Deep

set_option maxHeartbeats 8000000 in
set_option maxRecDepth 100000 in
theorem rtells_walk {w : World} (ht : Tab w) (a t c : Int) (A B : Option Addr) (n k p q : Nat) (l1 l2 : List UInt8) (h1 : Rd w w.heap.size A n l1) (h2 : Rd w w.heap.size B p l2) (hpq : p ≤ q) (sb : Bool) :
    Calls Tryz.prog 3 #[.agg #[.int .i64 a, .int .i64 t, .int .i64 c, .slice A n k], .slice B p q, .bool sb] w fun e w' => e = .returned (.bool true) ∧ Below w.heap.size w w' := by
  have hf1 := Fr.alloc No w (.cells #[.int .i64 a, .int .i64 t, .int .i64 c, .slice A n k] 24)
  have hb1 := heap_alloc_new w (.cells #[.int .i64 a, .int .i64 t, .int .i64 c, .slice A n k] 24)
  have h1' := rd_offR hf1 h1 (fun _ _ _ e => e)
  have h2' := rd_offR hf1 h2 (fun _ _ _ e => e)
  have HL := Lib.hid (And.intro h1.1 h2.1)
  have HPQ := Lib.hid hpq
  have HB1 := Lib.hid (show Below w.heap.size w (w.alloc (.cells #[.int .i64 a, .int .i64 t, .int .i64 c, .slice A n k] 24)) from hf1.noBelow)
  clear h1 h2 hf1 hpq
  go_enter Tryz.func3, Tryz.ntmps3
  go_upto_region 1 with fail
  obtain ⟨P, hP⟩ : ∃ P, w.heap.size = P := ⟨_, rfl⟩
  obtain ⟨w1, hw1⟩ : ∃ u, w.alloc (.cells #[.int .i64 a, .int .i64 t, .int .i64 c, .slice A n k] 24) = u := ⟨_, rfl⟩
  rw [hw1] at h1' h2' hb1 HB1 ⊢
  rw [hP] at hb1 ⊢
  have HT := Lib.hid (fun W (h : Below w1.heap.size w1 W) => (ht.keep HB1.out ht.pos).keep h (by have := ht.pos; have := HB1.out.size; omega))
  have HBX : Hid (∀ W, Below w1.heap.size w1 W → W.cell? ⟨P, 0, none⟩ = some (.int .i64 a) ∧ W.cell? ⟨P, 1, none⟩ = some (.int .i64 t) ∧ W.cell? ⟨P, 2, none⟩ = some (.int .i64 c) ∧ W.cell? ⟨P, 3, none⟩ = some (.slice A n k)) := Lib.hid fun W hW => by
    have hb := (hW.block P (Array.getElem?_eq_some_iff.1 hb1).1).trans hb1
    unfold World.cell?
    rw [hb]
    exact ⟨rfl, rfl, rfl, rfl⟩
  have HD1 := Lib.hid (fun W (h : Below w1.heap.size w1 W) => ((h1'.below h).more h.size : Rd W W.heap.size A n l1))
  have HD2 := Lib.hid h2'
  have HA := Lib.hid (fun W (h : Below w1.heap.size w1 W) => awake_any W (HT.out W h))
  obtain ⟨b0, b1, b2, b3⟩ := HBX.out w1 (Below.refl _ _)
  clear hw1 h1' h2' hb1 ht hP
  by_cases hn : 1000 < n
  · have e1 : (1000 : Int) < (n : Int) := by omega
    go_wp2_with fail
    refine (HA.out _ (Below.refl _ _)).mono ?_
    rintro e w2 ⟨rfl, hb⟩
    have HZ := Lib.hid (HB1.out.trans (hb.mono HB1.out.size))
    clear hb
    go_wp2_with fail
    go_ret
    exact ⟨rfl, HZ.out⟩
  have e1 : ¬ (1000 : Int) < (n : Int) := by omega
  by_cases hp : 1000 < p
  · have e2 : (1000 : Int) < (p : Int) := by omega
    go_wp2_with fail
    refine (HA.out _ (Below.refl _ _)).mono ?_
    rintro e w2 ⟨rfl, hb⟩
    have HZ := Lib.hid (HB1.out.trans (hb.mono HB1.out.size))
    clear hb
    go_wp2_with fail
    go_ret
    exact ⟨rfl, HZ.out⟩
  have e2 : ¬ (1000 : Int) < (p : Int) := by omega
  have HN := Lib.hid (And.intro hn hp)
  clear hn hp
  go_upto_if 26 with fail
  clear b0 b1 b2 b3 e1 e2
  go_cut [1] from 26 to 28 (fun v1 wx => ∃ (B' : Option Addr) (p' q' : Nat) (m' : List UInt8), v1 = .slice B' p' q' ∧ p' ≤ q' ∧ p' ≤ 1004 ∧ Rd wx wx.heap.size B' p' m' ∧ Below w1.heap.size w1 wx)
  case first =>
    cases sb with
    | false =>
      go_wp2_with fail
      go_meet
      exact ⟨B, p, q, l2, rfl, HPQ.out, by have := HN.out; omega, HD2.out, Below.refl _ _⟩
    | true =>
      have C0 := Lib.hid (seal_ref B p q l2 w1 HD2.out (by have := HN.out; omega))
      go_wp2_with fail
      refine C0.out.mono ?_
      intro e w2 hp
      obtain ⟨A2, n2, c2, rfl, _, hc2, hr2, hb2⟩ := hp.str
      have HC2 := Lib.hid hc2
      have HR2 := Lib.hid hr2
      have HB2 := Lib.hid hb2
      clear hp hc2 hr2 hb2 C0
      go_wp2_with fail
      go_meet
      exact ⟨A2, n2, c2, _, rfl, HC2.out, by have h1 := HR2.out.1; have h2 := HL.out.2; have h3 := HN.out; have h4 : (be4 (crc l2)).length = 4 := rfl; simp only [List.length_append] at h1; omega, HR2.out, HB2.out⟩
  case rest =>
  obtain ⟨B', p', q', m', rfl, hpq', hp', hr', hb'⟩ := hcut
  have HBC := Lib.hid hb'
  have HRB := Lib.hid (fun W (h : Below wc.heap.size wc W) => ((hr'.below h).more h.size : Rd W W.heap.size B' p' m'))
  have HP' := Lib.hid (And.intro hpq' hp')
  have C1 := Lib.hid (copybytes_any B' p' q' m' wc hr' (by omega))
  clear hpq' hp' hr' hb' HD2
  go_wp2_with fail
  refine C1.out.mono ?_
  intro e w2 hp
  obtain ⟨A2, n2, c2, rfl, _, hc2, hr2, hb2⟩ := hp.str
  have HG2 := Lib.hid hb2
  have HRI := Lib.hid (fun W (h : Below w2.heap.size w2 W) => ((hr2.below h).more h.size : Rd W W.heap.size A2 n2 m'))
  have HC2 := Lib.hid (And.intro hc2 (show n2 ≤ 1004 by have h1 := hr2.1; have h2 := (HRB.out wc (Below.refl _ _)).1; have h3 := HP'.out.2; omega))
  have HW2 := Lib.hid (HBC.out.trans (hb2.mono HBC.out.size))
  clear hp hc2 hr2 hb2 C1
  obtain ⟨b0, b1, b2, b3⟩ := HBX.out w2 HW2.out
  have C2 := Lib.hid (Bytes_any a t c A n k l1 w2 (HD1.out w2 HW2.out) (by have := HN.out; omega) (HT.out w2 HW2.out))
  obtain ⟨x, y, hxy⟩ : ∃ x y, byR a t c l1 = (x, y) := ⟨_, _, rfl⟩
  rw [hxy] at C2
  have HXY := Lib.hid hxy
  clear hxy
  go_wp2_with fail
  refine C2.out.mono ?_
  rintro e w3 ⟨A3, n3, c3, rfl, _, hr3, hb3⟩
  have HRX := Lib.hid (fun W (h : Below w3.heap.size w3 W) => ((hr3.below h).more h.size : Rd W W.heap.size A3 n3 x))
  have HH3 := Lib.hid hb3
  have HW3 := Lib.hid (HW2.out.trans (hb3.mono HW2.out.size))
  clear hr3 hb3 C2 b0 b1 b2 b3
  obtain ⟨b0, b1, b2, b3⟩ := HBX.out w3 HW3.out
  have C3 := Lib.hid (rBytes_any a t c A n k l1 w3 (HD1.out w3 HW3.out) (by have := HN.out; omega))
  rw [HXY.out] at C3
  simp only
  go_wp2_with fail
  refine C3.out.mono ?_
  rintro e w4 ⟨A4, n4, c4, rfl, _, hr4, hb4⟩
  have HRY := Lib.hid (fun W (h : Below w4.heap.size w4 W) => ((hr4.below h).more h.size : Rd W W.heap.size A4 n4 x))
  have HH4 := Lib.hid (HH3.out.trans (hb4.mono HH3.out.size))
  have HJ4 := Lib.hid hb4
  have HW4 := Lib.hid (HW3.out.trans (hb4.mono HW3.out.size))
  clear hr4 hb4 C3 b0 b1 b2 b3
  have C4 := Lib.hid (Parse_any m' A2 n2 c2 w4 (HRI.out w4 HH4.out) (by have := HC2.out; omega) HC2.out.1 (HT.out w4 HW4.out))
  obtain ⟨rr, er, hpr⟩ : ∃ rr er, prs m' = (rr, er) := ⟨_, _, rfl⟩
  rw [hpr] at C4
  have HPR := Lib.hid hpr
  clear hpr
  simp only
  go_wp2_with fail
  refine C4.out.mono ?_
  rintro e w5 ⟨A5, n5, c5, rfl, hr5, hb5⟩
  have HK5 := Lib.hid hb5
  have hfa := Fr.alloc No w5 (.cells #[.int .i64 (rr.s : Int), .int .i64 (rr.t : Int), .int .i64 (rr.c : Int), .slice A5 n5 c5] 24)
  have hga := heap_alloc_new w5 (.cells #[.int .i64 (rr.s : Int), .int .i64 (rr.t : Int), .int .i64 (rr.c : Int), .slice A5 n5 c5] 24)
  have hr5' := rd_offR hfa hr5 (fun _ _ _ e => e)
  clear C4 hr5 hb5
  simp only
  go_upto_region 9 with fail
  obtain ⟨G, hG⟩ : ∃ G, w5.heap.size = G := ⟨_, rfl⟩
  obtain ⟨w6, hw6⟩ : ∃ u, w5.alloc (.cells #[.int .i64 (rr.s : Int), .int .i64 (rr.t : Int), .int .i64 (rr.c : Int), .slice A5 n5 c5] 24) = u := ⟨_, rfl⟩
  rw [hw6] at hfa hga hr5' ⊢
  rw [hG] at hga ⊢
  have HK6 := Lib.hid (HK5.out.trans (hfa.noBelow.mono HK5.out.size))
  have HH6 := Lib.hid (HH4.out.trans (HK6.out.mono HH4.out.size))
  have HJ6 := Lib.hid (HJ4.out.trans (HK6.out.mono HJ4.out.size))
  have HW6 := Lib.hid (HW4.out.trans (HK6.out.mono HW4.out.size))
  have HG6 := Lib.hid (HG2.out.trans (HH6.out.mono HG2.out.size))
  have HRU := Lib.hid (fun W (h : Below w6.heap.size w6 W) => ((hr5'.below h).more h.size : Rd W W.heap.size A5 n5 rr.l))
  have HGU : Hid (∀ W, Below w6.heap.size w6 W → W.cell? ⟨G, 0, none⟩ = some (.int .i64 (rr.s : Int)) ∧ W.cell? ⟨G, 1, none⟩ = some (.int .i64 (rr.t : Int)) ∧ W.cell? ⟨G, 2, none⟩ = some (.int .i64 (rr.c : Int)) ∧ W.cell? ⟨G, 3, none⟩ = some (.slice A5 n5 c5)) := Lib.hid fun W hW => by
    have hb := (hW.block G (Array.getElem?_eq_some_iff.1 hga).1).trans hga
    unfold World.cell?
    rw [hb]
    exact ⟨rfl, rfl, rfl, rfl⟩
  have C5 := Lib.hid (rParse_any m' B' p' q' w6 (HRB.out w6 HG6.out) (by have := HP'.out; omega) HP'.out.1)
  rw [HPR.out] at C5
  clear hw6 hG hfa hga hr5'
  go_wp2_with fail
  refine C5.out.mono ?_
  rintro e w7 ⟨A7, n7, c7, rfl, hr7, hb7⟩
  have HQ7 := Lib.hid hb7
  have hfa := Fr.alloc No w7 (.cells #[.int .i64 (rr.s : Int), .int .i64 (rr.t : Int), .int .i64 (rr.c : Int), .slice A7 n7 c7] 24)
  have hga := heap_alloc_new w7 (.cells #[.int .i64 (rr.s : Int), .int .i64 (rr.t : Int), .int .i64 (rr.c : Int), .slice A7 n7 c7] 24)
  have hr7' := rd_offR hfa hr7 (fun _ _ _ e => e)
  clear C5 hr7 hb7
  simp only
  go_upto_region 10 with fail
  obtain ⟨J, hJ⟩ : ∃ J, w7.heap.size = J := ⟨_, rfl⟩
  obtain ⟨w8, hw8⟩ : ∃ u, w7.alloc (.cells #[.int .i64 (rr.s : Int), .int .i64 (rr.t : Int), .int .i64 (rr.c : Int), .slice A7 n7 c7] 24) = u := ⟨_, rfl⟩
  rw [hw8] at hfa hga hr7' ⊢
  rw [hJ] at hga ⊢
  have HQ8 := Lib.hid (HQ7.out.trans (hfa.noBelow.mono HQ7.out.size))
  have HJ8 := Lib.hid (HJ6.out.trans (HQ8.out.mono HJ6.out.size))
  have HK8 := Lib.hid (HK6.out.trans (HQ8.out.mono HK6.out.size))
  have HH8 := Lib.hid (HH6.out.trans (HQ8.out.mono HH6.out.size))
  have HG8 := Lib.hid (HG6.out.trans (HQ8.out.mono HG6.out.size))
  have HW8 := Lib.hid (HW6.out.trans (HQ8.out.mono HW6.out.size))
  obtain ⟨u0, u1, u2, u3⟩ := HGU.out w8 HQ8.out
  have y0 : w8.cell? ⟨J, 0, none⟩ = some (.int .i64 (rr.s : Int)) := by unfold World.cell?; rw [hga]; rfl
  have y1 : w8.cell? ⟨J, 1, none⟩ = some (.int .i64 (rr.t : Int)) := by unfold World.cell?; rw [hga]; rfl
  have y2 : w8.cell? ⟨J, 2, none⟩ = some (.int .i64 (rr.c : Int)) := by unfold World.cell?; rw [hga]; rfl
  have y3 : w8.cell? ⟨J, 3, none⟩ = some (.slice A7 n7 c7) := by unfold World.cell?; rw [hga]; rfl
  have S1 := Lib.hid (same_bytes c3 c4 (HRX.out w8 HJ8.out) (HRY.out w8 HK8.out))
  rw [show decide (x = x) = true by simp] at S1
  have S2 := Lib.hid (same_root (rr.s : Int) (rr.t : Int) (rr.c : Int) (rr.s : Int) (rr.t : Int) (rr.c : Int) c5 c7 (HRU.out w8 HQ8.out) hr7')
  rw [show eqR (rr.s : Int) (rr.t : Int) (rr.c : Int) (rr.s : Int) (rr.t : Int) (rr.c : Int) rr.l rr.l = true by unfold eqR; simp] at S2
  have HRI8 := Lib.hid (fun W (h : Below w8.heap.size w8 W) => (((HRI.out w8 HH8.out).below h).more h.size : Rd W W.heap.size A2 n2 m'))
  have HRB8 := Lib.hid (fun W (h : Below w8.heap.size w8 W) => (((HRB.out w8 HG8.out).below h).more h.size : Rd W W.heap.size B' p' m'))
  have q1 : (y == y) = true := by simp
  have q2 : ((er : Int) == (er : Int)) = true := by simp
  clear hw8 hJ hfa hga hr7'
  go_wp2_with fail
  refine S1.out.mono ?_
  rintro e w9 ⟨rfl, rfl⟩
  simp only
  go_wp2_with fail
  refine S2.out.mono ?_
  rintro e w10 ⟨rfl, hb10⟩
  have HV := Lib.hid hb10
  have S3 := Lib.hid (same_bytes c2 q' (HRI8.out w10 hb10) (HRB8.out w10 hb10))
  rw [show decide (m' = m') = true by simp] at S3
  have HWV := Lib.hid (HW8.out.trans (hb10.mono HW8.out.size))
  clear hb10 u0 u1 u2 u3 y0 y1 y2 y3
  simp only
  go_wp2_with fail
  refine S3.out.mono ?_
  rintro e w11 ⟨rfl, rfl⟩
  simp only
  go_wp2_with fail
  refine (HA.out _ HWV.out).mono ?_
  rintro e w12 ⟨rfl, hb⟩
  have HZ := Lib.hid (HB1.out.trans ((HWV.out.trans (hb.mono HWV.out.size)).mono HB1.out.size))
  clear hb
  go_wp2_with fail
  go_ret
  exact ⟨rfl, HZ.out⟩
end Go.Proofs.YtdkgcgamiochnaaGreatDoor

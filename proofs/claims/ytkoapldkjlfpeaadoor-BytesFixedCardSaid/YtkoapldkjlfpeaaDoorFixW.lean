/-
  The walk of BytesFixed: it answers true, and nothing that was there has turned.
-/
import Derived.Test.YtkoapldkjlfpeaaDoorEnds
import Derived.Test.YtkoapldkjlfpeaaDoorTwoM
namespace Go.Proofs.YtkoapldkjlfpeaaDoor
open Go.RowKit

theorem wrap64_lo (z : Int) : -2 ^ 63 ≤ wrap64 z := by unfold wrap64; omega
theorem wrap64_hi (z : Int) : wrap64 z < 2 ^ 63 := by unfold wrap64; omega
theorem getuint_is (l : List UInt8) (A : Option Addr) (n c B : Nat) (p : Int) (w : World) (x : Nat) (hr : Rd w B A n l) (hn : n ≤ 500000) (hc : n ≤ c) (h : getU l p = (0, 0, x)) :
    Calls Tryd.prog 13 #[.slice A n c, .int .i64 p] w fun e w' => e = .returned (.tuple #[.int .u64 0, .int .i64 0, .int .i64 (x : Int)]) ∧ w = w' := by
  have := getuint_any l A n c B p w hr hn hc
  rw [h] at this
  exact this
theorem getint_is (l : List UInt8) (A : Option Addr) (n c B : Nat) (p : Int) (w : World) (x : Nat) (hr : Rd w B A n l) (hn : n ≤ 500000) (hc : n ≤ c) (h : getI l p = (0, 0, x)) :
    Calls Tryd.prog 14 #[.slice A n c, .int .i64 p] w fun e w' => e = .returned (.tuple #[.int .i64 0, .int .i64 0, .int .i64 (x : Int)]) ∧ w = w' := by
  have := getint_any l A n c B p w hr hn hc
  rw [h] at this
  exact this
theorem getblob_is (l : List UInt8) (A : Option Addr) (n c B : Nat) (p most : Int) (w : World) (x : Nat) (hr : Rd w B A n l) (hn : n ≤ 500000) (hc : n ≤ c) (hm : most ≤ 9223372036854775807) (hx : x ≠ 0) (h : (getB l p most).2.2 = x) :
    Calls Tryd.prog 15 #[.slice A n c, .int .i64 p, .int .i64 most] w fun e w' => e = .returned (.tuple #[.slice none 0 0, .int .i64 0, .int .i64 (x : Int)]) ∧ w = w' := by
  have := getblob_err l A n c B p most w hr hn hc hm (by rw [h]; exact hx)
  rw [h] at this
  exact this
theorem getblob_has (l m : List UInt8) (q : Nat) (A : Option Addr) (n c : Nat) (p most : Int) (w : World) (hr : Rd w w.heap.size A n l) (hn : n ≤ 500000) (hc : n ≤ c) (hm : most ≤ 9223372036854775807) (h : getB l p most = (m, q, 0)) :
    Calls Tryd.prog 15 #[.slice A n c, .int .i64 p, .int .i64 most] w fun e w' => ∃ v, e = .returned (.tuple #[v, .int .i64 (q : Int), .int .i64 0]) ∧ Put w.heap.size w m (.returned v) w' := by
  have := getblob_ok l A n c p most w hr hn hc hm (by rw [h])
  rw [h] at this
  exact this

def nine : ByteArray := ⟨#[255, 255, 255, 255, 255, 255, 255, 255, 255]⟩

set_option maxHeartbeats 6400000 in
set_option maxRecDepth 100000 in
theorem fixed_walk (w : World) (ht : Tab w) :
    Calls Tryd.prog 3 #[] w fun e w' => e = .returned (.bool true) ∧ Below w.heap.size w w' := by
  have HT := Lib.hid ht
  clear ht
  go_enter Tryd.func3, Tryd.ntmps3
  go_wp2_with fail
  go_loopw [1] (fun i wr => ∃ k : Nat, k ≤ 64 ∧ i = .int .u64 (k : Int) ∧ Below w.heap.size w wr) (fun i _ => 64 - (intOf i).toNat)
  case atStart => exact ⟨0, by omega, rfl, Below.refl _ _⟩
  case round =>
    obtain ⟨k, hk, rfl, hB0⟩ := hrel
    by_cases hlt : k < 64
    · go_wp2_with fail
      refine (ends_any _ _ (wrap64_lo _) (wrap64_hi _)).mono ?_
      rintro e w1 ⟨rfl, hb1⟩
      have hB1 : Below w.heap.size w w1 := hB0.trans (hb1.mono hB0.size)
      clear hb1 hB0
      go_wp2_with fail
      refine (ends_any _ _ (wrap64_lo _) (wrap64_hi _)).mono ?_
      rintro e w2 ⟨rfl, hb2⟩
      have hB2 : Below w.heap.size w w2 := hB1.trans (hb2.mono hB1.size)
      clear hb2 hB1
      go_wp2_with fail
      refine (ends_any _ _ (wrap64_lo _) (wrap64_hi _)).mono ?_
      rintro e w3 ⟨rfl, hb3⟩
      have hB3 : Below w.heap.size w w3 := hB2.trans (hb3.mono hB2.size)
      clear hb3 hB2
      go_wp2_with fail
      refine (ends_any _ _ (wrap64_lo _) (wrap64_hi _)).mono ?_
      rintro e w4 ⟨rfl, hb4⟩
      have hB4 : Below w.heap.size w w4 := hB3.trans (hb4.mono hB3.size)
      clear hb4 hB3
      go_wp2_with fail
      refine (ends_any _ _ (wrap64_lo _) (wrap64_hi _)).mono ?_
      rintro e w5 ⟨rfl, hb5⟩
      have hB5 : Below w.heap.size w w5 := hB4.trans (hb5.mono hB4.size)
      clear hb5 hB4
      go_wp2_with fail
      go_roundw
      case rel => exact ⟨k + 1, by omega, by go_num, hB5⟩
      case measure => simp [intOf]; omega
    · have hk64 : k = 64 := by omega
      subst hk64
      clear hlt hk
      go_wp2_with fail
      refine (refused_yes ⟨#[]⟩ 11 _ (by decide) (by decide) (by decide) (by decide +kernel)).mono ?_
      rintro e w1 ⟨rfl, hb1⟩
      have hB1 : Below w.heap.size w w1 := hB0.trans (hb1.mono hB0.size)
      clear hb1 hB0
      go_wp2_with fail
      refine (refused_yes ⟨#[255, 255, 255, 255, 255, 255, 255, 255, 255]⟩ 11 _ (by decide) (by decide) (by decide) (by decide +kernel)).mono ?_
      rintro e w2 ⟨rfl, hb2⟩
      have hB2 : Below w.heap.size w w2 := hB1.trans (hb2.mono hB1.size)
      clear hb2 hB1
      go_wp2_with fail
      refine (refused_yes ⟨#[255, 255, 255, 255, 255, 255, 255, 255, 255, 2]⟩ 10 _ (by decide) (by decide) (by decide) (by decide +kernel)).mono ?_
      rintro e w3 ⟨rfl, hb3⟩
      have hB3 : Below w.heap.size w w3 := hB2.trans (hb3.mono hB2.size)
      clear hb3 hB2
      go_wp2_with fail
      refine (refused_yes ⟨#[255, 255, 255, 255, 255, 255, 255, 255, 255, 255]⟩ 10 _ (by decide) (by decide) (by decide) (by decide +kernel)).mono ?_
      rintro e w4 ⟨rfl, hb4⟩
      have hB4 : Below w.heap.size w w4 := hB3.trans (hb4.mono hB3.size)
      clear hb4 hB3
      go_wp2_with fail
      refine (refused_yes ⟨#[255, 255, 255, 255, 255, 255, 255, 255, 255, 255, 1]⟩ 10 _ (by decide) (by decide) (by decide) (by decide +kernel)).mono ?_
      rintro e w5 ⟨rfl, hb5⟩
      have hB5 : Below w.heap.size w w5 := hB4.trans (hb5.mono hB4.size)
      clear hb5 hB4
      go_wp2_with fail
      refine (refused_yes ⟨#[129, 128, 0]⟩ 10 _ (by decide) (by decide) (by decide) (by decide +kernel)).mono ?_
      rintro e w6 ⟨rfl, hb6⟩
      have hB6 : Below w.heap.size w w6 := hB5.trans (hb6.mono hB5.size)
      clear hb6 hB5
      go_wp2_with fail
      refine (getuint_is [1] (some ⟨w6.heap.size, 0, none⟩) 1 1 (w6.heap.size + 1) (-1) (w6.alloc (.cells #[.int .u8 1] 5)) 2 (Rd.new w6 [1] #[.int .u8 1] rfl (0, 0)) (by decide) (by decide) (by decide +kernel)).mono ?_
      rintro e wx ⟨rfl, rfl⟩
      have hB7 : Below w.heap.size w (w6.alloc (.cells #[.int .u8 1] 5)) := hB6.alloc hB6.size _
      have hD7 : Below w6.heap.size w6 (w6.alloc (.cells #[.int .u8 1] 5)) := (Below.refl _ _).alloc (Nat.le_refl _) _
      clear hB6
      generalize (w6.alloc (.cells #[.int .u8 1] 5)) = w7 at *
      clear hD7
      go_wp2_with fail
      refine (getint_is [1] (some ⟨w7.heap.size, 0, none⟩) 1 1 (w7.heap.size + 1) 2 (w7.alloc (.cells #[.int .u8 1] 5)) 2 (Rd.new w7 [1] #[.int .u8 1] rfl (0, 0)) (by decide) (by decide) (by decide +kernel)).mono ?_
      rintro e wx ⟨rfl, rfl⟩
      have hB8 : Below w.heap.size w (w7.alloc (.cells #[.int .u8 1] 5)) := hB7.alloc hB7.size _
      have hD8 : Below w7.heap.size w7 (w7.alloc (.cells #[.int .u8 1] 5)) := (Below.refl _ _).alloc (Nat.le_refl _) _
      clear hB7
      generalize (w7.alloc (.cells #[.int .u8 1] 5)) = w8 at *
      clear hD8
      go_wp2_with fail
      refine (getblob_is [2, 7] (some ⟨w8.heap.size, 0, none⟩) 2 2 (w8.heap.size + 1) 0 5 (w8.alloc (.cells #[.int .u8 2, .int .u8 7] 5)) 11 (Rd.new w8 [2, 7] #[.int .u8 2, .int .u8 7] rfl (0, 0)) (by decide) (by decide) (by decide) (by decide) (by decide +kernel)).mono ?_
      rintro e wx ⟨rfl, rfl⟩
      have hB9 : Below w.heap.size w (w8.alloc (.cells #[.int .u8 2, .int .u8 7] 5)) := hB8.alloc hB8.size _
      have hD9 : Below w8.heap.size w8 (w8.alloc (.cells #[.int .u8 2, .int .u8 7] 5)) := (Below.refl _ _).alloc (Nat.le_refl _) _
      clear hB8
      generalize (w8.alloc (.cells #[.int .u8 2, .int .u8 7] 5)) = w9 at *
      clear hD9
      go_wp2_with fail
      refine (getblob_is [2, 7, 8] (some ⟨w9.heap.size, 0, none⟩) 3 3 (w9.heap.size + 1) 0 1 (w9.alloc (.cells #[.int .u8 2, .int .u8 7, .int .u8 8] 5)) 3 (Rd.new w9 [2, 7, 8] #[.int .u8 2, .int .u8 7, .int .u8 8] rfl (0, 0)) (by decide) (by decide) (by decide) (by decide) (by decide +kernel)).mono ?_
      rintro e wx ⟨rfl, rfl⟩
      have hB10 : Below w.heap.size w (w9.alloc (.cells #[.int .u8 2, .int .u8 7, .int .u8 8] 5)) := hB9.alloc hB9.size _
      have hD10 : Below w9.heap.size w9 (w9.alloc (.cells #[.int .u8 2, .int .u8 7, .int .u8 8] 5)) := (Below.refl _ _).alloc (Nat.le_refl _) _
      clear hB9
      generalize (w9.alloc (.cells #[.int .u8 2, .int .u8 7, .int .u8 8] 5)) = w10 at *
      clear hD10
      go_wp2_with fail
      refine (getblob_is [0] (some ⟨w10.heap.size, 0, none⟩) 1 1 (w10.heap.size + 1) 0 (-9) (w10.alloc (.cells #[.int .u8 0] 5)) 3 (Rd.new w10 [0] #[.int .u8 0] rfl (0, 0)) (by decide) (by decide) (by decide) (by decide) (by decide +kernel)).mono ?_
      rintro e wx ⟨rfl, rfl⟩
      have hB11 : Below w.heap.size w (w10.alloc (.cells #[.int .u8 0] 5)) := hB10.alloc hB10.size _
      have hD11 : Below w10.heap.size w10 (w10.alloc (.cells #[.int .u8 0] 5)) := (Below.refl _ _).alloc (Nat.le_refl _) _
      clear hB10
      generalize (w10.alloc (.cells #[.int .u8 0] 5)) = w11 at *
      clear hD11
      obtain ⟨c12, w12, r12, hc12, hd12, hb12⟩ := of_string w11 (⟨#[255, 255, 255, 255, 255, 255, 255, 255, 255]⟩ ++ ⟨#[1]⟩)
      rw [show ((⟨#[255, 255, 255, 255, 255, 255, 255, 255, 255]⟩ : ByteArray) ++ ⟨#[1]⟩).size = 10 by decide +kernel] at r12 hc12 hd12
      rw [show ((⟨#[255, 255, 255, 255, 255, 255, 255, 255, 255]⟩ : ByteArray) ++ ⟨#[1]⟩).data.toList = [255, 255, 255, 255, 255, 255, 255, 255, 255, 1] by decide +kernel] at hd12
      have R12 := Lib.hid hd12
      have hc12b := Lib.hid hc12
      clear hd12 hc12
      go_wp2_with fail
      refine (getblob_is [255, 255, 255, 255, 255, 255, 255, 255, 255, 1] (some ⟨w11.heap.size, 0, none⟩) 10 c12 _ 0 4611686018427387904 w12 3 R12.out (by decide) hc12b.out (by decide) (by decide) (by decide +kernel)).mono ?_
      rintro e wx ⟨rfl, rfl⟩
      have hB12 : Below w.heap.size w w12 := hB11.trans (hb12.mono hB11.size)
      clear hb12 hB11 r12 R12 hc12b
      have hB12b : Below w.heap.size w (w12.alloc (.cells #[.int .u8 4, .int .u8 2, .int .u8 7, .int .u8 8, .int .u8 9] 5)) := hB12.alloc hB12.size _
      clear hB12
      go_wp2_with fail
      refine (getblob_has [4, 2, 7, 8, 9] [7, 8] 4 (some ⟨w12.heap.size, 0, none⟩) 5 5 1 2 (w12.alloc (.cells #[.int .u8 4, .int .u8 2, .int .u8 7, .int .u8 8, .int .u8 9] 5)) ((Rd.new w12 [4, 2, 7, 8, 9] #[.int .u8 4, .int .u8 2, .int .u8 7, .int .u8 8, .int .u8 9] rfl (0, 0)).more (by simp)) (by decide) (by decide) (by decide) (by decide +kernel)).mono ?_
      rintro e w13 ⟨v13, rfl, hp13⟩
      obtain ⟨A13, n13, c13, hv13, _, hc13, hd13, hb13⟩ := hp13.str
      injection hv13 with hv13
      subst hv13
      have R13 := Lib.hid hd13
      have hB13 : Below w.heap.size w w13 := hB12b.trans (hb13.mono hB12b.size)
      clear hp13 hd13 hb13 hB12b
      go_wp2_with fail
      refine (unseal_short (some ⟨w13.heap.size, 0, none⟩) 3 3 (w13.alloc (.cells #[.int .u8 0, .int .u8 0, .int .u8 0] 5)) (by decide)).mono ?_
      rintro e wx ⟨rfl, rfl⟩
      have hB14 : Below w.heap.size w (w13.alloc (.cells #[.int .u8 0, .int .u8 0, .int .u8 0] 5)) := hB13.alloc hB13.size _
      have hD14 : Below w13.heap.size w13 (w13.alloc (.cells #[.int .u8 0, .int .u8 0, .int .u8 0] 5)) := (Below.refl _ _).alloc (Nat.le_refl _) _
      clear hB13
      generalize (w13.alloc (.cells #[.int .u8 0, .int .u8 0, .int .u8 0] 5)) = w14 at *
      have hC14 : Below w13.heap.size w13 w14 := hD14
      clear hD14
      go_wp2_with fail
      refine (unseal_bad [0, 0, 1, 0] (some ⟨w14.heap.size, 0, none⟩) 4 4 (w14.heap.size + 1) (w14.alloc (.cells #[.int .u8 0, .int .u8 0, .int .u8 1, .int .u8 0] 5)) (Rd.new w14 [0, 0, 1, 0] #[.int .u8 0, .int .u8 0, .int .u8 1, .int .u8 0] rfl (0, 0)) (by decide) (by decide) (by decide) (HT.out.keep (hB14.alloc hB14.size _) HT.out.pos) (by decide +kernel)).mono ?_
      rintro e wx ⟨rfl, rfl⟩
      have hB15 : Below w.heap.size w (w14.alloc (.cells #[.int .u8 0, .int .u8 0, .int .u8 1, .int .u8 0] 5)) := hB14.alloc hB14.size _
      have hD15 : Below w14.heap.size w14 (w14.alloc (.cells #[.int .u8 0, .int .u8 0, .int .u8 1, .int .u8 0] 5)) := (Below.refl _ _).alloc (Nat.le_refl _) _
      clear hB14
      generalize (w14.alloc (.cells #[.int .u8 0, .int .u8 0, .int .u8 1, .int .u8 0] 5)) = w15 at *
      have hC15 : Below w13.heap.size w13 w15 := hC14.trans (hD15.mono hC14.size)
      clear hD15 hC14
      have hB15b : Below w.heap.size w (w15.alloc (.cells #[.int .u8 0, .int .u8 0, .int .u8 0, .int .u8 0] 5)) := hB15.alloc hB15.size _
      have hC15b : Below w13.heap.size w13 (w15.alloc (.cells #[.int .u8 0, .int .u8 0, .int .u8 0, .int .u8 0] 5)) := hC15.alloc hC15.size _
      clear hB15 hC15
      go_wp2_with fail
      refine (unseal_good [0, 0, 0, 0] (some ⟨w15.heap.size, 0, none⟩) 4 4 (w15.alloc (.cells #[.int .u8 0, .int .u8 0, .int .u8 0, .int .u8 0] 5)) ((Rd.new w15 [0, 0, 0, 0] #[.int .u8 0, .int .u8 0, .int .u8 0, .int .u8 0] rfl (0, 0)).more (by simp)) (by decide) (by decide) (by decide) (HT.out.keep hB15b HT.out.pos) (by decide +kernel)).mono ?_
      rintro e w16 ⟨v16, rfl, hp16⟩
      obtain ⟨A16, n16, c16, hv16, _, hc16, hd16, hb16⟩ := hp16.str
      injection hv16 with hv16
      subst hv16
      have hB16 : Below w.heap.size w w16 := hB15b.trans (hb16.mono hB15b.size)
      have hC16 : Below w13.heap.size w13 w16 := hC15b.trans (hb16.mono hC15b.size)
      have hn16 : n16 = 0 := hd16.len.symm
      subst hn16
      have r13 := str_rule c13 (R13.out.below hC16)
      clear hp16 hd16 hb16 hB15b hC15b hC16
      go_wp2_with fail
      refine (awake_any _ (HT.out.keep hB16 HT.out.pos)).mono ?_
      rintro e w17 ⟨rfl, hb17⟩
      go_wp2_with fail
      go_ret
      exact ⟨rfl, hB16.trans (hb17.mono hB16.size)⟩
end Go.Proofs.YtkoapldkjlfpeaaDoor

/-
  The walk of BytesLadder: it answers true, and nothing that was there has turned.
-/
import Derived.Test.YtkoapldkjlfpeaaDoorMirW
import Derived.StillTailTactics
namespace Go.Proofs.YtkoapldkjlfpeaaDoor
open Go.RowKit

theorem Rd.drew {w : World} {B n : Nat} {A : Option Addr} {l : List UInt8} (h : Rd w B A n l) : Rd w.drew B A n l := h
theorem varint_ladder {m d : Nat} (hm : 0 < m) (hd : d < 128) : varint (m * 128 + d) = UInt8.ofNat (128 + d) :: varint m := by
  rw [varint_big (by omega), show (m * 128 + d) % 128 = d by omega, show (m * 128 + d) / 128 = m by omega]

set_option maxHeartbeats 1600000 in
set_option maxRecDepth 100000 in
theorem ladder_zero (n L : Nat) (w : World) (h0 : n % 2 ^ 57 = 0) (ht : Tab w) :
    Calls Tryd.prog 6 #[.int .u64 (n : Int), .int .u8 (L : Int)] w fun e w' => e = .returned (.bool true) ∧ Below w.heap.size w w' := by
  have HT := Lib.hid ht
  have hmod : (n : Int) % 144115188075855872 = 0 := by omega
  obtain ⟨d, hd⟩ : ∃ d : Nat, L % 128 = d := ⟨_, rfl⟩
  have hdi : (L : Int) % 128 = (d : Int) := by omega
  have hd8 : d < 128 := by omega
  have C1 := fun W : World => Lib.hid (uint_str 0 [0] W (by decide) varint_0)
  have C2 := fun W : World => Lib.hid (uint_str d [UInt8.ofNat d] W (by omega) (varint_small hd8))
  have hx : ((UInt8.ofNat d).toNat : Int) = (d : Int) := by rw [toNat_ofNat_lt (by omega)]
  have rn : ∀ W : World, Hid (Rd (W.alloc (.cells #[.int .u8 (d : Int)] 5)) (W.heap.size + 1) (some ⟨W.heap.size, 0, none⟩) 1 [UInt8.ofNat d]) := fun W => (Rd.new W [UInt8.ofNat d] #[.int .u8 (d : Int)] (by show [Value.int .u8 (d : Int)] = [Value.int .u8 ((UInt8.ofNat d).toNat : Int)]; rw [hx]) (0, 0))
  clear h0 hd ht hx
  go_enter Tryd.func6, Tryd.ntmps6
  go_wp2_with fail
  refine (C1 _).out.mono ?_
  rintro e w1 hp1
  obtain ⟨A1, n1, c1, rfl, r1, hnc1, hd1, hb1⟩ := hp1.str
  clear hp1 r1 hd1
  go_wp2_with fail
  refine (C2 _).out.mono ?_
  rintro e w2 hp2
  obtain ⟨A2, n2, c2, rfl, r2, hnc2, hd2, hb2⟩ := hp2.str
  have hB2 : Below w.heap.size w w2 := hb1.trans (hb2.mono hb1.size)
  have hz2 := hB2.size
  have r3 := str_rule 1 (rn w2).out
  clear hp2 hb1 hb2 hd2
  generalize UInt8.ofNat d = x at *
  go_wp2_with fail
  refine (awake_any _ (HT.out.keep (hB2.trans ((Below.refl _ _).alloc hz2 _)) HT.out.pos)).mono ?_
  rintro e w3 ⟨rfl, hb3⟩
  go_wp2_with fail
  go_ret
  exact ⟨rfl, hB2.trans (((Below.refl _ _).alloc hz2 _).trans (hb3.mono (by simp; omega)))⟩

set_option maxHeartbeats 1600000 in
set_option maxRecDepth 100000 in
theorem ladder_pos (n L m : Nat) (w : World) (hm : n % 2 ^ 57 = m) (h0 : 0 < m) (ht : Tab w) :
    Calls Tryd.prog 6 #[.int .u64 (n : Int), .int .u8 (L : Int)] w fun e w' => e = .returned (.bool true) ∧ Below w.heap.size w w' := by
  have HT := Lib.hid ht
  have hmod : (n : Int) % 144115188075855872 = (m : Int) := by omega
  have hm57 : m < 2 ^ 57 := by omega
  obtain ⟨d, hd⟩ : ∃ d : Nat, L % 128 = d := ⟨_, rfl⟩
  have hdi : (L : Int) % 128 = (d : Int) := by omega
  have hd8 : d < 128 := by omega
  obtain ⟨k1, hk1⟩ : ∃ k1 : Nat, m * 128 = k1 := ⟨_, rfl⟩
  obtain ⟨k2, hk2⟩ : ∃ k2 : Nat, k1 + d = k2 := ⟨_, rfl⟩
  have f1 : IntKind.u64.wrap ((m : Int) * 128) = (k1 : Int) := by rw [IntWalk.u64_in _ (by omega)]; omega
  have f2 : IntKind.u64.wrap ((k1 : Int) + (d : Int)) = (k2 : Int) := by rw [IntWalk.u64_in _ (by omega)]; omega
  have C1 := fun W : World => Lib.hid (uint_nil m W (by omega))
  have hten := varint_len_ten (n := m) (by omega)
  have C2 := fun W : World => Lib.hid (uint_str k2 (UInt8.ofNat (128 + d) :: varint m) W (by omega) (by rw [← hk2, ← hk1]; exact varint_ladder h0 hd8))
  have hmz : ((m : Int) == 0) = false := by rw [beq_eq_false_iff_ne]; omega
  have hx : (((UInt8.ofNat (128 + d)).toNat : Nat) : Int) = (d : Int) + 128 := by rw [toNat_ofNat_lt (by omega)]; omega
  have hw : IntKind.u8.wrap ((d : Int) + 128) = (d : Int) + 128 := IntWalk.u8_in _ (by omega)
  generalize UInt8.ofNat (128 + d) = x at *
  generalize varint m = l at *
  clear hm h0 hm57 hd hk1 hk2 ht
  go_enter Tryd.func6, Tryd.ntmps6
  go_wp2_with fail
  refine (C1 _).out.mono ?_
  rintro e w1 hp1
  obtain ⟨A1, n1, c1, rfl, r1, hnc1, hd1, hb1⟩ := hp1.str
  clear hp1
  go_wp2_with fail
  refine (C2 _).out.mono ?_
  rintro e w2 hp2
  obtain ⟨A2, n2, c2, rfl, r2, hnc2, hd2, hb2⟩ := hp2.str
  have R1 := Lib.hid ((hd1.below hb2).more hb2.size)
  have R2 := Lib.hid hd2
  have hB2 : Below w.heap.size w w2 := hb1.trans (hb2.mono hb1.size)
  have hz2 := hB2.size
  obtain ⟨b2, o2, eb, _, q2⟩ := R2.out.head
  obtain ⟨T2, m2, d2, s2, ht2⟩ := tail_rule R2.out hnc2
  have g1 := str_rule c1 R1.out.drew
  have g2 := str_rule d2 ht2.drew
  have hl1 := R1.out.len
  have hl2 := R2.out.len
  simp only [List.length_cons] at hl2
  have z0 : IntKind.i64.wrap ((n1 : Int) + 1) = (n2 : Int) := by
    rw [IntWalk.i64_in _ (by omega)]
    omega
  have z1 : ((n2 : Int) == (n2 : Int)) = true := by simp
  have z3 : (0 : Int) < (n2 : Int) := by omega
  have z4 : 0 < n2 := by omega
  clear hl1 hl2 r1 r2 hd1 hd2 hb1 hb2 ht2 hp2
  subst eb
  rw [hx] at q2
  go_wp2_with fail
  go_still_tail 23, (by kernel_rfl)
  go_wp2_with fail
  refine (awake_any _ (HT.out.keep hB2.drew HT.out.pos)).mono ?_
  rintro e w4 ⟨rfl, hb4⟩
  go_wp2_with fail
  go_ret
  exact ⟨rfl, hB2.drew.trans (hb4.mono hz2)⟩

theorem ladder_walk (z y : Int) (w : World) (h0 : 0 ≤ z) (h2 : 0 ≤ y) (ht : Tab w) :
    Calls Tryd.prog 6 #[.int .u64 z, .int .u8 y] w fun e w' => e = .returned (.bool true) ∧ Below w.heap.size w w' := by
  obtain ⟨n, rfl⟩ : ∃ n : Nat, z = (n : Int) := ⟨z.toNat, by omega⟩
  obtain ⟨L, rfl⟩ : ∃ L : Nat, y = (L : Int) := ⟨y.toNat, by omega⟩
  by_cases hm : n % 2 ^ 57 = 0
  · exact ladder_zero n L w hm ht
  · exact ladder_pos n L _ w rfl (by omega) ht
end Go.Proofs.YtkoapldkjlfpeaaDoor

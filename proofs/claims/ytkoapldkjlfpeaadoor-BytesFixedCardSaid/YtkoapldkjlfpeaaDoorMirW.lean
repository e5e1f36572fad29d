/-
  The walk of BytesMirror: it answers true, and nothing that was there has turned.
-/
import Derived.Test.YtkoapldkjlfpeaaDoorAwake
import Derived.BigQuiet
import Derived.Deep.QuietTactic
import Derived.Deep.RegionWith
namespace Go.Proofs.YtkoapldkjlfpeaaDoor
open Go.RowKit

/-- Two numbers that differ in the lowest bit alone: their bytes do, too. -/
theorem varint_pair (m : Nat) : ∃ (x y : UInt8) (tl : List UInt8), varint (2 * m) = x :: tl ∧ varint (2 * m + 1) = y :: tl ∧ x.toNat ^^^ y.toNat = 1 := by
  have hx : ∀ k, (2 * k) ^^^ (2 * k + 1) = 1 := fun k => by
    rw [show 2 * k + 1 = (2 * k) ^^^ 1 from ?_, ← Nat.xor_assoc, Nat.xor_self, Nat.zero_xor]
    have h1 : ((2 * k) ^^^ 1) % 2 ^ 1 = 1 := by rw [Nat.xor_mod_two_pow]; simp [Nat.mul_mod_right]
    have h2 : ((2 * k) ^^^ 1) / 2 ^ 1 = k := by rw [Nat.xor_div_two_pow]; simp
    have h3 := Nat.div_add_mod ((2 * k) ^^^ 1) (2 ^ 1)
    rw [h1, h2] at h3
    omega
  by_cases h : 2 * m < 128
  · refine ⟨_, _, [], varint_small h, varint_small (by omega), ?_⟩
    rw [toNat_ofNat_lt (by omega), toNat_ofNat_lt (by omega)]
    exact hx m
  · refine ⟨UInt8.ofNat (128 + 2 * m % 128), UInt8.ofNat (128 + (2 * m + 1) % 128), varint (2 * m / 128), varint_big h, ?_, ?_⟩
    · rw [varint_big (by omega), show (2 * m + 1) / 128 = 2 * m / 128 by omega]
    · rw [toNat_ofNat_lt (by omega), toNat_ofNat_lt (by omega)]
      have e1 : 128 + 2 * m % 128 = 2 * (64 + m % 64) := by omega
      have e2 : 128 + (2 * m + 1) % 128 = 2 * (64 + m % 64) + 1 := by omega
      rw [e1, e2]
      exact hx _

theorem Rd.drewN {w : World} {B n : Nat} {A : Option Addr} {l : List UInt8} (h : Rd w B A n l) (k : Nat) : Rd (w.drewN k) B A n l := h
theorem Rd.head {w : World} {B n : Nat} {A : Option Addr} {x : UInt8} {l : List UInt8} (h : Rd w B A n (x :: l)) : ∃ b o, A = some ⟨b, o, none⟩ ∧ b < B ∧ w.cell? ⟨b, o, none⟩ = some (.int .u8 (x.toNat : Int)) := by
  obtain ⟨b, o, e, hb, hc⟩ := h.2 (by have := h.len; simp at this; omega)
  exact ⟨b, o, e, hb, hc 0 (by simp)⟩
/-- All but the first byte, as the model cuts it, as a text. -/
theorem tail_rule {w : World} {B n c : Nat} {A : Option Addr} {x : UInt8} {l : List UInt8} (h : Rd w B A n (x :: l)) (hc : n ≤ c) :
    ∃ A' n' c', (∀ W : World, (Instr.slice 29 (.slice A n c) (some (.int .i64 1)) none none).run Tryd.prog W = .ok (.slice A' n' c') W) ∧ Rd w B A' n' l := by
  obtain ⟨i0, hi0, hz0, hz1, hz2⟩ := info_parts info_u8
  have hl := h.len
  have hcut := h.cut (p := 1) (hi := n) hc (by simp at hl; omega) (Nat.le_refl _)
  refine ⟨(if c = 1 then A else A.map (·.add 1)), n - 1, c - 1, fun W => ?_, ?_⟩
  · rw [run_slice_l W 29 A n c Tryd.underlying29 .i64 1 (by omega) (by simp at hl; omega)]
    have he : Tryd.prog.elem 29 = 5 := by simp [Program.elem, Tryd.underlying29]
    rw [he]
    simp [sizeOf, typeInfo, hi0, hz1, sliced]
  · have e : ((x :: l).drop 1).take (n - 1) = l := by
      rw [List.drop_one, List.tail_cons, List.take_of_length_le]
      simp at hl
      omega
    rw [e] at hcut
    exact hcut

set_option maxHeartbeats 1600000 in
set_option maxRecDepth 100000 in
theorem mirror_pos (n : Nat) (w : World) (hn : n < 2 ^ 63) (ht : Tab w) :
    Calls Tryd.prog 8 #[.int .i64 (n : Int)] w fun e w' => e = .returned (.bool true) ∧ Below w.heap.size w w' := by
  obtain ⟨x, y, tl, e1, e2, hxy⟩ := varint_pair n
  have HT := Lib.hid ht
  have HN := Lib.hid hn
  have hn' : (n : Int) ≤ 9223372036854775807 := by omega
  have p1 : plc (n : Int) = 2 * n := by unfold plc; rw [if_neg (by omega)]; omega
  have p2 : plc (-1 - (n : Int)) = 2 * n + 1 := by unfold plc; rw [if_pos (by omega)]; omega
  have C1 := int_str (n : Int) (x :: tl) w (by omega) (by omega) (by rw [p1, e1])
  have C2 := fun W : World => Lib.hid (int_str (-1 - (n : Int)) (y :: tl) W (by omega) (by omega) (by rw [p2, e2]))
  have HC1 := Lib.hid C1
  have E1 := Lib.hid e1
  have hx8 := x.toNat_lt
  have hy8 := y.toNat_lt
  have hxor : bits .xor .u8 (x.toNat : Int) (y.toNat : Int) = 1 := by rw [u8_xor_nat _ _ (by omega) (by omega), hxy]; rfl
  clear C1 e1 e2 p1 p2 ht hn hxy
  go_enter Tryd.func8, Tryd.ntmps8
  go_wp2_with fail
  refine HC1.out.mono ?_
  rintro e w1 hp1
  obtain ⟨A1, n1, c1, rfl, r1, hnc1, hd1, hb1⟩ := hp1.str
  clear hp1
  go_wp2_with fail
  refine (C2 w1).out.mono ?_
  rintro e w2 hp2
  obtain ⟨A2, n2, c2, rfl, r2, hnc2, hd2, hb2⟩ := hp2.str
  clear hp2
  have R1 := Lib.hid ((hd1.below hb2).more hb2.size)
  have R2 := Lib.hid hd2
  have hB2 : Below w.heap.size w w2 := hb1.trans (hb2.mono hb1.size)
  obtain ⟨b1, o1, ea, _, q1⟩ := R1.out.head
  obtain ⟨b2, o2, eb, _, q2⟩ := R2.out.head
  obtain ⟨T1, m1, d1, s1, ht1⟩ := tail_rule R1.out hnc1
  obtain ⟨T2, m2, d2, s2, ht2⟩ := tail_rule R2.out hnc2
  have g1 := fun k : Nat => str_rule d1 (ht1.drewN k)
  have g2 := fun k : Nat => str_rule d2 (ht2.drewN k)
  have hl1 := R1.out.len
  have hl2 := R2.out.len
  simp only [List.length_cons] at hl1 hl2
  have z1 : ((n1 : Int) == 0) = false := by rw [beq_eq_false_iff_ne]; omega
  have z2 : ((n1 : Int) != (n2 : Int)) = false := by rw [bne_eq_false_iff_eq]; omega
  have z3 : (0 : Int) < (n1 : Int) := by omega
  have z4 : (0 : Int) < (n2 : Int) := by omega
  clear hl1 hl2 r1 r2 hd1 hd2 hb1 hb2 ht1 ht2
  subst ea eb
  go_wp2_with fail
  go_quiet (fail)
  go_wp2_with fail
  clear g1 g2 q1 q2 s1 s2 z1 z2 z3 z4 hxor
  have g3 := fun k : Nat => str_rule c1 (R1.out.drewN k)
  have hw1 : IntKind.u64.wrap (n : Int) = (n : Int) := IntWalk.u64_in _ (by omega)
  obtain ⟨m, hm⟩ : ∃ m : Nat, 2 * n = m := ⟨_, rfl⟩
  have hw2 : IntKind.u64.wrap (2 * (n : Int)) = (m : Int) := by rw [IntWalk.u64_in _ (by omega)]; omega
  have C3 := fun W : World => Lib.hid (uint_str m (x :: tl) W (by have := HN.out; omega) (by rw [← hm]; exact E1.out))
  clear hm
  go_region_with (first
    | (go_at_call 19; refine (C3 _).out.mono ?_; rintro e w3 hp3; obtain ⟨A3, n3, c3, rfl, r3, _, _, hb3⟩ := hp3.str; clear hp3; have g4 := str_rule c1 ((R1.out.drewN _).below hb3); have hB3 := (below_drewN hB2 _).trans (hb3.mono (Nat.le_trans hB2.size (Nat.le_refl _))); clear hb3)
    | (go_at_call 17; refine (awake_any _ (HT.out.keep (by assumption) HT.out.pos)).mono ?_; rintro e w4 ⟨rfl, hb4⟩))
  all_goals go_wp2_with fail
  all_goals go_ret
  all_goals exact ⟨rfl, Below.trans hB3 (hb4.mono hB3.size)⟩

set_option maxHeartbeats 1600000 in
set_option maxRecDepth 100000 in
theorem mirror_neg (z : Int) (n : Nat) (w : World) (hz : z < 0) (hk : -1 - z = (n : Int)) (hn : n < 2 ^ 63) (ht : Tab w) :
    Calls Tryd.prog 8 #[.int .i64 z] w fun e w' => e = .returned (.bool true) ∧ Below w.heap.size w w' := by
  obtain ⟨x, y, tl, e1, e2, hxy⟩ := varint_pair n
  have HT := Lib.hid ht
  have HN := Lib.hid hn
  have hn' : (n : Int) ≤ 9223372036854775807 := by omega
  have p1 : plc (n : Int) = 2 * n := by unfold plc; rw [if_neg (by omega)]; omega
  have p2 : plc (-1 - (n : Int)) = 2 * n + 1 := by unfold plc; rw [if_pos (by omega)]; omega
  have C1 := int_str (n : Int) (x :: tl) w (by omega) (by omega) (by rw [p1, e1])
  have C2 := fun W : World => Lib.hid (int_str (-1 - (n : Int)) (y :: tl) W (by omega) (by omega) (by rw [p2, e2]))
  have HC1 := Lib.hid C1
  have E1 := Lib.hid e1
  have hx8 := x.toNat_lt
  have hy8 := y.toNat_lt
  have hxor : bits .xor .u8 (x.toNat : Int) (y.toNat : Int) = 1 := by rw [u8_xor_nat _ _ (by omega) (by omega), hxy]; rfl
  clear C1 e1 e2 p1 p2 ht hn hxy
  go_enter Tryd.func8, Tryd.ntmps8
  go_wp2_with fail
  refine HC1.out.mono ?_
  rintro e w1 hp1
  obtain ⟨A1, n1, c1, rfl, r1, hnc1, hd1, hb1⟩ := hp1.str
  clear hp1
  go_wp2_with fail
  refine (C2 w1).out.mono ?_
  rintro e w2 hp2
  obtain ⟨A2, n2, c2, rfl, r2, hnc2, hd2, hb2⟩ := hp2.str
  clear hp2
  have R1 := Lib.hid ((hd1.below hb2).more hb2.size)
  have R2 := Lib.hid hd2
  have hB2 : Below w.heap.size w w2 := hb1.trans (hb2.mono hb1.size)
  obtain ⟨b1, o1, ea, _, q1⟩ := R1.out.head
  obtain ⟨b2, o2, eb, _, q2⟩ := R2.out.head
  obtain ⟨T1, m1, d1, s1, ht1⟩ := tail_rule R1.out hnc1
  obtain ⟨T2, m2, d2, s2, ht2⟩ := tail_rule R2.out hnc2
  have g1 := fun k : Nat => str_rule d1 (ht1.drewN k)
  have g2 := fun k : Nat => str_rule d2 (ht2.drewN k)
  have hl1 := R1.out.len
  have hl2 := R2.out.len
  simp only [List.length_cons] at hl1 hl2
  have z1 : ((n1 : Int) == 0) = false := by rw [beq_eq_false_iff_ne]; omega
  have z2 : ((n1 : Int) != (n2 : Int)) = false := by rw [bne_eq_false_iff_eq]; omega
  have z3 : (0 : Int) < (n1 : Int) := by omega
  have z4 : (0 : Int) < (n2 : Int) := by omega
  clear hl1 hl2 r1 r2 hd1 hd2 hb1 hb2 ht1 ht2
  subst ea eb
  go_wp2_with fail
  go_quiet (fail)
  go_wp2_with fail
  clear g1 g2 q1 q2 s1 s2 z1 z2 z3 z4 hxor
  have g3 := fun k : Nat => str_rule c1 (R1.out.drewN k)
  have hw1 : IntKind.u64.wrap (n : Int) = (n : Int) := IntWalk.u64_in _ (by omega)
  obtain ⟨m, hm⟩ : ∃ m : Nat, 2 * n = m := ⟨_, rfl⟩
  have hw2 : IntKind.u64.wrap (2 * (n : Int)) = (m : Int) := by rw [IntWalk.u64_in _ (by omega)]; omega
  have C3 := fun W : World => Lib.hid (uint_str m (x :: tl) W (by have := HN.out; omega) (by rw [← hm]; exact E1.out))
  clear hm
  go_region_with (first
    | (go_at_call 19; refine (C3 _).out.mono ?_; rintro e w3 hp3; obtain ⟨A3, n3, c3, rfl, r3, _, _, hb3⟩ := hp3.str; clear hp3; have g4 := str_rule c1 ((R1.out.drewN _).below hb3); have hB3 := (below_drewN hB2 _).trans (hb3.mono (Nat.le_trans hB2.size (Nat.le_refl _))); clear hb3)
    | (go_at_call 17; refine (awake_any _ (HT.out.keep (by assumption) HT.out.pos)).mono ?_; rintro e w4 ⟨rfl, hb4⟩))
  all_goals go_wp2_with fail
  all_goals go_ret
  all_goals exact ⟨rfl, Below.trans hB3 (hb4.mono hB3.size)⟩

theorem mirror_walk (z : Int) (w : World) (h0 : -2 ^ 63 ≤ z) (h1 : z < 2 ^ 63) (ht : Tab w) :
    Calls Tryd.prog 8 #[.int .i64 z] w fun e w' => e = .returned (.bool true) ∧ Below w.heap.size w w' := by
  by_cases hz : z < 0
  · exact mirror_neg z (-1 - z).toNat w hz (by omega) (by omega) ht
  · have := mirror_pos z.toNat w (by omega) ht
    rw [show ((z.toNat : Nat) : Int) = z by omega] at this
    exact this
end Go.Proofs.YtkoapldkjlfpeaaDoor

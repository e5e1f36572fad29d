/-
  The contract of the document's own Crc: it is the sum. No statement of the seat is proved here.
-/
import Derived.Test.YtbiglickijmmhaaDoorRevM
import Derived.Test.YtbiglickijmmhaaDoorRef
namespace Go.Proofs.YtbiglickijmmhaaDoor
open Go.RowKit

theorem rev_ones : rev 4294967295 = 4294967295 := by decide +kernel
theorem bit_fact (x m : Nat) : ((((x : Int) / 2 ^ m).tmod 2 == 1) : Bool) = decide (x / 2 ^ m % 2 = 1) := by
  have h : (x : Int) / 2 ^ m = ((x / 2 ^ m : Nat) : Int) := by rw [Int.natCast_ediv, Int.natCast_pow]; rfl
  rw [h]
  generalize x / 2 ^ m = q
  rw [Int.tmod_eq_emod_of_nonneg (Int.natCast_nonneg _), Bool.eq_iff_iff, beq_iff_eq, decide_eq_true_iff]
  omega
theorem up_no {t x m : Nat} (hq : (!(decide ((2147483648 : Int) ≤ (t : Int)) == (((x : Int) / 2 ^ m).tmod 2 == 1))) = false) : (t : Int) * 2 % 4294967296 = (up t (x / 2 ^ m % 2) : Int) := by
  rw [bit_fact] at hq
  unfold up
  have h2 : decide ((2147483648 : Int) ≤ (t : Int)) = decide (2147483648 ≤ t) := by rw [decide_eq_decide]; omega
  rw [h2] at hq
  have h3 : (decide (2147483648 ≤ t) != decide (x / 2 ^ m % 2 = 1)) = false := by
    revert hq
    cases decide (2147483648 ≤ t) <;> cases decide (x / 2 ^ m % 2 = 1) <;> simp
  rw [h3]
  simp only [Bool.false_eq_true, if_false, Nat.xor_zero]
  omega
theorem up_yes {t x m : Nat} (ht : t < 2 ^ 32) (hq : (!(decide ((2147483648 : Int) ≤ (t : Int)) == (((x : Int) / 2 ^ m).tmod 2 == 1))) = true) : bits .xor .u32 ((t : Int) * 2 % 4294967296) 79764919 = (up t (x / 2 ^ m % 2) : Int) := by
  rw [bit_fact] at hq
  unfold up
  have h2 : decide ((2147483648 : Int) ≤ (t : Int)) = decide (2147483648 ≤ t) := by rw [decide_eq_decide]; omega
  rw [h2] at hq
  have h3 : (decide (2147483648 ≤ t) != decide (x / 2 ^ m % 2 = 1)) = true := by
    revert hq
    cases decide (2147483648 ≤ t) <;> cases decide (x / 2 ^ m % 2 = 1) <;> simp
  rw [h3, if_pos rfl, show (t : Int) * 2 % 4294967296 = ((t * 2 % 2 ^ 32 : Nat) : Int) by omega]
  exact xor_fact (Nat.mod_lt _ (by decide)) (by decide)
theorem gather_small (t : Nat) {m : Nat} (h : m < 32) : gather m t < 2 ^ 31 := Nat.lt_of_lt_of_le (gather_bit t m).1 (Nat.pow_le_pow_right (by decide) (by omega))

set_option maxHeartbeats 1600000 in
set_option maxRecDepth 100000 in
theorem crc_ref (l : List UInt8) (A : Option Addr) (n c B : Nat) (w : World) (hr : Rd w B A n l) (hn : n ≤ 500000) :
    Calls Tryd.prog 14 #[.slice A n c] w fun e w' => e = .returned (.int .u32 (crc l : Int)) ∧ w = w' := by
  have HR := Lib.hid hr
  clear hr
  go_enter Tryd.func14, Tryd.ntmps14
  go_wp2
  go_loop [3, 4] (fun s i => ∃ k : Nat, k ≤ n ∧ i = .int .i64 (k : Int) ∧ s = .int .u32 (rev (crcRaw 4294967295 (l.take k)) : Int)) (fun _ i => n - (intOf i).toNat)
  case atStart => exact ⟨0, Nat.zero_le _, rfl, by rw [show rev (crcRaw 4294967295 (l.take 0)) = 4294967295 from rev_ones]; rfl⟩
  case round =>
    obtain ⟨k, hk, rfl, rfl⟩ := hrel
    have HS := Lib.hid (crcRaw_lt (l.take k) (s := 4294967295) (by decide))
    by_cases hlt : k < n
    · obtain ⟨b, o, rfl, _, hcell⟩ := HR.out.2 (by omega)
      have hkl : k < l.length := by rw [HR.out.len]; exact hlt
      have hx := hcell k hkl
      have HN : Hid (crcRaw 4294967295 (l.take (k + 1)) = bitIn 8 l[k].toNat (crcRaw 4294967295 (l.take k))) := by
        show _ = _
        rw [List.take_succ_eq_append_getElem hkl, crcRaw_snoc, crcByte_bits]
      have hx8 : l[k].toNat < 256 := l[k].toNat_lt
      clear hcell
      generalize l[k].toNat = x at *
      generalize crcRaw 4294967295 (l.take k) = s at *
      go_wp2
      go_loop [3, 5] (fun t j => ∃ m : Nat, m ≤ 8 ∧ j = .int .u64 (m : Int) ∧ t = .int .u32 (rev (bitIn m x s) : Int)) (fun _ j => 8 - (intOf j).toNat)
      case atStart => exact ⟨0, by omega, rfl, rfl⟩
      case round =>
        obtain ⟨m, hm, rfl, rfl⟩ := hrel
        by_cases hm8 : m < 8
        · have HT := Lib.hid (rev_lt (bitIn m x s))
          have HU : Hid (rev (bitIn (m + 1) x s) = up (rev (bitIn m x s)) (x / 2 ^ m % 2)) := by
            show _ = _
            rw [bitIn_snoc, rev_stp (bitIn_lt m x HS.out) (Nat.mod_lt _ (by decide))]
          generalize rev (bitIn m x s) = t at *
          cases hq : (!(decide ((2147483648 : Int) ≤ (t : Int)) == (((x : Int) / 2 ^ m).tmod 2 == 1)))
          · have HF := Lib.hid (up_no hq)
            go_wp2
            go_round
            case rel => exact ⟨m + 1, by omega, by go_num, by rw [HU.out, HF.out]⟩
            case measure => simp [intOf]; omega
          · have HF := Lib.hid (up_yes HT.out hq)
            go_wp2
            go_round
            case rel => exact ⟨m + 1, by omega, by go_num, by rw [HU.out, HF.out]⟩
            case measure => simp [intOf]; omega
        · have hm88 : m = 8 := by omega
          subst hm88
          go_wp2
          go_round
          case rel => exact ⟨k + 1, by omega, by go_num, by rw [HN.out]⟩
          case measure => simp [intOf]; omega
    · have hke : k = n := by omega
      subst hke
      have E : Hid (crc l = rev (4294967295 - rev (crcRaw 4294967295 (l.take k)))) := by
        show _ = _
        rw [rev_ones_sub HS.out, List.take_of_length_le (by rw [HR.out.len]; omega)]
        rfl
      have HT := Lib.hid (rev_lt (crcRaw 4294967295 (l.take k)))
      generalize rev (crcRaw 4294967295 (l.take k)) = t at *
      obtain ⟨t0, ht0⟩ : ∃ t0 : Nat, 4294967295 - t = t0 := ⟨_, rfl⟩
      have hsub : IntKind.u32.wrap (4294967295 - (t : Int)) = (t0 : Int) := by have := HT.out; rw [IntKind.wrap_u32]; omega
      have hsub2 : (4294967295 - (t : Int)) % 4294967296 = (t0 : Int) := by have := HT.out; omega
      rw [ht0] at E
      have HT0 : Hid (t0 < 2 ^ 32) := by show _ < _; omega
      clear ht0
      go_wp2
      go_loop [3, 7, 8] (fun u g j => ∃ m : Nat, m ≤ 32 ∧ j = .int .i64 (m : Int) ∧ u = .int .u32 ((t0 / 2 ^ m : Nat) : Int) ∧ g = .int .u32 (gather m t0 : Int)) (fun _ _ j => 32 - (intOf j).toNat)
      case atStart => exact ⟨0, by omega, rfl, by simp, rfl⟩
      case round =>
        obtain ⟨m, hm, rfl, rfl, rfl⟩ := hrel
        by_cases hm32 : m < 32
        · have HG : Hid (gather (m + 1) t0 = gather m t0 * 2 + t0 / 2 ^ m % 2) := rfl
          have HD : Hid (t0 / 2 ^ (m + 1) = t0 / 2 ^ m / 2) := by show _ = _; rw [Nat.div_div_eq_div_mul, Nat.pow_succ]
          have HB := Lib.hid (gather_small t0 hm32)
          have HDB : Hid (t0 / 2 ^ m < 2 ^ 32) := Nat.lt_of_le_of_lt (Nat.div_le_self _ _) HT0.out
          generalize t0 / 2 ^ m = d at *
          generalize gather m t0 = g at *
          have F1 : Hid ((d : Int) / 2 % 4294967296 = ((d / 2 : Nat) : Int)) := by show _ = _; have := HDB.out; omega
          have F2 : Hid ((g : Int) * 2 % 4294967296 + (d : Int) % 2 = ((g * 2 + d % 2 : Nat) : Int)) := by show _ = _; have := HB.out; omega
          go_wp2
          go_round
          case rel => exact ⟨m + 1, by omega, by go_num, by rw [F1.out, HD.out], by rw [F2.out, HG.out]⟩
          case measure => simp [intOf]; omega
        · have hm33 : m = 32 := by omega
          subst hm33
          go_wp2
          go_ret
          exact ⟨by rw [E.out, ← gather_rev]; rfl, rfl⟩
end Go.Proofs.YtbiglickijmmhaaDoor

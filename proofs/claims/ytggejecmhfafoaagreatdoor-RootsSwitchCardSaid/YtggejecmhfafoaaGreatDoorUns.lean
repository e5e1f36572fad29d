/-
  The contracts of number and Unseal. No statement of the seat is proved here.
-/
import Derived.Test.YtggejecmhfafoaaGreatDoorFrs
namespace Go.Proofs.YtggejecmhfafoaaGreatDoor
open Go.RowKit

/-- What bytes say, the highest one first, as far as 32 bits hold it. -/
def numB (l : List UInt8) : Nat := l.foldl (fun n x => (n * 256 + x.toNat) % 2 ^ 32) 0
theorem numB_lt (l : List UInt8) : numB l < 2 ^ 32 := by
  rcases List.eq_nil_or_concat l with rfl | ⟨m, x, rfl⟩
  · decide
  · simp only [numB, List.concat_eq_append, List.foldl_append, List.foldl_cons, List.foldl_nil]
    exact Nat.mod_lt _ (by decide)
theorem numB_snoc (l : List UInt8) (x : UInt8) : numB (l ++ [x]) = (numB l * 256 + x.toNat) % 2 ^ 32 := by simp [numB]
theorem or_fact {s x : Nat} (hx : x < 256) : bits .or .u32 ((s : Int) * 256 % 4294967296) (x : Int) = (((s * 256 + x) % 2 ^ 32 : Nat) : Int) := by
  rw [show (s : Int) * 256 % 4294967296 = ((s * 256 % 2 ^ 32 : Nat) : Int) by omega, u32_or_nat _ _ (by omega) (by omega), nat_join 8 _ _ (by omega) (by omega)]
  omega

set_option maxHeartbeats 800000 in
set_option maxRecDepth 100000 in
theorem number_any (l : List UInt8) (A : Option Addr) (n c B : Nat) (w : World) (hr : Rd w B A n l) (hn : n ≤ 500000) :
    Calls Tryz.prog 73 #[.slice A n c] w fun e w' => e = .returned (.int .u32 (numB l : Int)) ∧ w = w' := by
  have HR := Lib.hid hr
  clear hr
  go_enter Tryz.func73, Tryz.ntmps73
  go_wp2
  go_loop [3, 8] (fun s i => ∃ k : Nat, k ≤ n ∧ i = .int .i64 (k : Int) ∧ s = .int .u32 (numB (l.take k) : Int)) (fun _ i => n - (intOf i).toNat)
  case atStart => exact ⟨0, Nat.zero_le _, rfl, rfl⟩
  case round =>
    obtain ⟨k, hk, rfl, rfl⟩ := hrel
    by_cases hlt : k < n
    · obtain ⟨b, o, rfl, _, hcell⟩ := HR.out.2 (by omega)
      have hkl : k < l.length := by rw [HR.out.len]; exact hlt
      have hx := hcell k hkl
      have HN : Hid (numB (l.take (k + 1)) = (numB (l.take k) * 256 + l[k].toNat) % 2 ^ 32) := by
        show _ = _
        rw [List.take_succ_eq_append_getElem hkl, numB_snoc]
      have hx8 : l[k].toNat < 256 := l[k].toNat_lt
      clear hcell
      generalize l[k].toNat = x at *
      generalize numB (l.take k) = s at *
      have HF := Lib.hid (or_fact (s := s) hx8)
      go_wp2
      go_round
      case rel => exact ⟨k + 1, by omega, by go_num, by rw [HF.out, HN.out]⟩
      case measure => simp [intOf]; omega
    · have hke : k = n := by omega
      subst hke
      have E : Hid (numB l = numB (l.take k)) := by
        show _ = _
        rw [List.take_of_length_le (by rw [HR.out.len]; omega)]
      go_wp2
      go_ret
      exact ⟨by rw [E.out]; rfl, rfl⟩


theorem unseal_short (A : Option Addr) (n c : Nat) (w : World) (hn : n < 4) :
    Calls Tryz.prog 64 #[.slice A n c] w fun e w' => e = .returned (.tuple #[.slice none 0 0, .int .i64 11]) ∧ w = w' := by
  go_enter Tryz.func64, Tryz.ntmps64
  go_wp2
  go_ret2
  exact ⟨rfl, rfl⟩

set_option maxHeartbeats 800000 in
set_option maxRecDepth 100000 in
theorem unseal_bad (l : List UInt8) (A : Option Addr) (n c B : Nat) (w : World) (hr : Rd w B A n l) (hc : n ≤ c) (hn : n ≤ 500000) (h4 : 4 ≤ n) (ht : Tab w) (hne : crc (l.take (n - 4)) ≠ numB (l.drop (n - 4))) :
    Calls Tryz.prog 64 #[.slice A n c] w fun e w' => e = .returned (.tuple #[.slice none 0 0, .int .i64 12]) ∧ w = w' := by
  obtain ⟨A1, c1, s1, d1, _⟩ := pre_rule ((n : Int) - 4) (hi := n - 4) (by omega) hr hc (by omega)
  obtain ⟨A2, c2, s2, d2, _⟩ := post_rule ((n : Int) - 4) (p := n - 4) (by omega) hr hc (by omega)
  have C1 := Lib.hid (crc_any _ A1 (n - 4) c1 B w d1 (by omega) ht)
  have C2 := Lib.hid (number_any _ A2 (n - (n - 4)) c2 B w d2 (by omega))
  have hb : (((crc (l.take (n - 4)) : Nat) : Int) != ((numB (l.drop (n - 4)) : Nat) : Int)) = true := by rw [bne_iff_ne]; omega
  clear hr d1 d2 ht hne
  generalize crc (l.take (n - 4)) = x at *
  generalize numB (l.drop (n - 4)) = y at *
  go_enter Tryz.func64, Tryz.ntmps64
  go_wp2_with fail
  refine C1.out.mono ?_
  rintro e w1 ⟨rfl, rfl⟩
  go_wp2_with fail
  refine C2.out.mono ?_
  rintro e w1 ⟨rfl, rfl⟩
  go_wp2_with fail
  go_ret2
  exact ⟨rfl, rfl⟩

set_option maxHeartbeats 800000 in
set_option maxRecDepth 100000 in
theorem unseal_good (l : List UInt8) (A : Option Addr) (n c : Nat) (w : World) (hr : Rd w w.heap.size A n l) (hc : n ≤ c) (hn : n ≤ 500000) (h4 : 4 ≤ n) (ht : Tab w) (heq : crc (l.take (n - 4)) = numB (l.drop (n - 4))) :
    Calls Tryz.prog 64 #[.slice A n c] w fun e w' => ∃ v, e = .returned (.tuple #[v, .int .i64 0]) ∧ Put w.heap.size w (l.take (n - 4)) (.returned v) w' := by
  obtain ⟨A1, c1, s1, d1, _⟩ := pre_rule ((n : Int) - 4) (hi := n - 4) (by omega) hr hc (by omega)
  obtain ⟨A2, c2, s2, d2, _⟩ := post_rule ((n : Int) - 4) (p := n - 4) (by omega) hr hc (by omega)
  have C1 := Lib.hid (crc_any _ A1 (n - 4) c1 _ w d1 (by omega) ht)
  have C2 := Lib.hid (number_any _ A2 (n - (n - 4)) c2 _ w d2 (by omega))
  have C3 := Lib.hid (fresh_any A1 (n - 4) c1 _ w d1 (by omega))
  have hb : (((crc (l.take (n - 4)) : Nat) : Int) != ((numB (l.drop (n - 4)) : Nat) : Int)) = false := by rw [bne_eq_false_iff_eq]; omega
  clear hr d1 d2 ht heq
  generalize crc (l.take (n - 4)) = x at *
  generalize numB (l.drop (n - 4)) = y at *
  go_enter Tryz.func64, Tryz.ntmps64
  go_wp2_with fail
  refine C1.out.mono ?_
  rintro e w1 ⟨rfl, rfl⟩
  go_wp2_with fail
  refine C2.out.mono ?_
  rintro e w1 ⟨rfl, rfl⟩
  go_wp2_with fail
  refine C3.out.mono ?_
  rintro e w1 ⟨v, rfl, ho, hb1⟩
  go_wp2_with fail
  go_ret2
  exact ⟨_, rfl, _, rfl, ho, hb1⟩
end Go.Proofs.YtggejecmhfafoaaGreatDoor

/-
  The contracts of the document's printed and bits. No statement of the seat is proved here.
-/
import Derived.Test.YtgdcjealhbfnaaaDoorRfA
namespace Go.Proofs.YtgdcjealhbfnaaaDoor
open Go.RowKit

/-- The first k digits of the i-th word of a print. -/
def accN (ds : List Nat) (i : Nat) : Nat → Nat
  | 0 => 0
  | k + 1 => accN ds i k * 16 + ds.getD (8 * i + k) 0
theorem accN_lt (ds : List Nat) (i : Nat) (h : ∀ j, ds.getD j 0 < 16) : ∀ k, accN ds i k < 16 ^ k
  | 0 => by simp [accN]
  | k + 1 => by
    have h1 := accN_lt ds i h k
    have h2 := h (8 * i + k)
    rw [accN, Nat.pow_succ]
    omega
set_option maxHeartbeats 800000 in
set_option maxRecDepth 100000 in
theorem printed_any (s : ByteArray) (ds : List Nat) (i : Nat) (w : World) (hd : ∀ j, ds.getD j 0 < 16) (hs : ∀ j, j < 8 * i + 8 → s.data.toList[j]? = some (hexDigit (ds.getD j 0))) (hi : i < 64) :
    Calls Tryd.prog 17 #[.string s, .int .i64 (i : Int)] w fun e w' => e = .returned (.int .u32 (accN ds i 8 : Int)) ∧ w = w' := by
  have HS := Lib.hid hs
  have HD := Lib.hid hd
  clear hs hd
  go_enter Tryd.func17, Tryd.ntmps17
  go_wp2
  go_loop [5, 6] (fun v p => ∃ k : Nat, k ≤ 8 ∧ p = .int .i64 (8 * (i : Int) + (k : Int)) ∧ v = .int .u32 (accN ds i k : Int)) (fun _ p => 8 * i + 8 - (intOf p).toNat)
  case atStart => exact ⟨0, Nat.zero_le _, by simp, rfl⟩
  case round =>
    obtain ⟨k, hk, rfl, rfl⟩ := hrel
    by_cases hlt : k < 8
    · have hy1 : accN ds i k < 268435456 := Nat.lt_of_lt_of_le (accN_lt ds i HD.out k) (Nat.le_trans (Nat.pow_le_pow_right (by omega) (show k ≤ 7 by omega)) (by decide))
      have HT : Unit → accN ds i (k + 1) = accN ds i k * 16 + ds.getD (8 * i + k) 0 := fun _ => rfl
      have hix := fun W => run_index_text W s (8 * i + k) _ (8 * (i : Int) + (k : Int)) (by omega) (HS.out (8 * i + k) (by omega))
      have hd16 := HD.out (8 * i + k)
      have HC := Lib.hid (digit_any (ds.getD (8 * i + k) 0) w hd16)
      generalize ds.getD (8 * i + k) 0 = d at *
      generalize accN ds i k = y at *
      generalize (hexDigit d).toNat = c at *
      go_wp2_with (go_at_call 31; (refine HC.out.mono ?_); rintro e w' ⟨rfl, rfl⟩)
      go_round
      case rel => exact ⟨k + 1, by omega, by go_num, by rw [HT ()]; go_num⟩
      case measure => simp [intOf]; omega
    · have hk8 : Unit → k = 8 := fun _ => by omega
      have hge : decide (8 * (i : Int) + (k : Int) < 8 * (i : Int) + 8) = false := by simp; omega
      go_wp2_with fail
      go_ret
      refine ⟨ret_u32 ?_, rfl⟩
      rw [hk8 ()]
end Go.Proofs.YtgdcjealhbfnaaaDoor

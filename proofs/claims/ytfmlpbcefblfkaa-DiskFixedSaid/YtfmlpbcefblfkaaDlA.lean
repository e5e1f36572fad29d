/-
  The law's own word on a list of errors; bounds. No statement of the seat is proved here.
-/
import Derived.Test.YtfmlpbcefblfkaaDkY
import Derived.Test.YtfmlpbcefblfkaaDkZ
namespace Go.Proofs.Ytfmlpbcefblfkaa
open Go.RowKit Go.Maps Go.Sort

set_option maxRecDepth 100000 in
theorem tells_yes (w : World) (b n c : Nat) (z : Int) (hn : n ≤ 1000) (hc : ∀ j, j < n → w.cell? ⟨b, j, none⟩ = some (.int .i64 z)) :
    Calls Try.prog 6 #[.int .i64 z, .slice (some ⟨b, 0, none⟩) n c] w fun e w' => e = .returned (.bool true) ∧ w = w' := by
  have HC := Lib.hid hc
  clear hc
  go_enter Try.func6, Try.ntmps6
  go_wp2_with fail
  go_loop [9] (fun u => ∃ k : Nat, k ≤ n ∧ u = .int .i64 (k : Int)) (fun u => n - (intOf u).toNat)
  case atStart => exact ⟨0, Nat.zero_le _, rfl⟩
  case round =>
    obtain ⟨k, hk, rfl⟩ := hrel
    by_cases hlt : k < n
    · have hcell := HC.out k hlt
      go_wp2_with fail
      go_round
      case rel => exact ⟨k + 1, by omega, by go_num⟩
      case measure => simp [intOf]; omega
    · have hke : k = n := by omega
      subst hke
      go_wp2_with fail
      go_ret
      exact ⟨rfl, rfl⟩
end Go.Proofs.Ytfmlpbcefblfkaa

/-
  The world at first: two numbers mixed, a cell, as mathematics; what mixes them, what grows. No statement of the seat is proved here.
-/
import Derived.Test.YtjdhbgdpmojobaaDoorItA
import Derived.Deep.CutBlock
import Derived.Deep.RegionHeld3
namespace Go.Proofs.YtjdhbgdpmojobaaDoor
open Go.RowKit Go.Deep

abbrev W64 := BitVec 64
abbrev u64v (x : W64) : Value := .int .u64 (x.toNat : Int)
def mx1 (s n : W64) : W64 := s + (n + 1) * 0x9e3779b97f4a7c15#64
def mx2 (x : W64) : W64 := (x ^^^ x >>> 30) * 0xbf58476d1ce4e5b9#64
def mx3 (x : W64) : W64 := (x ^^^ x >>> 27) * 0x94d049bb133111eb#64
def mx4 (x : W64) : W64 := x ^^^ x >>> 31
/-- Two numbers mixed. -/
def mixB (s n : W64) : W64 := mx4 (mx3 (mx2 (mx1 s n)))
/-- What stands upon the ground. -/
def growN (m : Nat) : Nat := if m % 11 = 0 then 4 else if m % 11 = 1 then 3 else 0
def hgtN (s : W64) (X : Nat) : Nat := 40 + (mixB s (BitVec.ofNat 64 (100000 + X))).toNat % 32
/-- A cell, of its height and what is mixed of its place. -/
def celN (h m y : Nat) : Nat := if y + 1 = h then growN m else if y < h then 0 else if y < h + 3 then 1 else if m % 7 = 0 then 7 else 2
def cellN (s : W64) (x y : Nat) : Nat := celN (hgtN s (x / 8)) (mixB s (BitVec.ofNat 64 (y * 128 + x))).toNat y
/-- A cell at first. -/
def cellZ (s : W64) (x y : Int) : Nat := if 0 ≤ x ∧ x < 128 ∧ 0 ≤ y ∧ y < 128 then cellN s x.toNat y.toNat else 0
theorem hgt_in (s : W64) (X : Nat) : 40 ≤ hgtN s X ∧ hgtN s X ≤ 71 := by unfold hgtN; omega
theorem grow_in (m : Nat) : growN m = 4 ∨ growN m = 3 ∨ growN m = 0 := by
  unfold growN
  split
  · exact .inl rfl
  · split
    · exact .inr (.inl rfl)
    · exact .inr (.inr rfl)
theorem cel_lt (h m y : Nat) : celN h m y < 8 := by
  unfold celN
  have := grow_in m
  repeat' split
  all_goals omega
theorem cellN_lt (s : W64) (x y : Nat) : cellN s x y < 8 := cel_lt _ _ _
theorem cellZ_lt (s : W64) (x y : Int) : cellZ s x y < 8 := by
  unfold cellZ
  split
  · exact cellN_lt _ _ _
  · decide
section
variable (x y : W64)
theorem add_w : IntKind.u64.wrap ((x.toNat : Int) + (y.toNat : Int)) = ((x + y).toNat : Int) := by
  rw [BitVec.toNat_add, IntKind.wrap_u64]
  omega
theorem sub_w : IntKind.u64.wrap ((x.toNat : Int) - (y.toNat : Int)) = ((x - y).toNat : Int) := by
  rw [BitVec.toNat_sub, IntKind.wrap_u64]
  have := x.isLt
  have := y.isLt
  omega
theorem mul_w : IntKind.u64.wrap ((x.toNat : Int) * (y.toNat : Int)) = ((x * y).toNat : Int) := by
  rw [BitVec.toNat_mul, IntKind.wrap_u64]
  simp
theorem xor_w : bits .xor .u64 (x.toNat : Int) (y.toNat : Int) = ((x ^^^ y).toNat : Int) := by
  rw [u64_xor_nat _ _ x.isLt y.isLt, BitVec.toNat_xor]
theorem shr_w (k : Nat) : (x.toNat : Int) / 2 ^ k = ((x >>> k).toNat : Int) := by
  rw [BitVec.toNat_ushiftRight, Nat.shiftRight_eq_div_pow]; simp
end
section
variable {w w' : World}
def zx1 (s n : Int) : Int := IntKind.u64.wrap (s + IntKind.u64.wrap ((n + 1) % 18446744073709551616 * 11400714819323198485))
def zx2 (x : Int) : Int := IntKind.u64.wrap (bits .xor .u64 x (x / 1073741824) * 13787848793156543929)
def zx3 (x : Int) : Int := IntKind.u64.wrap (bits .xor .u64 x (x / 134217728) * 10723151780598845931)
def zx4 (x : Int) : Int := bits .xor .u64 x (x / 2147483648)
theorem zx1_w (s n : W64) : zx1 s.toNat n.toNat = ((mx1 s n).toNat : Int) := by
  have e1 : ((n.toNat : Int) + 1) % 18446744073709551616 = ((n + 1).toNat : Int) := (IntKind.wrap_u64 _).symm.trans (add_w n 1#64)
  have e2 : IntKind.u64.wrap (((n + 1).toNat : Int) * 11400714819323198485) = _ := mul_w (n + 1) 0x9e3779b97f4a7c15#64
  unfold zx1
  rw [e1, e2, add_w]
  rfl
theorem zx2_w (x : W64) : zx2 x.toNat = ((mx2 x).toNat : Int) := by
  have e1 : (x.toNat : Int) / 1073741824 = _ := shr_w x 30
  have e2 : IntKind.u64.wrap (((x ^^^ x >>> 30).toNat : Int) * 13787848793156543929) = _ := mul_w (x ^^^ x >>> 30) 0xbf58476d1ce4e5b9#64
  unfold zx2
  rw [e1, xor_w, e2]
  rfl
theorem zx3_w (x : W64) : zx3 x.toNat = ((mx3 x).toNat : Int) := by
  have e1 : (x.toNat : Int) / 134217728 = _ := shr_w x 27
  have e2 : IntKind.u64.wrap (((x ^^^ x >>> 27).toNat : Int) * 10723151780598845931) = _ := mul_w (x ^^^ x >>> 27) 0x94d049bb133111eb#64
  unfold zx3
  rw [e1, xor_w, e2]
  rfl
theorem zx4_w (x : W64) : zx4 x.toNat = ((mx4 x).toNat : Int) := by
  have e1 : (x.toNat : Int) / 2147483648 = _ := shr_w x 31
  unfold zx4
  rw [e1, xor_w]
  rfl
theorem zx_w (s n : W64) : zx4 (zx3 (zx2 (zx1 s.toNat n.toNat))) = ((mixB s n).toNat : Int) := by
  rw [zx1_w, zx2_w, zx3_w, zx4_w]
  rfl
set_option maxRecDepth 100000 in
theorem mix_any (s n : W64) (w : World) : Calls Tryd.prog 82 #[u64v s, u64v n] w fun e w' => e = .returned (u64v (mixB s n)) ∧ w' = w := by
  unfold u64v
  rw [← zx_w]
  obtain ⟨a, ha⟩ : ∃ a : Int, (s.toNat : Int) = a := ⟨_, rfl⟩
  obtain ⟨b, hb⟩ : ∃ b : Int, (n.toNat : Int) = b := ⟨_, rfl⟩
  rw [ha, hb]
  go_enter Tryd.func82, Tryd.ntmps82
  go_wp2_with fail
  go_ret
  exact ⟨rfl, rfl⟩
set_option maxRecDepth 100000 in
theorem gwithin_any (x : Int) (n : Int) (w : World) : Calls Tryd.prog 45 #[.int .i64 x, .int .i64 n] w fun e w' => e = .returned (.bool (decide (0 ≤ x ∧ x < n))) ∧ w' = w := by
  by_cases h0 : 0 ≤ x
  · have h0' : x ≥ 0 := h0
    by_cases h1 : x < n
    · have e : decide (0 ≤ x ∧ x < n) = true := decide_eq_true ⟨h0, h1⟩
      rw [e]
      go_enter Tryd.func45, Tryd.ntmps45
      go_wp2_with fail
      go_ret
      exact ⟨rfl, rfl⟩
    · have e : decide (0 ≤ x ∧ x < n) = false := decide_eq_false (fun h => h1 h.2)
      rw [e]
      go_enter Tryd.func45, Tryd.ntmps45
      go_wp2_with fail
      go_ret
      exact ⟨rfl, rfl⟩
  · have e : decide (0 ≤ x ∧ x < n) = false := decide_eq_false (fun h => h0 h.1)
    have h0' : ¬ x ≥ 0 := h0
    rw [e]
    go_enter Tryd.func45, Tryd.ntmps45
    go_wp2_with fail
    go_ret
    exact ⟨rfl, rfl⟩
set_option maxRecDepth 100000 in
theorem growth_any (m : W64) (w : World) : Calls Tryd.prog 84 #[u64v m] w fun e w' => e = .returned (.int .u8 (growN m.toNat : Int)) ∧ w' = w := by
  unfold u64v growN
  have hm := m.isLt
  generalize m.toNat = a at *
  have hw : IntKind.u64.wrap ((a : Int).tmod 11) = ((a % 11 : Nat) : Int) := by
    rw [Int.tmod_eq_emod_of_nonneg (by omega), IntWalk.u64_in _ (by omega)]; omega
  by_cases h0 : a % 11 = 0
  · rw [if_pos h0]
    rw [h0] at hw
    go_enter Tryd.func84, Tryd.ntmps84
    go_wp2_with fail
    go_ret
    exact ⟨rfl, rfl⟩
  · rw [if_neg h0]
    have q0 : ((a % 11 : Nat) : Int) ≠ 0 := by omega
    by_cases h1 : a % 11 = 1
    · rw [if_pos h1]
      rw [h1] at hw
      go_enter Tryd.func84, Tryd.ntmps84
      go_wp2_with fail
      go_ret
      exact ⟨rfl, rfl⟩
    · rw [if_neg h1]
      have q1 : ((a % 11 : Nat) : Int) ≠ 1 := by omega
      generalize ((a % 11 : Nat) : Int) = r at *
      go_enter Tryd.func84, Tryd.ntmps84
      go_wp2_with fail
      go_ret
      exact ⟨rfl, rfl⟩
end
end Go.Proofs.YtjdhbgdpmojobaaDoor

/-
  Mixing turned back: the walk of GenMixes. No statement of the seat is proved here.
-/
import Derived.Test.YtcoednijggoeiaaGnE
namespace Go.Proofs.Ytcoednijggoeiaa
open Go.RowKit Go.Deep

/-- What the law's rounds make of a number. -/
def bkB (x : W64) (k : Nat) : Nat → W64
  | 0 => x
  | n + 1 => x ^^^ (bkB x k n) >>> k
def unB (k : W64) : Nat → W64
  | 0 => k
  | n + 1 => unB k n * (2 - k * unB k n)
theorem bk_back (a : W64) (k : Nat) (hk : 22 ≤ k) : bkB (a ^^^ a >>> k) k 3 = a := by
  show (a ^^^ a >>> k) ^^^ ((a ^^^ a >>> k) ^^^ ((a ^^^ a >>> k) ^^^ (a ^^^ a >>> k) >>> k) >>> k) >>> k = a
  apply BitVec.eq_of_getLsbD_eq
  intro i hi
  simp only [BitVec.getLsbD_xor, BitVec.getLsbD_ushiftRight]
  have h3 : a.getLsbD (k + (k + (k + i))) = false := BitVec.getLsbD_of_ge _ _ (by omega)
  have h4 : a.getLsbD (k + (k + (k + (k + i)))) = false := BitVec.getLsbD_of_ge _ _ (by omega)
  rw [h3, h4]
  cases a.getLsbD i <;> cases a.getLsbD (k + i) <;> cases a.getLsbD (k + (k + i)) <;> rfl
theorem inv1 : (0x94d049bb133111eb#64 : W64) * unB 0x94d049bb133111eb#64 6 = 1#64 := by decide +kernel
theorem inv2 : (0xbf58476d1ce4e5b9#64 : W64) * unB 0xbf58476d1ce4e5b9#64 6 = 1#64 := by decide +kernel
theorem inv3 : (0x9e3779b97f4a7c15#64 : W64) * unB 0x9e3779b97f4a7c15#64 6 = 1#64 := by decide +kernel
/-- Step by step back. -/
def tb1 (x : W64) : W64 := bkB x 31 3 * unB 0x94d049bb133111eb#64 6
def tb2 (x : W64) : W64 := bkB x 27 3 * unB 0xbf58476d1ce4e5b9#64 6
def tb3 (x : W64) : W64 := bkB x 30 3
def tb4 (s x : W64) : W64 := (x - s) * unB 0x9e3779b97f4a7c15#64 6 - 1
theorem tb1_is (z : W64) : tb1 (mx4 (mx3 z)) = z ^^^ z >>> 27 := by
  unfold tb1 mx4
  rw [bk_back _ 31 (by decide)]
  unfold mx3
  rw [BitVec.mul_assoc, inv1, BitVec.mul_one]
theorem tb2_is (z : W64) : tb2 (mx2 z ^^^ mx2 z >>> 27) = z ^^^ z >>> 30 := by
  unfold tb2
  rw [bk_back _ 27 (by decide)]
  unfold mx2
  rw [BitVec.mul_assoc, inv2, BitVec.mul_one]
theorem tb3_is (z : W64) : tb3 (z ^^^ z >>> 30) = z := bk_back _ 30 (by decide)
theorem tb4_is (s n : W64) : tb4 s (mx1 s n) = n := by
  unfold tb4 mx1
  rw [BitVec.add_comm s, BitVec.add_sub_cancel, BitVec.mul_assoc, inv3, BitVec.mul_one]
  exact BitVec.add_sub_cancel _ _
theorem mix_back (s n : W64) : tb4 s (tb3 (tb2 (tb1 (mixB s n)))) = n := by
  unfold mixB
  rw [tb1_is, tb2_is, tb3_is, tb4_is]
theorem mix_inj {s n m : W64} (h : mixB s n = mixB s m) : n = m := by
  have h1 := mix_back s n
  rw [h, mix_back] at h1
  exact h1.symm
section
variable {w w' : World}
set_option maxRecDepth 100000 in
theorem back_any (x : W64) (k : Nat) (h : 22 ≤ k ∧ k < 32) (w : World) : Calls Try.prog 15 #[u64v x, .int .i64 (k : Int)] w fun e w' => e = .returned (u64v (bkB x k 3)) ∧ w' = w := by
  have hq : ((64 : Int).tdiv (k : Int)) = 2 := by
    rw [Int.tdiv_eq_ediv_of_nonneg (by omega)]
    have : (64 : Nat) / k = 2 := by
      have h1 : 2 ≤ 64 / k := (Nat.le_div_iff_mul_le (by omega)).2 (by omega)
      have h2 : 64 / k < 3 := (Nat.div_lt_iff_lt_mul (by omega)).2 (by omega)
      omega
    exact_mod_cast this
  have hk0 : (k : Int) ≠ 0 := by omega
  have hk1 : ¬ (k : Int) < 0 := by omega
  unfold u64v
  go_enter Try.func15, Try.ntmps15
  go_wp2_with fail
  go_loopw [5, 10] (fun v5 v10 wr => ∃ j : Nat, j ≤ 3 ∧ v10 = .int .i64 (j : Int) ∧ v5 = .int .u64 ((bkB x k j).toNat : Int) ∧ wr = w) (fun _ v10 _ => 3 - (intOf v10).toNat)
  case atStart => exact ⟨0, by omega, rfl, rfl, rfl⟩
  case round =>
    obtain ⟨j, hj, rfl, rfl, rfl⟩ := hrel
    by_cases hlt : j < 3
    · have hwj : IntKind.i64.wrap ((j : Int) + 1) = ((j + 1 : Nat) : Int) := by
        rw [show ((j : Int) + 1) = ((j + 1 : Nat) : Int) by omega]
        exact IntWalk.i64_in _ (by omega)
      have e1 := shr_w (bkB x k j) k
      have e2 := xor_w x (bkB x k j >>> k)
      rw [← e1] at e2
      go_wp2_with fail
      go_roundw
      case rel => exact ⟨j + 1, by omega, by go_num, by rw [show bkB x k (j + 1) = x ^^^ (bkB x k j) >>> k from rfl, ← e2, Int.shiftRight_eq_div_pow]; rfl, by first | rfl | trivial⟩
      case measure => simp [intOf]; omega
    · have hj3 : j = 3 := by omega
      subst hj3
      go_wp2_with fail
      go_ret
      exact ⟨rfl, rfl⟩
set_option maxRecDepth 100000 in
theorem undone_any (k : W64) (w : World) : Calls Try.prog 16 #[u64v k] w fun e w' => e = .returned (u64v (unB k 6)) ∧ w' = w := by
  unfold u64v
  go_enter Try.func16, Try.ntmps16
  go_wp2_with fail
  go_loopw [3, 5] (fun v3 v5 wr => ∃ j : Nat, j ≤ 6 ∧ v5 = .int .i64 (j : Int) ∧ v3 = .int .u64 ((unB k j).toNat : Int) ∧ wr = w) (fun _ v5 _ => 6 - (intOf v5).toNat)
  case atStart => exact ⟨0, by omega, rfl, rfl, rfl⟩
  case round =>
    obtain ⟨j, hj, rfl, rfl, rfl⟩ := hrel
    by_cases hlt : j < 6
    · have hwj : IntKind.i64.wrap ((j : Int) + 1) = ((j + 1 : Nat) : Int) := by
        rw [show ((j : Int) + 1) = ((j + 1 : Nat) : Int) by omega]
        exact IntWalk.i64_in _ (by omega)
      have e1 := mul_w k (unB k j)
      have e2 : IntKind.u64.wrap (2 - ((k * unB k j).toNat : Int)) = ((2 - k * unB k j).toNat : Int) := sub_w 2#64 (k * unB k j)
      have e3 := mul_w (unB k j) (2 - k * unB k j)
      have e4 : unB k (j + 1) = unB k j * (2 - k * unB k j) := rfl
      rw [← e4] at e3
      clear e4
      obtain ⟨z, hz⟩ : ∃ z, unB k (j + 1) = z := ⟨_, rfl⟩
      have HZ := Lib.hid hz
      rw [hz] at e3
      clear hz
      generalize (2 - k * unB k j) = y at *
      generalize k * unB k j = x at *
      go_wp2_with fail
      go_roundw
      case rel => exact ⟨j + 1, by omega, by go_num, by rw [HZ.out], by first | rfl | trivial⟩
      case measure => simp [intOf]; omega
    · have hj3 : j = 6 := by omega
      subst hj3
      go_wp2_with fail
      go_ret
      exact ⟨rfl, rfl⟩
set_option maxRecDepth 100000 in
set_option maxHeartbeats 1600000 in
theorem mixes_walk (s n o : W64) (w : World) : Calls Try.prog 4 #[u64v s, u64v n, u64v o] w fun e w' => e = .returned (.bool true) ∧ Fr No w w' := by
  have HM := Lib.hid (fun m W => mix_any s m W)
  have HAW := Lib.hid (fun W => gawake_any W)
  have HB := Lib.hid (fun k hk x W => back_any x k hk W)
  have U1 : Hid (∀ W, Calls Try.prog 16 #[.int .u64 10723151780598845931] W fun e w' => e = .returned (u64v (unB 0x94d049bb133111eb#64 6)) ∧ w' = W) := Lib.hid (fun W => undone_any 0x94d049bb133111eb#64 W)
  have U2 : Hid (∀ W, Calls Try.prog 16 #[.int .u64 13787848793156543929] W fun e w' => e = .returned (u64v (unB 0xbf58476d1ce4e5b9#64 6)) ∧ w' = W) := Lib.hid (fun W => undone_any 0xbf58476d1ce4e5b9#64 W)
  have U3 : Hid (∀ W, Calls Try.prog 16 #[.int .u64 11400714819323198485] W fun e w' => e = .returned (u64v (unB 0x9e3779b97f4a7c15#64 6)) ∧ w' = W) := Lib.hid (fun W => undone_any 0x9e3779b97f4a7c15#64 W)
  have hback := mix_back s n
  have hne : o.toNat ≠ n.toNat → (mixB s o).toNat ≠ (mixB s n).toNat := fun h e => h (congrArg BitVec.toNat (mix_inj (BitVec.eq_of_toNat_eq e)))
  have m1 := mul_w (bkB (mixB s n) 31 3) (unB 0x94d049bb133111eb#64 6)
  have m2 := mul_w (bkB (tb1 (mixB s n)) 27 3) (unB 0xbf58476d1ce4e5b9#64 6)
  have m3 := sub_w (tb3 (tb2 (tb1 (mixB s n)))) s
  have m4 := mul_w (tb3 (tb2 (tb1 (mixB s n))) - s) (unB 0x9e3779b97f4a7c15#64 6)
  have m5 : IntKind.u64.wrap ((((tb3 (tb2 (tb1 (mixB s n))) - s) * unB 0x9e3779b97f4a7c15#64 6).toNat : Int) - 1) = _ := sub_w ((tb3 (tb2 (tb1 (mixB s n))) - s) * unB 0x9e3779b97f4a7c15#64 6) 1#64
  rw [show (tb3 (tb2 (tb1 (mixB s n))) - s) * unB 0x9e3779b97f4a7c15#64 6 - 1#64 = tb4 s (tb3 (tb2 (tb1 (mixB s n)))) from rfl, hback] at m5
  rw [show bkB (mixB s n) 31 3 * unB 0x94d049bb133111eb#64 6 = tb1 (mixB s n) from rfl] at m1
  rw [show bkB (tb1 (mixB s n)) 27 3 * unB 0xbf58476d1ce4e5b9#64 6 = tb2 (tb1 (mixB s n)) from rfl] at m2
  have B1 := Lib.hid (fun W => HB.out 31 (by decide) (mixB s n) W)
  have B2 := Lib.hid (fun W => HB.out 27 (by decide) (tb1 (mixB s n)) W)
  have B3 := Lib.hid (fun W => HB.out 30 (by decide) (tb2 (tb1 (mixB s n))) W)
  have e3 : bkB (tb2 (tb1 (mixB s n))) 30 3 = tb3 (tb2 (tb1 (mixB s n))) := rfl
  rw [e3] at B3
  clear HB hback e3
  generalize (tb3 (tb2 (tb1 (mixB s n))) - s) * unB 0x9e3779b97f4a7c15#64 6 = x5 at *
  generalize tb3 (tb2 (tb1 (mixB s n))) - s = x4 at *
  generalize tb3 (tb2 (tb1 (mixB s n))) = x3 at *
  generalize bkB (tb1 (mixB s n)) 27 3 = b2 at *
  generalize tb2 (tb1 (mixB s n)) = x2 at *
  generalize bkB (mixB s n) 31 3 = b1 at *
  generalize tb1 (mixB s n) = x1 at *
  generalize unB 0x94d049bb133111eb#64 6 = u1 at *
  generalize unB 0xbf58476d1ce4e5b9#64 6 = u2 at *
  generalize unB 0x9e3779b97f4a7c15#64 6 = u3 at *
  unfold u64v at *
  have M1 := Lib.hid (fun W => HM.out n W)
  have M2 := Lib.hid (fun W => HM.out o W)
  clear HM
  generalize mixB s n = z at *
  generalize mixB s o = zo at *
  have hfin : ∀ w', Fr No w w' → True := fun _ _ => trivial
  clear hfin
  by_cases ho : o.toNat = n.toNat
  · have q0 : (n.toNat : Int) = (o.toNat : Int) := by omega
    rw [← ho] at m5 M1 ⊢
    clear hne q0 ho
    go_enter Try.func4, Try.ntmps4
    go_wp2_with fail
    refine (M1.out _).mono ?_
    rintro e w1 ⟨rfl, rfl⟩
    go_wp2_with fail
    refine (B1.out _).mono ?_
    rintro e w1 ⟨rfl, rfl⟩
    go_wp2_with fail
    refine (U1.out _).mono ?_
    rintro e w1 ⟨rfl, rfl⟩
    go_wp2_with fail
    refine (B2.out _).mono ?_
    rintro e w1 ⟨rfl, rfl⟩
    go_wp2_with fail
    refine (U2.out _).mono ?_
    rintro e w1 ⟨rfl, rfl⟩
    go_wp2_with fail
    refine (B3.out _).mono ?_
    rintro e w1 ⟨rfl, rfl⟩
    go_wp2_with fail
    refine (U3.out _).mono ?_
    rintro e w1 ⟨rfl, rfl⟩
    go_wp2_with fail
    refine (HAW.out _).mono ?_
    rintro e w1 ⟨rfl, hf⟩
    go_wp2_with fail
    go_ret
    exact ⟨rfl, hf⟩
  · have q0 : (n.toNat : Int) ≠ (o.toNat : Int) := by omega
    have q1 : (zo.toNat : Int) ≠ (z.toNat : Int) := by have := hne ho; omega
    clear hne ho
    obtain ⟨zi, hzi⟩ : ∃ zi : Int, (z.toNat : Int) = zi := ⟨_, rfl⟩
    obtain ⟨oi, hoi⟩ : ∃ oi : Int, (zo.toNat : Int) = oi := ⟨_, rfl⟩
    obtain ⟨ni, hni⟩ : ∃ ni : Int, (n.toNat : Int) = ni := ⟨_, rfl⟩
    obtain ⟨mi, hmi⟩ : ∃ mi : Int, (o.toNat : Int) = mi := ⟨_, rfl⟩
    rw [hni] at q0 m5 M1 ⊢
    rw [hmi] at q0 M2 ⊢
    rw [hzi] at q1 M1 B1
    rw [hoi] at q1 M2
    clear hzi hoi hni hmi
    have q2 : (oi == zi) = false := by rw [beq_eq_false_iff_ne]; exact q1
    have q3 : (ni != mi) = true := by rw [bne_iff_ne]; exact q0
    go_enter Try.func4, Try.ntmps4
    go_wp2_with fail
    refine (M1.out _).mono ?_
    rintro e w1 ⟨rfl, rfl⟩
    go_wp2_with fail
    refine (M2.out _).mono ?_
    rintro e w1 ⟨rfl, rfl⟩
    go_wp2_with fail
    refine (B1.out _).mono ?_
    rintro e w1 ⟨rfl, rfl⟩
    go_wp2_with fail
    refine (U1.out _).mono ?_
    rintro e w1 ⟨rfl, rfl⟩
    go_wp2_with fail
    refine (B2.out _).mono ?_
    rintro e w1 ⟨rfl, rfl⟩
    go_wp2_with fail
    refine (U2.out _).mono ?_
    rintro e w1 ⟨rfl, rfl⟩
    go_wp2_with fail
    refine (B3.out _).mono ?_
    rintro e w1 ⟨rfl, rfl⟩
    go_wp2_with fail
    refine (U3.out _).mono ?_
    rintro e w1 ⟨rfl, rfl⟩
    go_wp2_with fail
    refine (HAW.out _).mono ?_
    rintro e w1 ⟨rfl, hf⟩
    go_wp2_with fail
    go_ret
    exact ⟨rfl, hf⟩
theorem mixes_call {a b c : Int} (w : World) (ha : 0 ≤ a) (ha' : a ≤ 18446744073709551615) (hb : 0 ≤ b) (hb' : b ≤ 18446744073709551615) (hc : 0 ≤ c) (hc' : c ≤ 18446744073709551615) :
    Calls Try.prog 4 #[.int .u64 a, .int .u64 b, .int .u64 c] w fun e w' => e = .returned (.bool true) ∧ Below w.heap.size w w' := by
  obtain ⟨x, rfl⟩ := w64_of ha ha'
  obtain ⟨y, rfl⟩ := w64_of hb hb'
  obtain ⟨z, rfl⟩ := w64_of hc hc'
  exact (mixes_walk x y z w).mono (fun e w' h => ⟨h.1, h.2.noBelow⟩)
end
end Go.Proofs.Ytcoednijggoeiaa

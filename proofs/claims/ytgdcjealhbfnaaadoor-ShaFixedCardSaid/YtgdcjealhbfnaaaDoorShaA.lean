/-
  The contracts of the small functions of layer 2: words turned and moved, a word out of four bytes, where a seat is. No statement of the seat is proved here.
-/
import Derived.Test.YtgdcjealhbfnaaaDoorCat
import Derived.Test.YtgdcjealhbfnaaaDoorShaM
import Derived.Deep.QuietTactic
import Derived.BigQuiet
namespace Go.Proofs.YtgdcjealhbfnaaaDoor
open Go.RowKit

/-- A word as a value. -/
abbrev u32v (x : BitVec 32) : Value := .int .u32 (x.toNat : Int)
set_option maxRecDepth 100000 in
theorem and31 : ∀ i : Fin 32, 1 ≤ i.val → bits .and .u64 (IntKind.u64.wrap (-(i.val : Int))) 31 = 32 - (i.val : Int) := by decide +kernel
set_option maxRecDepth 100000 in
theorem rot_eq (x : BitVec 32) (i : Nat) (h2 : i < 32) : bits .or .u32 ((x.toNat : Int) * 2 ^ (32 - i) % 4294967296) ((x.toNat : Int) / 2 ^ (32 - (32 - i))) = ((rotr x i).toNat : Int) := by
  have hx : x.toNat < 4294967296 := x.isLt
  have e1 : (x.toNat : Int) * 2 ^ (32 - i) % 4294967296 = ((x.toNat * 2 ^ (32 - i) % 4294967296 : Nat) : Int) := by simp
  have e2 : (x.toNat : Int) / 2 ^ (32 - (32 - i)) = ((x.toNat / 2 ^ i : Nat) : Int) := by
    rw [show 32 - (32 - i) = i by omega]; simp
  rw [e1, e2, u32_or_nat _ _ (Nat.mod_lt _ (by decide)) (Nat.lt_of_le_of_lt (Nat.div_le_self _ _) hx)]
  congr 1
  simp [rotr, BitVec.toNat_or, Nat.shiftLeft_eq, Nat.shiftRight_eq_div_pow]

set_option maxRecDepth 100000 in
theorem rot_any (x : BitVec 32) (i : Nat) (w : World) (h1 : 1 ≤ i) (h2 : i < 32) :
    Calls Tryd.prog 36 #[u32v x, .int .i64 (-(i : Int))] w fun e w' => e = .returned (u32v (rotr x i)) ∧ w = w' := by
  have e1 := and31 ⟨i, h2⟩ h1
  simp only at e1
  have hx : x.toNat < 4294967296 := x.isLt
  have E := Lib.hid (rot_eq x i h2)
  unfold u32v
  go_enter Tryd.func36, Tryd.ntmps36
  go_wp2
  go_ret
  refine ⟨?_, rfl⟩
  rw [← E.out]
  rfl

set_option maxRecDepth 100000 in
theorem xor_words (x y : BitVec 32) : bits .xor .u32 (x.toNat : Int) (y.toNat : Int) = ((x ^^^ y).toNat : Int) := by
  rw [u32_xor_nat _ _ x.isLt y.isLt, BitVec.toNat_xor]

set_option maxRecDepth 100000 in
theorem xor3_words (x y z : BitVec 32) : bits .xor .u32 (bits .xor .u32 (x.toNat : Int) (y.toNat : Int)) (z.toNat : Int) = ((x ^^^ y ^^^ z).toNat : Int) := by
  rw [xor_words, xor_words]
set_option maxRecDepth 100000 in
theorem shr_word (x : BitVec 32) (k : Nat) : (x.toNat : Int) / 2 ^ k = ((x >>> k).toNat : Int) := by
  rw [BitVec.toNat_ushiftRight, Nat.shiftRight_eq_div_pow]; simp
set_option maxRecDepth 100000 in
/-- A call that leaves the world as it was, within a region that only reads. -/
theorem quiet_eq {f : FuncId} {args : Array Value} {w : World} {n : Nat} {v : Value} (h : Calls Tryd.prog f args (w.drewN n) fun e w' => e = .returned v ∧ w.drewN n = w') :
    Calls Tryd.prog f args (w.drewN n) fun e w'' => e = .returned v ∧ ∃ m, w'' = w.drewN m :=
  h.mono fun _ _ ⟨he, hm⟩ => ⟨he, n, hm.symm⟩

set_option maxRecDepth 100000 in
theorem turned_any (x : BitVec 32) (i j k : Nat) (w : World) (hi : 1 ≤ i ∧ i < 32) (hj : 1 ≤ j ∧ j < 32) (hk : 1 ≤ k ∧ k < 32) :
    Calls Tryd.prog 30 #[u32v x, .int .i64 (i : Int), .int .i64 (j : Int), .int .i64 (k : Int)] w fun e w' => e = .returned (u32v (sR x i j k)) ∧ w = w' := by
  have C1 := Lib.hid (rot_any x i w hi.1 hi.2)
  have C2 := Lib.hid (rot_any x j w hj.1 hj.2)
  have C3 := Lib.hid (rot_any x k w hk.1 hk.2)
  have E := Lib.hid (xor3_words (rotr x i) (rotr x j) (rotr x k))
  obtain ⟨hi1, hi2⟩ := hi
  obtain ⟨hj1, hj2⟩ := hj
  obtain ⟨hk1, hk2⟩ := hk
  go_enter Tryd.func30, Tryd.ntmps30
  go_wp2_with fail
  refine C1.out.mono ?_
  rintro e w1 ⟨rfl, rfl⟩
  go_wp2_with fail
  refine C2.out.mono ?_
  rintro e w1 ⟨rfl, rfl⟩
  go_wp2_with fail
  refine C3.out.mono ?_
  rintro e w1 ⟨rfl, rfl⟩
  go_wp2_with fail
  go_ret
  exact ⟨congrArg (fun z => Ending.returned (.int .u32 z)) E.out, rfl⟩

set_option maxRecDepth 100000 in
theorem moved_any (x : BitVec 32) (i j k : Nat) (w : World) (hi : 1 ≤ i ∧ i < 32) (hj : 1 ≤ j ∧ j < 32) (hk : 1 ≤ k ∧ k < 32) :
    Calls Tryd.prog 35 #[u32v x, .int .i64 (i : Int), .int .i64 (j : Int), .int .i64 (k : Int)] w fun e w' => e = .returned (u32v (sN x i j k)) ∧ ∃ n, w' = w.drewN n := by
  have C := fun (j : Nat) (h : 1 ≤ j ∧ j < 32) W => rot_any x j W h.1 h.2
  have E := Lib.hid (xor3_words (rotr x i) (rotr x j) (x >>> k))
  have E2 := Lib.hid (shr_word x k)
  have hx : x.toNat < 4294967296 := x.isLt
  obtain ⟨hi1, hi2⟩ := hi
  obtain ⟨hj1, hj2⟩ := hj
  obtain ⟨hk1, hk2⟩ := hk
  go_enter Tryd.func35, Tryd.ntmps35
  go_wp2
  go_quiet ((go_at_call 36; exact quiet_eq (C _ (by omega) _)))
  go_wp2
  go_ret
  refine ⟨congrArg (fun z => Ending.returned (.int .u32 z)) ?_, nq, rfl⟩
  rw [sN, ← E.out, E2.out]

set_option maxRecDepth 100000 in
theorem moved_a (x : BitVec 32) (w : World) : Calls Tryd.prog 35 #[.int .u32 (x.toNat : Int), .int .i64 7, .int .i64 18, .int .i64 3] w fun e w' => e = .returned (.int .u32 ((sN x 7 18 3).toNat : Int)) ∧ ∃ n, w' = w.drewN n :=
  moved_any x 7 18 3 w (by decide) (by decide) (by decide)
set_option maxRecDepth 100000 in
theorem moved_b (x : BitVec 32) (w : World) : Calls Tryd.prog 35 #[.int .u32 (x.toNat : Int), .int .i64 17, .int .i64 19, .int .i64 10] w fun e w' => e = .returned (.int .u32 ((sN x 17 19 10).toNat : Int)) ∧ ∃ n, w' = w.drewN n :=
  moved_any x 17 19 10 w (by decide) (by decide) (by decide)
set_option maxRecDepth 100000 in
theorem turned_a (x : BitVec 32) (w : World) : Calls Tryd.prog 30 #[.int .u32 (x.toNat : Int), .int .i64 6, .int .i64 11, .int .i64 25] w fun e w' => e = .returned (.int .u32 ((sR x 6 11 25).toNat : Int)) ∧ w = w' :=
  turned_any x 6 11 25 w (by decide) (by decide) (by decide)
set_option maxRecDepth 100000 in
theorem turned_b (x : BitVec 32) (w : World) : Calls Tryd.prog 30 #[.int .u32 (x.toNat : Int), .int .i64 2, .int .i64 13, .int .i64 22] w fun e w' => e = .returned (.int .u32 ((sR x 2 13 22).toNat : Int)) ∧ w = w' :=
  turned_any x 2 13 22 w (by decide) (by decide) (by decide)

set_option maxRecDepth 100000 in
theorem at_any (s t : Nat) (b o : Nat) (w : World) (hs : s < 8) (ht : t < 64) (hc : w.cell? ⟨b, o, none⟩ = some (.int .i64 (t : Int))) :
    Calls Tryd.prog 29 #[.int .i64 (s : Int), .pointer (some ⟨b, o, none⟩)] w fun e w' => e = .returned (.int .i64 (seatAt t s : Int)) ∧ w = w' := by
  have E : Hid (((s : Int) + 64 - (t : Int)) % 8 = (seatAt t s : Int)) := by show _ = _; unfold seatAt; omega
  go_enter Tryd.func29, Tryd.ntmps29
  go_wp2
  go_ret
  exact ⟨congrArg (fun z => Ending.returned (.int .i64 z)) E.out, rfl⟩

set_option maxRecDepth 100000 in
theorem or_sum {a b k : Nat} (hb : b < 2 ^ k) : a * 2 ^ k ||| b = a * 2 ^ k + b := by
  rw [Nat.mul_comm, ← Nat.two_pow_add_eq_or_of_lt hb]
set_option maxRecDepth 100000 in
theorem or_step (m c s : Nat) (hc : c < 2 ^ 8) (h1 : m * 2 ^ (s + 8) < 2 ^ 32) (h2 : c * 2 ^ s < 2 ^ 32) : bits .or .u32 ((m * 2 ^ (s + 8) : Nat) : Int) ((c * 2 ^ s : Nat) : Int) = (((m * 2 ^ 8 + c) * 2 ^ s : Nat) : Int) := by
  have hlt : c * 2 ^ s < 2 ^ (s + 8) := by
    rw [Nat.pow_add, Nat.mul_comm]
    exact Nat.mul_lt_mul_of_pos_left hc (Nat.two_pow_pos s)
  rw [u32_or_nat _ _ h1 h2, or_sum hlt, Nat.add_mul, Nat.pow_add, Nat.mul_comm (2 ^ s), Nat.mul_assoc m]
set_option maxRecDepth 100000 in
theorem cast_pow (a k : Nat) (z : Int) (hz : ((2 ^ k : Nat) : Int) = z) : (a : Int) * z = ((a * 2 ^ k : Nat) : Int) := by
  rw [Int.natCast_mul, hz]
set_option maxRecDepth 100000 in
theorem mul_pow_lt {a n k : Nat} (ha : a < 2 ^ n) (h : n + k ≤ 32) : a * 2 ^ k < 2 ^ 32 :=
  Nat.lt_of_lt_of_le (Nat.mul_lt_mul_of_pos_right ha (Nat.two_pow_pos k)) (by rw [← Nat.pow_add]; exact Nat.pow_le_pow_right (by decide) h)
set_option maxRecDepth 100000 in
theorem join_lt {m c n : Nat} (hm : m < 2 ^ n) (hc : c < 2 ^ 8) : m * 2 ^ 8 + c < 2 ^ (n + 8) := by
  rw [Nat.pow_add]
  have : (m + 1) * 2 ^ 8 ≤ 2 ^ n * 2 ^ 8 := Nat.mul_le_mul_right _ hm
  rw [Nat.add_mul] at this
  omega
set_option maxRecDepth 100000 in
theorem word_eq (x0 x1 x2 x3 : UInt8) : bits .or .u32 (bits .or .u32 (bits .or .u32 ((x0.toNat : Int) * 16777216) ((x1.toNat : Int) * 65536)) ((x2.toNat : Int) * 256)) (x3.toNat : Int) = ((word4 x0 x1 x2 x3).toNat : Int) := by
  have l0 := x0.toNat_lt
  have l1 := x1.toNat_lt
  have l2 := x2.toNat_lt
  have l3 := x3.toNat_lt
  unfold word4
  generalize x0.toNat = a at *
  generalize x1.toNat = b at *
  generalize x2.toNat = c at *
  generalize x3.toNat = d at *
  have m1 := join_lt l0 l1
  have m2 := join_lt m1 l2
  have m3 := join_lt m2 l3
  rw [cast_pow a (16 + 8) 16777216 (by decide), cast_pow b 16 65536 (by decide), cast_pow c 8 256 (by decide)]
  rw [or_step a b 16 l1 (mul_pow_lt l0 (by decide)) (mul_pow_lt l1 (by decide))]
  rw [show (16 : Nat) = 8 + 8 from rfl, or_step _ c 8 l2 (mul_pow_lt m1 (by decide)) (mul_pow_lt l2 (by decide))]
  have h0 : (d : Int) = ((d * 2 ^ 0 : Nat) : Int) := by simp
  rw [h0]
  have := or_step ((a * 2 ^ 8 + b) * 2 ^ 8 + c) d 0 l3 (mul_pow_lt m2 (by decide)) (mul_pow_lt l3 (by decide))
  rw [Nat.zero_add] at this
  rw [this, BitVec.toNat_ofNat, Nat.pow_zero, Nat.mul_one, Nat.mod_eq_of_lt m3]

set_option maxRecDepth 100000 in
theorem word_any (b o n c : Nat) (x0 x1 x2 x3 : UInt8) (w : World) (hn : 4 ≤ n) (h0 : w.cell? ⟨b, o, none⟩ = some (.int .u8 (x0.toNat : Int))) (h1 : w.cell? ⟨b, o + 1, none⟩ = some (.int .u8 (x1.toNat : Int)))
    (h2 : w.cell? ⟨b, o + 2, none⟩ = some (.int .u8 (x2.toNat : Int))) (h3 : w.cell? ⟨b, o + 3, none⟩ = some (.int .u8 (x3.toNat : Int))) :
    Calls Tryd.prog 34 #[.slice (some ⟨b, o, none⟩) n c] w fun e w' => e = .returned (u32v (word4 x0 x1 x2 x3)) ∧ ∃ n, w' = w.drewN n := by
  have l0 := x0.toNat_lt
  have l1 := x1.toNat_lt
  have l2 := x2.toNat_lt
  have l3 := x3.toNat_lt
  have b0 : (0 : Int) < (n : Int) := by omega
  have b1 : (1 : Int) < (n : Int) := by omega
  have b2 : (2 : Int) < (n : Int) := by omega
  have b3 : (3 : Int) < (n : Int) := by omega
  have b0' : 0 < n := by omega
  have b1' : 1 < n := by omega
  have b2' : 2 < n := by omega
  have b3' : 3 < n := by omega
  go_enter Tryd.func34, Tryd.ntmps34
  go_wp2
  go_quiet (fail)
  go_wp2
  go_ret
  exact ⟨congrArg (fun z => Ending.returned (.int .u32 z)) (word_eq x0 x1 x2 x3), nq, rfl⟩
end Go.Proofs.YtgdcjealhbfnaaaDoor

/-
  The contract of the document's bits: bit by bit of three words. No statement of the seat is proved here.
-/
import Derived.Test.YtgdcjealhbfnaaaDoorRfB
namespace Go.Proofs.YtgdcjealhbfnaaaDoor
open Go.RowKit

theorem bit_tmod (e k : Nat) : ((e : Int) / 2 ^ k).tmod 2 = ((e / 2 ^ k % 2 : Nat) : Int) := by
  have : ((e : Int) / 2 ^ k) = ((e / 2 ^ k : Nat) : Int) := by simp
  rw [this, Int.tmod_eq_emod_of_nonneg (Int.natCast_nonneg _)]
  omega
theorem bit_le (y P : Nat) (hy : y < 2) (hP : P ≤ 2147483648) : ((y : Int) * (P : Int)) % 4294967296 = ((y * P : Nat) : Int) ∧ y * P ≤ P := by
  rcases (by omega : y = 0 ∨ y = 1) with rfl | rfl
  · simp
  · simp; omega
theorem low_succ (r k : Nat) : r % 2 ^ (k + 1) = r % 2 ^ k + r / 2 ^ k % 2 * 2 ^ k := by
  rw [Nat.mod_pow_succ, Nat.mul_comm]
theorem chv_bit (e f g : BitVec 32) (k : Nat) (hk : k < 32) : (chv e f g).toNat / 2 ^ k % 2 = if e.toNat / 2 ^ k % 2 = 1 then f.toNat / 2 ^ k % 2 else g.toNat / 2 ^ k % 2 := by
  have b : ∀ x : BitVec 32, x.toNat / 2 ^ k % 2 = (x.getLsbD k).toNat := fun x => by rw [← Nat.toNat_testBit, ← BitVec.testBit_toNat]
  rw [b, b, b, b]
  unfold chv
  simp only [BitVec.getLsbD_or, BitVec.getLsbD_and, BitVec.getLsbD_not, hk, decide_true, Bool.true_and]
  cases e.getLsbD k <;> cases f.getLsbD k <;> cases g.getLsbD k <;> rfl
theorem majv_bit (e f g : BitVec 32) (k : Nat) : (majv e f g).toNat / 2 ^ k % 2 = if e.toNat / 2 ^ k % 2 = f.toNat / 2 ^ k % 2 then f.toNat / 2 ^ k % 2 else g.toNat / 2 ^ k % 2 := by
  have b : ∀ x : BitVec 32, x.toNat / 2 ^ k % 2 = (x.getLsbD k).toNat := fun x => by rw [← Nat.toNat_testBit, ← BitVec.testBit_toNat]
  rw [b, b, b, b]
  unfold majv
  simp only [BitVec.getLsbD_or, BitVec.getLsbD_and]
  cases e.getLsbD k <;> cases f.getLsbD k <;> cases g.getLsbD k <;> rfl

set_option maxHeartbeats 1600000 in
set_option maxRecDepth 100000 in
theorem bits_yes (e f g : BitVec 32) (w : World) :
    Calls Tryd.prog 20 #[.int .u32 (e.toNat : Int), .int .u32 (f.toNat : Int), .int .u32 (g.toNat : Int), .bool true] w fun e' w' => e' = .returned (.int .u32 ((chv e f g).toNat : Int)) ∧ w = w' := by
  have HB : Unit → ∀ k, k < 32 → (chv e f g).toNat % 2 ^ (k + 1) = (chv e f g).toNat % 2 ^ k + (chv e f g).toNat / 2 ^ k % 2 * 2 ^ k := fun _ k _ => low_succ _ k
  have HC : Unit → ∀ k, k < 32 → (chv e f g).toNat / 2 ^ k % 2 = _ := fun _ k hk => chv_bit e f g k (by omega)
  obtain ⟨r, HR⟩ : ∃ r, Unit → (chv e f g).toNat = r := ⟨_, fun _ => rfl⟩
  have hr : r < 4294967296 := by rw [← HR ()]; exact (chv e f g).isLt
  rw [HR ()] at HB HC ⊢
  have he : e.toNat < 4294967296 := e.isLt
  have hf : f.toNat < 4294967296 := f.isLt
  have hg : g.toNat < 4294967296 := g.isLt
  generalize e.toNat = e at *
  generalize f.toNat = f at *
  generalize g.toNat = g at *
  clear HR
  go_enter Tryd.func20, Tryd.ntmps20
  go_wp2
  go_loop [9, 10] (fun v p => ∃ k : Nat, k ≤ 32 ∧ p = .int .u64 (k : Int) ∧ v = .int .u32 ((r % 2 ^ k : Nat) : Int)) (fun _ p => 32 - (intOf p).toNat)
  case atStart => exact ⟨0, Nat.zero_le _, rfl, by simp [Nat.mod_one]⟩
  case round =>
    obtain ⟨k, hk, rfl, rfl⟩ := hrel
    by_cases hlt : k < 32
    · have HN := HB () k hlt
      have HD := HC () k hlt
      have hP : 2 ^ k ≤ 2147483648 := Nat.le_trans (Nat.pow_le_pow_right (by omega) (show k ≤ 31 by omega)) (by decide)
      have hm : r % 2 ^ k < 2 ^ k := Nat.mod_lt _ (Nat.pow_pos (by omega))
      have ex := bit_tmod e k
      have ey := bit_tmod f k
      have ez := bit_tmod g k
      have hy : f / 2 ^ k % 2 < 2 := Nat.mod_lt _ (by omega)
      have hz : g / 2 ^ k % 2 < 2 := Nat.mod_lt _ (by omega)
      have qy := bit_le (f / 2 ^ k % 2) (2 ^ k) hy hP
      have qz := bit_le (g / 2 ^ k % 2) (2 ^ k) hz hP
      have eP : ((2 ^ k : Nat) : Int) = (2 : Int) ^ k := by simp
      rw [eP] at qy qz
      clear eP
      generalize e / 2 ^ k % 2 = x at *
      generalize f / 2 ^ k % 2 = y at *
      generalize g / 2 ^ k % 2 = z at *
      generalize r / 2 ^ k % 2 = b at *
      obtain ⟨Y, HY⟩ : ∃ Y, Unit → y * 2 ^ k = Y := ⟨_, fun _ => rfl⟩
      obtain ⟨Z, HZ⟩ : ∃ Z, Unit → z * 2 ^ k = Z := ⟨_, fun _ => rfl⟩
      rw [HY ()] at qy
      rw [HZ ()] at qz
      obtain ⟨qy1, qy2⟩ := qy
      obtain ⟨qz1, qz2⟩ := qz
      have HNN : Unit → r % 2 ^ (k + 1) = r % 2 ^ k + b * 2 ^ k := fun _ => HN
      have HDD : Unit → b = if x = 1 then y else z := fun _ => HD
      clear HN HD
      generalize hM : r % 2 ^ k = M at *
      have hsum1 : M + Y < 4294967296 := by omega
      have hsum2 : M + Z < 4294967296 := by omega
      clear hM hm qy2 qz2
      by_cases hx : x = 1
      · have ht : ((x : Int) == 1) = true := by simp [hx]
        have HFX : Unit → r % 2 ^ (k + 1) = M + Y := fun _ => by rw [HNN (), HDD (), if_pos hx, HY ()]
        have HX := Lib.hid hx
        clear hx HNN HDD
        go_wp2_with fail
        go_round
        case rel => exact ⟨k + 1, by omega, by go_num, by rw [HFX ()]; go_num⟩
        case measure => simp [intOf]; omega
      · have ht : ((x : Int) == 1) = false := by simp; omega
        have HFX : Unit → r % 2 ^ (k + 1) = M + Z := fun _ => by rw [HNN (), HDD (), if_neg hx, HZ ()]
        have HX := Lib.hid hx
        clear hx HNN HDD
        go_wp2_with fail
        go_round
        case rel => exact ⟨k + 1, by omega, by go_num, by rw [HFX ()]; go_num⟩
        case measure => simp [intOf]; omega
    · have hk32 : Unit → k = 32 := fun _ => by omega
      have hge : decide ((k : Int) < 32) = false := by simp; omega
      go_wp2_with fail
      go_ret
      refine ⟨ret_u32 ?_, rfl⟩
      rw [hk32 ()]
      exact Int.emod_eq_of_lt (Int.natCast_nonneg r) (by rw [show (2 : Int) ^ 32 = 4294967296 from by decide]; omega)

set_option maxHeartbeats 1600000 in
set_option maxRecDepth 100000 in
theorem bits_no (e f g : BitVec 32) (w : World) :
    Calls Tryd.prog 20 #[.int .u32 (e.toNat : Int), .int .u32 (f.toNat : Int), .int .u32 (g.toNat : Int), .bool false] w fun e' w' => e' = .returned (.int .u32 ((majv e f g).toNat : Int)) ∧ w = w' := by
  have HB : Unit → ∀ k, k < 32 → (majv e f g).toNat % 2 ^ (k + 1) = (majv e f g).toNat % 2 ^ k + (majv e f g).toNat / 2 ^ k % 2 * 2 ^ k := fun _ k _ => low_succ _ k
  have HC : Unit → ∀ k, k < 32 → (majv e f g).toNat / 2 ^ k % 2 = _ := fun _ k hk => majv_bit e f g k
  obtain ⟨r, HR⟩ : ∃ r, Unit → (majv e f g).toNat = r := ⟨_, fun _ => rfl⟩
  have hr : r < 4294967296 := by rw [← HR ()]; exact (majv e f g).isLt
  rw [HR ()] at HB HC ⊢
  have he : e.toNat < 4294967296 := e.isLt
  have hf : f.toNat < 4294967296 := f.isLt
  have hg : g.toNat < 4294967296 := g.isLt
  generalize e.toNat = e at *
  generalize f.toNat = f at *
  generalize g.toNat = g at *
  clear HR
  go_enter Tryd.func20, Tryd.ntmps20
  go_wp2
  go_loop [9, 10] (fun v p => ∃ k : Nat, k ≤ 32 ∧ p = .int .u64 (k : Int) ∧ v = .int .u32 ((r % 2 ^ k : Nat) : Int)) (fun _ p => 32 - (intOf p).toNat)
  case atStart => exact ⟨0, Nat.zero_le _, rfl, by simp [Nat.mod_one]⟩
  case round =>
    obtain ⟨k, hk, rfl, rfl⟩ := hrel
    by_cases hlt : k < 32
    · have HN := HB () k hlt
      have HD := HC () k hlt
      have hP : 2 ^ k ≤ 2147483648 := Nat.le_trans (Nat.pow_le_pow_right (by omega) (show k ≤ 31 by omega)) (by decide)
      have hm : r % 2 ^ k < 2 ^ k := Nat.mod_lt _ (Nat.pow_pos (by omega))
      have ex := bit_tmod e k
      have ey := bit_tmod f k
      have ez := bit_tmod g k
      have hy : f / 2 ^ k % 2 < 2 := Nat.mod_lt _ (by omega)
      have hz : g / 2 ^ k % 2 < 2 := Nat.mod_lt _ (by omega)
      have qy := bit_le (f / 2 ^ k % 2) (2 ^ k) hy hP
      have qz := bit_le (g / 2 ^ k % 2) (2 ^ k) hz hP
      have eP : ((2 ^ k : Nat) : Int) = (2 : Int) ^ k := by simp
      rw [eP] at qy qz
      clear eP
      generalize e / 2 ^ k % 2 = x at *
      generalize f / 2 ^ k % 2 = y at *
      generalize g / 2 ^ k % 2 = z at *
      generalize r / 2 ^ k % 2 = b at *
      obtain ⟨Y, HY⟩ : ∃ Y, Unit → y * 2 ^ k = Y := ⟨_, fun _ => rfl⟩
      obtain ⟨Z, HZ⟩ : ∃ Z, Unit → z * 2 ^ k = Z := ⟨_, fun _ => rfl⟩
      rw [HY ()] at qy
      rw [HZ ()] at qz
      obtain ⟨qy1, qy2⟩ := qy
      obtain ⟨qz1, qz2⟩ := qz
      have HNN : Unit → r % 2 ^ (k + 1) = r % 2 ^ k + b * 2 ^ k := fun _ => HN
      have HDD : Unit → b = if x = y then y else z := fun _ => HD
      clear HN HD
      generalize hM : r % 2 ^ k = M at *
      have hsum1 : M + Y < 4294967296 := by omega
      have hsum2 : M + Z < 4294967296 := by omega
      clear hM hm qy2 qz2
      by_cases hx : x = y
      · have ht : ((x : Int) == (y : Int)) = true := by simp [hx]
        have HFX : Unit → r % 2 ^ (k + 1) = M + Y := fun _ => by rw [HNN (), HDD (), if_pos hx, HY ()]
        have HX := Lib.hid hx
        clear hx HNN HDD
        go_wp2_with fail
        go_round
        case rel => exact ⟨k + 1, by omega, by go_num, by rw [HFX ()]; go_num⟩
        case measure => simp [intOf]; omega
      · have ht : ((x : Int) == (y : Int)) = false := by simp; omega
        have HFX : Unit → r % 2 ^ (k + 1) = M + Z := fun _ => by rw [HNN (), HDD (), if_neg hx, HZ ()]
        have HX := Lib.hid hx
        clear hx HNN HDD
        go_wp2_with fail
        go_round
        case rel => exact ⟨k + 1, by omega, by go_num, by rw [HFX ()]; go_num⟩
        case measure => simp [intOf]; omega
    · have hk32 : Unit → k = 32 := fun _ => by omega
      have hge : decide ((k : Int) < 32) = false := by simp; omega
      go_wp2_with fail
      go_ret
      refine ⟨ret_u32 ?_, rfl⟩
      rw [hk32 ()]
      exact Int.emod_eq_of_lt (Int.natCast_nonneg r) (by rw [show (2 : Int) ^ 32 = 4294967296 from by decide]; omega)
end Go.Proofs.YtgdcjealhbfnaaaDoor

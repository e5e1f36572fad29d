/-
  The document's hash, step by step: the words that move on, the bytes from the end on. Mathematics. No statement of the seat is proved here.
-/
import Derived.Test.YtgdcjealhbfnaaaDoorRfK
import Derived.Test.YtgdcjealhbfnaaaDoorShaV
import Derived.Test.YtgdcjealhbfnaaaDoorShaW
namespace Go.Proofs.YtgdcjealhbfnaaaDoor

/-- The eight words at a step, by their names. -/
def nowL (s ws : List (BitVec 32)) (t : Nat) : List (BitVec 32) := [cmp s ws t 0, cmp s ws t 1, cmp s ws t 2, cmp s ws t 3, cmp s ws t 4, cmp s ws t 5, cmp s ws t 6, cmp s ws t 7]
theorem nowL_length (s ws : List (BitVec 32)) (t : Nat) : (nowL s ws t).length = 8 := rfl
theorem list8 (l : List (BitVec 32)) (h : l.length = 8) : l = [l.getD 0 0, l.getD 1 0, l.getD 2 0, l.getD 3 0, l.getD 4 0, l.getD 5 0, l.getD 6 0, l.getD 7 0] := by
  match l, h with
  | [a, b, c, d, e, f, g, i], _ => rfl
theorem nowL_zero (s ws : List (BitVec 32)) (h : s.length = 8) : nowL s ws 0 = s := by
  rw [list8 s h]
  rfl
theorem nowL_end (s ws : List (BitVec 32)) (h : s.length = 8) : nowL s ws 64 = rowAt s ws 64 := by
  rw [list8 (rowAt s ws 64) (by rw [rowAt_length, h])]
  rfl
/-- What the step adds. -/
def stX (a4 a5 a6 a7 k w : BitVec 32) : BitVec 32 := a7 + sR a4 6 11 25 + k + w + chv a4 a5 a6
def stY (a0 a1 a2 : BitVec 32) : BitVec 32 := sR a0 2 13 22 + majv a0 a1 a2
theorem nowL_succ (s ws : List (BitVec 32)) (h : s.length = 8) (t : Nat) (ht : t < 64) (a0 a1 a2 a3 a4 a5 a6 a7 : BitVec 32) (e : nowL s ws t = [a0, a1, a2, a3, a4, a5, a6, a7]) :
    nowL s ws (t + 1) = [stX a4 a5 a6 a7 (cubes.getD t 0) (ws.getD t 0) + stY a0 a1 a2, a0, a1, a2, a3 + stX a4 a5 a6 a7 (cubes.getD t 0) (ws.getD t 0), a4, a5, a6] := by
  obtain ⟨h0, h1, h2, h3, h4, h5, h6, h7⟩ := cmp_succ s ws h t ht
  unfold nowL at e
  injection e with e0 e
  injection e with e1 e
  injection e with e2 e
  injection e with e3 e
  injection e with e4 e
  injection e with e5 e
  injection e with e6 e
  injection e with e7 e
  have hX : stepX (rowAt s ws t) ws t = stX a4 a5 a6 a7 (cubes.getD t 0) (ws.getD t 0) := by
    rw [← e4, ← e5, ← e6, ← e7]; rfl
  have hY : stepY (rowAt s ws t) t = stY a0 a1 a2 := by rw [← e0, ← e1, ← e2]; rfl
  unfold nowL
  rw [h0, h1, h2, h3, h4, h5, h6, h7, hX, hY, e0, e1, e2, e3, e4, e5, e6]
theorem add_swap (R S : List (BitVec 32)) : List.zipWith (· + ·) R S = List.zipWith (· + ·) S R := by
  induction R generalizing S with
  | nil => simp
  | cons x R ih => cases S with
    | nil => rfl
    | cons y S => simp [ih S, BitVec.add_comm]
theorem work_now (s : List (BitVec 32)) (b : List UInt8) (h : s.length = 8) : addZ s (nowL s (rollW b 64) 64) 8 = workBlock s b := by
  rw [addZ_all _ _ h (nowL_length _ _ _), nowL_end _ _ h, add_swap]
  rfl

/-- The words while their bytes are taken from the end on: j bytes are still to come. -/
def szA (s : List (BitVec 32)) (j q : Nat) : BitVec 32 := BitVec.ofNat 32 ((s.getD q 0).toNat / 256 ^ (4 * q + 4 - j))
def szL (s : List (BitVec 32)) (j : Nat) : List (BitVec 32) := (List.range 8).map (szA s j)
theorem szL_length (s : List (BitVec 32)) (j : Nat) : (szL s j).length = 8 := by simp [szL]
theorem szL_at (s : List (BitVec 32)) (j q : Nat) (h : q < 8) : (szL s j).getD q 0 = szA s j q := by
  unfold szL
  rw [List.getD_eq_getElem?_getD, List.getElem?_map, List.getElem?_range h]
  rfl
theorem szL_start (s : List (BitVec 32)) (h : s.length = 8) : szL s 32 = s := by
  apply List.ext_getElem
  · rw [szL_length, h]
  · intro i h1 h2
    have hi : i < 8 := by rw [szL_length] at h1; exact h1
    simp only [szL, List.getElem_map, List.getElem_range, szA]
    rw [show 4 * i + 4 - 32 = 0 by omega, Nat.pow_zero, Nat.div_one, BitVec.ofNat_toNat, List.getD_eq_getElem?_getD, List.getElem?_eq_getElem h2]
    simp
theorem szA_nat (s : List (BitVec 32)) (j q : Nat) : (szA s j q).toNat = (s.getD q 0).toNat / 256 ^ (4 * q + 4 - j) := by
  unfold szA
  rw [BitVec.toNat_ofNat, Nat.mod_eq_of_lt]
  exact Nat.lt_of_le_of_lt (Nat.div_le_self _ _) (s.getD q 0).isLt
theorem szL_set (s : List (BitVec 32)) (i : Nat) : (szL s (i + 1)).set (i / 4) (BitVec.ofNat 32 ((szA s (i + 1) (i / 4)).toNat / 256)) = szL s i := by
  apply List.ext_getElem
  · simp [szL]
  · intro q h1 h2
    have hq : q < 8 := by rw [szL_length] at h2; exact h2
    rw [List.getElem_set]
    split
    · rename_i e
      subst e
      simp only [szL, List.getElem_map, List.getElem_range]
      rw [szA_nat]
      unfold szA
      rw [Nat.div_div_eq_div_mul, show 4 * (i / 4) + 4 - i = 4 * (i / 4) + 4 - (i + 1) + 1 by omega, Nat.pow_succ]
    · rename_i e
      simp only [szL, List.getElem_map, List.getElem_range]
      apply BitVec.eq_of_toNat_eq
      rw [szA_nat, szA_nat]
      rcases Nat.lt_or_ge q (i / 4) with hlt | hge
      · rw [show 4 * q + 4 - (i + 1) = 0 by omega, show 4 * q + 4 - i = 0 by omega]
      · have big : ∀ e, 4 ≤ e → (s.getD q 0).toNat / 256 ^ e = 0 := fun e he =>
          Nat.div_eq_of_lt (Nat.lt_of_lt_of_le (s.getD q 0).isLt (Nat.le_trans (by decide : 2 ^ 32 ≤ 256 ^ 4) (Nat.pow_le_pow_right (by omega) he)))
        rw [big _ (by omega), big _ (by omega)]
theorem flat_at (s : List (BitVec 32)) (i : Nat) (h : i < 4 * s.length) : (seatB s).getD i 0 = (word4B (s.getD (i / 4) 0)).getD (i % 4) 0 := by
  induction s generalizing i with
  | nil => simp at h
  | cons x s ih =>
    have hw : (word4B x).length = 4 := rfl
    have e : seatB (x :: s) = word4B x ++ seatB s := rfl
    rw [e]
    rcases Nat.lt_or_ge i 4 with hlt | hge
    · rw [show i / 4 = 0 by omega, show i % 4 = i by omega, List.getD_eq_getElem?_getD, List.getElem?_append_left (by omega)]
      rw [List.getD_eq_getElem?_getD]
      rfl
    · rw [List.getD_eq_getElem?_getD, List.getElem?_append_right (by omega), hw, ← List.getD_eq_getElem?_getD, ih (i - 4) (by simp at h; omega), show i / 4 = (i - 4) / 4 + 1 by omega, show i % 4 = (i - 4) % 4 by omega]
      rfl
theorem seatB_at (s : List (BitVec 32)) (i : Nat) (hs : s.length = 8) (h : i < 32) : (seatB s).getD i 0 = UInt8.ofNat (szA s (i + 1) (i / 4)).toNat := by
  rw [flat_at s i (by omega), szA_nat]
  generalize (s.getD (i / 4) 0) = x
  obtain ⟨q, r, hr, e⟩ : ∃ q r, r < 4 ∧ i = 4 * q + r := ⟨i / 4, i % 4, by omega, by omega⟩
  subst e
  rw [show (4 * q + r) / 4 = q by omega, show (4 * q + r) % 4 = r by omega, show 4 * q + 4 - (4 * q + r + 1) = 3 - r by omega]
  match r, hr with
  | 0, _ => rfl
  | 1, _ => rfl
  | 2, _ => rfl
  | 3, _ => simp [word4B]
/-- The hash while its bytes are written from the end on: j are still to come. -/
def outZ (s : List (BitVec 32)) (j : Nat) : List UInt8 := List.replicate j 0 ++ (seatB s).drop j
theorem outZ_length (s : List (BitVec 32)) (j : Nat) (hs : s.length = 8) (h : j ≤ 32) : (outZ s j).length = 32 := by
  simp [outZ, seatB_length, hs]; omega
theorem outZ_set (s : List (BitVec 32)) (i : Nat) (hs : s.length = 8) (h : i < 32) : (outZ s (i + 1)).set i ((seatB s).getD i 0) = outZ s i := by
  have hl : (seatB s).length = 32 := by rw [seatB_length, hs]
  unfold outZ
  rw [List.replicate_succ', List.append_assoc, List.set_append_right _ _ (by simp), List.length_replicate, Nat.sub_self, List.singleton_append, List.set_cons_zero]
  congr 1
  rw [List.getD_eq_getElem?_getD, List.getElem?_eq_getElem (by omega)]
  exact (List.drop_eq_getElem_cons (by omega)).symm
theorem outZ_start (s : List (BitVec 32)) (hs : s.length = 8) : outZ s 32 = List.replicate 32 0 := by
  unfold outZ
  rw [List.drop_eq_nil_of_le (by rw [seatB_length, hs]; omega), List.append_nil]
theorem outZ_end (s : List (BitVec 32)) : outZ s 0 = seatB s := by simp [outZ]
end Go.Proofs.YtgdcjealhbfnaaaDoor

/-
  SHA-256 in plain words once more: the seats as they move on, step by step; a row of alike blocks by numbers, so that the kernel can work it out. No statement of the seat is proved here.
-/
import Derived.Test.YtgdcjealhbfnaaaDoorShaM
namespace Go.Proofs.YtgdcjealhbfnaaaDoor
theorem mul_or (x : Nat) (h : x < 2 ^ 32) : x * 4294967297 = x <<< 32 ||| x := by
  rw [← Nat.shiftLeft_add_eq_or_of_lt h, Nat.shiftLeft_eq]
  omega
theorem rot_nat (x : BitVec 32) (i : Nat) (h1 : 0 < i) (h2 : i < 32) : (rotr x i).toNat = (x.toNat * 4294967297) >>> i % 4294967296 := by
  have hx := x.isLt
  rw [mul_or x.toNat hx, show (4294967296 : Nat) = 2 ^ 32 from rfl]
  unfold rotr
  apply Nat.eq_of_testBit_eq
  intro j
  simp only [BitVec.toNat_or, BitVec.toNat_shiftLeft, BitVec.toNat_ushiftRight, Nat.testBit_or, Nat.testBit_mod_two_pow, Nat.testBit_shiftLeft, Nat.testBit_shiftRight]
  by_cases hj : j < 32
  · by_cases hk : 32 ≤ i + j
    · have e1 : x.toNat.testBit (i + j) = false := Nat.testBit_lt_two_pow (Nat.lt_of_lt_of_le hx (Nat.pow_le_pow_right (by omega) hk))
      have e2 : j - (32 - i) = i + j - 32 := by omega
      have e3 : 32 - i ≤ j := by omega
      simp [hj, hk, e1, e2, e3]
    · have e3 : ¬ 32 - i ≤ j := by omega
      simp [hj, hk, e3]
  · have e1 : x.toNat.testBit (i + j) = false := Nat.testBit_lt_two_pow (Nat.lt_of_lt_of_le hx (Nat.pow_le_pow_right (by omega) (by omega)))
    simp [hj, e1]
theorem sR_nat (x : BitVec 32) (i j k : Nat) (hi : 0 < i ∧ i < 32) (hj : 0 < j ∧ j < 32) (hk : 0 < k ∧ k < 32) :
    (sR x i j k).toNat = Nat.mod (Nat.xor (Nat.xor (Nat.shiftRight (Nat.mul x.toNat 4294967297) i) (Nat.shiftRight (Nat.mul x.toNat 4294967297) j)) (Nat.shiftRight (Nat.mul x.toNat 4294967297) k)) 4294967296 := by
  show (sR x i j k).toNat = ((x.toNat * 4294967297) >>> i ^^^ (x.toNat * 4294967297) >>> j ^^^ (x.toNat * 4294967297) >>> k) % 4294967296
  rw [show (4294967296 : Nat) = 2 ^ 32 from rfl, Nat.xor_mod_two_pow, Nat.xor_mod_two_pow]
  unfold sR
  rw [BitVec.toNat_xor, BitVec.toNat_xor, rot_nat x i hi.1 hi.2, rot_nat x j hj.1 hj.2, rot_nat x k hk.1 hk.2]
theorem chv_nat (e f g : BitVec 32) : (chv e f g).toNat = Nat.xor (Nat.land e.toNat f.toNat) (Nat.land (Nat.sub 4294967295 e.toNat) g.toNat) := by
  have h : chv e f g = (e &&& f) ^^^ (~~~e &&& g) := by
    apply BitVec.eq_of_getLsbD_eq
    intro i hi
    unfold chv
    simp only [BitVec.getLsbD_or, BitVec.getLsbD_xor, BitVec.getLsbD_and, BitVec.getLsbD_not, hi, decide_true, Bool.true_and]
    cases e.getLsbD i <;> cases f.getLsbD i <;> cases g.getLsbD i <;> rfl
  rw [h, BitVec.toNat_xor, BitVec.toNat_and, BitVec.toNat_and, BitVec.toNat_not]
  rfl
theorem majv_nat (a b c : BitVec 32) : (majv a b c).toNat = Nat.xor (Nat.land a.toNat (Nat.xor b.toNat c.toNat)) (Nat.land b.toNat c.toNat) := by
  have h : majv a b c = (a &&& (b ^^^ c)) ^^^ (b &&& c) := by
    apply BitVec.eq_of_getLsbD_eq
    intro i hi
    unfold majv
    simp only [BitVec.getLsbD_or, BitVec.getLsbD_xor, BitVec.getLsbD_and]
    cases a.getLsbD i <;> cases b.getLsbD i <;> cases c.getLsbD i <;> rfl
  rw [h, BitVec.toNat_xor, BitVec.toNat_and, BitVec.toNat_xor, BitVec.toNat_and]
  rfl

/-- A seat's word at a step, by its name. -/
def cmp (s ws : List (BitVec 32)) (t i : Nat) : BitVec 32 := (rowAt s ws t).getD (seatAt t i) 0
theorem getD_set {α : Type} (l : List α) (i j : Nat) (v d : α) (hj : j < l.length) : (l.set i v).getD j d = if i = j then v else l.getD j d := by
  rw [List.getD_eq_getElem?_getD, List.getD_eq_getElem?_getD, List.getElem?_set]
  by_cases h : i = j
  · subst h; simp [hj]
  · simp [h]
theorem cmp_succ (s ws : List (BitVec 32)) (hs : s.length = 8) (t : Nat) (ht : t < 64) :
    cmp s ws (t + 1) 0 = stepX (rowAt s ws t) ws t + stepY (rowAt s ws t) t ∧ cmp s ws (t + 1) 1 = cmp s ws t 0 ∧ cmp s ws (t + 1) 2 = cmp s ws t 1 ∧ cmp s ws (t + 1) 3 = cmp s ws t 2 ∧
      cmp s ws (t + 1) 4 = cmp s ws t 3 + stepX (rowAt s ws t) ws t ∧ cmp s ws (t + 1) 5 = cmp s ws t 4 ∧ cmp s ws (t + 1) 6 = cmp s ws t 5 ∧ cmp s ws (t + 1) 7 = cmp s ws t 6 := by
  have hl : (rowAt s ws t).length = 8 := by rw [rowAt_length, hs]
  have key : ∀ i, seatAt (t + 1) i < 8 → cmp s ws (t + 1) i = if seatAt t 7 = seatAt (t + 1) i then stepX (rowAt s ws t) ws t + stepY (rowAt s ws t) t else if seatAt t 3 = seatAt (t + 1) i then (rowAt s ws t).getD (seatAt t 3) 0 + stepX (rowAt s ws t) ws t else (rowAt s ws t).getD (seatAt (t + 1) i) 0 := by
    intro i hi
    unfold cmp
    rw [rowAt, stepRow, getD_set _ _ _ _ _ (by rw [List.length_set]; omega), getD_set _ _ _ _ _ (by omega)]
  have e : ∀ i, i < 7 → seatAt (t + 1) (i + 1) = seatAt t i := fun i _ => by unfold seatAt; omega
  have ne : ∀ i j, i < 8 → j < 8 → i ≠ j → seatAt t i ≠ seatAt t j := fun i j _ _ _ => by unfold seatAt; omega
  have e0 : seatAt (t + 1) 0 = seatAt t 7 := by unfold seatAt; omega
  refine ⟨?_, ?_, ?_, ?_, ?_, ?_, ?_, ?_⟩
  · rw [key 0 (seatAt_lt _ _), e0, if_pos rfl]
  · rw [key 1 (seatAt_lt _ _), e 0 (by omega), if_neg (ne 7 0 (by omega) (by omega) (by omega)), if_neg (ne 3 0 (by omega) (by omega) (by omega))]; rfl
  · rw [key 2 (seatAt_lt _ _), e 1 (by omega), if_neg (ne 7 1 (by omega) (by omega) (by omega)), if_neg (ne 3 1 (by omega) (by omega) (by omega))]; rfl
  · rw [key 3 (seatAt_lt _ _), e 2 (by omega), if_neg (ne 7 2 (by omega) (by omega) (by omega)), if_neg (ne 3 2 (by omega) (by omega) (by omega))]; rfl
  · rw [key 4 (seatAt_lt _ _), e 3 (by omega), if_neg (ne 7 3 (by omega) (by omega) (by omega)), if_pos rfl]; rfl
  · rw [key 5 (seatAt_lt _ _), e 4 (by omega), if_neg (ne 7 4 (by omega) (by omega) (by omega)), if_neg (ne 3 4 (by omega) (by omega) (by omega))]; rfl
  · rw [key 6 (seatAt_lt _ _), e 5 (by omega), if_neg (ne 7 5 (by omega) (by omega) (by omega)), if_neg (ne 3 5 (by omega) (by omega) (by omega))]; rfl
  · rw [key 7 (seatAt_lt _ _), e 6 (by omega), if_neg (ne 7 6 (by omega) (by omega) (by omega)), if_neg (ne 3 6 (by omega) (by omega) (by omega))]; rfl

/-- A number worked out ahead of what is done with it. -/
structure S8 where
  a : Nat
  b : Nat
  c : Nat
  d : Nat
  e : Nat
  f : Nat
  g : Nat
  h : Nat
deriving DecidableEq
noncomputable def frc (n : Nat) (k : Nat → S8) : S8 := Nat.rec (motive := fun _ => S8) (k 0) (fun m _ => k (Nat.succ m)) n
theorem frc_eq (n : Nat) (k : Nat → S8) : frc n k = k n := by cases n <;> rfl
noncomputable def rounds (l : List Nat) : Nat → Nat → Nat → Nat → Nat → Nat → Nat → Nat → S8 :=
  List.rec (motive := fun _ => Nat → Nat → Nat → Nat → Nat → Nat → Nat → Nat → S8) (fun a b c d e f g h => ⟨a, b, c, d, e, f, g, h⟩)
    (fun k _ ih a b c d e f g h =>
    frc (Nat.mul e 4294967297) fun y =>
    frc (Nat.mul a 4294967297) fun z =>
    frc (Nat.add (Nat.add h k) (Nat.add (Nat.mod (Nat.xor (Nat.xor (Nat.shiftRight y 6) (Nat.shiftRight y 11)) (Nat.shiftRight y 25)) 4294967296) (Nat.xor (Nat.land e f) (Nat.land (Nat.sub 4294967295 e) g)))) fun t1 =>
    frc (Nat.mod (Nat.add t1 (Nat.add (Nat.mod (Nat.xor (Nat.xor (Nat.shiftRight z 2) (Nat.shiftRight z 13)) (Nat.shiftRight z 22)) 4294967296) (Nat.xor (Nat.land a (Nat.xor b c)) (Nat.land b c)))) 4294967296) fun a' =>
    frc (Nat.mod (Nat.add d t1) 4294967296) fun e' => ih a' a b c e' e f g) l
theorem rounds_cons (k : Nat) (l : List Nat) (a b c d e f g h : Nat) : rounds (k :: l) a b c d e f g h =
    rounds l (Nat.mod (Nat.add (Nat.add (Nat.add h k) (Nat.add (Nat.mod (Nat.xor (Nat.xor (Nat.shiftRight (Nat.mul e 4294967297) 6) (Nat.shiftRight (Nat.mul e 4294967297) 11)) (Nat.shiftRight (Nat.mul e 4294967297) 25)) 4294967296) (Nat.xor (Nat.land e f) (Nat.land (Nat.sub 4294967295 e) g)))) (Nat.add (Nat.mod (Nat.xor (Nat.xor (Nat.shiftRight (Nat.mul a 4294967297) 2) (Nat.shiftRight (Nat.mul a 4294967297) 13)) (Nat.shiftRight (Nat.mul a 4294967297) 22)) 4294967296) (Nat.xor (Nat.land a (Nat.xor b c)) (Nat.land b c)))) 4294967296) a b c
      (Nat.mod (Nat.add d (Nat.add (Nat.add h k) (Nat.add (Nat.mod (Nat.xor (Nat.xor (Nat.shiftRight (Nat.mul e 4294967297) 6) (Nat.shiftRight (Nat.mul e 4294967297) 11)) (Nat.shiftRight (Nat.mul e 4294967297) 25)) 4294967296) (Nat.xor (Nat.land e f) (Nat.land (Nat.sub 4294967295 e) g))))) 4294967296) e f g := by
  have r : ∀ (l : List Nat) (k : Nat), rounds (k :: l) = fun a b c d e f g h =>
    frc (Nat.mul e 4294967297) fun y =>
    frc (Nat.mul a 4294967297) fun z =>
    frc (Nat.add (Nat.add h k) (Nat.add (Nat.mod (Nat.xor (Nat.xor (Nat.shiftRight y 6) (Nat.shiftRight y 11)) (Nat.shiftRight y 25)) 4294967296) (Nat.xor (Nat.land e f) (Nat.land (Nat.sub 4294967295 e) g)))) fun t1 =>
    frc (Nat.mod (Nat.add t1 (Nat.add (Nat.mod (Nat.xor (Nat.xor (Nat.shiftRight z 2) (Nat.shiftRight z 13)) (Nat.shiftRight z 22)) 4294967296) (Nat.xor (Nat.land a (Nat.xor b c)) (Nat.land b c)))) 4294967296) fun a' =>
    frc (Nat.mod (Nat.add d t1) 4294967296) fun e' => rounds l a' a b c e' e f g := fun _ _ => rfl
  rw [r]
  simp only [frc_eq]
/-- What a block's words and the cubes' are together, step by step. -/
def kwl (ws : List (BitVec 32)) (t : Nat) : Nat := (cubes.getD t 0 + ws.getD t 0).toNat
theorem rounds_spec (s ws : List (BitVec 32)) (hs : s.length = 8) (kw : List Nat) (hk : kw.length = 64) (hkw : ∀ t, t < 64 → kw.getD t 0 = kwl ws t) : ∀ n t, n + t = 64 →
    rounds (kw.drop t) (cmp s ws t 0).toNat (cmp s ws t 1).toNat (cmp s ws t 2).toNat (cmp s ws t 3).toNat (cmp s ws t 4).toNat (cmp s ws t 5).toNat (cmp s ws t 6).toNat (cmp s ws t 7).toNat =
      ⟨(cmp s ws 64 0).toNat, (cmp s ws 64 1).toNat, (cmp s ws 64 2).toNat, (cmp s ws 64 3).toNat, (cmp s ws 64 4).toNat, (cmp s ws 64 5).toNat, (cmp s ws 64 6).toNat, (cmp s ws 64 7).toNat⟩
  | 0, t, h => by
    obtain rfl : t = 64 := by omega
    rw [List.drop_eq_nil_of_le (by omega)]
    rfl
  | n + 1, t, h => by
    have ht : t < 64 := by omega
    have hd : kw.drop t = kwl ws t :: kw.drop (t + 1) := by
      rw [← hkw t ht, List.getD_eq_getElem?_getD, List.getElem?_eq_getElem (by omega)]
      exact List.drop_eq_getElem_cons (by omega)
    obtain ⟨c0, c1, c2, c3, c4, c5, c6, c7⟩ := cmp_succ s ws hs t ht
    have ih := rounds_spec s ws hs kw hk hkw n (t + 1) (by omega)
    rw [c1, c2, c3, c5, c6, c7] at ih
    rw [hd]
    have hX : stepX (rowAt s ws t) ws t = cmp s ws t 7 + sR (cmp s ws t 4) 6 11 25 + cubes.getD t 0 + ws.getD t 0 + chv (cmp s ws t 4) (cmp s ws t 5) (cmp s ws t 6) := rfl
    have hY : stepY (rowAt s ws t) t = sR (cmp s ws t 0) 2 13 22 + majv (cmp s ws t 0) (cmp s ws t 1) (cmp s ws t 2) := rfl
    rw [c0, c4, hX, hY] at ih
    rw [rounds_cons, ← ih]
    have sX := sR_nat (cmp s ws t 4) 6 11 25 (by omega) (by omega) (by omega)
    have sY := sR_nat (cmp s ws t 0) 2 13 22 (by omega) (by omega) (by omega)
    rw [← sX, ← sY, ← chv_nat, ← majv_nat]
    unfold kwl
    congr 1
    · simp only [BitVec.toNat_add]
      generalize (cmp s ws t 7).toNat = x1
      generalize (sR (cmp s ws t 4) 6 11 25).toNat = x2
      generalize (cubes.getD t 0).toNat = x3
      generalize (ws.getD t 0).toNat = x4
      generalize (chv (cmp s ws t 4) (cmp s ws t 5) (cmp s ws t 6)).toNat = x5
      generalize (sR (cmp s ws t 0) 2 13 22).toNat = x6
      generalize (majv (cmp s ws t 0) (cmp s ws t 1) (cmp s ws t 2)).toNat = x7
      show (x1 + (x3 + x4) % 2 ^ 32 + (x2 + x5) + (x6 + x7)) % 4294967296 = _
      omega
    · simp only [BitVec.toNat_add]
      generalize (cmp s ws t 7).toNat = x1
      generalize (sR (cmp s ws t 4) 6 11 25).toNat = x2
      generalize (cubes.getD t 0).toNat = x3
      generalize (ws.getD t 0).toNat = x4
      generalize (chv (cmp s ws t 4) (cmp s ws t 5) (cmp s ws t 6)).toNat = x5
      generalize (cmp s ws t 3).toNat = x6
      show (x6 + (x1 + (x3 + x4) % 2 ^ 32 + (x2 + x5))) % 4294967296 = _
      omega
def stOf (s : List (BitVec 32)) : S8 := ⟨(s.getD 0 0).toNat, (s.getD 1 0).toNat, (s.getD 2 0).toNat, (s.getD 3 0).toNat, (s.getD 4 0).toNat, (s.getD 5 0).toNat, (s.getD 6 0).toNat, (s.getD 7 0).toNat⟩
noncomputable def blk (kw : List Nat) (s : S8) : S8 :=
  match rounds kw s.a s.b s.c s.d s.e s.f s.g s.h with
  | ⟨a, b, c, d, e, f, g, h⟩ => frc (Nat.mod (Nat.add s.a a) 4294967296) fun a => frc (Nat.mod (Nat.add s.b b) 4294967296) fun b => frc (Nat.mod (Nat.add s.c c) 4294967296) fun c => frc (Nat.mod (Nat.add s.d d) 4294967296) fun d => frc (Nat.mod (Nat.add s.e e) 4294967296) fun e => frc (Nat.mod (Nat.add s.f f) 4294967296) fun f => frc (Nat.mod (Nat.add s.g g) 4294967296) fun g => frc (Nat.mod (Nat.add s.h h) 4294967296) fun h => ⟨a, b, c, d, e, f, g, h⟩
noncomputable def chain (kw : List Nat) : Nat → S8 → S8
  | 0, s => s
  | n + 1, s => match blk kw s with
    | ⟨a, b, c, d, e, f, g, h⟩ => chain kw n ⟨a, b, c, d, e, f, g, h⟩
theorem blk_of (kw : List Nat) (s : S8) (a b c d e f g h : Nat) (hr : rounds kw s.a s.b s.c s.d s.e s.f s.g s.h = ⟨a, b, c, d, e, f, g, h⟩) : blk kw s = ⟨(s.a + a) % 4294967296, (s.b + b) % 4294967296, (s.c + c) % 4294967296, (s.d + d) % 4294967296, (s.e + e) % 4294967296, (s.f + f) % 4294967296, (s.g + g) % 4294967296, (s.h + h) % 4294967296⟩ := by
  unfold blk
  rw [hr]
  simp only [frc_eq]
  rfl
theorem zip_at (r s : List (BitVec 32)) (hr : r.length = 8) (hs : s.length = 8) (i : Nat) (hi : i < 8) : ((List.zipWith (· + ·) r s).getD i 0).toNat = ((s.getD i 0).toNat + (r.getD i 0).toNat) % 4294967296 := by
  simp only [List.getD_eq_getElem?_getD, List.getElem?_zipWith, List.getElem?_eq_getElem (show i < r.length by omega), List.getElem?_eq_getElem (show i < s.length by omega), Option.getD_some, BitVec.toNat_add]
  rw [Nat.add_comm]
theorem blk_spec (s : List (BitVec 32)) (b : List UInt8) (hs : s.length = 8) (kw : List Nat) (hk : kw.length = 64) (hkw : ∀ t, t < 64 → kw.getD t 0 = kwl (rollW b 64) t) : blk kw (stOf s) = stOf (workBlock s b) := by
  have h := rounds_spec s (rollW b 64) hs kw hk hkw 64 0 rfl
  have e0 : ∀ i, i < 8 → cmp s (rollW b 64) 0 i = s.getD i 0 := fun i hi => by
    unfold cmp seatAt
    rw [show (i + 64 - 0) % 8 = i by omega]
    rfl
  have e1 : ∀ i, i < 8 → cmp s (rollW b 64) 64 i = (rowAt s (rollW b 64) 64).getD i 0 := fun i hi => by
    unfold cmp seatAt
    rw [show (i + 64 - 64) % 8 = i by omega]
  rw [List.drop_zero, e0 0 (by omega), e0 1 (by omega), e0 2 (by omega), e0 3 (by omega), e0 4 (by omega), e0 5 (by omega), e0 6 (by omega), e0 7 (by omega),
    e1 0 (by omega), e1 1 (by omega), e1 2 (by omega), e1 3 (by omega), e1 4 (by omega), e1 5 (by omega), e1 6 (by omega), e1 7 (by omega)] at h
  have hr : (rowAt s (rollW b 64) 64).length = 8 := by rw [rowAt_length, hs]
  unfold workBlock
  generalize rowAt s (rollW b 64) 64 = r at *
  rw [blk_of kw (stOf s) _ _ _ _ _ _ _ _ h]
  unfold stOf
  rw [zip_at _ _ hr hs 0 (by omega), zip_at _ _ hr hs 1 (by omega), zip_at _ _ hr hs 2 (by omega), zip_at _ _ hr hs 3 (by omega), zip_at _ _ hr hs 4 (by omega), zip_at _ _ hr hs 5 (by omega), zip_at _ _ hr hs 6 (by omega), zip_at _ _ hr hs 7 (by omega)]
theorem chain_succ (kw : List Nat) (n : Nat) (s : S8) : chain kw (n + 1) s = chain kw n (blk kw s) := by
  rw [chain]
theorem chain_add (kw : List Nat) : ∀ (m n : Nat) (s : S8), chain kw (m + n) s = chain kw n (chain kw m s)
  | 0, n, s => by rw [Nat.zero_add]; rfl
  | m + 1, n, s => by rw [show m + 1 + n = (m + n) + 1 by omega, chain_succ, chain_succ, chain_add kw m n]
theorem absorb_same (x : UInt8) (kw : List Nat) (hk : kw.length = 64) (hkw : ∀ t, t < 64 → kw.getD t 0 = kwl (rollW (List.replicate 64 x) 64) t) : ∀ (n : Nat) (s : List (BitVec 32)) (N : Nat), s.length = 8 → 64 * n ≤ N → stOf (absorb n s (List.replicate N x)) = chain kw n (stOf s)
  | 0, s, N, _, _ => rfl
  | n + 1, s, N, hs, hN => by
    rw [absorb, chain_succ, List.take_replicate, List.drop_replicate, Nat.min_eq_left (by omega), absorb_same x kw hk hkw n _ (N - 64) (by rw [workBlock_length, hs]) (by omega), blk_spec s _ hs kw hk hkw]
/-- Eight seats are told by their numbers. -/
theorem list_of_st (s : List (BitVec 32)) (hs : s.length = 8) (a b c d e f g h : Nat) (hst : stOf s = ⟨a, b, c, d, e, f, g, h⟩) : s = [BitVec.ofNat 32 a, BitVec.ofNat 32 b, BitVec.ofNat 32 c, BitVec.ofNat 32 d, BitVec.ofNat 32 e, BitVec.ofNat 32 f, BitVec.ofNat 32 g, BitVec.ofNat 32 h] := by
  match s, hs with
  | [x0, x1, x2, x3, x4, x5, x6, x7], _ =>
    unfold stOf at hst
    simp only [S8.mk.injEq] at hst
    obtain ⟨h0, h1, h2, h3, h4, h5, h6, h7⟩ := hst
    rw [← h0, ← h1, ← h2, ← h3, ← h4, ← h5, ← h6, ← h7]
    simp
end Go.Proofs.YtgdcjealhbfnaaaDoor

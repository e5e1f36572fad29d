/-
  Things that are put and got: what each puts, and what getting it tells. Mathematics. No statement of the seat is proved here.
-/
import Derived.Test.YtbiglickijmmhaaDoorBackM
import Derived.Test.YtbiglickijmmhaaDoorTelB
namespace Go.Proofs.YtbiglickijmmhaaDoor

/-- A thing: its kind, its number, where its bytes lie, and these. -/
structure Th where
  K : Nat
  N : Nat
  A : Option Addr
  n : Nat
  c : Nat
  l : List UInt8
/-- A number of 64 bits as one that may be below 0. -/
def s64 (N : Nat) : Int := if N < 2 ^ 63 then (N : Int) else (N : Int) - 2 ^ 64
theorem s64_lo (N : Nat) (h : N < 2 ^ 64) : -2 ^ 63 ≤ s64 N ∧ s64 N < 2 ^ 63 := by unfold s64; split <;> omega
/-- What a thing puts. -/
def Th.put (t : Th) : List UInt8 :=
  if t.K % 4 = 0 then varint t.N
  else if t.K % 4 = 1 then varint (plc (s64 t.N))
  else if t.K % 4 = 2 then varint t.l.length ++ t.l
  else varint (t.l.length + 4) ++ (t.l ++ be4 (crc t.l))
theorem varint_pos (n : Nat) : 0 < (varint n).length := by
  cases hv : varint n with
  | nil => exact absurd hv (varint_ne n)
  | cons x l => simp
theorem getI_put (l b : List UInt8) (p : Nat) (n : Int) (h0 : -2 ^ 63 ≤ n) (h1 : n < 2 ^ 63) (hp : p ≤ l.length) (hd : l.drop p = varint (plc n) ++ b) : getI l (p : Int) = (n, p + (varint (plc n)).length, 0) := by
  have := getU_put l b p (plc n) (plc_lt h0 h1) hp hd
  unfold getI
  rw [this]
  simp [unplc_plc]
theorem getI_cut (l : List UInt8) (p : Nat) (n : Int) (k : Nat) (h0 : -2 ^ 63 ≤ n) (h1 : n < 2 ^ 63) (hp : p ≤ l.length) (hk : k < (varint (plc n)).length) (hd : l.drop p = (varint (plc n)).take k) : getI l (p : Int) = (0, 0, 11) := by
  have := getU_cut l p (plc n) k (plc_lt h0 h1) hp hk hd
  unfold getI
  rw [this]
  rfl
theorem getB_put (l b m : List UInt8) (p n : Nat) (hm : m.length = n) (hn : n < 2 ^ 64) (hp : p ≤ l.length) (hd : l.drop p = varint n ++ m ++ b) : getB l (p : Int) (n : Int) = (m, p + (varint n ++ m).length, 0) := by
  have hu := getU_put l (m ++ b) p n hn hp (by rw [hd, List.append_assoc])
  have hlen : l.length = p + (varint n).length + n + b.length := by
    have := congrArg List.length hd
    simp only [List.length_drop, List.length_append, hm] at this
    omega
  have hdr : l.drop (p + (varint n).length) = m ++ b := by
    rw [← List.drop_drop, hd, List.append_assoc, List.drop_left]
  unfold getB
  rw [hu]
  simp only
  rw [if_neg (by simp), if_neg (by omega), if_neg (by omega), hdr, ← hm, List.take_left]
  simp only [List.length_append, Prod.mk.injEq, and_true, true_and, hm]
  omega
theorem getB_cut (l m : List UInt8) (p n k : Nat) (hm : m.length = n) (hn : n < 2 ^ 64) (hp : p ≤ l.length) (hk : k < (varint n ++ m).length) (hd : l.drop p = (varint n ++ m).take k) : getB l (p : Int) (n : Int) = ([], 0, 11) := by
  rcases Nat.lt_or_ge k (varint n).length with h | h
  · have hu := getU_cut l p n k hn hp h (by rw [hd, List.take_append_of_le_length (by omega)])
    unfold getB
    rw [hu]
    simp
  · have e : (varint n ++ m).take k = varint n ++ m.take (k - (varint n).length) := by
      rw [List.take_append, List.take_of_length_le h]
    rw [e] at hd
    have hu := getU_put l _ p n hn hp hd
    have hlen : l.length = p + (varint n).length + (m.take (k - (varint n).length)).length := by
      have := congrArg List.length hd
      simp only [List.length_drop, List.length_append] at this
      omega
    rw [List.length_append] at hk
    rw [List.length_take] at hlen
    unfold getB
    rw [hu]
    simp only
    rw [if_neg (by simp), if_neg (by omega), if_pos (by omega)]
theorem unS_seal (l : List UInt8) : unS (l ++ be4 (crc l)) = (l, 0) := by
  have h4 : (be4 (crc l)).length = 4 := rfl
  have hl : (l ++ be4 (crc l)).length = l.length + 4 := by rw [List.length_append, h4]
  have ht : (l ++ be4 (crc l)).take (l.length + 4 - 4) = l := by
    rw [show l.length + 4 - 4 = l.length by omega, List.take_left]
  have hi := (sealed_iff (l ++ be4 (crc l)) (by omega)).1 (by rw [hl, ht])
  unfold unS
  rw [hl] at hi ⊢
  rw [if_neg (by omega), if_pos hi, ht]
/-- What getting a thing tells: the place behind it, the error; whether it is the thing. -/
def getT (b : List UInt8) (p : Int) (t : Th) : Nat × Nat × Bool :=
  if t.K % 4 = 0 then ((getU b p).2.1, (getU b p).2.2, (getU b p).1 == t.N)
  else if t.K % 4 = 1 then ((getI b p).2.1, (getI b p).2.2, (getI b p).1 == s64 t.N)
  else if t.K % 4 = 2 then ((getB b p t.n).2.1, (getB b p t.n).2.2, (getB b p t.n).1 == t.l)
  else if (getB b p ((t.n : Int) + 4)).2.2 ≠ 0 then ((getB b p ((t.n : Int) + 4)).2.1, (getB b p ((t.n : Int) + 4)).2.2, false)
  else ((getB b p ((t.n : Int) + 4)).2.1, (unS (getB b p ((t.n : Int) + 4)).1).2, (unS (getB b p ((t.n : Int) + 4)).1).1 == t.l)
theorem getT_put (l b : List UInt8) (p : Nat) (t : Th) (hN : t.N < 2 ^ 64) (hn : t.l.length = t.n) (hn2 : t.n < 2 ^ 32) (hp : p ≤ l.length) (hd : l.drop p = t.put ++ b) : getT l (p : Int) t = (p + t.put.length, 0, true) := by
  unfold getT
  unfold Th.put at hd ⊢
  split
  · rename_i h
    rw [if_pos h] at hd
    rw [getU_put l b p t.N hN hp hd]
    simp
  · rename_i h
    rw [if_neg h] at hd
    split
    · rename_i h1
      rw [if_pos h1] at hd
      obtain ⟨a1, a2⟩ := s64_lo t.N hN
      rw [getI_put l b p (s64 t.N) a1 a2 hp hd]
      simp
    · rename_i h1
      rw [if_neg h1] at hd
      split
      · rename_i h2
        rw [if_pos h2, hn] at hd
        rw [getB_put l b t.l p t.n hn (by omega) hp hd, hn]
        simp
      · rename_i h2
        rw [if_neg h2, hn] at hd
        have h4 : (t.l ++ be4 (crc t.l)).length = t.n + 4 := by rw [List.length_append, hn]; rfl
        have := getB_put l b (t.l ++ be4 (crc t.l)) p (t.n + 4) h4 (by omega) hp hd
        rw [show ((t.n + 4 : Nat) : Int) = (t.n : Int) + 4 by omega] at this
        rw [this]
        simp only [unS_seal, hn]
        simp
theorem getT_cut (l : List UInt8) (p k : Nat) (t : Th) (hN : t.N < 2 ^ 64) (hn : t.l.length = t.n) (hn2 : t.n < 2 ^ 32) (hp : p ≤ l.length) (hk : k < t.put.length) (hd : l.drop p = t.put.take k) : (getT l (p : Int) t).1 = 0 ∧ (getT l (p : Int) t).2.1 = 11 := by
  unfold getT
  unfold Th.put at hd hk
  split
  · rename_i h
    rw [if_pos h] at hd hk
    rw [getU_cut l p t.N k hN hp hk hd]
    exact ⟨rfl, rfl⟩
  · rename_i h
    rw [if_neg h] at hd hk
    split
    · rename_i h1
      rw [if_pos h1] at hd hk
      obtain ⟨a1, a2⟩ := s64_lo t.N hN
      rw [getI_cut l p (s64 t.N) k a1 a2 hp hk hd]
      exact ⟨rfl, rfl⟩
    · rename_i h1
      rw [if_neg h1] at hd hk
      split
      · rename_i h2
        rw [if_pos h2, hn] at hd hk
        rw [getB_cut l t.l p t.n k hn (by omega) hp hk hd]
        exact ⟨rfl, rfl⟩
      · rename_i h2
        rw [if_neg h2, hn] at hd hk
        have h4 : (t.l ++ be4 (crc t.l)).length = t.n + 4 := by rw [List.length_append, hn]; rfl
        have := getB_cut l (t.l ++ be4 (crc t.l)) p (t.n + 4) k h4 (by omega) hp hk hd
        rw [show ((t.n + 4 : Nat) : Int) = (t.n : Int) + 4 by omega] at this
        rw [this]
        exact ⟨rfl, rfl⟩
theorem Th.put_pos (t : Th) : 0 < t.put.length := by
  unfold Th.put
  split
  · exact varint_pos _
  · split
    · exact varint_pos _
    · split
      · rw [List.length_append]; have := varint_pos t.l.length; omega
      · rw [List.length_append]; have := varint_pos (t.l.length + 4); omega
theorem Th.put_le (t : Th) (hN : t.N < 2 ^ 64) (hl : t.l.length ≤ 40) : t.put.length ≤ 60 := by
  unfold Th.put
  split
  · have := varint_len_ten hN; omega
  · split
    · obtain ⟨a1, a2⟩ := s64_lo t.N hN
      have := varint_len_ten (plc_lt a1 a2); omega
    · split
      · have := varint_len_ten (show t.l.length < 2 ^ 64 by omega)
        rw [List.length_append]; omega
      · have := varint_len_ten (show t.l.length + 4 < 2 ^ 64 by omega)
        rw [List.length_append, List.length_append, show (be4 (crc t.l)).length = 4 from rfl]; omega
end Go.Proofs.YtbiglickijmmhaaDoor

/-
  A root's bytes: plain mathematics, no Go. No statement of the seat is proved here.
-/
import Derived.Test.YtggejecmhfafoaaGreatDoorSlM
import Derived.Test.YtggejecmhfafoaaGreatDoorRefGM
namespace Go.Proofs.YtggejecmhfafoaaGreatDoor

/-- A root's numbers and its blob. -/
structure Rn where
  s : Nat
  t : Nat
  c : Nat
  l : List UInt8
def Rn.zero : Rn := ⟨0, 0, 0, []⟩
def mgc : List UInt8 := [72, 83, 82, 49]
def top : Nat := 9007199254740992
/-- What is sealed. -/
def Rn.body (r : Rn) : List UInt8 := mgc ++ varint r.s ++ varint r.t ++ varint r.c ++ (varint r.l.length ++ r.l)
def Rn.bytes (r : Rn) : List UInt8 := r.body ++ be4 (crc r.body)
def Rn.right (r : Rn) : Bool := decide (1 ≤ r.s ∧ r.s ≤ top ∧ r.t ≤ top ∧ r.c ≤ top)
/-- The k-th number that is read behind the magic, and where. -/
def gk (l : List UInt8) : Nat → Nat × Nat × Nat
  | 0 => getU l 4
  | k + 1 => getU l (gk l k).2.1
def atK (l : List UInt8) : Nat → Nat
  | 0 => 4
  | k + 1 => (gk l k).2.1
theorem gk_at (l : List UInt8) (k : Nat) : gk l k = getU l (atK l k) := by cases k <;> rfl
/-- What is read without the seal. -/
def rdR (l : List UInt8) : Rn × Bool :=
  if l.take 4 ≠ mgc then (Rn.zero, false) else if (gk l 0).2.2 ≠ 0 ∨ top < (gk l 0).1 then (Rn.zero, false) else if (gk l 1).2.2 ≠ 0 ∨ top < (gk l 1).1 then (Rn.zero, false)
  else if (gk l 2).2.2 ≠ 0 ∨ top < (gk l 2).1 then (Rn.zero, false) else if (getB l (atK l 3) 1048576).2.2 ≠ 0 ∨ (getB l (atK l 3) 1048576).2.1 ≠ l.length ∨ (gk l 0).1 = 0 then (Rn.zero, false)
  else (⟨(gk l 0).1, (gk l 1).1, (gk l 2).1, (getB l (atK l 3) 1048576).1⟩, true)
/-- What is parsed: the root, the error's number. -/
def prs (l : List UInt8) : Rn × Nat := if (unS l).2 ≠ 0 then (Rn.zero, (unS l).2) else if (rdR (unS l).1).2 then ((rdR (unS l).1).1, 0) else (Rn.zero, 10)

/-- What is got of a number says where it stands. -/
theorem getU_tells (l : List UInt8) (p n q : Nat) (h : getU l p = (n, q, 0)) : p ≤ q ∧ q ≤ l.length ∧ n < 2 ^ 64 ∧ l.drop p = varint n ++ l.drop q := by
  have hn : n < 2 ^ 64 := by have := getU_lt l p; rw [h] at this; exact this
  have hq : q ≤ l.length := by have := getU_next l p; rw [h] at this; exact this
  have hp : p ≤ l.length := by
    by_cases hp : p ≤ l.length
    · exact hp
    · unfold getU at h
      rw [if_pos (by omega)] at h
      simp at h
  cases hf : ((l.drop p).take 10).findIdx? low with
  | none =>
    unfold getU at h
    rw [if_neg (by omega), Int.toNat_natCast, hf] at h
    simp only at h
    split at h <;> simp at h
  | some i =>
    obtain ⟨h1, h2⟩ := getU_own l p hp i hf
    by_cases hv : varint (valMod (((l.drop p).take 10).take (i + 1))) = ((l.drop p).take 10).take (i + 1)
    · have h3 := h1 hv
      rw [h] at h3
      injection h3 with h4 h5
      injection h5 with h5 _
      obtain ⟨hi, _⟩ := List.findIdx?_eq_some_iff_getElem.1 hf
      have hi10 : i < 10 := by rw [List.length_take] at hi; omega
      have ht : ((l.drop p).take 10).take (i + 1) = (l.drop p).take (i + 1) := by rw [List.take_take, Nat.min_eq_left (by omega)]
      refine ⟨by omega, hq, hn, ?_⟩
      rw [h4, hv, ht, h5, show p + i + 1 = p + (i + 1) by omega, ← List.drop_drop, List.take_append_drop]
    · have h3 := h2 hv
      rw [h] at h3
      simp at h3
theorem getB_tells (l : List UInt8) (p q : Nat) (most : Int) (m : List UInt8) (h : getB l p most = (m, q, 0)) : p ≤ q ∧ q ≤ l.length ∧ (m.length : Int) ≤ most ∧ m.length < 2 ^ 64 ∧ l.drop p = varint m.length ++ m ++ l.drop q := by
  unfold getB at h
  obtain ⟨n, a, e, hg⟩ : ∃ n a e, getU l p = (n, a, e) := ⟨_, _, _, rfl⟩
  rw [hg] at h
  simp only at h
  by_cases he : e = 0
  · subst he
    obtain ⟨h1, h2, h3, h4⟩ := getU_tells l p n a hg
    rw [if_neg (by simp)] at h
    by_cases hm : most < 0 ∨ most < (n : Int)
    · rw [if_pos hm] at h; simp at h
    · rw [if_neg hm] at h
      by_cases hl : l.length - a < n
      · rw [if_pos hl] at h; simp at h
      · rw [if_neg hl] at h
        injection h with h5 h6
        injection h6 with h6 _
        have hlen : m.length = n := by rw [← h5, List.length_take, List.length_drop]; omega
        refine ⟨by omega, by omega, by rw [hlen]; omega, by rw [hlen]; exact h3, ?_⟩
        rw [hlen, h4, ← h6, ← h5, List.append_assoc, ← List.drop_drop, List.take_append_drop]
  · rw [if_pos he] at h
    injection h with _ h6
    injection h6 with _ h6
    exact absurd h6 he
theorem varint_len54 {n : Nat} (h : n ≤ top) : (varint n).length ≤ 8 := varint_len_le 7 n (Nat.lt_of_le_of_lt h (by decide))
theorem right_iff (r : Rn) : r.right = true ↔ 1 ≤ r.s ∧ r.s ≤ top ∧ r.t ≤ top ∧ r.c ≤ top := by
  unfold Rn.right
  rw [decide_eq_true_eq]
theorem drop4 (x : List UInt8) : List.drop 4 (mgc ++ x) = x := rfl
theorem take4 (x : List UInt8) : List.take 4 (mgc ++ x) = mgc := rfl
/-- A right root's bytes are read again. -/
theorem rdR_body (r : Rn) (h : r.right = true) (hl : r.l.length ≤ 1048576) : rdR r.body = (r, true) := by
  obtain ⟨h1, h2, h3, h4⟩ := (right_iff r).1 h
  have ht : top < 2 ^ 64 := by decide
  have e4 : mgc.length = 4 := rfl
  have b0 : r.body = mgc ++ (varint r.s ++ (varint r.t ++ (varint r.c ++ (varint r.l.length ++ r.l)))) := by unfold Rn.body; simp only [List.append_assoc]
  have hlen : r.body.length = 4 + (varint r.s).length + (varint r.t).length + (varint r.c).length + ((varint r.l.length).length + r.l.length) := by
    rw [b0]
    simp only [List.length_append, e4]
    omega
  have g1 : getU r.body 4 = (r.s, 4 + (varint r.s).length, 0) :=
    getU_put r.body (varint r.t ++ (varint r.c ++ (varint r.l.length ++ r.l))) 4 r.s (by omega) (by omega) (by rw [b0]; exact drop4 _)
  have d1 : r.body.drop (4 + (varint r.s).length) = varint r.t ++ (varint r.c ++ (varint r.l.length ++ r.l)) := by
    rw [← List.drop_drop, b0, drop4, List.drop_left]
  have g2 : getU r.body ((4 + (varint r.s).length : Nat) : Int) = (r.t, 4 + (varint r.s).length + (varint r.t).length, 0) :=
    getU_put r.body (varint r.c ++ (varint r.l.length ++ r.l)) _ r.t (by omega) (by omega) d1
  have d2 : r.body.drop (4 + (varint r.s).length + (varint r.t).length) = varint r.c ++ (varint r.l.length ++ r.l) := by
    rw [← List.drop_drop, d1, List.drop_left]
  have g3 : getU r.body ((4 + (varint r.s).length + (varint r.t).length : Nat) : Int) = (r.c, 4 + (varint r.s).length + (varint r.t).length + (varint r.c).length, 0) :=
    getU_put r.body (varint r.l.length ++ r.l) _ r.c (by omega) (by omega) d2
  have d3 : r.body.drop (4 + (varint r.s).length + (varint r.t).length + (varint r.c).length) = varint r.l.length ++ r.l ++ [] := by
    rw [← List.drop_drop, d2, List.drop_left, List.append_nil]
  have g4 : getU r.body ((4 + (varint r.s).length + (varint r.t).length + (varint r.c).length : Nat) : Int) = (r.l.length, 4 + (varint r.s).length + (varint r.t).length + (varint r.c).length + (varint r.l.length).length, 0) :=
    getU_put r.body r.l _ r.l.length (by omega) (by omega) (by rw [d3, List.append_nil])
  have d4 : r.body.drop (4 + (varint r.s).length + (varint r.t).length + (varint r.c).length + (varint r.l.length).length) = r.l := by
    rw [← List.drop_drop, d3, List.append_nil, List.drop_left]
  have gB : getB r.body ((4 + (varint r.s).length + (varint r.t).length + (varint r.c).length : Nat) : Int) 1048576 = (r.l, r.body.length, 0) := by
    unfold getB
    rw [g4]
    simp only
    rw [if_neg (by simp), if_neg (by omega), if_neg (by omega), d4, List.take_length]
    congr 2
    omega
  have hm : r.body.take 4 = mgc := by rw [b0]; exact take4 _
  have q0 : gk r.body 0 = (r.s, 4 + (varint r.s).length, 0) := g1
  have q1 : gk r.body 1 = (r.t, 4 + (varint r.s).length + (varint r.t).length, 0) := by
    show getU r.body ((gk r.body 0).2.1 : Int) = _
    rw [q0]
    exact g2
  have q2 : gk r.body 2 = (r.c, 4 + (varint r.s).length + (varint r.t).length + (varint r.c).length, 0) := by
    show getU r.body ((gk r.body 1).2.1 : Int) = _
    rw [q1]
    exact g3
  have q3 : atK r.body 3 = 4 + (varint r.s).length + (varint r.t).length + (varint r.c).length := by
    show (gk r.body 2).2.1 = _
    rw [q2]
  unfold rdR
  rw [q3, gB, q0, q1, q2]
  simp only
  rw [if_neg (show ¬ (r.body.take 4 ≠ mgc) from fun h => h hm), if_neg (by omega), if_neg (by omega), if_neg (by omega), if_neg (by omega)]
/-- What is read is a right root, and these are its bytes. -/
theorem rdR_tells (l : List UInt8) (r : Rn) (h : rdR l = (r, true)) : r.right = true ∧ r.l.length ≤ 1048576 ∧ l = r.body := by
  unfold rdR at h
  by_cases c1 : l.take 4 ≠ mgc
  · rw [if_pos c1] at h; simp at h
  · rw [if_neg c1] at h
    have c1 : l.take 4 = mgc := Classical.not_not.1 c1
    obtain ⟨n1, a1, e1, g1⟩ : ∃ n a e, gk l 0 = (n, a, e) := ⟨_, _, _, rfl⟩
    rw [g1] at h
    simp only at h
    by_cases c2 : e1 ≠ 0 ∨ top < n1
    · rw [if_pos c2] at h; simp at h
    · rw [if_neg c2] at h
      obtain ⟨n2, a2, e2, g2⟩ : ∃ n a e, gk l 1 = (n, a, e) := ⟨_, _, _, rfl⟩
      rw [g2] at h
      simp only at h
      by_cases c3 : e2 ≠ 0 ∨ top < n2
      · rw [if_pos c3] at h; simp at h
      · rw [if_neg c3] at h
        obtain ⟨n3, a3, e3, g3⟩ : ∃ n a e, gk l 2 = (n, a, e) := ⟨_, _, _, rfl⟩
        rw [g3] at h
        simp only at h
        by_cases c4 : e3 ≠ 0 ∨ top < n3
        · rw [if_pos c4] at h; simp at h
        · rw [if_neg c4] at h
          have hat : atK l 3 = a3 := by
            show (gk l 2).2.1 = _
            rw [g3]
          rw [hat] at h
          obtain ⟨m, a4, e4, g4⟩ : ∃ n a e, getB l a3 1048576 = (n, a, e) := ⟨_, _, _, rfl⟩
          rw [g4] at h
          simp only at h
          by_cases c5 : e4 ≠ 0 ∨ a4 ≠ l.length ∨ n1 = 0
          · rw [if_pos c5] at h; simp at h
          · rw [if_neg c5] at h
            have he1 : e1 = 0 := by omega
            have he2 : e2 = 0 := by omega
            have he3 : e3 = 0 := by omega
            have he4 : e4 = 0 := by omega
            have ha4 : a4 = l.length := by omega
            subst he1 he2 he3 he4
            have t1 := getU_tells l 4 n1 a1 g1
            have t2 := getU_tells l a1 n2 a2 (by have h1 : gk l 1 = getU l ((gk l 0).2.1 : Int) := rfl; rw [g1, g2] at h1; exact h1.symm)
            have t3 := getU_tells l a2 n3 a3 (by have h1 : gk l 2 = getU l ((gk l 1).2.1 : Int) := rfl; rw [g2, g3] at h1; exact h1.symm)
            have t4 := getB_tells l a3 a4 _ m g4
            injection h with h _
            subst h
            refine ⟨(right_iff _).2 ⟨by show 1 ≤ n1; omega, by show n1 ≤ top; omega, by show n2 ≤ top; omega, by show n3 ≤ top; omega⟩, by show m.length ≤ _; omega, ?_⟩
            show l = mgc ++ varint n1 ++ varint n2 ++ varint n3 ++ (varint m.length ++ m)
            have e := List.take_append_drop 4 l
            rw [t1.2.2.2, t2.2.2.2, t3.2.2.2, t4.2.2.2.2, c1, ha4, List.drop_length, List.append_nil] at e
            rw [← e]
            simp only [List.append_assoc]
/-- A right root's bytes are that root's. -/
theorem prs_bytes (r : Rn) (h : r.right = true) (hl : r.l.length ≤ 1048576) : prs r.bytes = (r, 0) := by
  unfold prs Rn.bytes
  rw [unS_seal]
  simp only
  rw [if_neg (by simp), rdR_body r h hl]
  simp
theorem unS_tells (l m : List UInt8) (h : unS l = (m, 0)) : l = m ++ be4 (crc m) := by
  unfold unS at h
  by_cases c1 : l.length < 4
  · rw [if_pos c1] at h; simp at h
  · rw [if_neg c1] at h
    by_cases c2 : crc (l.take (l.length - 4)) = numB (l.drop (l.length - 4))
    · rw [if_pos c2] at h
      injection h with h _
      rw [← h]
      exact ((sealed_iff l (by omega)).2 c2).symm
    · rw [if_neg c2] at h; simp at h
theorem prs_tells (l : List UInt8) (r : Rn) (h : prs l = (r, 0)) : r.right = true ∧ r.l.length ≤ 1048576 ∧ l = r.bytes := by
  unfold prs at h
  obtain ⟨m, e, hu⟩ : ∃ m e, unS l = (m, e) := ⟨_, _, rfl⟩
  rw [hu] at h
  simp only at h
  by_cases he : e = 0
  · subst he
    rw [if_neg (by simp)] at h
    cases hr : (rdR m).2 with
    | false => rw [hr] at h; simp at h
    | true =>
      rw [hr, if_pos rfl] at h
      injection h with h _
      have h2 : rdR m = (r, true) := by rw [← hr, ← h]
      obtain ⟨q1, q2, q3⟩ := rdR_tells m r h2
      refine ⟨q1, q2, ?_⟩
      rw [unS_tells l m hu, q3]
      rfl
  · rw [if_pos he] at h
    injection h with _ h
    exact absurd h he
theorem bytes_inj {r q : Rn} (h1 : r.right = true) (h2 : r.l.length ≤ 1048576) (h3 : q.right = true) (h4 : q.l.length ≤ 1048576) (h : r.bytes = q.bytes) : r = q := by
  have e1 := prs_bytes r h1 h2
  have e2 := prs_bytes q h3 h4
  rw [h, e2] at e1
  injection e1 with e1 _
  exact e1.symm
end Go.Proofs.YtggejecmhfafoaaGreatDoor

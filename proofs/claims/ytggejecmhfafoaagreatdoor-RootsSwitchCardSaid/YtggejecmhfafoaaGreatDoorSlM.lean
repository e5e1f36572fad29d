/-
  Seals and blobs, got: what is told. No statement of the seat is proved here.
-/
import Derived.Test.YtggejecmhfafoaaGreatDoorBackM
namespace Go.Proofs.YtggejecmhfafoaaGreatDoor
open Go.RowKit

theorem numB_be4 {s : Nat} (h : s < 2 ^ 32) : numB (be4 s) = s := by
  simp only [numB, be4, List.foldl_cons, List.foldl_nil, UInt8.toNat_ofNat']
  omega
theorem be4_numB (m : List UInt8) (h : m.length = 4) : be4 (numB m) = m := by
  match m, h with
  | [a, b, c, d], _ =>
    have ha := a.toNat_lt
    have hb := b.toNat_lt
    have hc := c.toNat_lt
    have hd := d.toNat_lt
    have e : numB [a, b, c, d] = a.toNat * 16777216 + b.toNat * 65536 + c.toNat * 256 + d.toNat := by
      simp only [numB, List.foldl_cons, List.foldl_nil]
      omega
    rw [e]
    simp only [be4, List.cons.injEq, and_true]
    refine ⟨?_, ?_, ?_, ?_⟩ <;> (apply UInt8.toNat_inj.1; rw [UInt8.toNat_ofNat']; omega)
theorem sealed_iff (l : List UInt8) (h : 4 ≤ l.length) : l.take (l.length - 4) ++ be4 (crc (l.take (l.length - 4))) = l ↔ crc (l.take (l.length - 4)) = numB (l.drop (l.length - 4)) := by
  constructor
  · intro e
    have h2 : be4 (crc (l.take (l.length - 4))) = l.drop (l.length - 4) := by
      have h3 := List.take_append_drop (l.length - 4) l
      exact List.append_cancel_left (e.trans h3.symm)
    rw [← h2, numB_be4 (crc_lt _)]
  · intro e
    rw [e, be4_numB _ (by rw [List.length_drop]; omega), List.take_append_drop]
/-- What a call leaves that answers bytes, a number and an error. -/
def Blb (B : Nat) (w : World) (r : List UInt8 × Nat × Nat) (e : Ending) (w' : World) : Prop :=
  ∃ A n c, e = .returned (.tuple #[.slice A n c, .int .i64 (r.2.1 : Int), .int .i64 (r.2.2 : Int)]) ∧ Rd w' w'.heap.size A n r.1 ∧ Below B w w'
theorem getB_zero (l : List UInt8) (p most : Int) (h : (getB l p most).2.2 ≠ 0) : (getB l p most).1 = [] ∧ (getB l p most).2.1 = 0 := by
  unfold getB at *
  split at h
  · rename_i h1; rw [if_pos h1]; exact ⟨rfl, rfl⟩
  · rename_i h1
    rw [if_neg h1]
    split at h
    · rename_i h2; rw [if_pos h2]; exact ⟨rfl, rfl⟩
    · rename_i h2
      rw [if_neg h2]
      split at h
      · rename_i h3; rw [if_pos h3]; exact ⟨rfl, rfl⟩
      · exact absurd rfl h
/-- What GetBlob answers: its bytes lie in new memory. -/
def BlbN (B : Nat) (w : World) (r : List UInt8 × Nat × Nat) (e : Ending) (w' : World) : Prop :=
  ∃ A n c, e = .returned (.tuple #[.slice A n c, .int .i64 (r.2.1 : Int), .int .i64 (r.2.2 : Int)]) ∧ Rd w' w'.heap.size A n r.1 ∧ Below B w w' ∧ (∀ a, A = some a → B ≤ a.block)
theorem gbN_any (l : List UInt8) (A : Option Addr) (n c : Nat) (p most : Int) (w : World) (hr : Rd w w.heap.size A n l) (hn : n ≤ 500000) (hc : n ≤ c) (hm : most ≤ 9223372036854775807) :
    Calls Tryz.prog 76 #[.slice A n c, .int .i64 p, .int .i64 most] w (BlbN w.heap.size w (getB l p most)) := by
  by_cases he : (getB l p most).2.2 = 0
  · refine (getblob_ok l A n c p most w hr hn hc hm he).mono ?_
    rintro e w' ⟨v, rfl, hp⟩
    obtain ⟨v2, hv, ho, hb⟩ := hp
    injection hv with hv
    subst hv
    obtain ⟨A', c', hv, _, _⟩ := own_shape ho
    subst hv
    exact ⟨A', _, c', by rw [he]; rfl, Rd.own ho, hb, fun a ha => by subst ha; exact (ho.lt a.block rfl).1⟩
  · refine (getblob_err l A n c _ p most w hr hn hc hm he).mono ?_
    rintro e w' ⟨rfl, rfl⟩
    obtain ⟨h1, h2⟩ := getB_zero l p most he
    exact ⟨none, 0, 0, by rw [h2]; rfl, by rw [h1]; exact Rd.nil, Below.refl _ _, fun _ h => by cases h⟩
theorem gb_any (l : List UInt8) (A : Option Addr) (n c : Nat) (p most : Int) (w : World) (hr : Rd w w.heap.size A n l) (hn : n ≤ 500000) (hc : n ≤ c) (hm : most ≤ 9223372036854775807) :
    Calls Tryz.prog 76 #[.slice A n c, .int .i64 p, .int .i64 most] w (Blb w.heap.size w (getB l p most)) :=
  (gbN_any l A n c p most w hr hn hc hm).mono fun _ _ ⟨A, n, c, h1, h2, h3, _⟩ => ⟨A, n, c, h1, h2, h3⟩
/-- What Unseal answers. -/
def unS (l : List UInt8) : List UInt8 × Nat := if l.length < 4 then ([], 11) else if crc (l.take (l.length - 4)) = numB (l.drop (l.length - 4)) then (l.take (l.length - 4), 0) else ([], 12)
def Uns (B : Nat) (w : World) (r : List UInt8 × Nat) (e : Ending) (w' : World) : Prop :=
  ∃ A n c, e = .returned (.tuple #[.slice A n c, .int .i64 (r.2 : Int)]) ∧ Rd w' w'.heap.size A n r.1 ∧ Below B w w'
theorem un_any (l : List UInt8) (A : Option Addr) (n c : Nat) (w : World) (hr : Rd w w.heap.size A n l) (hn : n ≤ 20000) (hc : n ≤ c) (ht : Tab w) :
    Calls Tryz.prog 64 #[.slice A n c] w (Uns w.heap.size w (unS l)) := by
  have hl := hr.len
  by_cases h4 : n < 4
  · refine (unseal_short A n c w h4).mono ?_
    rintro e w' ⟨rfl, rfl⟩
    have : unS l = ([], 11) := by unfold unS; rw [if_pos (by omega)]
    rw [this]
    exact ⟨none, 0, 0, rfl, Rd.nil, Below.refl _ _⟩
  · by_cases he : crc (l.take (n - 4)) = numB (l.drop (n - 4))
    · refine (unseal_good l A n c w hr hc (by omega) (by omega) ht he).mono ?_
      rintro e w' ⟨v, rfl, hp⟩
      obtain ⟨A', n', c', hv, _, _, hd, hb⟩ := hp.str
      injection hv with hv
      subst hv
      have : unS l = (l.take (n - 4), 0) := by unfold unS; rw [hl, if_neg h4, if_pos he]
      rw [this]
      exact ⟨A', n', c', rfl, hd, hb⟩
    · refine (unseal_bad l A n c _ w hr hc (by omega) (by omega) ht he).mono ?_
      rintro e w' ⟨rfl, rfl⟩
      have : unS l = ([], 12) := by unfold unS; rw [hl, if_neg h4, if_neg he]
      rw [this]
      exact ⟨none, 0, 0, rfl, Rd.nil, Below.refl _ _⟩
theorem unS_seal (l : List UInt8) : unS (l ++ be4 (crc l)) = (l, 0) := by
  have h4 : (be4 (crc l)).length = 4 := rfl
  have hl : (l ++ be4 (crc l)).length = l.length + 4 := by rw [List.length_append, h4]
  have ht : (l ++ be4 (crc l)).take (l.length + 4 - 4) = l := by
    rw [show l.length + 4 - 4 = l.length by omega, List.take_left]
  have hi := (sealed_iff (l ++ be4 (crc l)) (by omega)).1 (by rw [hl, ht])
  unfold unS
  rw [hl] at hi ⊢
  rw [if_neg (by omega), if_pos hi, ht]
theorem varint_pos (n : Nat) : 0 < (varint n).length := by
  cases hv : varint n with
  | nil => exact absurd hv (varint_ne n)
  | cons x l => simp
theorem getB_put (l b m : List UInt8) (p n : Nat) (hm : m.length = n) (hn : n < 2 ^ 64) (hp : p ≤ l.length) (hd : l.drop p = varint n ++ m ++ b) : getB l (p : Int) (n : Int) = (m, p + (varint n ++ m).length, 0) := by
  have hu := getU_put l (m ++ b) p n hn hp (by rw [hd, List.append_assoc])
  have hlen : l.length = p + (varint n).length + n + b.length := by
    have := congrArg List.length hd
    simp only [List.length_drop, List.length_append, hm] at this
    omega
  have hdr : l.drop (p + (varint n).length) = m ++ b := by
    rw [← List.drop_drop, hd, List.append_assoc, List.drop_left]
  unfold getB
  rw [hu]
  simp only
  rw [if_neg (by simp), if_neg (by omega), if_neg (by omega), hdr, ← hm, List.take_left]
  simp only [List.length_append, Prod.mk.injEq, and_true, true_and, hm]
  omega
end Go.Proofs.YtggejecmhfafoaaGreatDoor

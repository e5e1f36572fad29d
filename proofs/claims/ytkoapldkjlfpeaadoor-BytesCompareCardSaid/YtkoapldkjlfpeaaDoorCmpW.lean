/-
  The walk of BytesCompare: it answers true, and nothing that was there has turned.
-/
import Derived.Test.YtkoapldkjlfpeaaDoorLadW
import Derived.Test.YtkoapldkjlfpeaaDoorCmpM
namespace Go.Proofs.YtkoapldkjlfpeaaDoor
open Go.RowKit

theorem Rd.get {w : World} {B n k : Nat} {A : Option Addr} {l : List UInt8} (h : Rd w B A n l) (hk : k < n) : ∃ b o, A = some ⟨b, o, none⟩ ∧ b < B ∧ w.cell? ⟨b, o + k, none⟩ = some (.int .u8 ((l.getD k 0).toNat : Int)) := by
  obtain ⟨b, o, e, hb, hc⟩ := h.2 (by omega)
  have hl := h.len
  have := hc k (by omega)
  refine ⟨b, o, e, hb, ?_⟩
  rw [this]
  simp [List.getD, List.getElem?_eq_getElem (show k < l.length by omega)]

set_option maxHeartbeats 1600000 in
set_option maxRecDepth 100000 in
theorem compare_nat (n m : Nat) (w : World) (hn : n < 2 ^ 64) (hm : m < 2 ^ 64) (ht : Tab w) :
    Calls Tryd.prog 7 #[.int .u64 (n : Int), .int .u64 (m : Int)] w fun e w' => e = .returned (.bool true) ∧ Below w.heap.size w w' := by
  have HT := Lib.hid ht
  obtain ⟨lo, hlo⟩ : ∃ lo : Nat, min n m = lo := ⟨_, rfl⟩
  obtain ⟨hi, hhi⟩ : ∃ hi : Nat, max n m = hi := ⟨_, rfl⟩
  have C1 := fun W : World => Lib.hid (uint_nil lo W (by omega))
  have C2 := fun W : World => Lib.hid (uint_nil hi W (by omega))
  have HH := Lib.hid (show lo ≤ hi by omega)
  have HLO := Lib.hid (show lo < 2 ^ 64 by omega)
  have HN := Lib.hid (show n = m ↔ lo = hi by omega)
  have hmn : (if m < n then (m : Int) else (n : Int)) = (lo : Int) := by split <;> omega
  have hmx : (if n < m then (m : Int) else (n : Int)) = (hi : Int) := by split <;> omega
  clear hlo hhi hn hm ht
  go_enter Tryd.func7, Tryd.ntmps7
  go_wp2_with fail
  refine (C1 _).out.mono ?_
  rintro e w1 hp1
  obtain ⟨A1, n1, c1, rfl, r1, hnc1, hd1, hb1⟩ := hp1.str
  clear hp1 r1
  go_wp2_with fail
  refine (C2 _).out.mono ?_
  rintro e w2 hp2
  obtain ⟨A2, n2, c2, rfl, r2, hnc2, hd2, hb2⟩ := hp2.str
  clear hp2 r2
  have R1 := Lib.hid ((hd1.below hb2).more hb2.size)
  have R2 := Lib.hid hd2
  have hB2 : Below w.heap.size w w2 := hb1.trans (hb2.mono hb1.size)
  have hz2 := hB2.size
  have hl1 := R1.out.len
  have hl2 := R2.out.len
  have hten1 := varint_len_mono hi lo HH.out
  clear hd1 hd2 hb1 hb2 hmn hmx
  by_cases hln : n1 = n2
  · have HE := Lib.hid (show (varint lo).length = (varint hi).length by omega)
    subst hln
    have hb0 : ((n1 : Int) != (n1 : Int)) = false := by simp
    have hn10 : n1 ≤ 10 := by have := varint_len_ten HLO.out; omega
    have HL1 := Lib.hid hl1
    clear hl1 hl2 hten1
    go_wp2_with fail
    go_loopw [7] (fun i wr => ∃ k q : Nat, k ≤ n1 ∧ i = .int .i64 ((k : Int) - 1) ∧ Hid (∀ j, k ≤ j → (varint lo).getD j 0 = (varint hi).getD j 0) ∧ wr = w2.drewN q) (fun i _ => (intOf i + 1).toNat)
    case atStart => exact ⟨n1, 0, Nat.le_refl _, rfl, (by show ∀ j, n1 ≤ j → (varint lo).getD j 0 = (varint hi).getD j 0; intro j hj; have h1 := HL1.out; have h2 := HE.out; rw [List.getD_eq_getElem?_getD, List.getD_eq_getElem?_getD, List.getElem?_eq_none (by omega), List.getElem?_eq_none (by omega)]), rfl⟩
    case round =>
      obtain ⟨k, q, hk, rfl, HA, rfl⟩ := hrel
      by_cases hk0 : 0 < k
      · obtain ⟨t, rfl⟩ : ∃ t, k = t + 1 := ⟨k - 1, by omega⟩
        obtain ⟨b1, o1, rfl, _, q1⟩ := R1.out.get (k := t) (by omega)
        obtain ⟨b2, o2, rfl, _, q2⟩ := R2.out.get (k := t) (by omega)
        have hti : (t : Int) < (n1 : Int) := by omega
        have htn : t < n1 := by omega
        have ht0 : 0 ≤ (t : Int) := by omega
        have F := Lib.hid (varint_found (k := t) HH.out HE.out (by have := HL1.out; omega) (fun j hj => HA.out j (by omega)))
        have x8 : ((varint lo).getD t 0).toNat < 256 := UInt8.toNat_lt _
        have y8 : ((varint hi).getD t 0).toNat < 256 := UInt8.toNat_lt _
        by_cases hxy : (varint lo).getD t 0 = (varint hi).getD t 0
        · have HA2 : Hid (∀ j, t ≤ j → (varint lo).getD j 0 = (varint hi).getD j 0) := by
            intro j hj
            by_cases hjt : j = t
            · subst hjt; exact hxy
            · exact HA.out j (by omega)
          have hbne : ((((varint lo).getD t 0).toNat : Int) != (((varint hi).getD t 0).toNat : Int)) = false := by rw [hxy]; simp
          clear F hxy
          generalize ((varint lo).getD t 0).toNat = x at *
          generalize ((varint hi).getD t 0).toNat = y at *
          go_wp2_with fail
          go_quiet (fail)
          go_wp2_with fail
          go_roundw
          case rel => exact ⟨t, _, by omega, by go_num, HA2, rfl⟩
          case measure => simp [intOf]
        · have F2 := F.out hxy
          have hxl : ((varint lo).getD t 0).toNat < ((varint hi).getD t 0).toNat := F2.1
          have hnm : ((n : Int) != (m : Int)) = true := by
            rw [bne_iff_ne]
            intro h
            have := HN.out.1 (by omega)
            have := F2.2
            omega
          have hbne : ((((varint lo).getD t 0).toNat : Int) != (((varint hi).getD t 0).toNat : Int)) = true := by rw [bne_iff_ne]; omega
          clear F hxy F2
          generalize ((varint lo).getD t 0).toNat = x at *
          generalize ((varint hi).getD t 0).toNat = y at *
          have hxl2 : decide (x < y) = true := by simpa using hxl
          go_wp2_with fail
          go_quiet (fail)
          go_wp2_with fail
          have hB5 := below_drewN (below_drewN hB2 q) nq
          have q3 : ((w2.drewN q).drewN nq).cell? ⟨b1, o1 + t, none⟩ = some (.int .u8 (x : Int)) := q1
          have q4 : ((w2.drewN q).drewN nq).cell? ⟨b2, o2 + t, none⟩ = some (.int .u8 (y : Int)) := q2
          have hz5 := hB5.size
          clear q1 q2
          generalize (w2.drewN q).drewN nq = w5 at *
          go_still_tail 15, (by kernel_rfl)
          go_wp2_with fail
          refine (awake_any _ (HT.out.keep hB5.drew HT.out.pos)).mono ?_
          rintro e w4 ⟨rfl, hb4⟩
          go_wp2_with fail
          go_ret
          exact ⟨rfl, hB5.drew.trans (hb4.mono hz5)⟩
      · have hk00 : k = 0 := by omega
        subst hk00
        have hnm : ((n : Int) == (m : Int)) = true := by
          rw [beq_iff_eq]
          have := HN.out.2 (varint_none HH.out HE.out (fun j => HA.out j (Nat.zero_le _)))
          omega
        go_wp2_with fail
        refine (awake_any _ (HT.out.keep (below_drewN hB2 _) HT.out.pos)).mono ?_
        rintro e w4 ⟨rfl, hb4⟩
        go_wp2_with fail
        go_ret
        exact ⟨rfl, (below_drewN hB2 _).trans (hb4.mono hz2)⟩
  · have hb0 : ((n1 : Int) != (n2 : Int)) = true := by rw [bne_iff_ne]; omega
    have hb1 : decide (n1 < n2) = true := by simp; omega
    have hnm : ((n : Int) != (m : Int)) = true := by
      rw [bne_iff_ne]
      intro h
      have := HN.out.1 (by omega)
      subst this
      omega
    clear hl1 hl2 hten1
    go_wp2_with fail
    refine (awake_any _ (HT.out.keep hB2 HT.out.pos)).mono ?_
    rintro e w4 ⟨rfl, hb4⟩
    go_wp2_with fail
    go_ret
    exact ⟨rfl, hB2.trans (hb4.mono hz2)⟩

theorem compare_walk (z y : Int) (w : World) (h0 : 0 ≤ z) (h1 : z < 2 ^ 64) (h2 : 0 ≤ y) (h3 : y < 2 ^ 64) (ht : Tab w) :
    Calls Tryd.prog 7 #[.int .u64 z, .int .u64 y] w fun e w' => e = .returned (.bool true) ∧ Below w.heap.size w w' := by
  obtain ⟨n, rfl⟩ : ∃ n : Nat, z = (n : Int) := ⟨z.toNat, by omega⟩
  obtain ⟨m, rfl⟩ : ∃ m : Nat, y = (m : Int) := ⟨y.toNat, by omega⟩
  exact compare_nat n m w (by omega) (by omega) ht
end Go.Proofs.YtkoapldkjlfpeaaDoor

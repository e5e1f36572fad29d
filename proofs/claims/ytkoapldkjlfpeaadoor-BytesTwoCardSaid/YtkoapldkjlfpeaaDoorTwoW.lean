/-
  The walk of BytesTwo: it answers true, and nothing that was there has turned.
-/
import Derived.Test.YtkoapldkjlfpeaaDoorTwoM
import Derived.Test.YtkoapldkjlfpeaaDoorLadW
import Derived.RegionTactic
namespace Go.Proofs.YtkoapldkjlfpeaaDoor
open Go.RowKit

theorem own_get {w : World} {B g m cap p : Nat} {L : List UInt8} (ho : w.ownsRow B 5 1 (.slice (some ⟨g, 0, none⟩) m cap) m (bvs L)) (hp : p < m) : w.cell? ⟨g, p, none⟩ = some (.int .u8 ((L.getD p 0).toNat : Int)) := by
  have hl : L.length = m := by have := ho.1; simpa [bvs_length] using this
  rw [ho.cellAt p (by omega), bvs_at L p (by omega), List.getD_eq_getElem?_getD, List.getElem?_eq_getElem (show p < L.length by omega)]
  rfl

theorem pow_byte (j : Nat) (h : j < 8) : (2 : Int) ^ j % 256 = ((2 ^ j : Nat) : Int) := by
  have : ∀ r : Fin 8, (2 : Int) ^ r.val % 256 = ((2 ^ r.val : Nat) : Int) := by decide
  exact this ⟨j, h⟩
theorem pow_byte_lt (j : Nat) (h : j < 8) : 2 ^ j < 256 := by
  have : ∀ r : Fin 8, 2 ^ r.val < 256 := by decide
  exact this ⟨j, h⟩
/-- What the walk meets where a bit of a list's byte is turned, and what is owned behind it. -/
theorem flip_facts (L : List UInt8) (i m : Nat) (hi : i < 8 * m) : ∃ p j xb eb nb : Nat, p < m ∧ j < 8 ∧ (i : Int).tdiv 8 = (p : Int) ∧ (i : Int).tmod 8 = (j : Int) ∧ (2 : Int) ^ j % 256 = (eb : Int) ∧ bits .xor .u8 (xb : Int) (eb : Int) = (nb : Int) ∧
    (∀ (w : World) (B g cap : Nat), w.ownsRow B 5 1 (.slice (some ⟨g, 0, none⟩) m cap) m (bvs L) → w.cell? ⟨g, p, none⟩ = some (.int .u8 (xb : Int)) ∧ w.frozen? ⟨g, p, none⟩ = false ∧
      (w.setCell ⟨g, p, none⟩ (.int .u8 (nb : Int))).ownsRow B 5 1 (.slice (some ⟨g, 0, none⟩) m cap) m (bvs (flip L i))) := by
  have hj : i % 8 < 8 := Nat.mod_lt _ (by decide)
  refine ⟨i / 8, i % 8, (L.getD (i / 8) 0).toNat, 2 ^ (i % 8), (L.getD (i / 8) 0 ^^^ bitOf i).toNat, by omega, hj, ?_, ?_, pow_byte _ hj, ?_, ?_⟩
  · rw [Int.tdiv_eq_ediv_of_nonneg (by omega)]; omega
  · rw [Int.tmod_eq_emod_of_nonneg (by omega)]; omega
  · rw [u8_xor_nat _ _ (UInt8.toNat_lt _) (pow_byte_lt _ hj), UInt8.toNat_xor, bitOf_toNat]
  · intro w B g cap ho
    refine ⟨own_get ho (by omega), ho.frozenAt _, ?_⟩
    have hs := ho.stored (i / 8) (.int .u8 ((L.getD (i / 8) 0 ^^^ bitOf i).toNat : Int))
    have hb : bvs (flip L i) = (bvs L).set (i / 8) (.int .u8 ((L.getD (i / 8) 0 ^^^ bitOf i).toNat : Int)) := by
      unfold flip bvs
      rw [List.map_set]
    rw [hb]
    exact hs.1
theorem own_cap {w : World} {B n c : Nat} {e : TypeId} {A : Option Addr} {xs : List Value} (h : w.ownsRow B e 1 (.slice A n c) n xs) : n ≤ c := by
  obtain ⟨A', c', hv, hc, _⟩ := own_shape h
  injection hv with _ _ hcc
  omega

set_option maxHeartbeats 1600000 in
set_option maxRecDepth 100000 in
theorem two_in (A : Option Addr) (n c : Nat) (l : List UInt8) (x y : Nat) (w : World) (h : Rd w w.heap.size A n l) (hn : n ≤ 300) (hx : x < 65536) (hy : y < 65536) (ht : Tab w) :
    Calls Tryd.prog 10 #[.slice A n c, .int .u16 (x : Int), .int .u16 (y : Int)] w fun e w' => e = .returned (.bool true) ∧ Below w.heap.size w w' := by
  have C1 := Lib.hid (seal_any A n c l w h (by omega) ht)
  have HT := Lib.hid ht
  have HL := Lib.hid h.len
  have H := Lib.hid h
  have hlen : (l ++ be4 (crc l)).length = n + 4 := by rw [List.length_append, h.len]; rfl
  clear h ht
  go_enter Tryd.func10, Tryd.ntmps10
  go_wp2_with fail
  refine C1.out.mono ?_
  rintro e w1 ⟨v, rfl, ho, hb1⟩
  obtain ⟨m, hm⟩ : ∃ m, m = n + 4 := ⟨_, rfl⟩
  rw [← hm] at hlen
  have hform : ∃ g cap, v = .slice (some ⟨g, 0, none⟩) m cap := by
    rcases ho.2 with ⟨_, h0⟩ | ⟨g, cap, cur, rfl, _⟩
    · omega
    · exact ⟨g, cap, by rw [hlen]⟩
  obtain ⟨g, cap, hv⟩ := hform
  rw [hv]
  rw [hv, hlen] at ho
  clear hv hlen
  have hneq : ((m : Int) != (n : Int) + 4) = false := by rw [bne_eq_false_iff_eq]; omega
  have hm4 : 4 ≤ m := by omega
  have hm304 : m ≤ 304 := by omega
  have HM := Lib.hid hm
  clear hm
  obtain ⟨i, hi⟩ : ∃ i, i = x % (8 * m) := ⟨_, rfl⟩
  obtain ⟨k, hk⟩ : ∃ k, k = y % (8 * m) := ⟨_, rfl⟩
  obtain ⟨m8, hm8⟩ : ∃ m8, m8 = 8 * m := ⟨_, rfl⟩
  have a0 : IntKind.i64.wrap (8 * (m : Int)) = (m8 : Int) := by rw [IntWalk.i64_in _ (by omega)]; omega
  have a1 : (x : Int).tmod (m8 : Int) = (i : Int) := by rw [Int.tmod_eq_emod_of_nonneg (by omega), hi, hm8]; rfl
  have a2 : (y : Int).tmod (m8 : Int) = (k : Int) := by rw [Int.tmod_eq_emod_of_nonneg (by omega), hk, hm8]; rfl
  have a3 : ((m8 : Int) == 0) = false := by rw [beq_eq_false_iff_ne]; omega
  have hi8 : i < 8 * m := by rw [hi]; exact Nat.mod_lt _ (by omega)
  have hk8 : k < 8 * m := by rw [hk]; exact Nat.mod_lt _ (by omega)
  have hmp : 0 < m8 := by omega
  clear hi hk hm8
  go_wp2_with fail
  go_quiet (fail)
  go_wp2_with fail
  have ho2 : (w1.drewN nq).ownsRow w.heap.size 5 1 (.slice (some ⟨g, 0, none⟩) m cap) m (bvs (l ++ be4 (crc l))) := ho
  have hB2 : Below w.heap.size w (w1.drewN nq) := below_drewN hb1 nq
  clear ho hb1 a0 a1 a2 a3
  generalize w1.drewN nq = w2 at *
  have hL4 : (l ++ be4 (crc l)).length = n + 4 := by rw [List.length_append, HL.out]; rfl
  have S0 := Lib.hid (syn_sealed l)
  have S1 := Lib.hid (one_found l (i := i) (by rw [HL.out]; have := HM.out; omega))
  have S2 := Lib.hid (fun hne => two_found l (i := i) (k := k) (by rw [HL.out]; exact hn) (by rw [HL.out]; have := HM.out; omega) (by rw [HL.out]; have := HM.out; omega) hne)
  have HLL := Lib.hid hL4
  rw [HL.out] at S0 S1 S2
  have T0 := Lib.hid (List.take_left (l₁ := l) (l₂ := be4 (crc l)))
  rw [HL.out] at T0
  clear hL4
  generalize l ++ be4 (crc l) = L at *
  obtain ⟨p, j, xb, eb, nb, hpm, hj8, e1, e3, e4, e5, hst⟩ := flip_facts L i m hi8
  have e2 : IntKind.i64.wrap (p : Int) = (p : Int) := IntWalk.i64_in _ (by omega)
  have hpm2 : (p : Int) < (m : Int) := by omega
  obtain ⟨q1, f1, ho3⟩ := hst w2 w.heap.size g cap ho2
  have hg := (ho2.lt g rfl).1
  clear hst
  go_still_tail 9, (by kernel_rfl)
  go_wp2_with fail
  have HO3 : (w2.setCell ⟨g, p, none⟩ (.int .u8 (nb : Int))).drew.ownsRow w.heap.size 5 1 (.slice (some ⟨g, 0, none⟩) m cap) m (bvs (flip L i)) := ho3
  have hB3 : Below w.heap.size w (w2.setCell ⟨g, p, none⟩ (.int .u8 (nb : Int))).drew := (hB2.setCell hg _).drew
  clear ho3 ho2 hB2 q1 f1 e1 e2 e3 e4 e5 hpm hpm2 hj8
  generalize (w2.setCell ⟨g, p, none⟩ (.int .u8 (nb : Int))).drew = w3 at *
  have hm4n : m - 4 = n := by have := HM.out; omega
  have C2 := Lib.hid (unseal_bad (flip L i) (some ⟨g, 0, none⟩) m cap _ w3 (Rd.own HO3) (own_cap HO3) (by omega) (by omega) (HT.out.keep hB3 HT.out.pos) (by rw [hm4n]; exact fun h => S1.out (syn_ok.1 h)))
  have HM4 := Lib.hid hm4n
  clear hm4n
  refine C2.out.mono ?_
  rintro e w4 ⟨rfl, rfl⟩
  obtain ⟨p2, j2, xb2, eb2, nb2, hpm, hj8, e1, e3, e4, e5, hst⟩ := flip_facts (flip L i) k m hk8
  have e2 : IntKind.i64.wrap (p2 : Int) = (p2 : Int) := IntWalk.i64_in _ (by omega)
  have hpm2 : (p2 : Int) < (m : Int) := by omega
  obtain ⟨q1, f1, ho4⟩ := hst w3 w.heap.size g cap HO3
  clear hst
  go_wp2_with fail
  go_still_tail 9, (by kernel_rfl)
  go_wp2_with fail
  have HO4 : (w3.setCell ⟨g, p2, none⟩ (.int .u8 (nb2 : Int))).drew.ownsRow w.heap.size 5 1 (.slice (some ⟨g, 0, none⟩) m cap) m (bvs (flip (flip L i) k)) := ho4
  have hB4 : Below w.heap.size w (w3.setCell ⟨g, p2, none⟩ (.int .u8 (nb2 : Int))).drew := (hB3.setCell hg _).drew
  clear ho4 HO3 hB3 q1 f1 e1 e2 e3 e4 e5 hpm hpm2 hj8
  generalize (w3.setCell ⟨g, p2, none⟩ (.int .u8 (nb2 : Int))).drew = w4 at *
  have hz4 := hB4.size
  by_cases hik : i = k
  · subst hik
    rw [flip_flip] at HO4
    have hTL : L.take (m - 4) = l := by rw [HM4.out]; exact T0.out
    have C3 := unseal_good L (some ⟨g, 0, none⟩) m cap w4 (Rd.own HO4) (own_cap HO4) (by omega) (by omega) (HT.out.keep hB4 HT.out.pos) (by rw [HM4.out]; exact syn_ok.2 S0.out)
    rw [hTL] at C3
    have HC3 := Lib.hid C3
    clear C3 hTL
    refine HC3.out.mono ?_
    rintro e w5 ⟨v5, rfl, hp5⟩
    obtain ⟨A5, n5, c5, hv5, r5, _, _, hb5⟩ := hp5.str
    injection hv5 with hv5
    subst hv5
    have hB5 : Below w.heap.size w w5 := hB4.trans (hb5.mono hz4)
    have r6 := str_rule c (H.out.below hB5)
    have hii : ((i : Int) == (i : Int)) = true := by simp
    clear hp5 hb5
    go_wp2_with fail
    refine (awake_any _ (HT.out.keep hB5 HT.out.pos)).mono ?_
    rintro e w6 ⟨rfl, hb6⟩
    go_wp2_with fail
    go_ret
    exact ⟨rfl, hB5.trans (hb6.mono hB5.size)⟩
  · have C3 := Lib.hid (unseal_bad (flip (flip L i) k) (some ⟨g, 0, none⟩) m cap _ w4 (Rd.own HO4) (own_cap HO4) (by omega) (by omega) (HT.out.keep hB4 HT.out.pos) (by rw [HM4.out]; exact fun h => S2.out hik (syn_ok.1 h)))
    have hii : ((i : Int) == (k : Int)) = false := by rw [beq_eq_false_iff_ne]; omega
    refine C3.out.mono ?_
    rintro e w5 ⟨rfl, rfl⟩
    go_wp2_with fail
    refine (awake_any _ (HT.out.keep hB4 HT.out.pos)).mono ?_
    rintro e w6 ⟨rfl, hb6⟩
    go_wp2_with fail
    go_ret
    exact ⟨rfl, hB4.trans (hb6.mono hz4)⟩

theorem two_walk (A : Option Addr) (n c : Nat) (l : List UInt8) (x y : Int) (w : World) (h : Rd w w.heap.size A n l) (hx0 : 0 ≤ x) (hx : x < 65536) (hy0 : 0 ≤ y) (hy : y < 65536) (ht : Tab w) :
    Calls Tryd.prog 10 #[.slice A n c, .int .u16 x, .int .u16 y] w fun e w' => e = .returned (.bool true) ∧ Below w.heap.size w w' := by
  by_cases hn : 300 < n
  · have CA := Lib.hid (awake_any w ht)
    clear h ht
    go_enter Tryd.func10, Tryd.ntmps10
    go_wp2_with fail
    refine CA.out.mono ?_
    rintro e w1 ⟨rfl, hb⟩
    go_wp2
    go_ret
    exact ⟨rfl, hb⟩
  · obtain ⟨x', rfl⟩ : ∃ x' : Nat, x = (x' : Int) := ⟨x.toNat, by omega⟩
    obtain ⟨y', rfl⟩ : ∃ y' : Nat, y = (y' : Int) := ⟨y.toNat, by omega⟩
    exact two_in A n c l x' y' w h (by omega) (by omega) (by omega) ht
end Go.Proofs.YtkoapldkjlfpeaaDoor

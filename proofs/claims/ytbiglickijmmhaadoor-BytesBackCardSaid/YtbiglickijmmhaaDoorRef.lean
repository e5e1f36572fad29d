/-
  The contracts of the document's own answers on putting: behind, Varint, Uint, Int, Blob. No statement of the seat is proved here.
-/
import Derived.Test.YtbiglickijmmhaaDoorCopy
namespace Go.Proofs.YtbiglickijmmhaaDoor
open Go.RowKit

set_option maxHeartbeats 800000 in
set_option maxRecDepth 100000 in
theorem behind_any (A1 A2 : Option Addr) (n1 c1 n2 c2 : Nat) (l1 l2 : List UInt8) (w : World) (h1 : Rd w w.heap.size A1 n1 l1) (h2 : Rd w w.heap.size A2 n2 l2) (hn1 : n1 ≤ 400000) (hn2 : n2 ≤ 400000) :
    Calls Tryd.prog 28 #[.slice A1 n1 c1, .slice A2 n2 c2] w (Put w.heap.size w (l1 ++ l2)) := by
  obtain ⟨i0, hi, hz0, hz1, hz2⟩ := info_parts info_u8
  have H1 := Lib.hid h1
  have H2 := Lib.hid h2
  have L1 := Lib.hid h1.len
  clear h1 h2
  obtain ⟨w1, hmk, ho1, hg1⟩ := run_make_own (P := Tryd.prog) w w.heap.size 23 5 i0 (.int .u8 0) 1 Tryd.underlying23 hi hz0 hz1 .i64 .i64 (n1 + n2) (by rw [hz2]; omega) (by unfold maxLen; omega) (Nat.le_refl _)
  rw [Int.natCast_add] at hmk
  have hb1 : Below w.heap.size w w1 := (Below.refl _ _).grown hg1 (Nat.le_refl _) (fun g hg => by cases hg)
  have hz := hb1.size
  have HO : w1.ownsRow w.heap.size 5 1 (.slice (some ⟨w.heap.size, 0, none⟩) 0 (n1 + n2)) ([] : List UInt8).length (bvs []) := ho1
  have R1 := Lib.hid (H1.out.below hb1)
  clear ho1 hg1
  go_enter Tryd.func28, Tryd.ntmps28
  go_wp2_with (first
    | (at_builtin; refine wpList_append_rd _ rfl (.tmp 12) (.tmp 13) rfl w.heap.size w.heap.size _ [] rfl HO _ _ _ l1 rfl R1.out (by simp; omega) hz ?_; intro v2 w2 ho2 hg2; rw [List.nil_append] at ho2; have hb2 : Below w.heap.size w w2 := hb1.grown hg2 hz (fun g hg => (HO.lt g hg).1))
    | (at_builtin; refine wpList_append_rd _ rfl (.tmp 15) (.tmp 16) rfl w.heap.size w.heap.size _ l1 rfl ho2 _ _ _ l2 rfl (H2.out.below hb2) (by rw [L1.out]; omega) hb2.size ?_; intro v3 w3 ho3 hg3))
  go_ret
  exact ⟨_, rfl, ho3, hb2.grown hg3 hb2.size (fun g hg => (ho2.lt g hg).1)⟩

theorem own_below {w w' : World} {B B' n : Nat} {e : TypeId} {size : Nat} {v : Value} {xs : List Value} (h : w.ownsRow B e size v n xs) (hb : Below B' w w') (hv : ∀ g, v.ownBlock = some g → g < B') : w'.ownsRow B e size v n xs := by
  refine ⟨h.1, ?_⟩
  rcases h.2 with hn | ⟨g, cap, cur, rfl, hg, hh, hr⟩
  · exact .inl hn
  · exact .inr ⟨g, cap, cur, rfl, hg, (hb.block g (hv g rfl)).trans hh, hr⟩
theorem own_lit (w : World) (x : UInt8) (z : Int) (hz : z = (x.toNat : Int)) : (w.alloc (.cells #[.int .u8 z] 5)).ownsRow w.heap.size 5 1 (.slice (some ⟨w.heap.size, 0, none⟩) 1 1) [x].length (bvs [x]) := by
  subst hz
  exact World.ownsRow_lit w #[.int .u8 (x.toNat : Int)] 1 (Nat.le_refl _) (by unfold maxLen; omega) rfl

set_option maxHeartbeats 800000 in
set_option maxRecDepth 100000 in
theorem varint_ref (k : Nat) : ∀ (n : Nat) (w : World), n < 128 ^ (k + 1) → k ≤ 9 → n < 2 ^ 64 → Calls Tryd.prog 29 #[.int .u64 (n : Int)] w (Put w.heap.size w (varint n)) := by
  induction k with
  | zero =>
    intro n w hn _ _
    have hs : n < 128 := by simpa using hn
    have E := Lib.hid (varint_small hs)
    have HO := Lib.hid (own_lit w (UInt8.ofNat n) (n : Int) (by rw [toNat_ofNat_lt (by omega)]))
    clear hn
    go_enter Tryd.func29, Tryd.ntmps29
    go_wp2_with fail
    go_ret
    refine ⟨_, rfl, ?_, (Below.refl _ _).alloc (Nat.le_refl _) _⟩
    rw [E.out]
    exact HO.out
  | succ k ih =>
    intro n w hn hk h64
    by_cases hs : n < 128
    · have E := Lib.hid (varint_small hs)
      have HO := Lib.hid (own_lit w (UInt8.ofNat n) (n : Int) (by rw [toNat_ofNat_lt (by omega)]))
      clear hn ih
      go_enter Tryd.func29, Tryd.ntmps29
      go_wp2_with fail
      go_ret
      refine ⟨_, rfl, ?_, (Below.refl _ _).alloc (Nat.le_refl _) _⟩
      rw [E.out]
      exact HO.out
    · have h1 : n < 128 ^ (k + 1) * 128 := by rw [← Nat.pow_succ]; exact hn
      have C := fun W : World => Lib.hid (ih (n / 128) W (Nat.div_lt_of_lt_mul (by omega)) (by omega) (by omega))
      have hten := varint_len_le k (n / 128) (Nat.div_lt_of_lt_mul (by omega))
      have E := Lib.hid (varint_big hs)
      have HO := Lib.hid (own_lit w (UInt8.ofNat (128 + n % 128)) (128 + (n : Int) % 128) (by rw [toNat_ofNat_lt (by omega)]; omega))
      obtain ⟨q, hq⟩ : ∃ q : Nat, n / 128 = q := ⟨_, rfl⟩
      have hw := wrap_seven h64
      rw [hq] at C hten E hw
      clear hn h64 h1 ih hq
      go_enter Tryd.func29, Tryd.ntmps29
      go_wp2_with fail
      refine (C _).out.mono ?_
      rintro e w1 hp1
      obtain ⟨A1, n1, c1, rfl, _, hc1, hd1, hb1⟩ := hp1.str
      have hl1 := hd1.len
      have hz1 := hb1.size
      rw [World.size_alloc] at hz1 hb1
      have hb2 : Below w.heap.size w w1 := ((Below.refl _ _).alloc (Nat.le_refl _) _).trans (hb1.mono (by omega))
      have ho1 : w1.ownsRow w.heap.size 5 1 (.slice (some ⟨w.heap.size, 0, none⟩) 1 1) [UInt8.ofNat (128 + n % 128)].length (bvs [UInt8.ofNat (128 + n % 128)]) := own_below HO.out hb1 (fun g hg => by injection hg with hg; simp at hg; omega)
      have hlen : n1 ≤ 10 := by omega
      have R1 := Lib.hid hd1
      clear hp1 hl1 hd1 hten
      go_wp2_with (at_builtin; refine wpList_append_rd _ rfl (.tmp 12) (.tmp 15) rfl w.heap.size w1.heap.size _ [UInt8.ofNat (128 + n % 128)] rfl ho1 _ _ _ (varint q) rfl R1.out (by simp; omega) hb2.size ?_; intro v2 w2 ho2 hg2)
      go_ret
      refine ⟨_, rfl, ?_, hb2.grown hg2 hb2.size (fun g hg => (ho1.lt g hg).1)⟩
      rw [E.out]
      exact ho2

theorem varint_ref_any (n : Nat) (w : World) (h : n < 2 ^ 64) : Calls Tryd.prog 29 #[.int .u64 (n : Int)] w (Put w.heap.size w (varint n)) :=
  varint_ref 9 n w (Nat.lt_of_lt_of_le h (by decide)) (by decide) h

theorem uint_ref (A : Option Addr) (m c n : Nat) (l : List UInt8) (w : World) (h : Rd w w.heap.size A m l) (hm : m ≤ 300000) (hn : n < 2 ^ 64) :
    Calls Tryd.prog 8 #[.slice A m c, .int .u64 (n : Int)] w (Put w.heap.size w (l ++ varint n)) := by
  have H := Lib.hid h
  have C1 := Lib.hid (varint_ref_any n w hn)
  have hten := varint_len_ten hn
  clear h hn
  go_enter Tryd.func8, Tryd.ntmps8
  go_wp2_with fail
  refine C1.out.mono ?_
  rintro e w1 hp1
  obtain ⟨A1, n1, c1, rfl, _, hc1, hd1, hb1⟩ := hp1.str
  have hl1 := hd1.len
  have C2 := Lib.hid (behind_any A A1 m c n1 c1 l (varint n) w1 ((H.out.below hb1).more hb1.size) hd1 (by omega) (by omega))
  clear hp1 hl1 hd1
  go_wp2_with fail
  refine C2.out.mono ?_
  rintro e w2 ⟨v, rfl, ho, hb2⟩
  go_wp2_with fail
  go_ret
  exact ⟨_, rfl, own_mono ho hb1.size, hb1.trans (hb2.mono hb1.size)⟩

set_option maxHeartbeats 800000 in
theorem int_ref (A : Option Addr) (m c : Nat) (n : Int) (l : List UInt8) (w : World) (h : Rd w w.heap.size A m l) (hm : m ≤ 300000) (h0 : -2 ^ 63 ≤ n) (h1 : n < 2 ^ 63) :
    Calls Tryd.prog 10 #[.slice A m c, .int .i64 n] w (Put w.heap.size w (l ++ varint (plc n))) := by
  have C1 := uint_ref A m c (plc n) l w h hm (plc_lt h0 h1)
  have hpl : plc n = plc n := rfl
  by_cases hn : n < 0
  · have e : ((plc n : Nat) : Int) = (-1 - n) * 2 + 1 := by unfold plc; rw [if_pos hn]; omega
    rw [e] at C1
    have HC := Lib.hid C1
    have h2 : -9223372036854775808 ≤ n := by omega
    clear C1 h h0 h1 e hpl
    go_enter Tryd.func10, Tryd.ntmps10
    go_wp2_with fail
    refine HC.out.mono ?_
    rintro e w2 ⟨v, rfl, ho, hb2⟩
    go_wp2_with fail
    go_ret
    exact ⟨_, rfl, ho, hb2⟩
  · have e : ((plc n : Nat) : Int) = n * 2 := by unfold plc; rw [if_neg hn]; omega
    rw [e] at C1
    have HC := Lib.hid C1
    have h2 : n ≤ 9223372036854775807 := by omega
    clear C1 h h0 h1 e hpl
    go_enter Tryd.func10, Tryd.ntmps10
    go_wp2_with fail
    refine HC.out.mono ?_
    rintro e w2 ⟨v, rfl, ho, hb2⟩
    go_wp2_with fail
    go_ret
    exact ⟨_, rfl, ho, hb2⟩

theorem blob_ref (A1 A2 : Option Addr) (n1 c1 n2 c2 : Nat) (l1 l2 : List UInt8) (w : World) (h1 : Rd w w.heap.size A1 n1 l1) (h2 : Rd w w.heap.size A2 n2 l2) (hn1 : n1 ≤ 200000) (hn2 : n2 ≤ 200000) :
    Calls Tryd.prog 12 #[.slice A1 n1 c1, .slice A2 n2 c2] w (Put w.heap.size w (l1 ++ (varint n2 ++ l2))) := by
  have H2 := Lib.hid h2
  have C1 := Lib.hid (uint_ref A1 n1 c1 n2 l1 w h1 (by omega) (by omega))
  have hten := varint_len_ten (n := n2) (by omega)
  have hl := h1.len
  have HL := Lib.hid hl
  clear h1 h2 hl
  go_enter Tryd.func12, Tryd.ntmps12
  go_wp2_with fail
  refine C1.out.mono ?_
  rintro e w1 hp1
  obtain ⟨A, n, c, rfl, _, hc, hd, hb1⟩ := hp1.str
  have hl1 := hd.len
  rw [List.length_append, HL.out] at hl1
  have C2 := Lib.hid (behind_any A A2 n c n2 c2 _ l2 w1 hd ((H2.out.below hb1).more hb1.size) (by omega) (by omega))
  clear hp1 hl1 hd
  go_wp2_with fail
  refine C2.out.mono ?_
  rintro e w2 ⟨v, rfl, ho, hb2⟩
  go_wp2_with fail
  go_ret
  rw [List.append_assoc] at ho
  exact ⟨_, rfl, own_mono ho hb1.size, hb1.trans (hb2.mono hb1.size)⟩
end Go.Proofs.YtbiglickijmmhaaDoor

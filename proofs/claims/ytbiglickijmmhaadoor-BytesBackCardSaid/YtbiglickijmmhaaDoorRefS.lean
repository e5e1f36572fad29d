/-
  The contracts of the document's own Seal, equal and Unseal. No statement of the seat is proved here.
-/
import Derived.Test.YtbiglickijmmhaaDoorRefC
import Derived.Test.YtbiglickijmmhaaDoorTwoM
namespace Go.Proofs.YtbiglickijmmhaaDoor
open Go.RowKit

set_option maxHeartbeats 800000 in
set_option maxRecDepth 100000 in
theorem seal_ref (A : Option Addr) (n c : Nat) (l : List UInt8) (w : World) (h : Rd w w.heap.size A n l) (hn : n ≤ 20000) :
    Calls Tryd.prog 16 #[.slice A n c] w (Put w.heap.size w (l ++ be4 (crc l))) := by
  have C := Lib.hid (crc_ref l A n c w.heap.size w h (by omega))
  have hs := crc_lt l
  have hs32 : (crc l : Int) < 4294967296 := by omega
  have C2 := Lib.hid (behind_any A (some ⟨w.heap.size, 0, none⟩) n c 4 4 l (be4 (crc l)) (w.alloc (.cells #[.int .u8 ((crc l : Int) / 16777216), .int .u8 ((crc l : Int) / 65536 % 256), .int .u8 ((crc l : Int) / 256 % 256), .int .u8 ((crc l : Int) % 256)] 5))
    ((h.alloc (Nat.le_refl _) _).more (by simp)) ((Rd.new w (be4 (crc l)) _ (be4_cells hs) (0, 0)).more (by simp)) (by omega) (by omega))
  clear h hs
  simp only [World.size_alloc] at C2
  go_enter Tryd.func16, Tryd.ntmps16
  go_wp2_with fail
  refine C.out.mono ?_
  rintro e w1 ⟨rfl, rfl⟩
  go_wp2_with fail
  refine C2.out.mono ?_
  rintro e w2 ⟨u, rfl, ho2, hb2⟩
  go_wp2_with fail
  go_ret
  exact ⟨_, rfl, own_mono ho2 (by omega), ((Below.refl _ _).alloc (Nat.le_refl _) _).trans (hb2.mono (by omega))⟩

theorem equal_yes (A1 A2 : Option Addr) (n1 c1 n2 c2 B1 B2 : Nat) (l : List UInt8) (w : World) (h1 : Rd w B1 A1 n1 l) (h2 : Rd w B2 A2 n2 l) :
    Calls Tryd.prog 36 #[.slice A1 n1 c1, .slice A2 n2 c2] w fun e w' => e = .returned (.bool true) ∧ w = w' := by
  have s1 := str_rule c1 h1
  have s2 := str_rule c2 h2
  clear h1 h2
  go_enter Tryd.func36, Tryd.ntmps36
  go_wp2_with fail
  go_ret
  exact ⟨rfl, rfl⟩
theorem equal_no (A1 A2 : Option Addr) (n1 c1 n2 c2 B1 B2 : Nat) (l1 l2 : List UInt8) (w : World) (h1 : Rd w B1 A1 n1 l1) (h2 : Rd w B2 A2 n2 l2) (hne : l1 ≠ l2) :
    Calls Tryd.prog 36 #[.slice A1 n1 c1, .slice A2 n2 c2] w fun e w' => e = .returned (.bool false) ∧ w = w' := by
  have s1 := str_rule c1 h1
  have s2 := str_rule c2 h2
  have hb : (l1 == l2) = false := by rw [beq_eq_false_iff_ne]; exact hne
  clear h1 h2
  go_enter Tryd.func36, Tryd.ntmps36
  go_wp2_with fail
  go_ret
  exact ⟨rfl, rfl⟩

theorem be4_numB (m : List UInt8) (h : m.length = 4) : be4 (numB m) = m := by
  match m, h with
  | [a, b, c, d], _ =>
    have ha := a.toNat_lt
    have hb := b.toNat_lt
    have hc := c.toNat_lt
    have hd := d.toNat_lt
    have e : numB [a, b, c, d] = a.toNat * 16777216 + b.toNat * 65536 + c.toNat * 256 + d.toNat := by
      simp only [numB, List.foldl_cons, List.foldl_nil]
      omega
    rw [e]
    simp only [be4, List.cons.injEq, and_true]
    refine ⟨?_, ?_, ?_, ?_⟩ <;> (apply UInt8.toNat_inj.1; rw [UInt8.toNat_ofNat']; omega)
theorem sealed_iff (l : List UInt8) (h : 4 ≤ l.length) : l.take (l.length - 4) ++ be4 (crc (l.take (l.length - 4))) = l ↔ crc (l.take (l.length - 4)) = numB (l.drop (l.length - 4)) := by
  constructor
  · intro e
    have h2 : be4 (crc (l.take (l.length - 4))) = l.drop (l.length - 4) := by
      have h3 := List.take_append_drop (l.length - 4) l
      exact List.append_cancel_left (e.trans h3.symm)
    rw [← h2, numB_be4 (crc_lt _)]
  · intro e
    rw [e, be4_numB _ (by rw [List.length_drop]; omega), List.take_append_drop]

theorem unseal_ref_short (A : Option Addr) (n c : Nat) (w : World) (hn : n < 4) :
    Calls Tryd.prog 24 #[.slice A n c] w fun e w' => e = .returned (.tuple #[.slice none 0 0, .int .i64 11]) ∧ w = w' := by
  go_enter Tryd.func24, Tryd.ntmps24
  go_wp2
  go_ret2
  exact ⟨rfl, rfl⟩

set_option maxHeartbeats 800000 in
set_option maxRecDepth 100000 in
theorem unseal_ref (l : List UInt8) (A : Option Addr) (n c : Nat) (w : World) (hr : Rd w w.heap.size A n l) (hc : n ≤ c) (hn : n ≤ 20000) (h4 : 4 ≤ n) :
    (crc (l.take (n - 4)) ≠ numB (l.drop (n - 4)) → Calls Tryd.prog 24 #[.slice A n c] w fun e w' => e = .returned (.tuple #[.slice none 0 0, .int .i64 12]) ∧ Below w.heap.size w w') ∧
    (crc (l.take (n - 4)) = numB (l.drop (n - 4)) → Calls Tryd.prog 24 #[.slice A n c] w fun e w' => ∃ v, e = .returned (.tuple #[v, .int .i64 0]) ∧ Str w.heap.size w (l.take (n - 4)) (.returned v) w') := by
  have hlen := hr.len
  have hiff := sealed_iff l (by omega)
  rw [hlen] at hiff
  obtain ⟨A1, c1, s1, d1, _⟩ := pre_rule ((n : Int) - 4) (hi := n - 4) (by omega) hr hc (by omega)
  have C1 := Lib.hid (behind_any none A1 0 0 (n - 4) c1 [] _ w Rd.nil d1 (by omega) (by omega))
  have H := Lib.hid hr
  have HI := Lib.hid hiff
  have HL := Lib.hid hlen
  clear hr d1 hlen hiff
  constructor
  · intro hne
    have HNE := Lib.hid (fun e => hne (HI.out.1 e))
    clear hne
    go_enter Tryd.func24, Tryd.ntmps24
    go_wp2_with fail
    refine C1.out.mono ?_
    rintro e w1 hp1
    rw [List.nil_append] at hp1
    obtain ⟨A2, n2, c2, rfl, _, hc2, hd2, hb2⟩ := hp1.str
    have hl2 := hd2.len
    rw [List.length_take] at hl2
    have C2 := Lib.hid (seal_ref A2 n2 c2 _ w1 hd2 (by have := HL.out; omega))
    have hz2 := hb2.size
    clear hp1 hl2
    go_wp2_with fail
    refine C2.out.mono ?_
    rintro e w2 hp2
    obtain ⟨A3, n3, c3, rfl, _, hc3, hd3, hb3⟩ := hp2.str
    have hB3 : Below w.heap.size w w2 := hb2.trans (hb3.mono hz2)
    have C3 := Lib.hid (equal_no A3 A n3 c3 n c _ _ _ _ w2 hd3 (H.out.below hB3) HNE.out)
    clear hp2 hd3 hd2
    go_wp2_with fail
    refine C3.out.mono ?_
    rintro e w3 ⟨rfl, rfl⟩
    go_wp2_with fail
    go_ret2
    exact ⟨rfl, hB3⟩
  · intro heq
    have HEQ := Lib.hid (HI.out.2 heq)
    clear heq
    go_enter Tryd.func24, Tryd.ntmps24
    go_wp2_with fail
    refine C1.out.mono ?_
    rintro e w1 hp1
    rw [List.nil_append] at hp1
    obtain ⟨A2, n2, c2, rfl, _, hc2, hd2, hb2⟩ := hp1.str
    have hl2 := hd2.len
    rw [List.length_take] at hl2
    have C2 := Lib.hid (seal_ref A2 n2 c2 _ w1 hd2 (by have := HL.out; omega))
    have hz2 := hb2.size
    have R2 := Lib.hid hd2
    clear hp1 hl2
    go_wp2_with fail
    refine C2.out.mono ?_
    rintro e w2 hp2
    obtain ⟨A3, n3, c3, rfl, _, hc3, hd3, hb3⟩ := hp2.str
    have hB3 : Below w.heap.size w w2 := hb2.trans (hb3.mono hz2)
    rw [HEQ.out] at hd3
    have C3 := Lib.hid (equal_yes A3 A n3 c3 n c _ _ _ w2 hd3 (H.out.below hB3))
    have R3 := Lib.hid ((R2.out.below hb3).more hb3.size)
    clear hp2 hd3 hd2
    go_wp2_with fail
    refine C3.out.mono ?_
    rintro e w3 ⟨rfl, rfl⟩
    go_wp2_with fail
    go_ret2
    exact ⟨_, rfl, A2, n2, c2, rfl, str_rule c2 R3.out, hc2, R3.out, hB3⟩
end Go.Proofs.YtbiglickijmmhaaDoor

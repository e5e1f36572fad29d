/-
  The contract of ends: a number comes back as it was put. No statement of the seat is proved here.
-/
import Derived.Test.YtkoapldkjlfpeaaDoorBackM
import Derived.Test.YtkoapldkjlfpeaaDoorRef
import Derived.Test.YtkoapldkjlfpeaaDoorLadW
namespace Go.Proofs.YtkoapldkjlfpeaaDoor
open Go.RowKit

set_option maxHeartbeats 3200000 in
set_option maxRecDepth 100000 in
theorem ends_any (n : Int) (w : World) (h0 : -2 ^ 63 ≤ n) (h1 : n < 2 ^ 63) :
    Calls Tryd.prog 11 #[.int .i64 n] w fun e w' => e = .returned (.bool true) ∧ Below w.heap.size w w' := by
  obtain ⟨N, hN⟩ : ∃ N : Nat, (N : Int) = n % 2 ^ 64 := ⟨(n % 2 ^ 64).toNat, by omega⟩
  have hN64 : N < 2 ^ 64 := by omega
  have hw : IntKind.u64.wrap n = (N : Int) := by rw [IntKind.wrap_u64]; omega
  have hp64 := plc_lt h0 h1
  have t1 := varint_len_ten hp64
  have t2 := varint_len_ten hN64
  have g1 : getI ([5] ++ varint (plc n)) 1 = (n, 1 + (varint (plc n)).length, 0) := by
    have := getU_put ([5] ++ varint (plc n)) [] 1 (plc n) hp64 (by simp) (by simp)
    unfold getI
    rw [show ((1 : Nat) : Int) = 1 from rfl] at this
    rw [this]
    simp [unplc_plc]
  have g2 : getU ([5] ++ varint N) 1 = (N, 1 + (varint N).length, 0) := by
    have := getU_put ([5] ++ varint N) [] 1 N hN64 (by simp) (by simp)
    rw [show ((1 : Nat) : Int) = 1 from rfl] at this
    exact this
  have CI := fun (W : World) => Lib.hid (int_any W.heap.size [5] n _ (W.alloc (.cells #[.int .u8 5] 5)) h0 h1 (by simp) (by simp) (own_lit W 5 5 rfl))
  have CU := fun (W : World) => Lib.hid (uint_any W.heap.size [5] N _ (W.alloc (.cells #[.int .u8 5] 5)) hN64 (by simp) (by simp) (own_lit W 5 5 rfl))
  have RI := fun (W : World) => Lib.hid (int_ref (some ⟨W.heap.size, 0, none⟩) 1 1 n [5] (W.alloc (.cells #[.int .u8 5] 5)).drew ((Rd.new W [5] #[.int .u8 5] rfl (0, 0)).more (by simp)) (by omega) h0 h1)
  have RU := fun (W : World) => Lib.hid (uint_ref (some ⟨W.heap.size, 0, none⟩) 1 1 N [5] (W.alloc (.cells #[.int .u8 5] 5)) ((Rd.new W [5] #[.int .u8 5] rfl (0, 0)).more (by simp)) (by omega) hN64)
  have G1 := Lib.hid g1
  have G2 := Lib.hid g2
  clear g1 g2 h0 h1 hN hN64 hp64
  generalize varint (plc n) = L1 at *
  generalize varint N = L2 at *
  go_enter Tryd.func11, Tryd.ntmps11
  go_wp2_with fail
  refine (CI w).out.mono ?_
  rintro e w1 hp1
  obtain ⟨A1, n1, c1, rfl, _, hc1, hd1, hb1⟩ := hp1.str
  have hB1 : Below w.heap.size w w1 := ((Below.refl _ _).alloc (Nat.le_refl _) _).trans hb1
  clear hp1 hb1
  go_wp2_with fail
  refine (CU w1).out.mono ?_
  rintro e w2 hp2
  obtain ⟨A2, n2, c2, rfl, _, hc2, hd2, hb2⟩ := hp2.str
  have hb3 : Below w1.heap.size w1 w2 := ((Below.refl _ _).alloc (Nat.le_refl _) _).trans hb2
  have hB2 : Below w.heap.size w w2 := hB1.trans (hb3.mono hB1.size)
  have R1 := Lib.hid ((hd1.below hb3).more hb3.size)
  have R2 := Lib.hid hd2
  have l1 := R1.out.len
  have l2 := R2.out.len
  simp only [List.length_append, List.length_cons, List.length_nil] at l1 l2
  have C3 := getint_any _ A1 n1 c1 _ 1 w2 R1.out (by omega) hc1
  have C4 := getuint_any _ A2 n2 c2 _ 1 w2 R2.out (by omega) hc2
  rw [G1.out] at C3
  rw [G2.out] at C4
  unfold tupI at C3
  unfold tup at C4
  simp only at C3 C4
  rw [show 1 + L1.length = n1 by omega] at C3
  rw [show 1 + L2.length = n2 by omega] at C4
  have HC3 := Lib.hid C3
  have HC4 := Lib.hid C4
  have hz2 := hB2.size
  clear hp2 hb2 hb3 hd1 hd2 l1 l2 t1 t2 C3 C4 hB1
  go_wp2_with fail
  refine HC3.out.mono ?_
  rintro e w3 ⟨rfl, rfl⟩
  go_wp2_with fail
  refine HC4.out.mono ?_
  rintro e w3 ⟨rfl, rfl⟩
  go_wp2_with fail
  have s1 := str_rule c1 R1.out.drew
  have s2 := fun o : Obj => str_rule c1 (R1.out.alloc (Nat.le_refl _) o).drew
  have hsz : (w2.alloc (.cells #[.int .u8 5] 5)).drew.heap.size = w2.heap.size + 1 := by simp
  have HSZ := Lib.hid hsz
  clear hsz
  go_region_with (first
    | (go_at_call 22; refine (RI w2).out.mono ?_; rintro e w5 hp5; obtain ⟨A5, n5, c5, rfl, r5, _, _, hb5⟩ := hp5.str; clear hp5; rw [HSZ.out] at hb5; have hb6 : Below w2.heap.size w2 w5 := (((Below.refl _ _).alloc (Nat.le_refl _) _).drew).trans (hb5.mono (Nat.le_succ _)); clear hb5; have s3 := str_rule c1 (R1.out.below hb6); have R3 := Lib.hid ((R2.out.below hb6).more hb6.size); have s4 := str_rule c2 R3.out; have s5 := fun o : Obj => str_rule c2 (R3.out.alloc (Nat.le_refl _) o); have hB5 : Below w.heap.size w w5 := hB2.trans (hb6.mono hz2); clear hb6)
    | (go_at_call 20; refine (RU _).out.mono ?_; rintro e w6 hp6; obtain ⟨A6, n6, c6, rfl, r6, _, _, hb7⟩ := hp6.str; clear hp6; rw [World.size_alloc] at hb7; have hb8 : Below w5.heap.size w5 w6 := ((Below.refl _ _).alloc (Nat.le_refl _) _).trans (hb7.mono (Nat.le_succ _)); clear hb7; have s6 := str_rule c2 (R3.out.below hb8); have hB6 : Below w.heap.size w w6 := hB5.trans (hb8.mono hB5.size); clear hb8))
  all_goals go_wp2_with fail
  all_goals go_ret
  all_goals exact ⟨rfl, hB6⟩
end Go.Proofs.YtkoapldkjlfpeaaDoor

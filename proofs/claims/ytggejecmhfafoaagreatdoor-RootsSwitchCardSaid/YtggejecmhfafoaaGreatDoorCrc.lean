/-
  The contract of Crc: the sum of the bytes, where the table holds what four steps make. No statement of the seat is proved here.
-/
import Derived.Test.YtggejecmhfafoaaGreatDoorCat
import Derived.Test.YtggejecmhfafoaaGreatDoorUint
import Derived.Test.YtggejecmhfafoaaGreatDoorCrcM
namespace Go.Proofs.YtggejecmhfafoaaGreatDoor
open Go.RowKit

/-- The table of the program lies in block 0 of the world, as its text lays it. -/
def Tab (w : World) : Prop := ∀ k, k < 16 → w.cell? ⟨0, k, none⟩ = some (.int .u32 (tabAt k : Int))
theorem Tab.keep {w w' : World} {B : Nat} (h : Tab w) (hb : Below B w w') (h0 : 0 < B) : Tab w' := fun k hk => (hb.cell (p := ⟨0, k, none⟩) h0).trans (h k hk)
theorem Tab.pos {w : World} (h : Tab w) : 0 < w.heap.size := by
  have := h 0 (by omega)
  exact World.block_lt_of_cell? w _ this

theorem xor_fact {a b : Nat} (ha : a < 2 ^ 32) (hb : b < 2 ^ 32) : bits .xor .u32 (a : Int) (b : Int) = ((a ^^^ b : Nat) : Int) := u32_xor_nat a b (by omega) (by omega)
theorem nib_fact {a : Nat} (ha : a < 2 ^ 32) : bits .xor .u32 ((a : Int) / 16) (tabAt (a % 16) : Int) = (nib a : Int) := by
  have := xor_fact (a := a / 16) (b := tabAt (a % 16)) (by omega) (tabAt_lt _)
  rw [Int.natCast_ediv] at this
  exact this

set_option maxHeartbeats 800000 in
set_option maxRecDepth 100000 in
theorem crc_any (l : List UInt8) (A : Option Addr) (n c B : Nat) (w : World) (hr : Rd w B A n l) (hn : n ≤ 500000) (ht : Tab w) :
    Calls Tryz.prog 57 #[.slice A n c] w fun e w' => e = .returned (.int .u32 (crc l : Int)) ∧ w = w' := by
  have HR := Lib.hid hr
  have HT := Lib.hid ht
  clear hr ht
  go_enter Tryz.func57, Tryz.ntmps57
  go_wp2
  go_loop [3, 8] (fun s i => ∃ k : Nat, k ≤ n ∧ i = .int .i64 (k : Int) ∧ s = .int .u32 (crcRaw 4294967295 (l.take k) : Int)) (fun _ i => n - (intOf i).toNat)
  case atStart => exact ⟨0, Nat.zero_le _, rfl, rfl⟩
  case round =>
    obtain ⟨k, hk, rfl, rfl⟩ := hrel
    have HS := Lib.hid (crcRaw_lt (l.take k) (s := 4294967295) (by decide))
    by_cases hlt : k < n
    · obtain ⟨b, o, rfl, _, hcell⟩ := HR.out.2 (by omega)
      have hkl : k < l.length := by rw [HR.out.len]; exact hlt
      have hx := hcell k hkl
      have HN : Hid (crcRaw 4294967295 (l.take (k + 1)) = crcByte (crcRaw 4294967295 (l.take k)) l[k]) := by
        show _ = _
        rw [List.take_succ_eq_append_getElem hkl, crcRaw_snoc]
      clear hcell
      generalize l[k] = x at *
      generalize crcRaw 4294967295 (l.take k) = s at *
      have f1 := xor_fact (b := x.toNat) HS.out (by have := x.toNat_lt; omega)
      have HS1 := Lib.hid (xor_byte_lt HS.out x)
      have HE : Hid (crcByte s x = nib (nib (s ^^^ x.toNat))) := rfl
      generalize s ^^^ x.toNat = s1 at *
      have hx8 : x.toNat < 256 := x.toNat_lt
      have c1 := HT.out (s1 % 16) (by omega)
      have f2 := nib_fact HS1.out
      have HS2 := Lib.hid (nib_lt HS1.out)
      generalize nib s1 = s2 at *
      generalize tabAt (s1 % 16) = t1 at *
      have c2 := HT.out (s2 % 16) (by omega)
      have f3 := nib_fact HS2.out
      generalize nib s2 = s3 at *
      generalize tabAt (s2 % 16) = t2 at *
      go_wp2
      go_round
      case rel => exact ⟨k + 1, by omega, by go_num, by rw [HN.out, HE.out]⟩
      case measure => simp [intOf]; omega
    · have hke : k = n := by omega
      subst hke
      have E : Hid (crc l = 4294967295 - crcRaw 4294967295 (l.take k)) := by
        show _ = _
        unfold crc
        rw [List.take_of_length_le (by rw [HR.out.len]; omega)]
      generalize crcRaw 4294967295 (l.take k) = s at *
      go_wp2
      go_ret
      refine ⟨?_, rfl⟩
      rw [E.out, ← ones_xor HS.out, ← xor_fact (by decide) HS.out]
      rfl
end Go.Proofs.YtggejecmhfafoaaGreatDoor

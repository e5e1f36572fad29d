/-
  The walk of BytesResidue: it answers true, and nothing that was there has turned.
-/
import Derived.Test.YtkoapldkjlfpeaaDoorCopy
import Derived.Test.YtkoapldkjlfpeaaDoorLin
namespace Go.Proofs.YtkoapldkjlfpeaaDoor
open Go.RowKit

theorem le4_cells {s : Nat} (h : s < 2 ^ 32) : [Value.int .u8 ((s : Int) % 256), .int .u8 ((s : Int) / 256 % 256), .int .u8 ((s : Int) / 65536 % 256), .int .u8 ((s : Int) / 16777216)] = bvs (leBytes 4 s) := by
  simp only [bvs, leBytes, List.map_cons, List.map_nil, UInt8.toNat_ofNat']
  have e1 : (s : Int) / 16777216 = ((s / 256 / 256 / 256 % 2 ^ 8 : Nat) : Int) := by omega
  have e2 : (s : Int) / 65536 % 256 = ((s / 256 / 256 % 2 ^ 8 : Nat) : Int) := by omega
  have e3 : (s : Int) / 256 % 256 = ((s / 256 % 2 ^ 8 : Nat) : Int) := by omega
  have e4 : (s : Int) % 256 = ((s % 2 ^ 8 : Nat) : Int) := by omega
  rw [e1, e2, e3, e4]
theorem rd_le4 (w : World) {s : Nat} (h : s < 2 ^ 32) : Rd (w.alloc (.cells #[.int .u8 ((s : Int) % 256), .int .u8 ((s : Int) / 256 % 256), .int .u8 ((s : Int) / 65536 % 256), .int .u8 ((s : Int) / 16777216)] 5)) (w.heap.size + 1) (some ⟨w.heap.size, 0, none⟩) 4 (leBytes 4 s) :=
  Rd.new w (leBytes 4 s) _ (le4_cells h) (0, 0)

set_option maxHeartbeats 1600000 in
set_option maxRecDepth 100000 in
theorem residue_walk (A : Option Addr) (n c : Nat) (l : List UInt8) (w : World) (h : Rd w w.heap.size A n l) (ht : Tab w) :
    Calls Tryd.prog 9 #[.slice A n c] w fun e w' => e = .returned (.bool true) ∧ Below w.heap.size w w' := by
  by_cases hn : 600 < n
  · have CA := Lib.hid (awake_any w ht)
    clear h ht
    go_enter Tryd.func9, Tryd.ntmps9
    go_wp2_with fail
    refine CA.out.mono ?_
    rintro e w1 ⟨rfl, hb⟩
    go_wp2
    go_ret
    exact ⟨rfl, hb⟩
  · have C1 := Lib.hid (crc_any l A n c w.heap.size w h (by omega) ht)
    have C2 := Lib.hid (copybytes_any A n c l w h (by omega))
    have hs := crc_lt l
    have HS := Lib.hid hs
    have HT := Lib.hid ht
    have HL := Lib.hid h.len
    clear h ht hs
    go_enter Tryd.func9, Tryd.ntmps9
    go_wp2_with fail
    refine C1.out.mono ?_
    rintro e w1 ⟨rfl, rfl⟩
    go_wp2_with fail
    refine C2.out.mono ?_
    rintro e w1 ⟨v, rfl, ho, hb1⟩
    have hz1 := hb1.size
    have R4 := fun W : World => Lib.hid (rd_le4 W HS.out)
    have HR := Lib.hid (residue l)
    generalize hm : leBytes 4 (crc l) = m4 at *
    clear hm
    generalize crc l = s at *
    have hs32 : (s : Int) < 4294967296 := by have := HS.out; omega
    go_wp2_with (at_builtin; refine wpList_append_rd _ rfl (.tmp 12) (.tmp 24) rfl w.heap.size (w1.heap.size + 1) _ l rfl (ho.alloc _) _ 4 4 m4 rfl (R4 w1).out (by rw [HL.out]; omega) (by simp; omega) ?_; intro v' w2 hown2 hgrow)
    have hb2 : Below w.heap.size w w2 := hb1.trans (((Below.refl _ _).alloc hz1 _).grown hgrow (by simp; omega) (fun g hg => (ho.lt g hg).1))
    have hm4 := (R4 w1).out.len
    obtain ⟨A2, c2, hv, hvc, _⟩ := own_shape hown2
    rw [hv]
    rw [hv] at hown2
    have C3 := Lib.hid (crc_is (l ++ m4) 558161692 A2 (l ++ m4).length c2 w2.heap.size w2 (Rd.own hown2) (by rw [List.length_append, HL.out, hm4]; omega) (HT.out.keep hb2 HT.out.pos) HR.out)
    have CA := Lib.hid (awake_any w2 (HT.out.keep hb2 HT.out.pos))
    clear hv hown2 hgrow ho hb1 hz1 hm4 hvc hs32
    go_wp2_with fail
    refine C3.out.mono ?_
    rintro e w3 ⟨rfl, rfl⟩
    go_wp2_with fail
    refine CA.out.mono ?_
    rintro e w3 ⟨rfl, hb3⟩
    go_wp2_with fail
    go_ret
    exact ⟨rfl, hb2.trans (hb3.mono hb2.size)⟩
end Go.Proofs.YtkoapldkjlfpeaaDoor

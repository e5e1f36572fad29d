/-
  The contracts of refused and awake: the chapter's examples come out. No statement of the seat is proved here.
-/
import Derived.Test.YtbiglickijmmhaaDoorGetI
namespace Go.Proofs.YtbiglickijmmhaaDoor
open Go.RowKit


theorem Tab.pos {w : World} (h : Tab w) : 0 < w.heap.size := by
  have := h 0 (by omega)
  exact World.block_lt_of_cell? w _ this



set_option maxHeartbeats 800000 in
set_option maxRecDepth 100000 in
theorem refused_yes (s : ByteArray) (E : Nat) (w : World) (hs : s.size ≤ 1000) (hE : 0 < E) (hE2 : E < 100) (hg : getU s.data.toList 0 = (0, 0, E)) :
    Calls Tryd.prog 27 #[.string s, .int .i64 (E : Int)] w fun e w' => e = .returned (.bool true) ∧ Below w.heap.size w w' := by
  have hgi : getI s.data.toList 0 = (0, 0, E) := by unfold getI; rw [hg, if_neg (by simp; omega)]
  obtain ⟨c1, w1, r1, hc1, hd1, hb1⟩ := of_string w s
  obtain ⟨c2, w2, r2, hc2, hd2, hb2⟩ := of_string w1 s
  have C1 := getuint_any s.data.toList _ s.size c1 _ 0 w1 hd1 (by omega) hc1
  have C2 := getint_any s.data.toList _ s.size c2 _ 0 w2 hd2 (by omega) hc2
  rw [hg] at C1
  rw [hgi] at C2
  unfold tup at C1
  unfold tupI at C2
  simp only at C1 C2
  have HC1 := Lib.hid C1
  have HC2 := Lib.hid C2
  clear hg hgi C1 C2 hd1 hd2
  have hbE : ((E : Int) == (E : Int)) = true := by simp
  go_enter Tryd.func27, Tryd.ntmps27
  go_wp2_with fail
  refine HC1.out.mono ?_
  rintro e w1 ⟨rfl, rfl⟩
  go_wp2_with fail
  refine HC2.out.mono ?_
  rintro e w1 ⟨rfl, rfl⟩
  go_wp2_with fail
  go_ret
  refine ⟨?_, hb1.trans (hb2.mono hb1.size)⟩
  rfl
theorem varint_0 : varint 0 = [0] := by rw [varint_small (by decide)]; rfl
theorem varint_1 : varint 1 = [1] := by rw [varint_small (by decide)]; rfl
theorem varint_2 : varint 2 = [2] := by rw [varint_small (by decide)]; rfl
theorem varint_127 : varint 127 = [127] := by rw [varint_small (by decide)]; rfl
theorem varint_128 : varint 128 = [128, 1] := by rw [varint_big (by decide), varint_small (by decide)]; rfl
theorem varint_300 : varint 300 = [172, 2] := by rw [varint_big (by decide), varint_small (by decide)]; rfl
theorem uint_str (n : Nat) (l : List UInt8) (w : World) (hn : n < 2 ^ 64) (hl : varint n = l) : Calls Tryd.prog 7 #[.slice none 0 0, .int .u64 (n : Int)] w (Put w.heap.size w l) := hl ▸ uint_nil n w hn
theorem int_str (n : Int) (l : List UInt8) (w : World) (h0 : -2 ^ 63 ≤ n) (h1 : n < 2 ^ 63) (hl : varint (plc n) = l) : Calls Tryd.prog 9 #[.slice none 0 0, .int .i64 n] w (Put w.heap.size w l) := hl ▸ int_nil n w h0 h1

theorem blob_str (l2 l : List UInt8) (A1 : Option Addr) (n1 c1 : Nat) (A2 : Option Addr) (c2 : Nat) (w : World) (h1 : Rd w w.heap.size A1 n1 []) (h2 : Rd w w.heap.size A2 l2.length l2) (hn : l2.length ≤ 20000) (hl : varint l2.length ++ l2 = l) :
    Calls Tryd.prog 11 #[.slice A1 n1 c1, .slice A2 l2.length c2] w (Put w.heap.size w l) := by
  have := blob_any A1 A2 n1 c1 l2.length c2 [] l2 w h1 h2 (by have := h1.len; simp at this; omega) hn
  rw [List.nil_append, hl] at this
  exact this
theorem seal_str (A : Option Addr) (n c : Nat) (l m : List UInt8) (w : World) (h : Rd w w.heap.size A n l) (hn : n ≤ 20000) (ht : Tab w) (hl : l ++ be4 (crc l) = m) :
    Calls Tryd.prog 15 #[.slice A n c] w (Put w.heap.size w m) := hl ▸ seal_any A n c l w h hn ht
theorem crc_is (l : List UInt8) (s : Nat) (A : Option Addr) (n c B : Nat) (w : World) (hr : Rd w B A n l) (hn : n ≤ 500000) (ht : Tab w) (hs : crc l = s) :
    Calls Tryd.prog 13 #[.slice A n c] w fun e w' => e = .returned (.int .u32 (s : Int)) ∧ w = w' := hs ▸ crc_any l A n c B w hr hn ht

set_option maxHeartbeats 4000000 in
set_option maxRecDepth 100000 in
theorem awake_any (w : World) (ht : Tab w) :
    Calls Tryd.prog 5 #[] w fun e w' => e = .returned (.bool true) ∧ Below w.heap.size w w' := by
  have HT := Lib.hid ht
  have hB0 : Below w.heap.size w w := Below.refl _ _
  have kc := fun (W : World) (C : Array Value) (n c : Nat) => Lib.run_convert_bytes_const (P := Tryd.prog) W 23 5 C n c Tryd.underlying23 Tryd.underlying5
  clear ht
  go_enter Tryd.func5, Tryd.ntmps5
  go_wp2_with fail
  refine (uint_str 0 [0] _ (by decide) varint_0).mono ?_
  rintro e w1 hp1
  obtain ⟨A1, n1, c1, rfl, r1, _, _, hb1⟩ := hp1.str
  have hB1 : Below w.heap.size w w1 := hB0.trans (hb1.mono hB0.size)
  clear hp1 hb1 hB0
  go_wp2_with fail
  refine (uint_str 127 [127] _ (by decide) varint_127).mono ?_
  rintro e w2 hp2
  obtain ⟨A2, n2, c2, rfl, r2, _, _, hb2⟩ := hp2.str
  have hB2 : Below w.heap.size w w2 := hB1.trans (hb2.mono hB1.size)
  clear hp2 hb2 hB1
  go_wp2_with fail
  refine (uint_str 128 [128, 1] _ (by decide) varint_128).mono ?_
  rintro e w3 hp3
  obtain ⟨A3, n3, c3, rfl, r3, _, _, hb3⟩ := hp3.str
  have hB3 : Below w.heap.size w w3 := hB2.trans (hb3.mono hB2.size)
  clear hp3 hb3 hB2
  go_wp2_with fail
  refine (uint_str 300 [172, 2] _ (by decide) varint_300).mono ?_
  rintro e w4 hp4
  obtain ⟨A4, n4, c4, rfl, r4, _, _, hb4⟩ := hp4.str
  have hB4 : Below w.heap.size w w4 := hB3.trans (hb4.mono hB3.size)
  clear hp4 hb4 hB3
  go_wp2_with fail
  refine (int_str (-1) [1] _ (by decide) (by decide) (by rw [show plc (-1) = 1 from rfl]; exact varint_1)).mono ?_
  rintro e w5 hp5
  obtain ⟨A5, n5, c5, rfl, r5, _, _, hb5⟩ := hp5.str
  have hB5 : Below w.heap.size w w5 := hB4.trans (hb5.mono hB4.size)
  clear hp5 hb5 hB4
  go_wp2_with fail
  refine (int_str 1 [2] _ (by decide) (by decide) (by rw [show plc 1 = 2 from rfl]; exact varint_2)).mono ?_
  rintro e w6 hp6
  obtain ⟨A6, n6, c6, rfl, r6, _, _, hb6⟩ := hp6.str
  have hB6 : Below w.heap.size w w6 := hB5.trans (hb6.mono hB5.size)
  clear hp6 hb6 hB5
  go_wp2_with fail
  refine (int_str (-64) [127] _ (by decide) (by decide) (by rw [show plc (-64) = 127 from rfl]; exact varint_127)).mono ?_
  rintro e w7 hp7
  obtain ⟨A7, n7, c7, rfl, r7, _, _, hb7⟩ := hp7.str
  have hB7 : Below w.heap.size w w7 := hB6.trans (hb7.mono hB6.size)
  clear hp7 hb7 hB6
  have hz7 := hB7.size
  go_wp2_with fail
  refine (blob_str [97, 98] [2, 97, 98] none 0 0 (some ⟨w7.heap.size, 0, none⟩) 2 _ Rd.nil ((Rd.new w7 [97, 98] _ rfl _).more (by simp)) (by decide) (by rw [show ([97, 98] : List UInt8).length = 2 from rfl, varint_2]; rfl)).mono ?_
  rintro e w8 hp8
  obtain ⟨A8, n8, c8, rfl, r8, _, _, hb8⟩ := hp8.str
  have hB8 : Below w.heap.size w w8 := hB7.trans (((Below.refl _ _).alloc hz7 _).trans (hb8.mono (by simp; omega)))
  clear hp8 hb8 hB7 hz7
  go_wp2_with fail
  refine (seal_str none 0 0 [] [0, 0, 0, 0] w8 Rd.nil (by decide) (HT.out.keep hB8 HT.out.pos) (by decide +kernel)).mono ?_
  rintro e w9 hp9
  obtain ⟨A9, n9, c9, rfl, r9, _, _, hb9⟩ := hp9.str
  have hB9 : Below w.heap.size w w9 := hB8.trans (hb9.mono hB8.size)
  clear hp9 hb9 hB8
  have hz9 := hB9.size
  go_wp2_with fail
  refine (crc_is [49, 50, 51, 52, 53, 54, 55, 56, 57] 3421780262 (some ⟨w9.heap.size, 0, none⟩) 9 9 (w9.heap.size + 1) _ (Rd.new w9 [49, 50, 51, 52, 53, 54, 55, 56, 57] _ rfl _) (by decide) (HT.out.keep (hB9.trans ((Below.refl _ _).alloc hz9 _)) HT.out.pos) (by decide +kernel)).mono ?_
  rintro e w10 ⟨rfl, rfl⟩
  go_wp2_with fail
  refine (refused_yes ⟨#[128, 0]⟩ 10 _ (by decide) (by decide) (by decide) (by decide +kernel)).mono ?_
  rintro e w11 ⟨rfl, hb11⟩
  have hB11 : Below w.heap.size w w11 := hB9.trans (((Below.refl _ _).alloc hz9 _).trans (hb11.mono (by simp; omega)))
  clear hb11 hz9 hB9
  go_wp2_with fail
  refine (refused_yes ⟨#[128]⟩ 11 _ (by decide) (by decide) (by decide) (by decide +kernel)).mono ?_
  rintro e w12 ⟨rfl, hb12⟩
  have hB12 : Below w.heap.size w w12 := hB11.trans (hb12.mono hB11.size)
  clear hb12 hB11
  go_wp2_with fail
  go_ret
  exact ⟨rfl, hB12⟩
end Go.Proofs.YtbiglickijmmhaaDoor

/-
  The contracts of Blob and Seal. No statement of the seat is proved here.
-/
import Derived.Test.YtggejecmhfafoaaGreatDoorCrc
namespace Go.Proofs.YtggejecmhfafoaaGreatDoor
open Go.RowKit



/-- Three lists, laid as the row of a variadic call. -/
theorem concat_three (A1 A2 A3 : Option Addr) (n1 c1 n2 c2 n3 c3 : Nat) (l1 l2 l3 : List UInt8) (w : World) (h1 : Rd w w.heap.size A1 n1 l1) (h2 : Rd w w.heap.size A2 n2 l2) (h3 : Rd w w.heap.size A3 n3 l3) (hn1 : n1 ≤ 100000) (hn2 : n2 ≤ 100000) (hn3 : n3 ≤ 100000) :
    Calls Tryz.prog 58 #[.slice (some ⟨w.heap.size, 0, none⟩) 3 3] (w.alloc (.cells #[.slice A1 n1 c1, .slice A2 n2 c2, .slice A3 n3 c3] 28)) (Put w.heap.size w (l1 ++ (l2 ++ l3))) := by
  have e1 := h1.len
  have e2 := h2.len
  have e3 := h3.len
  refine (concat_any [⟨A1, n1, c1, l1⟩, ⟨A2, n2, c2, l2⟩, ⟨A3, n3, c3, l3⟩] w.heap.size 3 3 (w.alloc (.cells #[.slice A1 n1 c1, .slice A2 n2 c2, .slice A3 n3 c3] 28)) (by simp) rfl (by omega) (by omega) (by simp [cat]; omega) ?_ ?_).mono ?_
  · intro k hk
    match k, hk with
    | 0, _ => simp
    | 1, _ => simp
    | 2, _ => simp
  · intro k hk
    match k, hk with
    | 0, _ => exact (h1.alloc (Nat.le_refl _) _).more (by simp)
    | 1, _ => exact (h2.alloc (Nat.le_refl _) _).more (by simp)
    | 2, _ => exact (h3.alloc (Nat.le_refl _) _).more (by simp)
  rintro e w2 ⟨u, rfl, ho2, hb2⟩
  refine ⟨u, rfl, ?_, ((Below.refl _ _).alloc (Nat.le_refl _) _).trans (hb2.mono (by simp))⟩
  have := own_mono (B := w.heap.size) ho2 (by simp)
  simpa [cat] using this

set_option maxHeartbeats 800000 in
set_option maxRecDepth 100000 in
theorem blob_any (A1 A2 : Option Addr) (n1 c1 n2 c2 : Nat) (l1 l2 : List UInt8) (w : World) (h1 : Rd w w.heap.size A1 n1 l1) (h2 : Rd w w.heap.size A2 n2 l2) (hn1 : n1 ≤ 20000) (hn2 : n2 ≤ 20000) :
    Calls Tryz.prog 38 #[.slice A1 n1 c1, .slice A2 n2 c2] w (Put w.heap.size w (l1 ++ (varint n2 ++ l2))) := by
  have H1 := Lib.hid h1
  have H2 := Lib.hid h2
  clear h1 h2
  go_enter Tryz.func38, Tryz.ntmps38
  go_wp2_with fail
  refine (uint_nil n2 _ (by omega)).mono ?_
  rintro e w1 ⟨v, rfl, ho, hb1⟩
  obtain ⟨A, c, hv, hvc, _⟩ := own_shape ho
  rw [hv]
  rw [hv] at ho
  clear hv
  have hz := hb1.size
  have hten := varint_len_ten (n := n2) (by omega)
  have C := Lib.hid (concat_three A1 A A2 n1 c1 (varint n2).length c n2 c2 l1 (varint n2) l2 w1 ((H1.out.below hb1).more hz) (Rd.own ho) ((H2.out.below hb1).more hz) (by omega) (by omega) (by omega))
  clear ho
  go_wp2_with fail
  refine C.out.mono ?_
  rintro e w2 ⟨u, rfl, ho2, hb2⟩
  go_wp2
  go_ret
  exact ⟨_, rfl, own_mono ho2 hz, hb1.trans (hb2.mono hz)⟩

/-- A number's four bytes, the highest one first. -/
def be4 (s : Nat) : List UInt8 := [UInt8.ofNat (s / 16777216), UInt8.ofNat (s / 65536), UInt8.ofNat (s / 256), UInt8.ofNat s]
theorem be4_cells {s : Nat} (h : s < 2 ^ 32) : [Value.int .u8 ((s : Int) / 16777216), .int .u8 ((s : Int) / 65536 % 256), .int .u8 ((s : Int) / 256 % 256), .int .u8 ((s : Int) % 256)] = bvs (be4 s) := by
  simp only [bvs, be4, List.map_cons, List.map_nil, UInt8.toNat_ofNat']
  have e1 : (s : Int) / 16777216 = ((s / 16777216 % 2 ^ 8 : Nat) : Int) := by omega
  have e2 : (s : Int) / 65536 % 256 = ((s / 65536 % 2 ^ 8 : Nat) : Int) := by omega
  have e3 : (s : Int) / 256 % 256 = ((s / 256 % 2 ^ 8 : Nat) : Int) := by omega
  have e4 : (s : Int) % 256 = ((s % 2 ^ 8 : Nat) : Int) := by omega
  rw [e1, e2, e3, e4]

set_option maxHeartbeats 800000 in
set_option maxRecDepth 100000 in
theorem seal_any (A : Option Addr) (n c : Nat) (l : List UInt8) (w : World) (h : Rd w w.heap.size A n l) (hn : n ≤ 20000) (ht : Tab w) :
    Calls Tryz.prog 37 #[.slice A n c] w (Put w.heap.size w (l ++ be4 (crc l))) := by
  have C := Lib.hid (crc_any l A n c w.heap.size w h (by omega) ht)
  have hs := crc_lt l
  have hs32 : (crc l : Int) < 4294967296 := by omega
  have C2 := Lib.hid (concat_two A (some ⟨w.heap.size, 0, none⟩) n c 4 4 l (be4 (crc l)) (w.alloc (.cells #[.int .u8 ((crc l : Int) / 16777216), .int .u8 ((crc l : Int) / 65536 % 256), .int .u8 ((crc l : Int) / 256 % 256), .int .u8 ((crc l : Int) % 256)] 5))
    ((h.alloc (Nat.le_refl _) _).more (by simp)) ((Rd.new w (be4 (crc l)) _ (be4_cells hs) (0, 0)).more (by simp)) (by omega) (by omega))
  clear h ht hs
  simp only [World.size_alloc] at C2
  go_enter Tryz.func37, Tryz.ntmps37
  go_wp2_with fail
  refine C.out.mono ?_
  rintro e w1 ⟨rfl, rfl⟩
  go_wp2_with fail
  refine C2.out.mono ?_
  rintro e w2 ⟨u, rfl, ho2, hb2⟩
  go_wp2
  go_ret
  exact ⟨_, rfl, own_mono ho2 (by omega), ((Below.refl _ _).alloc (Nat.le_refl _) _).trans (hb2.mono (by omega))⟩
end Go.Proofs.YtggejecmhfafoaaGreatDoor

/-
  The contract of the document's Hmac. No statement of the seat is proved here.
-/
import Derived.Test.YtgdcjealhbfnaaaDoorRfM
import Derived.Test.YtgdcjealhbfnaaaDoorRfH
namespace Go.Proofs.YtgdcjealhbfnaaaDoor
open Go.RowKit

theorem keyB_short (l : List UInt8) (h : l.length ≤ 64) : keyB l = padK l := by
  unfold keyB padK
  rw [if_neg (by omega)]
theorem keyB_long (l : List UInt8) (h : 64 < l.length) : keyB l = padK (sha l) := by
  unfold keyB padK
  rw [if_pos h, sha_length]
theorem heldB_length (l : List UInt8) (x : UInt8) : (heldB l x).length = l.length := by simp [heldB]
theorem hmac_short (l m : List UInt8) (h : l.length ≤ 64) : hmac l m = sha (heldB (padK l) 92 ++ sha (heldB (padK l) 54 ++ m)) := by
  unfold hmac
  rw [keyB_short l h]
theorem hmac_long (l m : List UInt8) (h : 64 < l.length) : hmac l m = hmac (sha l) m := by
  rw [hmac_short (sha l) m (by rw [sha_length]; omega)]
  unfold hmac
  rw [keyB_long l h]
theorem Arr.rdAll {w : World} {g n : Nat} {l : List UInt8} (h : Arr w g 5 (bcs l)) (hn : l.length = n) : Rd w (g + 1) (some ⟨g, 0, none⟩) n l := by
  have := h.rd 0 n (by omega)
  rwa [List.drop_zero] at this

set_option maxHeartbeats 1600000 in
set_option maxRecDepth 100000 in
theorem rhmac_short (A A2 : Option Addr) (n c n2 c2 : Nat) (l m : List UInt8) (w : World) (h : Rd w w.heap.size A n l) (hn : n ≤ 64) (h2 : Rd w w.heap.size A2 n2 m) (hn2 : n2 ≤ 80000) :
    Calls Tryd.prog 8 #[.slice A n c, .slice A2 n2 c2] w fun e w' => e = .returned (.agg (bcs (hmac l m))) ∧ Below w.heap.size w w' := by
  have HD := Lib.hid h
  have HD2 := Lib.hid h2
  have HLN := Lib.hid h.len
  have HLM := Lib.hid h2.len
  have HH := Lib.hid (hmac_short l m (by rw [HLN.out]; exact hn))
  have HPK := Lib.hid (padK_length l (by rw [HLN.out]; exact hn))
  rw [HH.out]
  clear h h2 HH
  obtain ⟨w0, hw0⟩ : ∃ w0, w.alloc (.cells (bcs (List.replicate 32 0)) 23) = w0 := ⟨_, rfl⟩
  have hB0 : Below w.heap.size w w0 := by rw [← hw0]; exact (Below.refl _ _).alloc (Nat.le_refl _) _
  have hwM : w.heap.size < w0.heap.size := by rw [← hw0]; simp
  have HA0 := Lib.hid (show Arr w0 w.heap.size 23 (bcs (List.replicate 32 0)) by rw [← hw0]; exact Arr.new _ _ _)
  have HW0 := Lib.hid hw0
  have C1 := against_any A A2 n c n2 c2 54 l m w0 ((HD.out.below hB0).more hB0.size) hn ((HD2.out.below hB0).more hB0.size) (by omega)
  rw [← hw0] at C1
  have HC1 := Lib.hid C1
  clear C1 hw0
  go_enter Tryd.func8, Tryd.ntmps8
  go_wp2_with fail
  have C1 := HC1.out
  refine C1.mono ?_
  rw [HW0.out]
  clear C1 HC1 HW0
  rintro e w1 ⟨rfl, hR1, hb1⟩
  have hz1 := hb1.size
  have hB1 : Below w.heap.size w w1 := hB0.trans (hb1.mono (by omega))
  have HA1 := Lib.hid (HA0.out.below hb1 hwM)
  have HK1 := Lib.hid (show (heldB (padK l) 54 ++ m).length = 64 + n2 by rw [List.length_append, heldB_length, HPK.out, HLM.out])
  have C2 := rof_any (some ⟨w0.heap.size, 0, none⟩) (64 + n2) (64 + n2) _ w1 ((hR1.rdAll HK1.out).more hR1.lt) (by omega)
  clear hR1 HA0 hB0
  go_wp2_with fail
  refine C2.mono ?_
  rintro e w2 ⟨rfl, hb2⟩
  have hz2 := hb2.size
  have hB2 : Below w.heap.size w w2 := hB1.trans (hb2.mono (by omega))
  have HA2 := Lib.hid (HA1.out.below hb2 (by omega))
  have C3 := listed_any (sha (heldB (padK l) 54 ++ m)) w2 (sha_length _)
  clear C2 HA1 hB1 hb2 hb1
  go_wp2_with fail
  refine C3.mono ?_
  rintro e w3 ⟨v, rfl, hO3, hb3⟩
  have hz3 := hb3.size
  have hB3 : Below w.heap.size w w3 := hB2.trans (hb3.mono (by omega))
  have HA3 := Lib.hid (HA2.out.below hb3 (by omega))
  obtain ⟨A3, c3, rfl, hc3, _⟩ := own_shape hO3
  have hR3 := Rd.own hO3
  rw [sha_length] at hR3 hc3
  have C4 := against_any A A3 n c 32 c3 92 l (sha (heldB (padK l) 54 ++ m)) w3 ((HD.out.below hB3).more hB3.size) hn hR3 (by omega)
  rw [sha_length]
  clear C3 HA2 hB2 hb3 hO3
  go_wp2_with fail
  refine C4.mono ?_
  rintro e w4 ⟨rfl, hR4, hb4⟩
  have hz4 := hb4.size
  have hB4 : Below w.heap.size w w4 := hB3.trans (hb4.mono (by omega))
  have HA4 := Lib.hid (HA3.out.below hb4 (by omega))
  have HK4 := Lib.hid (show (heldB (padK l) 92 ++ sha (heldB (padK l) 54 ++ m)).length = 64 + 32 by rw [List.length_append, heldB_length, HPK.out, sha_length])
  have C5 := rof_any (some ⟨w3.heap.size, 0, none⟩) (64 + 32) (64 + 32) _ w4 ((hR4.rdAll HK4.out).more hR4.lt) (by omega)
  clear C4 HA3 hB3 hb4 hR4 hR3
  go_wp2_with fail
  refine C5.mono ?_
  rintro e w5 ⟨rfl, hb5⟩
  have hB5 : Below w.heap.size w w5 := hB4.trans (hb5.mono (by omega))
  have HA5 := Lib.hid (HA4.out.below hb5 (by omega))
  have HL5 := Lib.hid (sha_length (heldB (padK l) 92 ++ sha (heldB (padK l) 54 ++ m)))
  clear C5 HA4 hB4 hb5
  obtain ⟨r, HR⟩ : ∃ r, Unit → sha (heldB (padK l) 92 ++ sha (heldB (padK l) 54 ++ m)) = r := ⟨_, fun _ => rfl⟩
  rw [HR ()] at HL5 ⊢
  go_wp2_with (refine wpList_store_row rfl _ _ _ rfl w.heap.size _ rfl rfl _ _ HA5.out (by rw [bcs_size, HL5.out]; kernel_rfl) (by rw [bcs_size, bcs_size, HL5.out]; rfl) (bcs_one _) ?_)
  exact bodyPost_ret (v := .agg (bcs r)) (results_cell_row rfl _ _ w.heap.size _ _ _ _ rfl (HA5.out.row _) Tryd.underlying23 rfl (by rw [bcs_size, HL5.out]; kernel_rfl)) rfl ⟨by rw [HR ()], Below.setRow hB5 (Nat.le_refl _) _⟩

set_option maxHeartbeats 1600000 in
set_option maxRecDepth 100000 in
theorem rhmac_any (A A2 : Option Addr) (n c n2 c2 : Nat) (l m : List UInt8) (w : World) (h : Rd w w.heap.size A n l) (hn : n ≤ 80000) (h2 : Rd w w.heap.size A2 n2 m) (hn2 : n2 ≤ 80000) :
    Calls Tryd.prog 8 #[.slice A n c, .slice A2 n2 c2] w fun e w' => e = .returned (.agg (bcs (hmac l m))) ∧ Below w.heap.size w w' := by
  by_cases hs : n ≤ 64
  · exact rhmac_short A A2 n c n2 c2 l m w h hs h2 hn2
  have hgt : 64 < n := by omega
  have HD2 := Lib.hid h2
  have HLN := Lib.hid h.len
  have HH := Lib.hid (hmac_long l m (by rw [HLN.out]; exact hgt))
  obtain ⟨w0, hw0⟩ : ∃ w0, w.alloc (.cells (bcs (List.replicate 32 0)) 23) = w0 := ⟨_, rfl⟩
  have hB0 : Below w.heap.size w w0 := by rw [← hw0]; exact (Below.refl _ _).alloc (Nat.le_refl _) _
  have hwM : w.heap.size < w0.heap.size := by rw [← hw0]; simp
  have HA0 := Lib.hid (show Arr w0 w.heap.size 23 (bcs (List.replicate 32 0)) by rw [← hw0]; exact Arr.new _ _ _)
  have HW0 := Lib.hid hw0
  have C1 := rof_any A n c l w0 ((h.below hB0).more hB0.size) (by omega)
  rw [← hw0] at C1
  have HC1 := Lib.hid C1
  clear C1 hw0 h h2 hs
  rw [HH.out]
  go_enter Tryd.func8, Tryd.ntmps8
  go_wp2_with fail
  have C1 := HC1.out
  refine C1.mono ?_
  rw [HW0.out]
  clear C1 HC1 HW0
  rintro e w1 ⟨rfl, hb1⟩
  have hz1 := hb1.size
  have hB1 : Below w.heap.size w w1 := hB0.trans (hb1.mono (by omega))
  have HA1 := Lib.hid (HA0.out.below hb1 hwM)
  have C2 := listed_any (sha l) w1 (sha_length _)
  clear HA0 hB0 hb1
  go_wp2_with fail
  refine C2.mono ?_
  rintro e w3 ⟨v, rfl, hO3, hb3⟩
  have hz3 := hb3.size
  have hB3 : Below w.heap.size w w3 := hB1.trans (hb3.mono (by omega))
  have HA3 := Lib.hid (HA1.out.below hb3 (by omega))
  obtain ⟨A3, c3, rfl, hc3, _⟩ := own_shape hO3
  have hR3 := Rd.own hO3
  rw [sha_length] at hR3 hc3
  have C4 := rhmac_short A3 A2 32 c3 n2 c2 (sha l) m w3 hR3 (by omega) ((HD2.out.below hB3).more hB3.size) hn2
  rw [sha_length]
  clear C2 HA1 hB1 hb3 hO3
  go_wp2_with fail
  refine C4.mono ?_
  rintro e w5 ⟨rfl, hb5⟩
  have hB5 : Below w.heap.size w w5 := hB3.trans (hb5.mono (by omega))
  have HA5 := Lib.hid (HA3.out.below hb5 (by omega))
  have HL5 := Lib.hid (show (hmac (sha l) m).length = 32 from sha_length _)
  clear C4 HA3 hB3 hb5
  obtain ⟨r, HR⟩ : ∃ r, Unit → hmac (sha l) m = r := ⟨_, fun _ => rfl⟩
  rw [HR ()] at HL5 ⊢
  go_wp2_with (refine wpList_store_row rfl _ _ _ rfl w.heap.size _ rfl rfl _ _ HA5.out (by rw [bcs_size, HL5.out]; kernel_rfl) (by rw [bcs_size, bcs_size, HL5.out]; rfl) (bcs_one _) ?_)
  exact bodyPost_ret (v := .agg (bcs r)) (results_cell_row rfl _ _ w.heap.size _ _ _ _ rfl (HA5.out.row _) Tryd.underlying23 rfl (by rw [bcs_size, HL5.out]; kernel_rfl)) rfl ⟨by rw [HR ()], Below.setRow hB5 (Nat.le_refl _) _⟩
end Go.Proofs.YtgdcjealhbfnaaaDoor

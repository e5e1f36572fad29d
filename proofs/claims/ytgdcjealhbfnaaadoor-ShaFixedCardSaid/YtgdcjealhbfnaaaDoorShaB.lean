/-
  The contract of keyBlock. No statement of the seat is proved here.
-/
import Derived.Test.YtgdcjealhbfnaaaDoorShaO
import Derived.StillTailTactics
namespace Go.Proofs.YtgdcjealhbfnaaaDoor
open Go.RowKit

set_option maxRecDepth 100000 in
/-- What a copy out of bytes that lie below asks of its source. -/
theorem copy_src {w W : World} {A : Option Addr} {n B : Nat} {l : List UInt8} (h : Rd w B A n l) (hW : Below B w W) (ad0 : Addr) : 0 < (bvs l).length → some ad0 = some ad0 ∧ ∃ ad, A = some ad ∧ ∀ j v, (bvs l)[j]? = some v → W.cell? (ad.add j) = some v := fun hp => by
  rw [bvs_length] at hp
  obtain ⟨b, o, rfl, hb, hc⟩ := h.2 (by rw [← h.len]; exact hp)
  refine ⟨rfl, _, rfl, fun j v hv => ?_⟩
  have hj : j < l.length := by
    have := (List.getElem?_eq_some_iff.1 hv).1
    simpa [bvs_length] using this
  rw [Addr.add_lit, hW.cell (p := ⟨b, o + j, none⟩) hb, hc j hj, ← bvs_at l j hj, hv]

set_option maxHeartbeats 1600000 in
set_option maxRecDepth 100000 in
theorem keyblock_short (A : Option Addr) (n c : Nat) (l : List UInt8) (w : World) (h : Rd w w.heap.size A n l) (hn : n ≤ 64) :
    Calls Tryd.prog 21 #[.slice A n c] w fun e w' => e = .returned (.agg (bcs (keyB l))) ∧ Below w.heap.size w w' := by
  have HL := Lib.hid h.len
  obtain ⟨W0, hW0⟩ : ∃ W, (w.alloc (.cells (bcs (zs 64)) 41)).alloc (.cells (bcs (zs 64)) 41) = W := ⟨_, rfl⟩
  have hz : W0.heap.size = w.heap.size + 2 := by rw [← hW0]; simp
  have hA : Arr W0 w.heap.size 41 (bcs (zs 64)) := by rw [← hW0]; exact (Arr.new _ _ _).alloc _
  have hB : Arr W0 (w.heap.size + 1) 41 (bcs (zs 64)) := by
    rw [← hW0]
    have := Arr.new (w.alloc (.cells (bcs (zs 64)) 41)) (bcs (zs 64)) 41
    rw [World.size_alloc] at this
    exact this
  have hbel : Below w.heap.size w W0 := by rw [← hW0]; exact ((Below.refl _ _).alloc (Nat.le_refl _) _).alloc (by simp) _
  have HS := Lib.hid (copy_src h hbel ⟨w.heap.size + 1, 0, none⟩)
  have HP : Unit → (bvs l).length = Nat.min n 64 := fun _ => by rw [bvs_length, h.len]; exact (Nat.min_eq_left hn).symm
  have HF : Unit → 0 + (bvs l).length ≤ (bvs (zs 64)).length := fun _ => by rw [bvs_length, bvs_length, h.len, zs, List.length_replicate]; omega
  have HK : Unit → keyB l = l ++ List.replicate (64 - l.length) 0 := fun _ => by rw [keyB, if_neg (by rw [h.len]; omega)]
  have HKL : Unit → (l ++ List.replicate (64 - l.length) (0 : UInt8)).length = 64 := fun _ => by rw [List.length_append, List.length_replicate, h.len]; omega
  have HA := Lib.hid hA
  have HB := Lib.hid hB
  clear h hA hB
  rw [← hW0] at HA HB HS
  have hbel0 := hbel
  rw [← hW0] at hbel0
  go_enter Tryd.func21, Tryd.ntmps21
  clear hW0 hz hbel
  go_wp2_with (first
    | (refine wpList_load_row rfl _ _ rfl (w.heap.size + 1) rfl _ _ _ _ hA2.out Tryd.underlying41 rfl (by rw [bcs_size, HKL ()]; kernel_rfl) ?_)
    | (refine wpList_store_row rfl _ _ _ rfl w.heap.size _ rfl rfl _ _ HZ2.out (by rw [bcs_size, HKL ()]; kernel_rfl) (by rw [bcs_size, bcs_size, HKL ()]; rfl) (bcs_one _) ?_)
    | (refine wpList_copy_splice (o := ⟨some 15, _, _, _, _, _⟩) rfl (.tmp 13) (.tmp 14) 22 22 rfl 5 Tryd.underlying22 (by kernel_rfl) (some ⟨w.heap.size + 1, 0, none⟩) A 64 64 n c rfl rfl (w.heap.size + 1) 0 (bvs (zs 64)) 41 HB.out (bvs l) (HP ()) HS.out (HF ()) (bvs_oneCell l) (w.heap.size + 1) _ (Below.refl _ _) (Nat.le_refl _) ?_; intro w2 hA2 hB2; rw [splice_zeros] at hA2; have HZ2 := Lib.hid (HA.out.below hB2 (by omega))))
  refine bodyPost_ret (v := .agg (bcs (l ++ List.replicate (64 - l.length) 0))) (results_cell_row rfl _ _ w.heap.size _ _ _ _ rfl (HZ2.out.row _) Tryd.underlying41 rfl (by rw [bcs_size, HKL ()]; kernel_rfl)) rfl ⟨by rw [HK ()], Below.setRow (hbel0.trans (hB2.mono (by omega))) (Nat.le_refl _) _⟩

set_option maxRecDepth 100000 in
theorem sha_length (l : List UInt8) : (sha l).length = 32 := by
  unfold sha
  rw [seatB_length, absorb_length, absorb_length]
  rfl

set_option maxHeartbeats 1600000 in
set_option maxRecDepth 100000 in
theorem keyblock_long (A : Option Addr) (n c : Nat) (l : List UInt8) (w : World) (h : Rd w w.heap.size A n l) (hc : n ≤ c) (hn : 64 < n) (hn2 : n ≤ 1099511627776) (ht : TabS w) :
    Calls Tryd.prog 21 #[.slice A n c] w fun e w' => e = .returned (.agg (bcs (keyB l))) ∧ Below w.heap.size w w' := by
  obtain ⟨W0, hW0⟩ : ∃ W, (w.alloc (.cells (bcs (zs 64)) 41)).alloc (.cells (bcs (zs 64)) 41) = W := ⟨_, rfl⟩
  have hz : W0.heap.size = w.heap.size + 2 := by rw [← hW0]; simp
  have hA : Arr W0 w.heap.size 41 (bcs (zs 64)) := by rw [← hW0]; exact (Arr.new _ _ _).alloc _
  have hB : Arr W0 (w.heap.size + 1) 41 (bcs (zs 64)) := by
    rw [← hW0]
    have := Arr.new (w.alloc (.cells (bcs (zs 64)) 41)) (bcs (zs 64)) 41
    rw [World.size_alloc] at this
    exact this
  have hbel : Below w.heap.size w W0 := by rw [← hW0]; exact ((Below.refl _ _).alloc (Nat.le_refl _) _).alloc (by simp) _
  have C1 := of_any A n c l W0 ((h.below hbel).more (by omega)) hc hn2 (ht.keep hbel ht.pos)
  rw [← hW0] at C1
  have HC1 := Lib.hid C1
  have HK : Unit → keyB l = sha l ++ List.replicate (64 - (sha l).length) 0 := fun _ => by rw [keyB, if_pos (by rw [h.len]; exact hn), sha_length]
  have HKL : Unit → (sha l ++ List.replicate (64 - (sha l).length) (0 : UInt8)).length = 64 := fun _ => by rw [List.length_append, List.length_replicate, sha_length]
  have HSL : Unit → (sha l).length = 32 := fun _ => sha_length l
  clear C1 h ht
  have hgt : decide (64 < (n : Int)) = true := by simp; omega
  go_enter Tryd.func21, Tryd.ntmps21
  go_wp2_with fail
  refine (show Calls Tryd.prog 5 _ _ _ from HC1.out).mono ?_
  clear HC1
  rw [hW0]
  clear hW0
  rintro e w1 ⟨rfl, hb1⟩
  have hz1 := hb1.size
  have HA1 := Lib.hid (hA.below hb1 (by omega))
  have HB1 := Lib.hid (hB.below hb1 (by omega))
  have hbel1 : Below w.heap.size w w1 := hbel.trans (hb1.mono (by omega))
  have hzz : w.heap.size + 1 < w1.heap.size := by omega
  clear hA hB hbel hb1 hz1 hz
  obtain ⟨H, HH⟩ : ∃ H, Unit → sha l = H := ⟨_, fun _ => rfl⟩
  rw [HH ()]
  rw [HH ()] at HSL HKL HK
  go_simp
  iterate 4 (first | go_values | go_skip | go_guarded | go_step | go_upon)
  refine wpList_store_row rfl _ _ _ rfl w1.heap.size (bcs H) rfl rfl _ _ (Arr.new w1 _ _) (by rw [bcs_size, HSL ()]; kernel_rfl) (by rw [bcs_size, HSL ()]; rfl) (bcs_one _) ?_
  rw [World.setRow_alloc_new]
  obtain ⟨w2, hw2⟩ : ∃ w2, w1.alloc (.cells (bcs H) 23) = w2 := ⟨_, rfl⟩
  have hz2 : w1.heap.size < w2.heap.size := by rw [← hw2]; simp
  have HA2 := Lib.hid (show Arr w2 w.heap.size 41 (bcs (zs 64)) by rw [← hw2]; exact HA1.out.alloc _)
  have HB2 := Lib.hid (show Arr w2 (w.heap.size + 1) 41 (bcs (zs 64)) by rw [← hw2]; exact HB1.out.alloc _)
  have HC2 := Lib.hid (show Arr w2 w1.heap.size 23 (bcs H) by rw [← hw2]; exact Arr.new _ _ _)
  have hbel2 : Below w.heap.size w w2 := by rw [← hw2]; exact hbel1.alloc (by omega) _
  rw [hw2]
  clear hw2 HA1 HB1 hbel1
  generalize w1.heap.size = s4 at *
  go_simp
  go_wp2_with fail
  go_still_tail 2, (by kernel_rfl)
  change wpList _ _ _ _ _ w2.drew
  obtain ⟨w3, hw3⟩ : ∃ W, w2.drew = W := ⟨_, rfl⟩
  rw [hw3]
  have HA3 := Lib.hid (show Arr w3 w.heap.size 41 (bcs (zs 64)) by rw [← hw3]; exact HA2.out.drew)
  have HB3 := Lib.hid (show Arr w3 (w.heap.size + 1) 41 (bcs (zs 64)) by rw [← hw3]; exact HB2.out.drew)
  have HR3 := Lib.hid (show Rd w3 (s4 + 1) (some ⟨s4, 0, none⟩) 32 H by rw [← hw3]; have := HC2.out.drew.rd 0 32 (by rw [HSL ()]); simpa using this)
  have hbel3 : Below w.heap.size w w3 := by rw [← hw3]; exact hbel2.drew
  clear hw3 HA2 HB2 HC2 hbel2
  have HS := Lib.hid (copy_src HR3.out (Below.refl _ w3) ⟨w.heap.size + 1, 0, none⟩)
  have HP : Unit → (bvs H).length = Nat.min 32 64 := fun _ => by rw [bvs_length, HSL ()]; rfl
  have HF : Unit → 0 + (bvs H).length ≤ (bvs (zs 64)).length := fun _ => by rw [bvs_length, bvs_length, HSL (), zs, List.length_replicate]; omega
  go_wp2_with (first
    | (refine wpList_load_row rfl _ _ rfl (w.heap.size + 1) rfl _ _ _ _ hA4.out Tryd.underlying41 rfl (by rw [bcs_size, HKL ()]; kernel_rfl) ?_)
    | (refine wpList_store_row rfl _ _ _ rfl w.heap.size _ rfl rfl _ _ HZ4.out (by rw [bcs_size, HKL ()]; kernel_rfl) (by rw [bcs_size, bcs_size, HKL ()]; rfl) (bcs_one _) ?_)
    | (refine wpList_copy_splice (o := ⟨some 12, _, _, _, _, _⟩) rfl (.tmp 10) (.tmp 11) 22 22 rfl 5 Tryd.underlying22 (by kernel_rfl) (some ⟨w.heap.size + 1, 0, none⟩) (some ⟨s4, 0, none⟩) 64 64 32 32 rfl rfl (w.heap.size + 1) 0 (bvs (zs 64)) 41 HB3.out (bvs H) (HP ()) HS.out (HF ()) (bvs_oneCell H) (w.heap.size + 1) _ (Below.refl _ _) (Nat.le_refl _) ?_; intro w4 hA4 hB4; rw [splice_zeros] at hA4; have HZ4 := Lib.hid (HA3.out.below hB4 (by omega))))
  refine bodyPost_ret (v := .agg (bcs (H ++ List.replicate (64 - H.length) 0))) (results_cell_row rfl _ _ w.heap.size _ _ _ _ rfl (HZ4.out.row _) Tryd.underlying41 rfl (by rw [bcs_size, HKL ()]; kernel_rfl)) rfl ⟨by rw [HK ()], Below.setRow (hbel3.trans (hB4.mono (by omega))) (Nat.le_refl _) _⟩
end Go.Proofs.YtgdcjealhbfnaaaDoor

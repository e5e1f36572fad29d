/-
  The contract of messageEnd. No statement of the seat is proved here. (Written by wip/gen_end.py.)
-/
import Derived.Test.YtgdcjealhbfnaaaDoorShaS
import Derived.Laws.CopyOwn
import Derived.Laws.MakeOwn
namespace Go.Proofs.YtgdcjealhbfnaaaDoor
open Go.RowKit

/-- Noughts. -/
def zs (n : Nat) : List UInt8 := List.replicate n 0
set_option maxRecDepth 100000 in
theorem make_rule (N : Nat) (hN : N ≤ 1000) (z : Int) (hz : z = (N : Int)) (w : World) : (Instr.makeSlice 22 (.int .i64 z) (.int .i64 z)).run Tryd.prog w = .ok (.slice (some ⟨w.heap.size, 0, none⟩) N N) (w.alloc (.cells (bcs (zs N)) 5)) := by
  subst hz
  obtain ⟨i0, hi, hz0, hz1, hz2⟩ := info_parts info_u8
  rw [run_make w 22 5 i0 _ Tryd.underlying22 hi hz0 .i64 .i64 N N (by omega) (by omega) (by rw [hz2]; omega) (by omega)]
  have e : madeCells (Value.int .u8 0).cells ((N : Int).toNat * i0.size) = bcs (zs N) := by
    rw [hz1, Nat.mul_one, Int.toNat_natCast]
    apply Array.ext'
    apply List.ext_getElem
    · simp [madeCells, bcs, bvs, zs]
    · intro i h1 h2
      simp [madeCells, bcs, bvs, Value.cells, zs]
      rw [Nat.mod_one]
      rfl
  rw [e]
  simp

/-- The end of a message, of which so many bytes of the count are written. -/
def endZ (l : List UInt8) (N t j : Nat) : List UInt8 := l ++ [128] ++ List.replicate (N - 9 - l.length) 0 ++ (List.replicate (8 - j) 0 ++ (be8 (8 * t)).drop (8 - j))
set_option maxRecDepth 100000 in
theorem endZ_length (l : List UInt8) (N t j : Nat) (hl : l.length + 9 ≤ N) (_ : j ≤ 8) : (endZ l N t j).length = N := by
  simp [endZ, be8]; omega
set_option maxRecDepth 100000 in
theorem be8_at (n : Nat) : ∀ j, j < 8 → (be8 n).drop (7 - j) = UInt8.ofNat (n / 2 ^ (8 * j)) :: (be8 n).drop (8 - j)
  | 0, _ => by simp [be8]
  | 1, _ => by simp [be8]
  | 2, _ => by simp [be8]
  | 3, _ => by simp [be8]
  | 4, _ => by simp [be8]
  | 5, _ => by simp [be8]
  | 6, _ => by simp [be8]
  | 7, _ => by simp [be8]
  | n + 8, h => by omega
set_option maxRecDepth 100000 in
theorem set_mid (P Q R : List UInt8) (x y : UInt8) : (P ++ (Q ++ [x] ++ R)).set (P.length + Q.length) y = P ++ (Q ++ y :: R) := by
  rw [List.set_append_right _ _ (by omega), show P.length + Q.length - P.length = Q.length by omega, List.append_assoc, List.set_append_right _ _ (by omega), Nat.sub_self]
  rfl
set_option maxRecDepth 100000 in
theorem endZ_set (l : List UInt8) (N t j : Nat) (hl : l.length + 9 ≤ N) (hj : j < 8) : (endZ l N t j).set (N - 1 - j) (UInt8.ofNat (8 * t / 2 ^ (8 * j))) = endZ l N t (j + 1) := by
  unfold endZ
  have e1 : List.replicate (8 - j) (0 : UInt8) = List.replicate (7 - j) 0 ++ [0] := by
    rw [show 8 - j = 7 - j + 1 by omega, List.replicate_succ']
  have e2 : 8 - (j + 1) = 7 - j := by omega
  have e3 : N - 1 - j = (l ++ [128] ++ List.replicate (N - 9 - l.length) 0).length + (List.replicate (7 - j) (0 : UInt8)).length := by
    simp only [List.length_append, List.length_replicate, List.length_cons, List.length_nil]; omega
  rw [e1, e2, be8_at _ j hj, e3, set_mid]
set_option maxRecDepth 100000 in
theorem endZ_first (l : List UInt8) (N t : Nat) (hl : l.length + 9 ≤ N) : (l ++ List.replicate (N - l.length) 0).set l.length 128 = endZ l N t 0 := by
  unfold endZ
  rw [List.set_append_right _ _ (by omega), Nat.sub_self, show N - l.length = (N - 9 - l.length) + 8 + 1 by omega, List.replicate_succ, List.set_cons_zero, ← List.replicate_append_replicate]
  simp [be8]
set_option maxRecDepth 100000 in
theorem splice_zeros (l : List UInt8) (N : Nat) : (splice (bvs (zs N)) 0 (bvs l)).toArray = bcs (l ++ List.replicate (N - l.length) 0) := by
  unfold splice bcs zs
  rw [bvs_append]
  simp [bvs]
set_option maxRecDepth 100000 in
theorem byte_shr (t j : Nat) : ((8 * (t : Int)) / 2 ^ (8 * j)) % 256 = ((UInt8.ofNat (8 * t / 2 ^ (8 * j))).toNat : Int) := by
  rw [UInt8.toNat_ofNat']
  have : ((8 * t / 2 ^ (8 * j) : Nat) : Int) = (8 * (t : Int)) / 2 ^ (8 * j) := by simp
  rw [← this]
  omega

set_option maxHeartbeats 1600000 in
set_option maxRecDepth 100000 in
theorem end_64 (A : Option Addr) (n c t : Nat) (l : List UInt8) (w : World) (h : Rd w w.heap.size A n l) (hn : n + 9 ≤ 64) (hs : endSize n = 64) (ht : t ≤ 1099511627776) :
    Calls Tryd.prog 14 #[.slice A n c, .int .i64 (t : Int)] w fun e w' => e = .returned (.slice (some ⟨w.heap.size, 0, none⟩) 64 64) ∧ Arr w' w.heap.size 5 (bcs (msgEnd l t)) ∧ Below w.heap.size w w' := by
  have hlen := h.len
  have HL := Lib.hid hlen
  have HM : Unit → msgEnd l t = endZ l 64 t 8 := fun _ => by
    unfold msgEnd endZ
    rw [hlen, hs]
    simp
  have hle : (n : Int) + 1 + 8 ≤ 64 := by omega
  have HR := Lib.hid h
  have hmk := fun W => make_rule 64 (by omega) 64 rfl W
  have HP : Unit → (bvs l).length = Nat.min n 64 := fun _ => by rw [bvs_length, hlen]; exact (Nat.min_eq_left (by omega)).symm
  have HP2 : Unit → ∀ W, Below w.heap.size w W → 0 < (bvs l).length → some (⟨w.heap.size, 0, none⟩ : Addr) = some ⟨w.heap.size, 0, none⟩ ∧ ∃ ad, A = some ad ∧ ∀ j v, (bvs l)[j]? = some v → W.cell? (ad.add j) = some v := fun _ W hW hp => by
    rw [bvs_length] at hp
    obtain ⟨b, o, rfl, hb, hc⟩ := h.2 (by omega)
    refine ⟨rfl, _, rfl, fun j v hv => ?_⟩
    have hj : j < l.length := by
      have := (List.getElem?_eq_some_iff.1 hv).1
      simpa [bvs_length] using this
    rw [Addr.add_lit, hW.cell (p := ⟨b, o + j, none⟩) hb, hc j hj, ← bvs_at l j hj, hv]
  have hst : n < 64 := by omega
  clear h hlen hs
  go_enter Tryd.func14, Tryd.ntmps14
  go_wp2_with (refine wpList_copy_splice (o := ⟨some 18, _, _, _, _, _⟩) rfl (.tmp 16) (.tmp 17) 22 22 rfl 5 Tryd.underlying22 (by kernel_rfl) (some ⟨w.heap.size, 0, none⟩) A 64 64 n c rfl rfl w.heap.size 0 (bvs (zs 64)) 5 (Arr.new w (bcs (zs 64)) 5) (bvs l) (HP ()) (HP2 () _ ((Below.refl _ _).alloc (Nat.le_refl _) _)) (by rw [bvs_length, bvs_length, HL.out, zs, List.length_replicate]; omega) (bvs_oneCell l) w.heap.size w ((Below.refl _ _).alloc (Nat.le_refl _) _) (Nat.le_refl _) ?_; intro w2 hA2 hB2; rw [splice_zeros] at hA2; have hc2 := (Arr.cell hA2.out n).trans (bcs_at _ n (by rw [List.length_append, List.length_replicate, HL.out]; omega)); have hf2 := Arr.frozen hA2.out n; generalize (l ++ List.replicate (64 - l.length) 0).getD n 0 = z2 at hc2)
  go_loopw [26] (fun i wr => ∃ j : Nat, j ≤ 8 ∧ i = .int .i64 (j : Int) ∧ Hid (Arr wr w.heap.size 5 (bcs (endZ l 64 t j))) ∧ Below w.heap.size w wr) (fun i _ => 8 - (intOf i).toNat)
  case atStart =>
    refine ⟨0, by omega, rfl, ?_, hB2.setCell (Nat.le_refl _) _⟩
    show Arr _ _ _ _
    rw [← endZ_first l 64 t (by rw [HL.out]; exact hn), ← bcs_set]
    have e := Arr.set hA2.out n (Value.int .u8 128)
    rw [HL.out] at e ⊢
    exact e
  case round =>
    clear hA2 hB2 hc2 hf2
    obtain ⟨j, hj, rfl, HA, hbr⟩ := hrel
    have HL8 := Lib.hid (endZ_length l 64 t j (by rw [HL.out]; exact hn) hj)
    by_cases hlt : j < 8
    · have c1 := (HA.out.cell (64 - 1 - j)).trans (bcs_at _ _ (by rw [HL8.out]; omega))
      have f1 := HA.out.frozen (64 - 1 - j)
      generalize (endZ l 64 t j).getD (64 - 1 - j) 0 = z at c1
      have e1 : ((64 : Int) - 1 - (j : Int)).toNat = 64 - 1 - j := by omega
      have HN : Hid (Arr (wr.setCell ⟨w.heap.size, 64 - 1 - j, none⟩ (.int .u8 (8 * (t : Int) / 2 ^ (8 * j) % 256))) w.heap.size 5 (bcs (endZ l 64 t (j + 1)))) := by
        show Arr _ _ _ _
        rw [byte_shr, ← endZ_set l 64 t j (by rw [HL.out]; exact hn) hlt, ← bcs_set]
        exact HA.out.set _ _
      go_wp2_with fail
      go_roundw
      case rel => exact ⟨j + 1, by omega, by go_num, HN, hbr.setCell (Nat.le_refl _) _⟩
      case measure => simp [intOf]; omega
    · have hge : decide ((j : Int) < 8) = false := by simp; omega
      have H8 : Unit → j = 8 := fun _ => by omega
      go_wp2_with fail
      go_ret
      refine ⟨rfl, ?_, hbr⟩
      rw [HM (), ← H8 ()]
      exact HA.out

set_option maxHeartbeats 1600000 in
set_option maxRecDepth 100000 in
theorem end_128 (A : Option Addr) (n c t : Nat) (l : List UInt8) (w : World) (h : Rd w w.heap.size A n l) (hn : n + 9 ≤ 128) (hs : endSize n = 128) (ht : t ≤ 1099511627776) :
    Calls Tryd.prog 14 #[.slice A n c, .int .i64 (t : Int)] w fun e w' => e = .returned (.slice (some ⟨w.heap.size, 0, none⟩) 128 128) ∧ Arr w' w.heap.size 5 (bcs (msgEnd l t)) ∧ Below w.heap.size w w' := by
  have hlen := h.len
  have HL := Lib.hid hlen
  have HM : Unit → msgEnd l t = endZ l 128 t 8 := fun _ => by
    unfold msgEnd endZ
    rw [hlen, hs]
    simp
  have hle : 64 < (n : Int) + 1 + 8 := by
    by_cases h5 : 55 < n
    · omega
    · rw [endSize, if_neg h5] at hs; omega
  have HR := Lib.hid h
  have hmk := fun W => make_rule 128 (by omega) 128 rfl W
  have HP : Unit → (bvs l).length = Nat.min n 128 := fun _ => by rw [bvs_length, hlen]; exact (Nat.min_eq_left (by omega)).symm
  have HP2 : Unit → ∀ W, Below w.heap.size w W → 0 < (bvs l).length → some (⟨w.heap.size, 0, none⟩ : Addr) = some ⟨w.heap.size, 0, none⟩ ∧ ∃ ad, A = some ad ∧ ∀ j v, (bvs l)[j]? = some v → W.cell? (ad.add j) = some v := fun _ W hW hp => by
    rw [bvs_length] at hp
    obtain ⟨b, o, rfl, hb, hc⟩ := h.2 (by omega)
    refine ⟨rfl, _, rfl, fun j v hv => ?_⟩
    have hj : j < l.length := by
      have := (List.getElem?_eq_some_iff.1 hv).1
      simpa [bvs_length] using this
    rw [Addr.add_lit, hW.cell (p := ⟨b, o + j, none⟩) hb, hc j hj, ← bvs_at l j hj, hv]
  have hst : n < 128 := by omega
  clear h hlen hs
  go_enter Tryd.func14, Tryd.ntmps14
  go_wp2_with (refine wpList_copy_splice (o := ⟨some 18, _, _, _, _, _⟩) rfl (.tmp 16) (.tmp 17) 22 22 rfl 5 Tryd.underlying22 (by kernel_rfl) (some ⟨w.heap.size, 0, none⟩) A 128 128 n c rfl rfl w.heap.size 0 (bvs (zs 128)) 5 (Arr.new w (bcs (zs 128)) 5) (bvs l) (HP ()) (HP2 () _ ((Below.refl _ _).alloc (Nat.le_refl _) _)) (by rw [bvs_length, bvs_length, HL.out, zs, List.length_replicate]; omega) (bvs_oneCell l) w.heap.size w ((Below.refl _ _).alloc (Nat.le_refl _) _) (Nat.le_refl _) ?_; intro w2 hA2 hB2; rw [splice_zeros] at hA2; have hc2 := (Arr.cell hA2.out n).trans (bcs_at _ n (by rw [List.length_append, List.length_replicate, HL.out]; omega)); have hf2 := Arr.frozen hA2.out n; generalize (l ++ List.replicate (128 - l.length) 0).getD n 0 = z2 at hc2)
  go_loopw [26] (fun i wr => ∃ j : Nat, j ≤ 8 ∧ i = .int .i64 (j : Int) ∧ Hid (Arr wr w.heap.size 5 (bcs (endZ l 128 t j))) ∧ Below w.heap.size w wr) (fun i _ => 8 - (intOf i).toNat)
  case atStart =>
    refine ⟨0, by omega, rfl, ?_, hB2.setCell (Nat.le_refl _) _⟩
    show Arr _ _ _ _
    rw [← endZ_first l 128 t (by rw [HL.out]; exact hn), ← bcs_set]
    have e := Arr.set hA2.out n (Value.int .u8 128)
    rw [HL.out] at e ⊢
    exact e
  case round =>
    clear hA2 hB2 hc2 hf2
    obtain ⟨j, hj, rfl, HA, hbr⟩ := hrel
    have HL8 := Lib.hid (endZ_length l 128 t j (by rw [HL.out]; exact hn) hj)
    by_cases hlt : j < 8
    · have c1 := (HA.out.cell (128 - 1 - j)).trans (bcs_at _ _ (by rw [HL8.out]; omega))
      have f1 := HA.out.frozen (128 - 1 - j)
      generalize (endZ l 128 t j).getD (128 - 1 - j) 0 = z at c1
      have e1 : ((128 : Int) - 1 - (j : Int)).toNat = 128 - 1 - j := by omega
      have HN : Hid (Arr (wr.setCell ⟨w.heap.size, 128 - 1 - j, none⟩ (.int .u8 (8 * (t : Int) / 2 ^ (8 * j) % 256))) w.heap.size 5 (bcs (endZ l 128 t (j + 1)))) := by
        show Arr _ _ _ _
        rw [byte_shr, ← endZ_set l 128 t j (by rw [HL.out]; exact hn) hlt, ← bcs_set]
        exact HA.out.set _ _
      go_wp2_with fail
      go_roundw
      case rel => exact ⟨j + 1, by omega, by go_num, HN, hbr.setCell (Nat.le_refl _) _⟩
      case measure => simp [intOf]; omega
    · have hge : decide ((j : Int) < 8) = false := by simp; omega
      have H8 : Unit → j = 8 := fun _ => by omega
      go_wp2_with fail
      go_ret
      refine ⟨rfl, ?_, hbr⟩
      rw [HM (), ← H8 ()]
      exact HA.out
end Go.Proofs.YtgdcjealhbfnaaaDoor

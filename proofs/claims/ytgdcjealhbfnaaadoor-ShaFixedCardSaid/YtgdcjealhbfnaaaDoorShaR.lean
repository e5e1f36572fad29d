/-
  The contract of rollOut: a block's words, and those that follow from them. No statement of the seat is proved here.
-/
import Derived.Test.YtgdcjealhbfnaaaDoorShaA
import Derived.Test.YtgdcjealhbfnaaaDoorArr
import Derived.Deep.RegionHeld3
namespace Go.Proofs.YtgdcjealhbfnaaaDoor
open Go.RowKit

/-- Words as cells. -/
def wcs (l : List (BitVec 32)) : Array Value := (l.map u32v).toArray
set_option maxRecDepth 100000 in
theorem wcs_size (l : List (BitVec 32)) : (wcs l).size = l.length := by simp [wcs]
set_option maxRecDepth 100000 in
theorem wcs_at (l : List (BitVec 32)) (j : Nat) (h : j < l.length) : (wcs l)[j]? = some (.int .u32 ((l.getD j 0).toNat : Int)) := by
  simp [wcs, List.getElem?_eq_getElem h, List.getD_eq_getElem?_getD]
set_option maxRecDepth 100000 in
theorem wcs_set (l : List (BitVec 32)) (j : Nat) (x : BitVec 32) : (wcs l).setIfInBounds j (u32v x) = wcs (l.set j x) := by
  apply Array.ext'
  simp [wcs, List.map_set]
set_option maxRecDepth 100000 in
theorem wcs_one (l : List (BitVec 32)) : (wcs l).all (·.oneCell') = true := by
  simp [wcs]
  intro x _
  rfl
set_option maxRecDepth 100000 in
theorem add_words (x y : BitVec 32) : IntKind.u32.wrap ((x.toNat : Int) + (y.toNat : Int)) = ((x + y).toNat : Int) := by
  rw [IntKind.wrap_u32, BitVec.toNat_add]
  omega
def rollZ (l : List UInt8) (k : Nat) : List (BitVec 32) := rollW l k ++ List.replicate (64 - k) 0
set_option maxRecDepth 100000 in
theorem rollZ_length (l : List UInt8) (k : Nat) (h : k ≤ 64) : (rollZ l k).length = 64 := by simp [rollZ, rollW_length]; omega
set_option maxRecDepth 100000 in
theorem rollZ_set (l : List UInt8) (k : Nat) (x : BitVec 32) (h : k < 64) (hx : rollW l (k + 1) = rollW l k ++ [x]) : (rollZ l k).set k x = rollZ l (k + 1) := by
  unfold rollZ
  have e : List.replicate (64 - k) (0 : BitVec 32) = 0 :: List.replicate (64 - (k + 1)) 0 := by
    rw [show 64 - k = (64 - (k + 1)) + 1 by omega, List.replicate_succ]
  rw [e, List.set_append_right _ _ (by rw [rollW_length]; exact Nat.le_refl _), rollW_length, Nat.sub_self, List.set_cons_zero, hx, List.append_assoc]
  rfl

set_option maxRecDepth 100000 in
theorem rollZ_at (l : List UInt8) (k j : Nat) (h : j < k) : (rollZ l k).getD j 0 = (rollW l k).getD j 0 := by
  simp [rollZ, List.getD_eq_getElem?_getD, List.getElem?_append_left, rollW_length, h]

set_option maxRecDepth 100000 in
theorem rollZ_zero (l : List UInt8) : wcs (rollZ l 0) = Array.replicate 64 (Value.int .u32 0) := by
  apply Array.ext'
  simp [wcs, rollZ, rollW]

set_option maxHeartbeats 1600000 in
set_option maxRecDepth 100000 in
theorem roll_any (b o c : Nat) (l : List UInt8) (w : World) (hb : b < w.heap.size) (hl : l.length = 64) (hcell : ∀ j (h : j < l.length), w.cell? ⟨b, o + j, none⟩ = some (.int .u8 (l[j].toNat : Int))) (hc : 64 ≤ c) :
    Calls Tryd.prog 28 #[.slice (some ⟨b, o, none⟩) 64 c] w fun e w' => e = .returned (.agg (wcs (rollW l 64))) ∧ Below w.heap.size w w' := by
  have HC := Lib.hid hcell
  have HL := Lib.hid hl
  clear hcell hl
  go_enter Tryd.func28, Tryd.ntmps28
  go_wp2
  go_loopw [6] (fun i wr => ∃ k : Nat, k ≤ 16 ∧ i = .int .i64 (k : Int) ∧ Hid (Arr wr w.heap.size 49 (wcs (rollZ l 0))) ∧ Hid (Arr wr (w.heap.size + 1) 49 (wcs (rollZ l k))) ∧ Below w.heap.size w wr) (fun i _ => 16 - (intOf i).toNat)
  case atStart =>
    refine ⟨0, by omega, rfl, ?_, ?_, ?_⟩
    · show Arr _ _ _ _
      rw [rollZ_zero]
      exact (Arr.new _ _ _).alloc _
    · show Arr _ _ _ _
      rw [rollZ_zero]
      have := Arr.new (w.alloc (.cells (Array.replicate 64 (Value.int .u32 0)) 49)) (Array.replicate 64 (Value.int .u32 0)) 49
      rw [World.size_alloc] at this
      exact this
    · exact ((Below.refl _ _).alloc (Nat.le_refl _) _).alloc (by simp) _
  case round =>
    obtain ⟨k, hk, rfl, HR, HW, hbr⟩ := hrel
    have HZ := Lib.hid (rollZ_length l k (by omega))
    by_cases hlt : k < 16
    · have h0 := HC.out (4 * k) (by rw [HL.out]; omega)
      have h1 := HC.out (4 * k + 1) (by rw [HL.out]; omega)
      have h2 := HC.out (4 * k + 2) (by rw [HL.out]; omega)
      have h3 := HC.out (4 * k + 3) (by rw [HL.out]; omega)
      have E : Hid (rollW l (k + 1) = rollW l k ++ [word4 (l[4 * k]'(by rw [HL.out]; omega)) (l[4 * k + 1]'(by rw [HL.out]; omega)) (l[4 * k + 2]'(by rw [HL.out]; omega)) (l[4 * k + 3]'(by rw [HL.out]; omega))]) := by
        show _ = _
        rw [rollW, if_pos hlt]
        simp only [List.getD_eq_getElem?_getD]
        rw [List.getElem?_eq_getElem (by rw [HL.out]; omega), List.getElem?_eq_getElem (by rw [HL.out]; omega), List.getElem?_eq_getElem (by rw [HL.out]; omega), List.getElem?_eq_getElem (by rw [HL.out]; omega)]
        rfl
      rw [← hbr.cell (p := ⟨b, _, none⟩) hb] at h0 h1 h2 h3
      have C := Lib.hid (word_any b (o + 4 * k) (64 - 4 * k) (c - 4 * k) _ _ _ _ wr (by omega) h0 h1 h2 h3)
      clear h0 h1 h2 h3
      generalize word4 (l[4 * k]'(by rw [HL.out]; omega)) (l[4 * k + 1]'(by rw [HL.out]; omega)) (l[4 * k + 2]'(by rw [HL.out]; omega)) (l[4 * k + 3]'(by rw [HL.out]; omega)) = x at *
      have hcl := HW.out.cell k
      rw [wcs_at _ k (by rw [HZ.out]; omega)] at hcl
      have hfz := HW.out.frozen k
      go_wp2_with fail
      refine C.out.mono ?_
      rintro e w1 ⟨rfl, nq, rfl⟩
      have hA := (HW.out.drewN nq).set k (u32v x)
      rw [wcs_set, rollZ_set l k x (by omega) E.out] at hA
      have HA := Lib.hid hA
      have HR2 := Lib.hid ((HR.out.drewN nq).other ⟨w.heap.size + 1, k, none⟩ (u32v x) (by simp))
      have hB2 : Below w.heap.size w ((wr.drewN nq).setCell ⟨w.heap.size + 1, k, none⟩ (u32v x)) := (Below.drewN hbr nq).setCell (by simp) _
      clear hA C
      go_wp2
      go_roundw
      case rel => exact ⟨k + 1, by omega, by go_num, HR2, HA, hB2⟩
      case measure => simp [intOf]; omega
    · obtain rfl : k = 16 := by omega
      clear HZ
      rw [show ((16 : Nat) : Int) = 16 from rfl]
      go_wp2

      go_loopw [5] (fun i wr => ∃ k : Nat, 16 ≤ k ∧ k ≤ 64 ∧ i = .int .i64 (k : Int) ∧ Hid (Arr wr w.heap.size 49 (wcs (rollZ l 0))) ∧ Hid (Arr wr (w.heap.size + 1) 49 (wcs (rollZ l k))) ∧ Below w.heap.size w wr) (fun i _ => 64 - (intOf i).toNat)
      case atStart => exact ⟨16, by omega, by omega, rfl, HR, HW, hbr⟩

      case round =>
        clear HR HW hbr hk hlt
        obtain ⟨k, hk16, hk, rfl, HR, HW, hbr⟩ := hrel
        have HZ := Lib.hid (rollZ_length l k (by omega))
        by_cases hlt : k < 64
        · obtain ⟨j1, rj1⟩ : ∃ j, Hid (k = j + 16) := ⟨k - 16, by show _ = _; omega⟩
          have e1 : IntKind.i64.wrap ((k : Int) - 16) = (j1 : Int) := by have := rj1.out; rw [IntWalk.i64_in _ (by omega)]; omega
          have e2 : IntKind.i64.wrap ((k : Int) - 15) = (j1 : Int) + 1 := by have := rj1.out; rw [IntWalk.i64_in _ (by omega)]; omega
          have e3 : IntKind.i64.wrap ((k : Int) - 7) = (j1 : Int) + 9 := by have := rj1.out; rw [IntWalk.i64_in _ (by omega)]; omega
          have e4 : IntKind.i64.wrap ((k : Int) - 2) = (j1 : Int) + 14 := by have := rj1.out; rw [IntWalk.i64_in _ (by omega)]; omega
          have a1 : (0 : Int) ≤ (j1 : Int) := by omega
          have a2 : (0 : Int) ≤ (j1 : Int) + 1 := by omega
          have a3 : (0 : Int) ≤ (j1 : Int) + 9 := by omega
          have a4 : (0 : Int) ≤ (j1 : Int) + 14 := by omega
          have c1 : (j1 : Int) < 64 := by have := rj1.out; omega
          have c2 : (j1 : Int) + 1 < 64 := by have := rj1.out; omega
          have c3 : (j1 : Int) + 9 < 64 := by have := rj1.out; omega
          have c4 : (j1 : Int) + 14 < 64 := by have := rj1.out; omega
          have t2 : ((j1 : Int) + 1).toNat = j1 + 1 := by omega
          have t3 : ((j1 : Int) + 9).toNat = j1 + 9 := by omega
          have t4 : ((j1 : Int) + 14).toNat = j1 + 14 := by omega
          have f1 := HW.out.cell j1
          have f2 := HW.out.cell (j1 + 1)
          have f3 := HW.out.cell (j1 + 9)
          have f4 := HW.out.cell (j1 + 14)
          have f5 := HW.out.cell k
          rw [wcs_at _ _ (by rw [HZ.out]; have := rj1.out; omega)] at f1 f2 f3 f4 f5
          have hfz := HW.out.frozen k
          have b1 : j1 + 14 < 64 := by have := rj1.out; omega
          generalize hx1 : (rollZ l k).getD j1 0 = x1 at f1
          generalize hx2 : (rollZ l k).getD (j1 + 1) 0 = x2 at f2
          generalize hx3 : (rollZ l k).getD (j1 + 9) 0 = x3 at f3
          generalize hx4 : (rollZ l k).getD (j1 + 14) 0 = x4 at f4
          generalize (rollZ l k).getD k 0 = x5 at f5
          have HX1 := Lib.hid hx1
          have HX2 := Lib.hid hx2
          have HX3 := Lib.hid hx3
          have HX4 := Lib.hid hx4
          clear hx1 hx2 hx3 hx4
          go_wp2_with fail
          go_region_held3 (fun w' => w'.cell? ⟨w.heap.size + 1, j1, none⟩ = some (.int .u32 (x1.toNat : Int)) ∧ w'.cell? ⟨w.heap.size + 1, j1 + 1, none⟩ = some (.int .u32 (x2.toNat : Int)) ∧ w'.cell? ⟨w.heap.size + 1, j1 + 9, none⟩ = some (.int .u32 (x3.toNat : Int)) ∧ w'.cell? ⟨w.heap.size + 1, j1 + 14, none⟩ = some (.int .u32 (x4.toNat : Int)))
            (first
              | go_keep
              | (go_split_ands
                 refine ⟨?_, ?_, ?_, ?_⟩
                 · (rw [World.cell?_setCell_other _ _ _ _ (by intro hh; injection hh with _ hh; have := rj1.out; omega)]; assumption)
                 · (rw [World.cell?_setCell_other _ _ _ _ (by intro hh; injection hh with _ hh; have := rj1.out; omega)]; assumption)
                 · (rw [World.cell?_setCell_other _ _ _ _ (by intro hh; injection hh with _ hh; have := rj1.out; omega)]; assumption)
                 · (rw [World.cell?_setCell_other _ _ _ _ (by intro hh; injection hh with _ hh; have := rj1.out; omega)]; assumption)))
            (first | (go_at_call 35; (with_reducible refine (moved_a x2 _).mono ?_); rintro e w' ⟨rfl, nq, rfl⟩) | (go_at_call 35; (with_reducible refine (moved_b x4 _).mono ?_); rintro e w' ⟨rfl, nq, rfl⟩))
          have E : Hid (IntKind.u32.wrap (IntKind.u32.wrap (IntKind.u32.wrap ((x1.toNat : Int) + ((sN x2 7 18 3).toNat : Int)) + (x3.toNat : Int)) + ((sN x4 17 19 10).toNat : Int)) = ((nextWord (rollW l k) k).toNat : Int)) := by
            show _ = _
            rw [add_words, add_words, add_words, ← HX1.out, ← HX2.out, ← HX3.out, ← HX4.out]
            have := rj1.out
            rw [rollZ_at _ _ _ (by omega), rollZ_at _ _ _ (by omega), rollZ_at _ _ _ (by omega), rollZ_at _ _ _ (by omega)]
            unfold nextWord
            rw [show k - 16 = j1 by omega, show k - 15 = j1 + 1 by omega, show k - 7 = j1 + 9 by omega, show k - 2 = j1 + 14 by omega]
          have hA : ∀ n, Hid (Arr ((wr.drewN n).setCell ⟨w.heap.size + 1, k, none⟩ (.int .u32 ((nextWord (rollW l k) k).toNat : Int))) (w.heap.size + 1) 49 (wcs (rollZ l (k + 1)))) := fun n => by
            have := (HW.out.drewN n).set k (u32v (nextWord (rollW l k) k))
            rw [wcs_set, rollZ_set l k _ (by omega) (by rw [rollW, if_neg (by omega)])] at this
            exact this
          all_goals
            rw [E.out]
            clear e1 e2 e3 e4 t2 t3 t4 f1 f2 f3 f4 f5 hfz
            go_wp2
            go_roundw
            case rel => exact ⟨k + 1, by omega, by omega, by go_num, Lib.hid ((HR.out.drewN _).other ⟨w.heap.size + 1, k, none⟩ _ (by simp)), hA _, (Below.drewN hbr _).setCell (by simp) _⟩
            case measure => simp [intOf]; omega
        · have hge : decide ((k : Int) < 64) = false := by simp; omega
          have H64 : Hid (k = 64) := (show k = 64 by omega)
          go_wp2_with (first
            | (refine wpList_load_row rfl _ _ rfl (w.heap.size + 1) rfl _ _ _ _ HW.out Tryd.underlying49 rfl (by rw [wcs_size, HZ.out]; kernel_rfl) ?_)
            | (refine wpList_store_row rfl _ _ _ rfl w.heap.size _ rfl rfl _ _ HR.out (by rw [wcs_size, HZ.out]; kernel_rfl) (by rw [wcs_size, wcs_size, HZ.out, rollZ_length _ _ (by omega)]) (wcs_one _) ?_))
          refine bodyPost_ret (v := .agg (wcs (rollZ l k))) (results_cell_row rfl _ _ w.heap.size _ _ _ _ rfl (HR.out.row _) Tryd.underlying49 rfl (by rw [wcs_size, HZ.out]; kernel_rfl)) rfl ⟨?_, Below.setRow hbr (Nat.le_refl _) _⟩
          obtain rfl : k = 64 := H64.out
          simp [rollZ]
end Go.Proofs.YtgdcjealhbfnaaaDoor

/-
  The contracts of seatsAtFirst and seatBytes. No statement of the seat is proved here.
-/
import Derived.Test.YtgdcjealhbfnaaaDoorShaR
namespace Go.Proofs.YtgdcjealhbfnaaaDoor
open Go.RowKit

set_option maxRecDepth 100000 in
theorem info_w (t : TypeId) (h : (Tryd.prog.info? t).map (fun i => (i.zero, i.size, i.bytes)) = some (some (.int .u32 0), 1, 4)) : (Tryd.prog.info? t).map (·.size) = some 1 := by
  cases hq : Tryd.prog.info? t with
  | none => simp [hq] at h
  | some i => simp [hq] at h; simp [h.2.1]
set_option maxRecDepth 100000 in
theorem run_index_words (w : World) (cs : Array Value) (i : Nat) (v : Value) (hi : i < 8) (hv : cs[i]? = some v) :
    (Instr.index 30 (.agg cs) (.int .i64 (i : Int))).run Tryd.prog w = .ok v w := by
  obtain ⟨i0, hi0, hz0, hz1, hz2⟩ := info_parts (show (Tryd.prog.info? 29).map (fun i => (i.zero, i.size, i.bytes)) = some (some (.int .u32 0), 1, 4) by kernel_rfl)
  simp [Instr.index, asIntOf, run_underlying Tryd.underlying30, sizeOf, typeInfo, hi0, hz1, part, hi, hv]

set_option maxRecDepth 100000 in
theorem first_any (w : World) : Calls Tryd.prog 12 #[] w fun e w' => e = .returned (.agg (wcs seats0)) ∧ Below w.heap.size w w' := by
  go_enter Tryd.func12, Tryd.ntmps12
  go_wp2
  have e : wcs seats0 = #[.int .u32 1779033703, .int .u32 3144134277, .int .u32 1013904242, .int .u32 2773480762, .int .u32 1359893119, .int .u32 2600822924, .int .u32 528734635, .int .u32 1541459225] := rfl
  rw [← e]
  exact bodyPost_ret (v := .agg (wcs seats0)) (results_cell_row rfl _ _ w.heap.size _ _ _ _ rfl (Arr.new w _ _) Tryd.underlying30 rfl (by kernel_rfl)) rfl ⟨rfl, (Below.refl _ _).alloc (Nat.le_refl _) _⟩

/-- Bytes as an array's cells. -/
def bcs (l : List UInt8) : Array Value := (bvs l).toArray
set_option maxRecDepth 100000 in
theorem bcs_size (l : List UInt8) : (bcs l).size = l.length := by simp [bcs, bvs_length]
set_option maxRecDepth 100000 in
theorem bcs_at (l : List UInt8) (j : Nat) (h : j < l.length) : (bcs l)[j]? = some (.int .u8 ((l.getD j 0).toNat : Int)) := by
  simp [bcs, bvs_at l j h, List.getD_eq_getElem?_getD, List.getElem?_eq_getElem h]
set_option maxRecDepth 100000 in
theorem bcs_set (l : List UInt8) (j : Nat) (x : UInt8) : (bcs l).setIfInBounds j (.int .u8 (x.toNat : Int)) = bcs (l.set j x) := by
  apply Array.ext'
  simp [bcs, bvs, List.map_set]
set_option maxRecDepth 100000 in
theorem bcs_one (l : List UInt8) : (bcs l).all (·.oneCell') = true := by
  simp [bcs, bvs]
  intro x _
  rfl
def seatZ (s : List (BitVec 32)) (k : Nat) : List UInt8 := seatB (s.take k) ++ List.replicate (32 - 4 * k) 0
set_option maxRecDepth 100000 in
theorem seatB_length : ∀ s : List (BitVec 32), (seatB s).length = 4 * s.length
  | [] => rfl
  | x :: s => by
    have := seatB_length s
    simp only [seatB, List.flatMap_cons, List.length_append, List.length_cons] at *
    rw [this]
    simp [word4B]
    omega
set_option maxRecDepth 100000 in
theorem seatB_snoc (s : List (BitVec 32)) (x : BitVec 32) : seatB (s ++ [x]) = seatB s ++ word4B x := by simp [seatB]
set_option maxRecDepth 100000 in
theorem seatZ_length (s : List (BitVec 32)) (k : Nat) (hs : s.length = 8) (hk : k ≤ 8) : (seatZ s k).length = 32 := by
  simp [seatZ, seatB_length, hs]; omega
set_option maxRecDepth 100000 in
theorem seatZ_set (s : List (BitVec 32)) (k : Nat) (hs : s.length = 8) (hk : k < 8) (x : BitVec 32) (hx : s.getD k 0 = x) :
    ((((seatZ s k).set (4 * k) (UInt8.ofNat (x.toNat / 2 ^ 24))).set (4 * k + 1) (UInt8.ofNat (x.toNat / 2 ^ 16))).set (4 * k + 2) (UInt8.ofNat (x.toNat / 2 ^ 8))).set (4 * k + 3) (UInt8.ofNat x.toNat) = seatZ s (k + 1) := by
  have hl : (seatB (s.take k)).length = 4 * k := by rw [seatB_length, List.length_take, hs]; omega
  have e : List.replicate (32 - 4 * k) (0 : UInt8) = [0, 0, 0, 0] ++ List.replicate (32 - 4 * (k + 1)) 0 := by
    rw [show 32 - 4 * k = 4 + (32 - 4 * (k + 1)) by omega, ← List.replicate_append_replicate]
    rfl
  have ht : s.take (k + 1) = s.take k ++ [x] := by
    rw [List.take_succ_eq_append_getElem (by omega), ← hx, List.getD_eq_getElem?_getD, List.getElem?_eq_getElem (by omega)]
    rfl
  unfold seatZ
  rw [e, ht, seatB_snoc]
  rw [List.set_append_right _ _ (by omega), List.set_append_right _ _ (by omega), List.set_append_right _ _ (by omega), List.set_append_right _ _ (by omega), hl]
  rw [show 4 * k - 4 * k = 0 by omega, show 4 * k + 1 - 4 * k = 1 by omega, show 4 * k + 2 - 4 * k = 2 by omega, show 4 * k + 3 - 4 * k = 3 by omega]
  simp [word4B]
set_option maxRecDepth 100000 in
theorem seatZ_zero (s : List (BitVec 32)) : bcs (seatZ s 0) = Array.replicate 32 (Value.int .u8 0) := by
  apply Array.ext'
  simp [bcs, bvs, seatZ, seatB]

set_option maxRecDepth 100000 in
theorem byte_a (x : BitVec 32) : (x.toNat : Int) / 16777216 = ((UInt8.ofNat (x.toNat / 2 ^ 24)).toNat : Int) := by
  have hx : x.toNat < 4294967296 := x.isLt
  rw [UInt8.toNat_ofNat']; omega
set_option maxRecDepth 100000 in
theorem byte_b (x : BitVec 32) : (x.toNat : Int) / 65536 % 256 = ((UInt8.ofNat (x.toNat / 2 ^ 16)).toNat : Int) := by
  rw [UInt8.toNat_ofNat']; omega
set_option maxRecDepth 100000 in
theorem byte_c (x : BitVec 32) : (x.toNat : Int) / 256 % 256 = ((UInt8.ofNat (x.toNat / 2 ^ 8)).toNat : Int) := by
  rw [UInt8.toNat_ofNat']; omega
set_option maxRecDepth 100000 in
theorem byte_d (x : BitVec 32) : (x.toNat : Int) % 256 = ((UInt8.ofNat x.toNat).toNat : Int) := by
  rw [UInt8.toNat_ofNat']; omega

set_option maxHeartbeats 1600000 in
set_option maxRecDepth 100000 in
theorem seatbytes_any (s : List (BitVec 32)) (w : World) (hs : s.length = 8) :
    Calls Tryd.prog 15 #[.agg (wcs s)] w fun e w' => e = .returned (.agg (bcs (seatB s))) ∧ Below w.heap.size w w' := by
  have HS := Lib.hid hs
  clear hs
  have HA := Lib.hid (show Arr (((w.alloc (.cells (wcs s) 30)).alloc (.cells (bcs (seatZ s 0)) 23)).alloc (.cells (bcs (seatZ s 0)) 23)) w.heap.size 30 (wcs s) from ((Arr.new w _ _).alloc _).alloc _)
  go_enter Tryd.func15, Tryd.ntmps15
  go_wp2_with (first | (refine wpList_load_row rfl _ _ rfl w.heap.size rfl _ _ _ _ HA.out Tryd.underlying30 rfl (by rw [wcs_size, HS.out]; kernel_rfl) ?_))
  go_loopw [7] (fun i wr => ∃ k : Nat, k ≤ 8 ∧ i = .int .i64 (k : Int) ∧ Hid (Arr wr (w.heap.size + 1) 23 (bcs (seatZ s 0))) ∧ Hid (Arr wr (w.heap.size + 2) 23 (bcs (seatZ s k))) ∧ Below w.heap.size w wr) (fun i _ => 8 - (intOf i).toNat)
  case atStart =>
    refine ⟨0, by omega, rfl, ?_, ?_, ?_⟩
    · show Arr _ _ _ _
      rw [seatZ_zero]
      have := (Arr.new (w.alloc (.cells (wcs s) 30)) (Array.replicate 32 (Value.int .u8 0)) 23).alloc (.cells (Array.replicate 32 (Value.int .u8 0)) 23)
      rw [World.size_alloc] at this
      exact this
    · show Arr _ _ _ _
      rw [seatZ_zero]
      have := Arr.new ((w.alloc (.cells (wcs s) 30)).alloc (.cells (Array.replicate 32 (Value.int .u8 0)) 23)) (Array.replicate 32 (Value.int .u8 0)) 23
      rw [World.size_alloc, World.size_alloc] at this
      exact this
    · exact (((Below.refl _ _).alloc (Nat.le_refl _) _).alloc (by simp) _).alloc (by simp; omega) _
  case round =>
    clear HA
    obtain ⟨k, hk, rfl, HZ, HR, hbr⟩ := hrel
    have HL := Lib.hid (seatZ_length s k HS.out hk)
    by_cases hlt : k < 8
    · have hidx := fun W => run_index_words W (wcs s) k _ hlt (wcs_at s k (by rw [HS.out]; exact hlt))
      obtain ⟨x, HX⟩ : ∃ x, Unit → s.getD k 0 = x := ⟨_, fun _ => rfl⟩
      rw [HX ()] at hidx
      have c0 := (HR.out.cell (4 * k)).trans (bcs_at _ _ (by rw [HL.out]; omega))
      have c1 := (HR.out.cell (4 * k + 1)).trans (bcs_at _ _ (by rw [HL.out]; omega))
      have c2 := (HR.out.cell (4 * k + 2)).trans (bcs_at _ _ (by rw [HL.out]; omega))
      have c3 := (HR.out.cell (4 * k + 3)).trans (bcs_at _ _ (by rw [HL.out]; omega))
      have fz0 := HR.out.frozen (4 * k)
      have fz1 := HR.out.frozen (4 * k + 1)
      have fz2 := HR.out.frozen (4 * k + 2)
      have fz3 := HR.out.frozen (4 * k + 3)
      have hx : x.toNat < 4294967296 := x.isLt
      have HN : Hid (Arr ((((wr.setCell ⟨w.heap.size + 2, 4 * k, none⟩ (.int .u8 ((x.toNat : Int) / 16777216))).setCell ⟨w.heap.size + 2, 4 * k + 1, none⟩ (.int .u8 ((x.toNat : Int) / 65536 % 256))).setCell
          ⟨w.heap.size + 2, 4 * k + 2, none⟩ (.int .u8 ((x.toNat : Int) / 256 % 256))).setCell ⟨w.heap.size + 2, 4 * k + 3, none⟩ (.int .u8 ((x.toNat : Int) % 256))) (w.heap.size + 2) 23 (bcs (seatZ s (k + 1)))) := by
        show Arr _ _ _ _
        rw [byte_a, byte_b, byte_c, byte_d, ← seatZ_set s k HS.out hlt x (HX ()), ← bcs_set, ← bcs_set, ← bcs_set, ← bcs_set]
        exact (((HR.out.set (4 * k) _).set (4 * k + 1) _).set (4 * k + 2) _).set (4 * k + 3) _
      go_wp2_with fail
      go_roundw
      case rel => exact ⟨k + 1, by omega, by go_num, Lib.hid ((((HZ.out.other ⟨w.heap.size + 2, _, none⟩ _ (by simp)).other ⟨w.heap.size + 2, _, none⟩ _ (by simp)).other ⟨w.heap.size + 2, _, none⟩ _ (by simp)).other ⟨w.heap.size + 2, _, none⟩ _ (by simp)), HN,
        (((hbr.setCell (p := ⟨w.heap.size + 2, _, none⟩) (by simp) _).setCell (p := ⟨w.heap.size + 2, _, none⟩) (by simp) _).setCell (p := ⟨w.heap.size + 2, _, none⟩) (by simp) _).setCell (p := ⟨w.heap.size + 2, _, none⟩) (by simp) _⟩
      case measure => simp [intOf]; omega
    · have hge : decide ((k : Int) < 8) = false := by simp; omega
      have H8 : Unit → k = 8 := fun _ => by omega
      go_wp2_with (first
        | (refine wpList_load_row rfl _ _ rfl (w.heap.size + 2) rfl _ _ _ _ HR.out Tryd.underlying23 rfl (by rw [bcs_size, HL.out]; kernel_rfl) ?_)
        | (refine wpList_store_row rfl _ _ _ rfl (w.heap.size + 1) _ rfl rfl _ _ HZ.out (by rw [bcs_size, HL.out]; kernel_rfl) (by rw [bcs_size, bcs_size, HL.out, seatZ_length s 0 HS.out (by omega)]) (bcs_one _) ?_))
      refine bodyPost_ret (v := .agg (bcs (seatZ s k))) (results_cell_row rfl _ _ (w.heap.size + 1) _ _ _ _ rfl (HZ.out.row _) Tryd.underlying23 rfl (by rw [bcs_size, HL.out]; kernel_rfl)) rfl ⟨?_, Below.setRow hbr (by omega) _⟩
      rw [H8 (), seatZ, List.take_of_length_le (by rw [HS.out]; omega)]
      simp
end Go.Proofs.YtgdcjealhbfnaaaDoor

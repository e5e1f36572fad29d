/-
  The contracts of the document's listed and against. No statement of the seat is proved here.
-/
import Derived.Test.YtgdcjealhbfnaaaDoorRfF
import Derived.Deep.AppendLies
namespace Go.Proofs.YtgdcjealhbfnaaaDoor
open Go.RowKit

set_option maxHeartbeats 1600000 in
set_option maxRecDepth 100000 in
theorem listed_any (h : List UInt8) (w : World) (hh : h.length = 32) :
    Calls Tryd.prog 24 #[.agg (bcs h)] w (Put w.heap.size w h) := by
  have HL := Lib.hid hh
  clear hh
  obtain ⟨i0, hi0, hz0, hz1, hz2⟩ := info_parts info_u8
  have hA0 : Arr (w.alloc (.cells (bcs h) 23)) w.heap.size 23 (bcs h) := Arr.new _ _ _
  have hb0 : Below w.heap.size w (w.alloc (.cells (bcs h) 23)) := (Below.refl _ _).alloc (Nat.le_refl _) _
  have HA0 := Lib.hid hA0
  clear hA0
  go_enter Tryd.func24, Tryd.ntmps24
  go_wp2
  go_loopw [3, 4] (fun v i wr => ∃ k : Nat, k ≤ 32 ∧ i = .int .i64 (k : Int) ∧ Hid (wr.ownsRow (w.heap.size + 1) 5 1 v (h.take k).length (bvs (h.take k))) ∧ Hid (Arr wr w.heap.size 23 (bcs h)) ∧ Below w.heap.size w wr) (fun _ i _ => 32 - (intOf i).toNat)
  case atStart => exact ⟨0, by omega, rfl, World.ownsRow_nil _ _ _ _, HA0, hb0⟩
  case round =>
    clear HA0 hb0
    obtain ⟨k, hk, rfl, HO, HA, hbr⟩ := hrel
    have hwz : w.heap.size < wr.heap.size := HA.out.lt
    by_cases hlt : k < 32
    · have hc := (HA.out.cell k).trans (bcs_at h k (by rw [HL.out]; exact hlt))
      have HTK : Unit → h.take (k + 1) = h.take k ++ [h.getD k 0] := fun _ => by
        rw [List.take_succ_eq_append_getElem (by rw [HL.out]; exact hlt), List.getD_eq_getElem?_getD, List.getElem?_eq_getElem (by rw [HL.out]; exact hlt)]
        rfl
      have HLK : Unit → (h.take k).length = k := fun _ => by rw [List.length_take, HL.out]; omega
      have HO2 := Lib.hid (show wr.ownsRow (w.heap.size + 1) 5 1 u3 k (bvs (h.take k)) by have := HO.out; rw [HLK ()] at this; exact this)
      have hown := fun g hg => HO2.out.lt g hg
      generalize h.getD k 0 = x at *
      go_wp2_with (at_builtin; refine wpList_append_lies _ rfl (.tmp 9) (.tmp 13) 22 rfl (w.heap.size + 1) 5 i0 (.int .u8 0) 1 1 Tryd.underlying22 hi0 hz0 hz1 hz2 rfl (by omega) u3 k (bvs (h.take k)) rfl (HO2.out.alloc _) ⟨wr.heap.size, 0, none⟩ 1 1 [.int .u8 (x.toNat : Int)] rfl rfl (cell_new _ _ _) (one_new _) (by omega) (by unfold maxLen; omega) (by omega) (by simp; omega) (wr.heap.size + 1) (by simp) ?_; intro gn cap w2 hown2 hgrow hat hlt2)
      have hA2 : Arr w2 w.heap.size 23 (bcs h) := (HA.out.alloc _).grown hgrow (fun e => by have := (hown _ e.symm).1; omega)
      have hb2 : Below w.heap.size w w2 := (hbr.alloc hbr.size _).grown hgrow (by simp; omega) (fun g hg => by have := (hown g hg).1; omega)
      have hO3 : w2.ownsRow (w.heap.size + 1) 5 1 (.slice (some ⟨gn, 0, none⟩) (k + 1) cap) (h.take (k + 1)).length (bvs (h.take (k + 1))) := by
        rw [HTK (), bvs_append, List.length_append, HLK ()]
        exact hown2
      clear hown2 hgrow hat hlt2
      go_roundw
      case rel => exact ⟨k + 1, by omega, by go_num, hO3, hA2, hb2⟩
      case measure => simp [intOf]; omega
    · have hge : decide ((k : Int) < 32) = false := by simp; omega
      have HF := Lib.hid (show wr.ownsRow w.heap.size 5 1 u3 h.length (bvs h) by
        have := own_mono (B := w.heap.size) HO.out (by omega)
        rw [List.take_of_length_le (by rw [HL.out]; omega)] at this
        exact this)
      clear HO HA
      go_wp2_with fail
      go_ret
      exact ⟨_, rfl, HF.out, hbr⟩
end Go.Proofs.YtgdcjealhbfnaaaDoor

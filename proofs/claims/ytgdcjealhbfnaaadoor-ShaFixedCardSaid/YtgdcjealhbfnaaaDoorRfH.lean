/-
  The contract of the document's against. No statement of the seat is proved here.
-/
import Derived.Test.YtgdcjealhbfnaaaDoorRfG
namespace Go.Proofs.YtgdcjealhbfnaaaDoor
open Go.RowKit

/-- A short key with noughts behind it, up to a block. -/
def padK (l : List UInt8) : List UInt8 := l ++ List.replicate (64 - l.length) 0
theorem padK_length (l : List UInt8) (h : l.length ≤ 64) : (padK l).length = 64 := by simp [padK]; omega
def agZ (l : List UInt8) (x : UInt8) (T k : Nat) : List UInt8 := heldB ((padK l).take k) x ++ List.replicate (T - k) 0
theorem agZ_length (l : List UInt8) (x : UInt8) (T k : Nat) (h : l.length ≤ 64) (hk : k ≤ 64) (hT : 64 ≤ T) : (agZ l x T k).length = T := by
  have := padK_length l h
  simp [agZ, heldB]; omega
theorem agZ_set (l : List UInt8) (x : UInt8) (T k : Nat) (h : l.length ≤ 64) (hk : k < 64) (hT : 64 ≤ T) : (agZ l x T k).set k (x ^^^ (padK l).getD k 0) = agZ l x T (k + 1) := by
  have hp := padK_length l h
  have hl : (heldB ((padK l).take k) x).length = k := by simp [heldB]; omega
  unfold agZ
  rw [show T - k = (T - (k + 1)) + 1 by omega, List.replicate_succ, List.set_append_right _ _ (by omega), hl, Nat.sub_self, List.set_cons_zero, List.take_succ_eq_append_getElem (by omega), List.getD_eq_getElem?_getD, List.getElem?_eq_getElem (by omega)]
  simp only [heldB, List.map_append, List.map_cons, List.map_nil, List.append_assoc, Option.getD_some, UInt8.xor_comm x]
  rfl
theorem padK_at (l : List UInt8) (k : Nat) (h : k < l.length) : (padK l).getD k 0 = l[k] := by
  unfold padK
  rw [List.getD_eq_getElem?_getD, List.getElem?_append_left h, List.getElem?_eq_getElem h]
  rfl
theorem padK_behind (l : List UInt8) (k : Nat) (h : l.length ≤ k) : (padK l).getD k 0 = 0 := by
  unfold padK
  rw [List.getD_eq_getElem?_getD, List.getElem?_append_right h, List.getElem?_replicate]
  split <;> rfl
def agY (H m : List UInt8) (i : Nat) : List UInt8 := H ++ m.take i ++ List.replicate (m.length - i) 0
theorem agY_length (H m : List UInt8) (i : Nat) (h : i ≤ m.length) : (agY H m i).length = H.length + m.length := by simp [agY]; omega
theorem agY_set (H m : List UInt8) (i : Nat) (h : i < m.length) : (agY H m i).set (H.length + i) (m.getD i 0) = agY H m (i + 1) := by
  unfold agY
  rw [show m.length - i = (m.length - (i + 1)) + 1 by omega, List.replicate_succ, List.set_append_right _ _ (by simp; omega), List.take_succ_eq_append_getElem h, List.getD_eq_getElem?_getD, List.getElem?_eq_getElem h]
  rw [show H.length + i - (H ++ m.take i).length = 0 by simp; omega, List.set_cons_zero]
  simp only [List.append_assoc, List.cons_append, List.nil_append, Option.getD_some]

set_option maxHeartbeats 1600000 in
set_option maxRecDepth 100000 in
theorem against_any (A A2 : Option Addr) (n c n2 c2 : Nat) (x : UInt8) (l m : List UInt8) (w : World) (h : Rd w w.heap.size A n l) (hn : n ≤ 64) (h2 : Rd w w.heap.size A2 n2 m) (hn2 : n2 ≤ 200000) :
    Calls Tryd.prog 25 #[.slice A n c, .int .u8 (x.toNat : Int), .slice A2 n2 c2] w fun e w' => e = .returned (.slice (some ⟨w.heap.size, 0, none⟩) (64 + n2) (64 + n2)) ∧ Arr w' w.heap.size 5 (bcs (heldB (padK l) x ++ m)) ∧ Below w.heap.size w w' := by
  have HD := Lib.hid h
  have HD2 := Lib.hid h2
  have HLN := Lib.hid h.len
  have HLM := Lib.hid h2.len
  obtain ⟨T, HT⟩ : ∃ T, Unit → 64 + n2 = T := ⟨_, fun _ => rfl⟩
  have hT1 : 64 ≤ T := by rw [← HT ()]; omega
  have hT2 : T ≤ 300000 := by rw [← HT ()]; omega
  have hmk := fun W => make_big T (by omega) (64 + (n2 : Int)) (by rw [← HT ()]; omega) W
  rw [HT ()]
  clear h h2
  go_enter Tryd.func25, Tryd.ntmps25
  go_wp2
  go_loopw [8] (fun i wr => ∃ k : Nat, k ≤ 64 ∧ i = .int .i64 (k : Int) ∧ Hid (Arr wr w.heap.size 5 (bcs (agZ l x T k))) ∧ Below w.heap.size w wr) (fun i _ => 64 - (intOf i).toNat)
  case atStart => exact ⟨0, by omega, rfl, (show Arr _ _ _ _ by rw [show agZ l x T 0 = zs T by simp [agZ, heldB, zs]]; exact Arr.new _ _ _), (Below.refl _ _).alloc (Nat.le_refl _) _⟩
  case round =>
    obtain ⟨k, hk, rfl, HW, hbr⟩ := hrel
    by_cases hlt : k < 64
    · have HZ := Lib.hid (agZ_length l x T k (by rw [HLN.out]; exact hn) hk hT1)
      have hkT : k < T := by omega
      have hdst := (HW.out.cell k).trans (bcs_at _ k (by rw [HZ.out]; exact hkT))
      have hfz := HW.out.frozen k
      have HS1 := Lib.hid (HW.out.set k (.int .u8 (x.toNat : Int)))
      have hb1 : Below w.heap.size w (wr.setCell ⟨w.heap.size, k, none⟩ (.int .u8 (x.toNat : Int))) := hbr.setCell (Nat.le_refl _) _
      by_cases hkn : k < n
      · obtain ⟨b, o, rfl, hb, hcell⟩ := HD.out.2 (by omega)
        have hsrc := (hb1.cell (p := ⟨b, o + k, none⟩) hb).trans (hcell k (by rw [HLN.out]; exact hkn))
        have hfz2 := HS1.out.frozen k
        have hd2 : (wr.setCell ⟨w.heap.size, k, none⟩ (.int .u8 (x.toNat : Int))).cell? ⟨w.heap.size, k, none⟩ = some (.int .u8 (x.toNat : Int)) := by
          rw [HS1.out.cell k, bcs_set, bcs_at _ k (by rw [List.length_set, HZ.out]; exact hkT), List.getD_eq_getElem?_getD, List.getElem?_set]
          simp [HZ.out, hkT]
        have HNX := Lib.hid (show Arr ((wr.setCell ⟨w.heap.size, k, none⟩ (.int .u8 (x.toNat : Int))).setCell ⟨w.heap.size, k, none⟩ (.int .u8 (bits .xor .u8 (x.toNat : Int) ((l[k]'(by rw [HLN.out]; exact hkn)).toNat : Int)))) w.heap.size 5 (bcs (agZ l x T (k + 1))) by
          have := HS1.out.set k (.int .u8 ((x ^^^ l[k]'(by rw [HLN.out]; exact hkn)).toNat : Int))
          rw [bcs_set, bcs_set, List.set_set] at this
          rw [xor_bytes, ← agZ_set l x T k (by rw [HLN.out]; exact hn) hlt hT1, padK_at l k (by rw [HLN.out]; exact hkn)]
          exact this)
        clear hcell
        generalize l[k]'(by rw [HLN.out]; exact hkn) = y at *
        go_wp2_with fail
        go_roundw
        case rel => exact ⟨k + 1, by omega, by go_num, HNX, hb1.setCell (Nat.le_refl _) _⟩
        case measure => simp [intOf]; omega
      · have hge : decide (k < n) = false := by simpa using hkn
        have HNX := Lib.hid (show Arr (wr.setCell ⟨w.heap.size, k, none⟩ (.int .u8 (x.toNat : Int))) w.heap.size 5 (bcs (agZ l x T (k + 1))) by
          have := HS1.out
          have e := agZ_set l x T k (by rw [HLN.out]; exact hn) hlt hT1
          rw [padK_behind l k (by rw [HLN.out]; omega), UInt8.xor_zero] at e
          rw [bcs_set, e] at this
          exact this)
        go_wp2_with fail
        go_roundw
        case rel => exact ⟨k + 1, by omega, by go_num, HNX, hb1⟩
        case measure => simp [intOf]; omega
    · have hge : decide ((k : Int) < 64) = false := by simp; omega
      have HFX := Lib.hid (show Arr wr w.heap.size 5 (bcs (agY (heldB (padK l) x) m 0)) by
        have := HW.out
        have hpl := padK_length l (by rw [HLN.out]; exact hn)
        rw [show agZ l x T k = agY (heldB (padK l) x) m 0 by
          unfold agZ agY
          rw [List.take_of_length_le (by omega), List.take_zero, List.append_nil, HLM.out, show T - k = n2 - 0 by have := HT (); omega]] at this
        exact this)
      have HHL : Unit → (heldB (padK l) x).length = 64 := fun _ => by rw [heldB, List.length_map, padK_length l (by rw [HLN.out]; exact hn)]
      clear HW
      go_wp2_with fail
      go_loopw [9] (fun i wr => ∃ k : Nat, k ≤ n2 ∧ i = .int .i64 (k : Int) ∧ Hid (Arr wr w.heap.size 5 (bcs (agY (heldB (padK l) x) m k))) ∧ Below w.heap.size w wr) (fun i _ => n2 - (intOf i).toNat)
      case atStart => exact ⟨0, by omega, rfl, HFX, hbr⟩
      case round =>
        clear HFX hbr hge
        obtain ⟨i, hi, rfl, HV, hbv⟩ := hrel
        by_cases hin : i < n2
        · have HYL := Lib.hid (agY_length (heldB (padK l) x) m i (by rw [HLM.out]; exact hi))
          have hiT : 64 + i < T := by have := HT (); omega
          obtain ⟨b, o, rfl, hb, hcell⟩ := HD2.out.2 (by omega)
          have hsrc := (hbv.cell (p := ⟨b, o + i, none⟩) hb).trans (hcell i (by rw [HLM.out]; exact hin))
          have hdst := (HV.out.cell (64 + i)).trans (bcs_at _ (64 + i) (by rw [HYL.out, HHL (), HLM.out]; omega))
          have hfz := HV.out.frozen (64 + i)
          have e3 : (64 + (i : Int)).toNat = 64 + i := by omega
          have HNX := Lib.hid (show Arr (wr.setCell ⟨w.heap.size, 64 + i, none⟩ (.int .u8 ((m[i]'(by rw [HLM.out]; exact hin)).toNat : Int))) w.heap.size 5 (bcs (agY (heldB (padK l) x) m (i + 1))) by
            have := HV.out.set (64 + i) (.int .u8 ((m[i]'(by rw [HLM.out]; exact hin)).toNat : Int))
            have e := agY_set (heldB (padK l) x) m i (by rw [HLM.out]; exact hin)
            rw [HHL (), List.getD_eq_getElem?_getD, List.getElem?_eq_getElem (by rw [HLM.out]; exact hin)] at e
            rw [bcs_set] at this
            rw [← e]
            exact this)
          clear hcell
          generalize m[i]'(by rw [HLM.out]; exact hin) = y at *
          go_wp2_with fail
          go_roundw
          case rel => exact ⟨i + 1, by omega, by go_num, HNX, hbv.setCell (Nat.le_refl _) _⟩
          case measure => simp [intOf]; omega
        · have hge : decide (i < n2) = false := by simpa using hin
          have HFY := Lib.hid (show Arr wr w.heap.size 5 (bcs (heldB (padK l) x ++ m)) by
            have := HV.out
            rw [show agY (heldB (padK l) x) m i = heldB (padK l) x ++ m by
              unfold agY
              rw [List.take_of_length_le (by rw [HLM.out]; omega), HLM.out, show n2 - i = 0 by omega, List.replicate_zero, List.append_nil]] at this
            exact this)
          clear HV
          go_wp2_with fail
          go_ret
          exact ⟨rfl, HFY.out, hbv⟩
end Go.Proofs.YtgdcjealhbfnaaaDoor

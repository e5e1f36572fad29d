/-
  The contract of the document's message. No statement of the seat is proved here.
-/
import Derived.Test.YtgdcjealhbfnaaaDoorRfE
namespace Go.Proofs.YtgdcjealhbfnaaaDoor
open Go.RowKit

set_option maxRecDepth 100000 in
theorem make_big (N : Nat) (hN : N ≤ 2000000) (z : Int) (hz : z = (N : Int)) (w : World) : (Instr.makeSlice 22 (.int .i64 z) (.int .i64 z)).run Tryd.prog w = .ok (.slice (some ⟨w.heap.size, 0, none⟩) N N) (w.alloc (.cells (bcs (zs N)) 5)) := by
  subst hz
  obtain ⟨i0, hi, hz0, hz1, hz2⟩ := info_parts info_u8
  rw [run_make w 22 5 i0 _ Tryd.underlying22 hi hz0 .i64 .i64 N N (by omega) (by omega) (by rw [hz2]; omega) (by omega)]
  have e : madeCells (Value.int .u8 0).cells ((N : Int).toNat * i0.size) = bcs (zs N) := by
    rw [hz1, Nat.mul_one, Int.toNat_natCast]
    apply Array.ext'
    apply List.ext_getElem
    · simp [madeCells, bcs, bvs, zs]
    · intro i h1 h2
      simp [madeCells, bcs, bvs, Value.cells, zs, Nat.mod_one]
  rw [e]
  simp
set_option maxHeartbeats 1600000 in
set_option maxRecDepth 100000 in
theorem message_any (A : Option Addr) (n c : Nat) (l : List UInt8) (w : World) (h : Rd w w.heap.size A n l) (hn : n ≤ 100000) :
    Calls Tryd.prog 16 #[.slice A n c] w fun e w' => ∃ N, N = (padded l).length ∧ e = .returned (.slice (some ⟨w.heap.size, 0, none⟩) N N) ∧ Arr w' w.heap.size 5 (bcs (padded l)) ∧ Below w.heap.size w w' := by
  have HD := Lib.hid h
  have HLN := Lib.hid h.len
  have hp := padN_lt n
  have HZ := fun k (hk : k ≤ padN n) => padN_zero n k hk
  have HDN := fun j hj hz => cntZ_done l j hj hz
  obtain ⟨p, HPP⟩ : ∃ p, Unit → padN n = p := ⟨_, fun _ => rfl⟩
  rw [HPP ()] at hp HZ
  obtain ⟨N, HN⟩ : ∃ N, Unit → n + 9 + p = N := ⟨_, fun _ => rfl⟩
  have hN1 : n + 9 ≤ N := by rw [← HN ()]; omega
  have hN2 : N ≤ 200000 := by rw [← HN ()]; omega
  have hmk := fun W => make_big N (by omega) ((n : Int) + 9 + (p : Int)) (by rw [← HN ()]; omega) W
  have HPL : Unit → (padded l).length = N := fun _ => by
    simp only [padded, List.length_append, List.length_replicate, HLN.out, HPP (), ← HN ()]
    simp [be8]
    omega
  have HHZ := Lib.hid HZ
  have HHD := Lib.hid HDN
  clear h HZ HDN
  go_enter Tryd.func16, Tryd.ntmps16
  go_wp2
  go_loop [3] (fun i => ∃ k : Nat, k ≤ p ∧ i = .int .i64 (k : Int)) (fun i => p - (intOf i).toNat)
  case atStart => exact ⟨0, Nat.zero_le _, rfl⟩
  case round =>
    obtain ⟨k, hk, rfl⟩ := hrel
    by_cases hlt : k < p
    · have hne : (((n : Int) + 9 + (k : Int)) % 64 != 0) = true := by
        rw [bne_iff_ne]
        intro e
        have := (HHZ.out k hk).1 (by omega)
        omega
      go_wp2_with fail
      go_round
      case rel => exact ⟨k + 1, by omega, by go_num⟩
      case measure => simp [intOf]; omega
    · have hkp : k = p := by omega
      have hne : (((n : Int) + 9 + (p : Int)) % 64 != 0) = false := by
        have := (HHZ.out p (Nat.le_refl _)).2 rfl
        simp
        omega
      subst hkp
      go_wp2_with fail
      go_loopw [5] (fun i wr => ∃ i' : Nat, i' ≤ n ∧ i = .int .i64 (i' : Int) ∧ Hid (Arr wr w.heap.size 5 (bcs (copyZ l N i'))) ∧ Below w.heap.size w wr) (fun i _ => n - (intOf i).toNat)
      case atStart => exact ⟨0, by omega, rfl, (show Arr _ _ _ _ by rw [show copyZ l N 0 = zs N by simp [copyZ, zs]]; exact Arr.new _ _ _), (Below.refl _ _).alloc (Nat.le_refl _) _⟩
      case round =>
        obtain ⟨i, hi, rfl, HW, hbr⟩ := hrel
        have HCL := Lib.hid (copyZ_length l N i (by rw [HLN.out]; exact hi) (by rw [HLN.out]; omega))
        by_cases hin : i < n
        · obtain ⟨b, o, rfl, hb, hcell⟩ := HD.out.2 (by omega)
          have hsrc := (hbr.cell (p := ⟨b, o + i, none⟩) hb).trans (hcell i (by rw [HLN.out]; exact hin))
          have hdst := (HW.out.cell i).trans (bcs_at _ i (by rw [HCL.out]; omega))
          have hfz := HW.out.frozen i
          have HNX := Lib.hid (show Arr (wr.setCell ⟨w.heap.size, i, none⟩ (.int .u8 ((l[i]'(by rw [HLN.out]; exact hin)).toNat : Int))) w.heap.size 5 (bcs (copyZ l N (i + 1))) by
            have := HW.out.set i (.int .u8 ((l[i]'(by rw [HLN.out]; exact hin)).toNat : Int))
            rw [bcs_set] at this
            rw [← copyZ_set l N i (by rw [HLN.out]; exact hin) (by rw [HLN.out]; omega)]
            rw [List.getD_eq_getElem?_getD, List.getElem?_eq_getElem (by rw [HLN.out]; exact hin)]
            exact this)
          clear hcell
          generalize l[i]'(by rw [HLN.out]; exact hin) = y at *
          have hinN : i < N := by omega
          go_wp2_with fail
          go_roundw
          case rel => exact ⟨i + 1, by omega, by go_num, HNX, hbr.setCell (Nat.le_refl _) _⟩
          case measure => simp [intOf]; omega
        · have hge : decide (i < n) = false := by simpa using hin
          have hnN : n < N := by omega
          have HW1 := Lib.hid (show Arr wr w.heap.size 5 (bcs (copyZ l N l.length)) by
            have := HW.out
            rw [show i = l.length by rw [HLN.out]; omega] at this
            exact this)
          have HCN := Lib.hid (copyZ_length l N l.length (Nat.le_refl _) (by rw [HLN.out]; omega))
          have hdst := (HW1.out.cell n).trans (bcs_at _ n (by rw [HCN.out]; omega))
          have hfz := HW1.out.frozen n
          have HMK := Lib.hid (show Arr (wr.setCell ⟨w.heap.size, n, none⟩ (.int .u8 128)) w.heap.size 5 (bcs (cntZ l N 0)) by
            have := HW1.out.set n (.int .u8 ((128 : UInt8).toNat : Int))
            rw [bcs_set, ← HLN.out, copyZ_mark l N (by rw [HLN.out]; omega)] at this
            rw [← HLN.out]
            exact this)
          have hbm : Below w.heap.size w (wr.setCell ⟨w.heap.size, n, none⟩ (.int .u8 128)) := hbr.setCell (Nat.le_refl _) _
          clear HW HW1 HCL HCN hbr
          go_wp2_with fail
          go_loopw [6, 7] (fun m ix wr => ∃ j : Nat, j ≤ 8 ∧ m = .int .i64 ((8 * n / 256 ^ j : Nat) : Int) ∧ ix = .int .i64 ((N : Int) - 1 - (j : Int)) ∧ Hid (Arr wr w.heap.size 5 (bcs (cntZ l N j))) ∧ Below w.heap.size w wr) (fun m _ _ => (intOf m).toNat)
          case atStart => exact ⟨0, by omega, by simp, by simp, HMK, hbm⟩
          case round =>
            clear HMK hbm hdst hfz
            obtain ⟨j, hj, rfl, rfl, HV, hbv⟩ := hrel
            have HQ : Unit → 8 * n / 256 ^ (j + 1) = 8 * n / 256 ^ j / 256 := fun _ => by rw [Nat.pow_succ, Nat.div_div_eq_div_mul]
            have hj4 : 0 < 8 * n / 256 ^ j → j ≤ 3 := fun h0 => by
              rcases Nat.lt_or_ge 3 j with h3 | h3
              · have : 8 * n / 256 ^ j = 0 := Nat.div_eq_of_lt (Nat.lt_of_lt_of_le (show 8 * n < 256 ^ 4 by omega) (Nat.pow_le_pow_right (by omega) (by omega)))
                omega
              · exact h3
            have hqle : 8 * n / 256 ^ j ≤ 8 * n := Nat.div_le_self _ _
            have HHQ : Unit → 8 * l.length / 256 ^ j = 8 * n / 256 ^ j := fun _ => by rw [HLN.out]
            generalize hq : 8 * n / 256 ^ j = q at *
            by_cases hq0 : 0 < q
            · have hj3 := hj4 hq0
              have HCL := Lib.hid (cntZ_length l N j (by rw [HLN.out]; omega))
              obtain ⟨t, HTT⟩ : ∃ t : Nat, Unit → N - 1 - j = t := ⟨_, fun _ => rfl⟩
              have ht : (N : Int) - 1 - (j : Int) = (t : Int) := by have := HTT (); omega
              have htN : t < N := by have := HTT (); omega
              have ht2 : (t : Int) - 1 = (N : Int) - 1 - ((j + 1 : Nat) : Int) := by have := HTT (); omega
              have hdst := (HV.out.cell t).trans (bcs_at _ t (by rw [HCL.out]; omega))
              have hfz := HV.out.frozen t
              have HNX := Lib.hid (show Arr (wr.setCell ⟨w.heap.size, t, none⟩ (.int .u8 ((q : Int) % 256))) w.heap.size 5 (bcs (cntZ l N (j + 1))) by
                have := HV.out.set t (.int .u8 ((UInt8.ofNat q).toNat : Int))
                rw [bcs_set] at this
                have e := cntZ_set l N j (by rw [HLN.out]; omega)
                rw [HHQ (), HTT ()] at e
                rw [← e]
                rw [show ((UInt8.ofNat q).toNat : Int) = (q : Int) % 256 by rw [UInt8.toNat_ofNat']; omega] at this
                exact this)
              have HT2 := Lib.hid ht2
              clear ht2 hq
              rw [ht]
              clear ht
              go_wp2_with fail
              refine ⟨⟨j + 1, by omega, ?_, by rw [HT2.out], HNX, hbv.setCell (Nat.le_refl _) _⟩, by simp [intOf]; omega⟩
              rw [HQ ()]
              congr 1
            · have hge : decide ((0 : Int) < (q : Int)) = false := by simp; omega
              have hge2 : decide (0 < q) = false := by simpa using hq0
              have HFX := Lib.hid (show Arr wr w.heap.size 5 (bcs (padded l)) by
                have := HV.out
                have e := HHD.out j hj (by rw [HHQ ()]; omega)
                rw [HLN.out, HPP (), HN ()] at e
                rw [e] at this
                exact this)
              clear HV hq
              go_wp2_with fail
              go_ret
              exact ⟨N, (HPL ()).symm, rfl, HFX.out, hbv⟩
end Go.Proofs.YtgdcjealhbfnaaaDoor

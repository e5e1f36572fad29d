/-
  The contract of the document's Hex. No statement of the seat is proved here.
-/
import Derived.Test.YtgdcjealhbfnaaaDoorRfI
import Derived.Test.YtgdcjealhbfnaaaDoorShaH
import Derived.Test.YtgdcjealhbfnaaaDoorTxt
namespace Go.Proofs.YtgdcjealhbfnaaaDoor
open Go.RowKit

theorem digit_cut : ∀ i : Fin 16, (hexText.extract i.val (i.val + 1)).data.toList = [hexDigit i.val] := by decide +kernel
set_option maxRecDepth 100000 in
theorem slice_digit (W : World) (m : Nat) (hm : m < 16) (z : Int) (hz : z = (m : Int) + 1) :
    (Instr.slice 9 (.string hexText) (some (.int .u8 (m : Int))) (some (.int .u8 z)) none).run Tryd.prog W = .ok (.string ⟨#[hexDigit m]⟩) W := by
  subst hz
  rw [run_slice_string_if W 9 hexText .u8 .u8 (m : Int) ((m : Int) + 1) Tryd.underlying9, if_pos ⟨by omega, by show (m : Int) + 1 ≤ 16; omega⟩, if_pos ⟨by omega, by omega⟩]
  rw [show ((m : Int)).toNat = m by omega, show ((m : Int) + 1).toNat = m + 1 by omega]
  have h := digit_cut ⟨m, hm⟩
  simp only at h
  rw [show hexText.extract m (m + 1) = ⟨#[hexDigit m]⟩ from (bytes_eq [hexDigit m] _ h.symm).symm]
set_option maxRecDepth 100000 in
theorem add_texts (a b : List UInt8) (h : a.length + b.length ≤ 1000000) (W : World) : (Op.stringOp .add ⟨a.toArray⟩ ⟨b.toArray⟩).run Tryd.prog W = .ok (.string ⟨(a ++ b).toArray⟩) W := by
  unfold Op.stringOp
  rw [if_neg (by
    show ¬ (((a.toArray.size + b.toArray.size : Nat) : Int) > IntKind.i64.max)
    rw [List.size_toArray, List.size_toArray]
    have : IntKind.i64.max = 9223372036854775807 := by decide
    rw [this]; omega), bytes_append]
  rfl
set_option maxHeartbeats 1600000 in
set_option maxRecDepth 100000 in
theorem rhex_any (h : List UInt8) (w : World) (hh : h.length = 32) :
    Calls Tryd.prog 11 #[.agg (bcs h)] w fun e w' => e = .returned (.string ⟨(hexB h).toArray⟩) ∧ Below w.heap.size w w' := by
  have HL := Lib.hid hh
  clear hh
  obtain ⟨W0, hW0⟩ : ∃ W, w.alloc (.cells (bcs h) 23) = W := ⟨_, rfl⟩
  have HA := Lib.hid (show Arr W0 w.heap.size 23 (bcs h) by rw [← hW0]; exact Arr.new _ _ _)
  have hb0 : Below w.heap.size w W0 := by rw [← hW0]; exact (Below.refl _ _).alloc (Nat.le_refl _) _
  go_enter Tryd.func11, Tryd.ntmps11
  go_wp2
  go_loopw [3, 4] (fun s i wr => ∃ k q : Nat, k ≤ 32 ∧ i = .int .i64 ((k : Int) - 1) ∧ s = .string ⟨(hexB (h.drop k)).toArray⟩ ∧ wr = W0.drewN q) (fun _ i _ => (intOf i + 1).toNat)
  case atStart => exact ⟨32, 0, by omega, rfl, by rw [List.drop_eq_nil_of_le (by rw [HL.out]; omega)]; rfl, rfl⟩
  case round =>
    clear hW0
    obtain ⟨k, q, hk, rfl, rfl, rfl⟩ := hrel
    by_cases hk0 : k = 0
    · subst hk0
      have HF : Unit → hexB (h.drop 0) = hexB h := fun _ => rfl
      rw [HF ()]
      have hbq : Below w.heap.size w (W0.drewN q) := Below.drewN hb0 q
      generalize W0.drewN q = W1 at *
      obtain ⟨S, HFS⟩ : ∃ s : ByteArray, Unit → (⟨(hexB h).toArray⟩ : ByteArray) = s := ⟨_, fun _ => rfl⟩
      rw [HFS ()]
      go_wp2_with fail
      go_ret
      exact ⟨by rw [HFS ()]; rfl, hbq⟩
    · obtain ⟨j, rfl⟩ : ∃ j, k = j + 1 := ⟨k - 1, by omega⟩
      have ej : ((j + 1 : Nat) : Int) - 1 = (j : Int) := by omega
      rw [ej]
      have hc := (HA.out.cell j).trans (bcs_at h j (by rw [HL.out]; omega))
      have HS : Unit → hexB (h.drop j) = [hexDigit ((h.getD j 0).toNat / 16), hexDigit ((h.getD j 0).toNat % 16)] ++ hexB (h.drop (j + 1)) := fun _ => by
        rw [show h.drop j = h.getD j 0 :: h.drop (j + 1) by
          rw [List.getD_eq_getElem?_getD, List.getElem?_eq_getElem (by rw [HL.out]; omega)]
          exact List.drop_eq_getElem_cons (by rw [HL.out]; omega)]
        rfl
      have hlen : (hexB (h.drop (j + 1))).length ≤ 64 := by rw [hexB_length, List.length_drop, HL.out]; omega
      generalize h.getD j 0 = x at *
      have hx : x.toNat < 256 := x.toNat_lt
      obtain ⟨m1, HM1⟩ : ∃ m, Unit → x.toNat / 16 = m := ⟨_, fun _ => rfl⟩
      obtain ⟨m2, HM2⟩ : ∃ m, Unit → x.toNat % 16 = m := ⟨_, fun _ => rfl⟩
      have l1 : m1 < 16 := by rw [← HM1 ()]; omega
      have l2 : m2 < 16 := by rw [← HM2 ()]; omega
      rw [HM1 (), HM2 ()] at HS
      have e3 : (x.toNat : Int) / 16 = (m1 : Int) := by rw [← HM1 ()]; omega
      have e4 : (x.toNat : Int) % 16 = (m2 : Int) := by rw [← HM2 ()]; omega
      have e5 : (x.toNat : Int).tmod 16 = (m2 : Int) := by rw [← HM2 (), Int.tmod_eq_emod_of_nonneg (by omega)]; omega
      have e6 : (x.toNat : Int).tdiv 16 = (m1 : Int) := by rw [← HM1 (), Int.tdiv_eq_ediv_of_nonneg (by omega)]; omega
      have e7 : IntKind.u8.wrap (m1 : Int) = (m1 : Int) := by rw [IntKind.wrap_u8]; omega
      have e8 : IntKind.u8.wrap (m2 : Int) = (m2 : Int) := by rw [IntKind.wrap_u8]; omega
      have e9 : IntKind.u8.wrap ((m1 : Int) + 1) = (m1 : Int) + 1 := by rw [IntKind.wrap_u8]; omega
      have e10 : IntKind.u8.wrap ((m2 : Int) + 1) = (m2 : Int) + 1 := by rw [IntKind.wrap_u8]; omega
      have s1 := fun W => slice_digit W m1 l1 _ rfl
      have s2 := fun W => slice_digit W m2 l2 _ rfl
      unfold hexText at s1 s2
      have t1 := fun W => add_texts [hexDigit m1] [hexDigit m2] (by simp) W
      have t2 := fun W => add_texts [hexDigit m1, hexDigit m2] (hexB (h.drop (j + 1))) (by simp; omega) W
      rw [← HS ()] at t2
      simp only [List.cons_append, List.nil_append] at t1
      generalize (⟨(hexB (h.drop (j + 1))).toArray⟩ : ByteArray) = S at *
      obtain ⟨S2, HS2⟩ : ∃ s : ByteArray, Unit → (⟨(hexB (h.drop j)).toArray⟩ : ByteArray) = s := ⟨_, fun _ => rfl⟩
      simp only [HS2 ()] at t2
      generalize hexDigit m1 = d1 at *
      generalize hexDigit m2 = d2 at *
      obtain ⟨w5, HW5⟩ : ∃ w5, Unit → W0.drewN q = w5 := ⟨_, fun _ => rfl⟩
      have hA5 : w5.cell? ⟨w.heap.size, j, none⟩ = some (.int .u8 (x.toNat : Int)) := by rw [← HW5 ()]; exact hc
      rw [HW5 ()]
      clear hc HS
      go_wp2_with fail
      go_quiet (fail)
      obtain ⟨w6, HW6⟩ : ∃ w6, Unit → w5.drewN nq = w6 := ⟨_, fun _ => rfl⟩
      have HQ1 : Unit → w6 = W0.drewN (q + nq) := fun _ => by rw [← HW6 (), ← HW5 (), World.drewN_drewN]
      rw [HW6 ()]
      clear HW6
      generalize q + nq = q2 at *
      clear nq
      go_wp2_with fail
      go_quiet (fail)
      have HQ2 : Unit → w6.drewN nq = W0.drewN (q2 + nq) := fun _ => by rw [HQ1 (), World.drewN_drewN]
      generalize w6.drewN nq = w7 at *
      go_wp2_with fail
      go_roundw
      case rel => exact ⟨j, q2 + nq, by omega, rfl, by rw [HS2 ()], HQ2 ()⟩
      case measure => simp [intOf]
end Go.Proofs.YtgdcjealhbfnaaaDoor

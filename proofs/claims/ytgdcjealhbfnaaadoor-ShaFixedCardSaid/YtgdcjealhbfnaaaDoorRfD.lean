/-
  The contract of the document's rolled: a block's words. No statement of the seat is proved here.
-/
import Derived.Test.YtgdcjealhbfnaaaDoorRfC
import Derived.Test.YtgdcjealhbfnaaaDoorShaR
import Derived.StillTailTactics
namespace Go.Proofs.YtgdcjealhbfnaaaDoor
open Go.RowKit

set_option maxRecDepth 100000 in
theorem info_u32 : (Tryd.prog.info? 29).map (fun i => (i.zero, i.size, i.bytes)) = some (some (.int .u32 0), 1, 4) := by kernel_rfl
def zw (n : Nat) : List (BitVec 32) := List.replicate n 0
set_option maxRecDepth 100000 in
theorem make_words (N : Nat) (hN : N ≤ 1000) (z : Int) (hz : z = (N : Int)) (w : World) : (Instr.makeSlice 36 (.int .i64 z) (.int .i64 z)).run Tryd.prog w = .ok (.slice (some ⟨w.heap.size, 0, none⟩) N N) (w.alloc (.cells (wcs (zw N)) 29)) := by
  subst hz
  obtain ⟨i0, hi, hz0, hz1, hz2⟩ := info_parts info_u32
  rw [run_make w 36 29 i0 _ Tryd.underlying36 hi hz0 .i64 .i64 N N (by omega) (by omega) (by rw [hz2]; omega) (by omega)]
  have e : madeCells (Value.int .u32 0).cells ((N : Int).toNat * i0.size) = wcs (zw N) := by
    rw [hz1, Nat.mul_one, Int.toNat_natCast]
    apply Array.ext'
    apply List.ext_getElem
    · simp [madeCells, wcs, zw]
    · intro i h1 h2
      simp [madeCells, wcs, Value.cells, zw, u32v, Nat.mod_one]
  rw [e]
  simp
/-- The first k bytes of the t-th word. -/
def partN (l : List UInt8) (t : Nat) : Nat → Nat
  | 0 => 0
  | k + 1 => partN l t k * 256 + (l.getD (4 * t + k) 0).toNat
set_option maxRecDepth 100000 in
theorem partN_lt (l : List UInt8) (t : Nat) : ∀ k, partN l t k < 256 ^ k
  | 0 => by simp [partN]
  | k + 1 => by
    have h1 := partN_lt l t k
    have h2 : (l.getD (4 * t + k) 0).toNat < 256 := (l.getD (4 * t + k) 0).toNat_lt
    rw [partN, Nat.pow_succ]
    omega
set_option maxRecDepth 100000 in
theorem partN_word (l : List UInt8) (t : Nat) : BitVec.ofNat 32 (partN l t 4) = word4 (l.getD (4 * t) 0) (l.getD (4 * t + 1) 0) (l.getD (4 * t + 2) 0) (l.getD (4 * t + 3) 0) := by
  simp only [partN, word4, Nat.add_zero]
  congr 1
  omega
set_option maxRecDepth 100000 in
theorem part_toNat (l : List UInt8) (t k : Nat) (h : k ≤ 4) : (BitVec.ofNat 32 (partN l t k)).toNat = partN l t k := by
  rw [BitVec.toNat_ofNat, Nat.mod_eq_of_lt]
  exact Nat.lt_of_lt_of_le (partN_lt l t k) (Nat.le_trans (Nat.pow_le_pow_right (by omega) h) (by decide))
set_option maxRecDepth 100000 in
theorem rollZ_same (l : List UInt8) (t : Nat) (h : t < 64) : (rollZ l t).set t 0 = rollZ l t := by
  unfold rollZ
  rw [show 64 - t = (64 - (t + 1)) + 1 by omega, List.replicate_succ, List.set_append_right _ _ (by rw [rollW_length]; exact Nat.le_refl _), rollW_length, Nat.sub_self, List.set_cons_zero]
set_option maxRecDepth 100000 in
theorem rollZ_start (l : List UInt8) : rollZ l 0 = zw 64 := by simp [rollZ, rollW, zw]

set_option maxHeartbeats 1600000 in
set_option maxRecDepth 100000 in
theorem rolled_any (b o c : Nat) (l : List UInt8) (w : World) (hb : b < w.heap.size) (hl : l.length = 64) (hcell : ∀ j, j < 64 → w.cell? ⟨b, o + j, none⟩ = some (.int .u8 ((l.getD j 0).toNat : Int))) :
    Calls Tryd.prog 18 #[.slice (some ⟨b, o, none⟩) 64 c] w fun e w' => e = .returned (.slice (some ⟨w.heap.size, 0, none⟩) 64 64) ∧ Arr w' w.heap.size 29 (wcs (rollW l 64)) ∧ Below w.heap.size w w' := by
  have HC := Lib.hid hcell
  have HL := Lib.hid hl
  have hmk := fun W => make_words 64 (by omega) 64 rfl W
  clear hcell hl
  go_enter Tryd.func18, Tryd.ntmps18
  go_wp2
  go_loopw [4] (fun i wr => ∃ t : Nat, t ≤ 16 ∧ i = .int .i64 (t : Int) ∧ Hid (Arr wr w.heap.size 29 (wcs (rollZ l t))) ∧ Below w.heap.size w wr) (fun i _ => 16 - (intOf i).toNat)
  case atStart => exact ⟨0, by omega, rfl, (show Arr _ _ _ _ by rw [rollZ_start]; exact Arr.new _ _ _), (Below.refl _ _).alloc (Nat.le_refl _) _⟩
  case round =>
    obtain ⟨t, ht, rfl, HW, hbr⟩ := hrel
    by_cases hlt : t < 16
    · have HZ := Lib.hid (rollZ_length l t (by omega))
      have hdt : decide ((t : Int) < 16) = true := by simp; omega
      go_wp2
      obtain ⟨wo, rfl⟩ : ∃ wo : World, wo = wr := ⟨_, rfl⟩
      go_loopw [5] (fun i wr => ∃ k : Nat, k ≤ 4 ∧ i = .int .i64 (k : Int) ∧ Hid (Arr wr w.heap.size 29 (wcs ((rollZ l t).set t (BitVec.ofNat 32 (partN l t k))))) ∧ Below w.heap.size w wr) (fun i _ => 4 - (intOf i).toNat)
      case atStart => exact ⟨0, by omega, rfl, (show Arr _ _ _ _ by rw [show BitVec.ofNat 32 (partN l t 0) = 0 from rfl, rollZ_same l t (by omega)]; exact HW.out), hbr⟩
      case round =>
        clear HW hbr
        obtain ⟨k, hk, rfl, HV, hbv⟩ := hrel
        by_cases hlk : k < 4
        · have hpl : partN l t k < 16777216 := Nat.lt_of_lt_of_le (partN_lt l t k) (Nat.le_trans (Nat.pow_le_pow_right (by omega) (show k ≤ 3 by omega)) (by decide))
          have hcl := (HV.out.cell t).trans (wcs_at _ t (by rw [List.length_set, HZ.out]; omega))
          rw [getD_set _ _ _ _ _ (by rw [HZ.out]; omega), if_pos rfl, part_toNat l t k (by omega)] at hcl
          have hfz := HV.out.frozen t
          have hby := (hbv.cell (p := ⟨b, o + (4 * t + k), none⟩) hb).trans (HC.out (4 * t + k) (by omega))
          have HPN : Unit → partN l t (k + 1) = partN l t k * 256 + (l.getD (4 * t + k) 0).toNat := fun _ => rfl
          have hby2 : (l.getD (4 * t + k) 0).toNat < 256 := (l.getD (4 * t + k) 0).toNat_lt
          have HT := part_toNat l t (k + 1) (by omega)
          rw [HPN ()] at HT
          generalize (l.getD (4 * t + k) 0).toNat = y at *
          generalize hq : partN l t k = q at *
          have HN := fun (nq : Nat) => Lib.hid (show Arr ((wr.drewN nq).setCell ⟨w.heap.size, t, none⟩ (.int .u32 ((q : Int) * 256 + (y : Int)))) w.heap.size 29 (wcs ((rollZ l t).set t (BitVec.ofNat 32 (partN l t (k + 1))))) by
            have := (HV.out.drewN nq).set t (u32v (BitVec.ofNat 32 (partN l t (k + 1))))
            rw [wcs_set, List.set_set] at this
            rw [show u32v (BitVec.ofNat 32 (partN l t (k + 1))) = .int .u32 ((q : Int) * 256 + (y : Int)) by unfold u32v; rw [HPN (), HT]; congr 1] at this
            exact this)
          have HQ := Lib.hid hq
          clear hq HT
          have i1 : (0 : Int) ≤ (t : Int) := by omega
          have i2 : (t : Int) < 64 := by omega
          have e1 : IntKind.i64.wrap (4 * (t : Int)) = 4 * (t : Int) := IntWalk.i64_in _ (by omega)
          have e2 : IntKind.i64.wrap (4 * (t : Int) + (k : Int)) = 4 * (t : Int) + (k : Int) := IntWalk.i64_in _ (by omega)
          have e3 : (4 * (t : Int) + (k : Int)).toNat = 4 * t + k := by omega
          have e4 : IntKind.u32.wrap ((q : Int) * 256) = (q : Int) * 256 := by rw [IntKind.wrap_u32]; omega
          have e5 : IntKind.u32.wrap ((q : Int) * 256 + (y : Int)) = (q : Int) * 256 + (y : Int) := by rw [IntKind.wrap_u32]; omega
          have e6 : IntKind.u32.wrap (y : Int) = (y : Int) := by rw [IntKind.wrap_u32]; omega
          have i3 : (0 : Int) ≤ 4 * (t : Int) + (k : Int) := by omega
          have i4 : 4 * (t : Int) + (k : Int) < 64 := by omega
          go_wp2_with fail
          go_still_tail 17, (by kernel_rfl)
          go_wp2_with fail
          go_roundw
          case rel => exact ⟨k + 1, by omega, by go_num, HN 1, (Below.drewN hbv 1).setCell (Nat.le_refl _) _⟩
          case measure => simp [intOf]; omega
        · have hge : decide ((k : Int) < 4) = false := by simp; omega
          have HFX := Lib.hid (show Arr wr w.heap.size 29 (wcs (rollZ l (t + 1))) by
            have := HV.out
            rw [show k = 4 by omega, partN_word, rollZ_set l t _ (by omega) (by rw [rollW, if_pos hlt])] at this
            exact this)
          clear HV
          go_wp2_with fail
          go_roundw
          case rel => exact ⟨t + 1, by omega, by go_num, HFX, hbv⟩
          case measure => simp [intOf]; omega
    · have hge : decide ((t : Int) < 16) = false := by simp; omega
      have HFX := Lib.hid (show Arr wr w.heap.size 29 (wcs (rollZ l 16)) by
        have := HW.out
        rw [show t = 16 by omega] at this
        exact this)
      clear HW
      go_wp2_with fail
      go_loopw [6] (fun i wr => ∃ k : Nat, 16 ≤ k ∧ k ≤ 64 ∧ i = .int .i64 (k : Int) ∧ Hid (Arr wr w.heap.size 29 (wcs (rollZ l k))) ∧ Below w.heap.size w wr) (fun i _ => 64 - (intOf i).toNat)
      case atStart => exact ⟨16, by omega, by omega, rfl, HFX, hbr⟩
      case round =>
        clear HFX hbr hge
        obtain ⟨k, hk16, hk, rfl, HW, hbr⟩ := hrel
        have HZ := Lib.hid (rollZ_length l k (by omega))
        by_cases hlk : k < 64
        · obtain ⟨j1, rj1⟩ : ∃ j, Hid (k = j + 16) := ⟨k - 16, by show _ = _; omega⟩
          have e1 : IntKind.i64.wrap ((k : Int) - 16) = (j1 : Int) := by have := rj1.out; rw [IntWalk.i64_in _ (by omega)]; omega
          have e2 : IntKind.i64.wrap ((k : Int) - 7) = (j1 : Int) + 9 := by have := rj1.out; rw [IntWalk.i64_in _ (by omega)]; omega
          have g2 : (k : Int) - 15 = (j1 : Int) + 1 := by have := rj1.out; omega
          have g4 : (k : Int) - 2 = (j1 : Int) + 14 := by have := rj1.out; omega
          have a1 : (0 : Int) ≤ (j1 : Int) := by omega
          have a2 : (0 : Int) ≤ (j1 : Int) + 1 := by omega
          have a3 : (0 : Int) ≤ (j1 : Int) + 9 := by omega
          have a4 : (0 : Int) ≤ (j1 : Int) + 14 := by omega
          have b0 : (0 : Int) ≤ (k : Int) := by omega
          have b1 : (k : Int) < 64 := by omega
          have c1 : (j1 : Int) < 64 := by have := rj1.out; omega
          have c2 : (j1 : Int) + 1 < 64 := by have := rj1.out; omega
          have c3 : (j1 : Int) + 9 < 64 := by have := rj1.out; omega
          have c4 : (j1 : Int) + 14 < 64 := by have := rj1.out; omega
          have t2 : ((j1 : Int) + 1).toNat = j1 + 1 := by omega
          have t3 : ((j1 : Int) + 9).toNat = j1 + 9 := by omega
          have t4 : ((j1 : Int) + 14).toNat = j1 + 14 := by omega
          have f1 := HW.out.cell j1
          have f2 := HW.out.cell (j1 + 1)
          have f3 := HW.out.cell (j1 + 9)
          have f4 := HW.out.cell (j1 + 14)
          have f5 := HW.out.cell k
          rw [wcs_at _ _ (by rw [HZ.out]; have := rj1.out; omega)] at f1 f2 f3 f4 f5
          have hfz := HW.out.frozen k
          have hR := rj1.out
          rw [rollZ_at l k j1 (by omega)] at f1
          rw [rollZ_at l k (j1 + 1) (by omega)] at f2
          rw [rollZ_at l k (j1 + 9) (by omega)] at f3
          rw [rollZ_at l k (j1 + 14) (by omega)] at f4
          have E : Unit → rollW l (k + 1) = rollW l k ++ [(rollW l k).getD j1 0 + sN ((rollW l k).getD (j1 + 1) 0) 7 18 3 + (rollW l k).getD (j1 + 9) 0 + sN ((rollW l k).getD (j1 + 14) 0) 17 19 10] := fun _ => by
            rw [rollW, if_neg (by omega), nextWord, show k - 16 = j1 by omega, show k - 15 = j1 + 1 by omega, show k - 7 = j1 + 9 by omega, show k - 2 = j1 + 14 by omega]
          clear hR
          generalize (rollW l k).getD j1 0 = x1 at *
          generalize (rollW l k).getD (j1 + 1) 0 = x2 at *
          generalize (rollW l k).getD (j1 + 9) 0 = x3 at *
          generalize (rollW l k).getD (j1 + 14) 0 = x4 at *
          generalize (rollZ l k).getD k 0 = x5 at *
          have p1 := xor3_words (rotr x2 7) (rotr x2 18) (x2 >>> 3)
          have p2 := xor3_words (rotr x4 17) (rotr x4 19) (x4 >>> 10)
          rw [show rotr x2 7 ^^^ rotr x2 18 ^^^ x2 >>> 3 = sN x2 7 18 3 from rfl] at p1
          rw [show rotr x4 17 ^^^ rotr x4 19 ^^^ x4 >>> 10 = sN x4 17 19 10 from rfl] at p2
          have C1 := Lib.hid (rturned_any x2 7 7 rfl wr (by omega) (by omega))
          have C2 := Lib.hid (rturned_any x2 18 18 rfl wr (by omega) (by omega))
          have C3 := Lib.hid (rmoved_any x2 3 3 rfl wr (by omega))
          have C4 := Lib.hid (rturned_any x4 17 17 rfl wr (by omega) (by omega))
          have C5 := Lib.hid (rturned_any x4 19 19 rfl wr (by omega) (by omega))
          have C6 := Lib.hid (rmoved_any x4 10 10 rfl wr (by omega))
          generalize x2 >>> 3 = z2 at *
          generalize x4 >>> 10 = z4 at *
          generalize sN x2 7 18 3 = y2 at *
          generalize sN x4 17 19 10 = y4 at *
          have HN := fun (nq : Nat) => Lib.hid (show Arr ((wr.drewN nq).setCell ⟨w.heap.size, k, none⟩ (.int .u32 (((x1.toNat : Int) + (y2.toNat : Int) + (x3.toNat : Int) + (y4.toNat : Int)) % 4294967296))) w.heap.size 29 (wcs (rollZ l (k + 1))) by
            have := (HW.out.drewN nq).set k (u32v (x1 + y2 + x3 + y4))
            rw [wcs_set, rollZ_set l k _ (by omega) (E ())] at this
            rw [show u32v (x1 + y2 + x3 + y4) = .int .u32 (((x1.toNat : Int) + (y2.toNat : Int) + (x3.toNat : Int) + (y4.toNat : Int)) % 4294967296) from by unfold u32v; congr 1; simp only [BitVec.toNat_add]; omega] at this
            exact this)
          go_wp2_with fail
          refine C1.out.mono ?_
          rintro e w1 ⟨rfl, rfl⟩
          go_wp2_with fail
          refine C2.out.mono ?_
          rintro e w1 ⟨rfl, rfl⟩
          go_wp2_with fail
          refine C3.out.mono ?_
          rintro e w1 ⟨rfl, rfl⟩
          go_wp2_with fail
          refine C4.out.mono ?_
          rintro e w1 ⟨rfl, rfl⟩
          go_wp2_with fail
          refine C5.out.mono ?_
          rintro e w1 ⟨rfl, rfl⟩
          go_wp2_with fail
          refine C6.out.mono ?_
          rintro e w1 ⟨rfl, rfl⟩
          go_wp2_with fail
          go_still_tail 18, (by kernel_rfl)
          go_wp2_with fail
          go_roundw
          case rel => exact ⟨k + 1, by omega, by omega, by go_num, HN 1, (Below.drewN hbr 1).setCell (Nat.le_refl _) _⟩
          case measure => simp [intOf]; omega
        · have hge : decide ((k : Int) < 64) = false := by simp; omega
          have HFX := Lib.hid (show Arr wr w.heap.size 29 (wcs (rollW l 64)) by
            have := HW.out
            rw [show k = 64 by omega, show rollZ l 64 = rollW l 64 by simp [rollZ]] at this
            exact this)
          clear HW
          go_wp2_with fail
          go_ret
          exact ⟨rfl, HFX.out, hbr⟩
end Go.Proofs.YtgdcjealhbfnaaaDoor

/-
  The contract of Of: the hash of some bytes. No statement of the seat is proved here.
-/
import Derived.Test.YtgdcjealhbfnaaaDoorShaW
import Derived.Test.YtgdcjealhbfnaaaDoorShaE
import Derived.StillTailTactics
namespace Go.Proofs.YtgdcjealhbfnaaaDoor
open Go.RowKit

set_option maxRecDepth 100000 in
/-- A whole array out of its block, in a region whose head only reads. -/
theorem still_load_row {o : Oper} {a : Act} {w : World} {next : Act → Prop} (ty : TypeId) (x : Operand) (ho : o.op = .load ty x)
    (g : Nat) (hx : a.eval x = .pointer (some ⟨g, 0, none⟩)) (t : TypeId) (cs : Array Value) (n : Nat) (e : TypeId) (hg : Arr w g t cs)
    (hu : Tryd.prog.underlying ty = some (.array n e)) (hi : (Tryd.prog.info? ty).map (·.size) = some cs.size)
    (h : next (a.put o.dst (.agg cs))) : o.still Tryd.prog a w next := by
  have hr := run_loadVar_row (P := Tryd.prog) w g t ty cs (0, 0) (.array n e) hg hu rfl hi
  unfold Oper.still execOp
  simp only [ho, hx, Instr.loadAt, Instr.sureAddr, Sem.run_bind, Sem.run_pure, Result.andThen_ok, hr]
  rw [Oper.stillUpon_value]
  exact h
set_option maxRecDepth 100000 in
/-- The end of a slice of bytes behind its first 64 ones, where it lies. -/
theorem post64 (b o n c : Nat) (h1 : 64 ≤ n) (hc : n ≤ c) : ∃ A', (∀ W : World, (Instr.slice 22 (.slice (some ⟨b, o, none⟩) n c) (some (.int .i64 64)) none none).run Tryd.prog W = .ok (.slice A' (n - 64) (c - 64)) W) ∧ (64 < n → A' = some ⟨b, o + 64, none⟩) := by
  obtain ⟨i0, hi0, hz0, hz1, hz2⟩ := info_parts info_u8
  refine ⟨if c = 64 then some ⟨b, o, none⟩ else some ⟨b, o + 64, none⟩, fun W => ?_, fun h => by rw [if_neg (by omega)]⟩
  rw [run_slice_l W 22 _ n c Tryd.underlying22 .i64 64 (by omega) (by omega)]
  have he : Tryd.prog.elem 22 = 5 := by simp [Program.elem, Tryd.underlying22]
  rw [he]
  simp [sizeOf, typeInfo, hi0, hz1, sliced, Addr.add_lit]

set_option maxRecDepth 100000 in
theorem Arr.rd {w : World} {g : Nat} {T : TypeId} {M : List UInt8} (h : Arr w g T (bcs M)) (p n : Nat) (hn : p + n = M.length) : Rd w (g + 1) (some ⟨g, p, none⟩) n (M.drop p) := by
  refine ⟨by rw [List.length_drop]; omega, fun _ => ⟨g, p, rfl, by omega, fun j hj => ?_⟩⟩
  rw [List.length_drop] at hj
  rw [h.cell, bcs_at _ _ (by omega), List.getD_eq_getElem?_getD, List.getElem?_eq_getElem (by omega)]
  simp
set_option maxRecDepth 100000 in
theorem msgEnd_length (l : List UInt8) (t : Nat) (h : l.length < 64) : (msgEnd l t).length = endSize l.length := by
  unfold msgEnd endSize
  split <;> simp [be8] <;> omega
set_option maxRecDepth 100000 in
theorem absorb_zero (s : List (BitVec 32)) (m : List UInt8) : absorb 0 s m = s := rfl

set_option maxHeartbeats 3200000 in
set_option maxRecDepth 100000 in
theorem of_any (A : Option Addr) (n c : Nat) (l : List UInt8) (w : World) (h : Rd w w.heap.size A n l) (hc : n ≤ c) (hn : n ≤ 1099511627776) (ht : TabS w) :
    Calls Tryd.prog 5 #[.slice A n c] w fun e w' => e = .returned (.agg (bcs (sha l))) ∧ Below w.heap.size w w' := by
  have HD := Lib.hid h
  have HL := Lib.hid h.len
  have HT := Lib.hid ht
  have HP := Lib.hid ht.pos
  clear h ht
  go_enter Tryd.func5, Tryd.ntmps5
  go_wp2_with fail
  obtain ⟨w0, hw0⟩ : ∃ w0, w.alloc (.cells (bcs (zs 32)) 23) = w0 := ⟨_, rfl⟩
  have hz0 : w0.heap.size = w.heap.size + 1 := by rw [← hw0]; simp
  have hZ : Arr w0 w.heap.size 23 (bcs (zs 32)) := by rw [← hw0]; exact Arr.new _ _ _
  have hB0 : Below w.heap.size w w0 := by rw [← hw0]; exact (Below.refl _ _).alloc (Nat.le_refl _) _
  have C1 := first_any w0
  rw [← hw0] at C1
  refine (show Calls Tryd.prog 12 _ _ _ from C1).mono ?_
  rw [hw0]
  clear C1 hw0
  rintro e w1 ⟨rfl, hb1⟩
  have hz1 := hb1.size
  have hZ1 := hZ.below hb1 (by omega)
  have hB1 : Below w.heap.size w w1 := hB0.trans (hb1.mono (by omega))
  have hzz : w.heap.size < w1.heap.size := by omega
  clear hZ hB0 hb1 hz1 hz0
  obtain ⟨s0, HS0⟩ : ∃ s, Unit → seats0 = s := ⟨_, fun _ => rfl⟩
  have hs0 : s0.length = 8 := by rw [← HS0 ()]; rfl
  rw [HS0 ()]
  have HS := Lib.hid hs0
  clear hs0
  go_simp
  iterate 4 (first | go_values | go_skip | go_guarded | go_step | go_upon)
  refine wpList_store_row rfl _ _ _ rfl w1.heap.size (wcs s0) rfl rfl _ _ (Arr.new w1 _ _) (by rw [wcs_size, HS.out]; kernel_rfl) (by rw [wcs_size, HS.out]; rfl) (wcs_one _) ?_
  rw [World.setRow_alloc_new]
  obtain ⟨w2, hw2⟩ : ∃ w2, w1.alloc (.cells (wcs s0) 30) = w2 := ⟨_, rfl⟩
  have HA2 := Lib.hid (show Arr w2 w1.heap.size 30 (wcs s0) by rw [← hw2]; exact Arr.new _ _ _)
  have HZ2 := Lib.hid (show Arr w2 w.heap.size 23 (bcs (zs 32)) by rw [← hw2]; exact hZ1.alloc _)
  have hB2 : Below w.heap.size w w2 := by rw [← hw2]; exact hB1.alloc (by omega) _
  rw [hw2]
  clear hw2 hZ1 hB1
  generalize w1.heap.size = s3 at *
  go_simp
  go_wp2_with fail
  go_loopw [4] (fun u wr => ∃ (k : Nat) (A' : Option Addr) (c' : Nat), 64 * k ≤ n ∧ u = .slice A' (n - 64 * k) c' ∧ n - 64 * k ≤ c' ∧ Hid (Rd wr w.heap.size A' (n - 64 * k) (l.drop (64 * k))) ∧ Hid (Arr wr s3 30 (wcs (absorb k s0 l))) ∧ Hid (Arr wr w.heap.size 23 (bcs (zs 32))) ∧ Below w.heap.size w wr)
    (fun u _ => match u with | .slice _ m _ => m | _ => 0)
  case atStart => exact ⟨0, A, c, by omega, rfl, hc, (HD.out.below hB2), HA2, HZ2, hB2⟩
  case round =>
    clear HA2 HZ2 hB2
    obtain ⟨k, A', c', hk, rfl, hc', HR, HA, HZ, hbr⟩ := hrel
    have HSL := Lib.hid ((absorb_length k s0 l).trans HS.out)
    by_cases hlt : 64 ≤ n - 64 * k
    · obtain ⟨A1, c1, hsl, hr1, hc1⟩ := pre_rule (hi := 64) 64 rfl HR.out hc' hlt
      obtain ⟨A2, c2, hsl2, hr2, hc2⟩ := post_rule (p := 64) 64 rfl HR.out hc' hlt
      obtain ⟨b, o, rfl, hb, hcell⟩ := hr1.2 (by omega)
      have HR2 := Lib.hid hr2
      have hge : decide (64 ≤ n - 64 * k) = true := by simpa using hlt
      have CW := Lib.hid (work_any (absorb k s0 l) b o c1 ((l.drop (64 * k)).take 64) wr.drew (by have := hbr.size; show b < wr.heap.size; omega) HSL.out hr1.1 hcell hc1 (HT.out.keep hbr.drew HP.out))
      clear hr2 hr1 hcell
      go_wp2_with fail
      refine wp_region_still_tail 3 (by kernel_rfl) (by kernel_rfl) ?_
      simp only [List.take_succ_cons, List.take_zero, List.drop_succ_cons, List.drop_zero]
      refine wpStill_step (fun K hK => still_load_row _ _ rfl s3 rfl _ _ _ _ HA.out.drew Tryd.underlying30 (by rw [wcs_size, HSL.out]; kernel_rfl) (hK _ ?_))
      clear hK K
      repeat still_step
      try refine wpStill_nil ?_
      go_wp2_with fail
      refine CW.out.mono ?_
      clear CW
      rintro e w5 ⟨rfl, hb5⟩
      have hz5 : wr.heap.size ≤ w5.heap.size := hb5.size
      have hs3 : s3 < wr.heap.size := HA.out.lt
      have HA5 := Lib.hid (HA.out.drew.below hb5 hs3)
      have HZ5 := Lib.hid (HZ.out.drew.below hb5 HZ.out.lt)
      have hB5 : Below w.heap.size w w5 := hbr.drew.trans (hb5.mono hbr.size)
      have HR5 := Lib.hid ((HR2.out.keep (w' := w5) fun p hp => (hb5.cell (Nat.lt_of_lt_of_le hp hbr.size)).trans rfl))
      have HWL : Unit → (workBlock (absorb k s0 l) ((l.drop (64 * k)).take 64)).length = 8 := fun _ => by rw [workBlock_length, HSL.out]
      have HN : Unit → workBlock (absorb k s0 l) ((l.drop (64 * k)).take 64) = absorb (k + 1) s0 l := fun _ => (absorb_snoc k s0 l).symm
      clear HA HZ HR HR2 hb5 hbr
      generalize workBlock (absorb k s0 l) ((l.drop (64 * k)).take 64) = S at *
      go_simp
      iterate 1 (first | go_values | go_skip | go_guarded | go_step | go_upon)
      refine wpList_store_row rfl _ _ _ rfl s3 (wcs S) rfl rfl _ _ HA5.out (by rw [wcs_size, HWL ()]; kernel_rfl) (by rw [wcs_size, wcs_size, HWL (), HSL.out]) (wcs_one _) ?_
      obtain ⟨w6, hw6⟩ : ∃ w6, w5.setRow s3 (wcs S) = w6 := ⟨_, rfl⟩
      have HA6 := Lib.hid (show Arr w6 s3 30 (wcs (absorb (k + 1) s0 l)) by rw [← hw6, ← HN ()]; exact HA5.out.row _)
      have HZ6 := Lib.hid (show Arr w6 w.heap.size 23 (bcs (zs 32)) by rw [← hw6]; exact HZ5.out.rowOther _ _ (by omega))
      have hB6 : Below w.heap.size w w6 := by rw [← hw6]; exact Below.setRow hB5 (by omega) _
      have HR6 := Lib.hid (show Rd w6 w.heap.size A2 (n - 64 * (k + 1)) (l.drop (64 * (k + 1))) by
        rw [← hw6]
        have := HR5.out.keep (w' := w5.setRow s3 (wcs S)) fun p hp => cell_setRow_other _ _ _ _ (by omega)
        rw [List.drop_drop] at this
        rw [show n - 64 * (k + 1) = n - 64 * k - 64 by omega, show 64 * (k + 1) = 64 * k + 64 by omega]
        exact this)
      rw [hw6]
      clear hw6 HA5 HZ5 hB5 HR5
      go_simp
      go_wp2_with fail
      go_roundw
      case rel => exact ⟨k + 1, A2, c2, by omega, by rw [show n - 64 * (k + 1) = n - 64 * k - 64 by omega], by omega, HR6, HA6, HZ6, hB6⟩
      case measure => show n - 64 * k - 64 < n - 64 * k; omega
    · have hge : decide (64 ≤ n - 64 * k) = false := by simpa using hlt
      have HK : Unit → k = n / 64 := fun _ => by omega
      obtain ⟨r, HRr⟩ : ∃ r, Unit → n - 64 * k = r := ⟨_, fun _ => rfl⟩
      have hr63 : r < 64 := by rw [← HRr ()]; omega
      rw [HRr ()] at HR
      obtain ⟨E, hE, HES⟩ : ∃ E, (E = 64 ∨ E = 128) ∧ (Unit → endSize r = E) := ⟨endSize r, by unfold endSize; split <;> simp, fun _ => rfl⟩
      have CE : Calls Tryd.prog 14 #[.slice A' r c', .int .i64 (n : Int)] wr fun e w' => e = .returned (.slice (some ⟨wr.heap.size, 0, none⟩) E E) ∧ Arr w' wr.heap.size 5 (bcs (msgEnd (l.drop (64 * k)) n)) ∧ Below wr.heap.size wr w' := by
        have hes := HES ()
        rcases hE with rfl | rfl
        · exact end_64 A' r c' n _ wr (HR.out.more hbr.size) (by unfold endSize at hes; split at hes <;> omega) hes hn
        · exact end_128 A' r c' n _ wr (HR.out.more hbr.size) (by omega) hes hn
      have HCE := Lib.hid CE
      clear CE
      have hgr : decide ((64 : Int) ≤ (r : Int)) = false := by simp; omega
      have hgr2 : decide (64 ≤ r) = false := by simp; omega
      have hE0 : 0 < E := by omega
      have HML : Unit → (msgEnd (l.drop (64 * k)) n).length = E := fun _ => by
        have e : (l.drop (64 * k)).length = r := HR.out.len
        rw [msgEnd_length _ _ (by rw [e]; exact hr63), e, HES ()]
      have HFIN : Unit → sha l = seatB (absorb (E / 64) (absorb k s0 l) (msgEnd (l.drop (64 * k)) n)) := fun _ => by
        unfold sha
        rw [HL.out, ← HK (), ← HES (), HS0 (), show n % 64 = r by rw [← HRr ()]; have := HK (); omega]
      have HEM : Unit → E % 64 = 0 := fun _ => by omega
      rw [HRr ()]
      go_wp2_with fail
      refine HCE.out.mono ?_
      clear HCE
      rintro e w3 ⟨rfl, hM3, hb3⟩
      have hs3 : s3 < wr.heap.size := HA.out.lt
      have HA3 := Lib.hid (HA.out.below hb3 hs3)
      have HZ3 := Lib.hid (HZ.out.below hb3 HZ.out.lt)
      have HM3 := Lib.hid hM3
      have hB3 : Below w.heap.size w w3 := hbr.trans (hb3.mono hbr.size)
      clear HA HZ hbr hM3 hb3 HR HD
      generalize wr.heap.size = g at *
      generalize absorb k s0 l = S1 at *
      generalize msgEnd (l.drop (64 * k)) n = M at *
      go_wp2_with fail
      go_loopw [5] (fun u wq => ∃ (j : Nat) (A' : Option Addr) (c' : Nat), 64 * j ≤ E ∧ u = .slice A' (E - 64 * j) c' ∧ E - 64 * j ≤ c' ∧ Hid (64 * j < E → A' = some ⟨g, 64 * j, none⟩) ∧ Hid (Arr wq g 5 (bcs M)) ∧ Hid (Arr wq s3 30 (wcs (absorb j S1 M))) ∧ Hid (Arr wq w.heap.size 23 (bcs (zs 32))) ∧ Below w.heap.size w wq)
        (fun u _ => match u with | .slice _ m _ => m | _ => 0)
      case atStart => exact ⟨0, _, _, by omega, rfl, by omega, (fun _ => rfl : 64 * 0 < E → _), HM3, HA3, HZ3, hB3⟩
      case round =>
        clear HM3 HA3 HZ3 hB3
        obtain ⟨j, A3, c3, hj, rfl, hc3, HAd, HM, HA, HZ, hbr⟩ := hrel
        have HSJ := Lib.hid ((absorb_length j S1 M).trans HSL.out)
        by_cases hpos : 0 < E - 64 * j
        · have h64 : 64 ≤ E - 64 * j := by have := HEM (); omega
          obtain rfl : A3 = some ⟨g, 64 * j, none⟩ := HAd.out (by omega)
          have hrd := HM.out.rd (64 * j) (E - 64 * j) (by rw [HML ()]; omega)
          obtain ⟨A1, c1, hsl, hr1, hc1⟩ := pre_rule (hi := 64) 64 rfl hrd hc3 h64
          obtain ⟨A2, hsl2, hA2⟩ := post64 g (64 * j) (E - 64 * j) c3 h64 hc3
          obtain ⟨b, o, rfl, hb, hcell⟩ := hr1.2 (by omega)
          have HAd2 : Hid (64 * (j + 1) < E → A2 = some ⟨g, 64 * (j + 1), none⟩) := (fun hh => by
            rw [show 64 * (j + 1) = 64 * j + 64 by omega]; exact hA2 (by omega) : 64 * (j + 1) < E → _)
          have hge0 : decide ((0 : Int) < ((E - 64 * j : Nat) : Int)) = true := by simp; omega
          have hgM : g < wr.heap.size := HM.out.lt
          have CW := Lib.hid (work_any (absorb j S1 M) b o c1 ((M.drop (64 * j)).take 64) wr.drew (by show b < wr.heap.size; omega) HSJ.out hr1.1 hcell hc1 (HT.out.keep hbr.drew HP.out))
          clear hrd hr1 hcell hA2
          go_wp2_with fail
          refine wp_region_still_tail 3 (by kernel_rfl) (by kernel_rfl) ?_
          simp only [List.take_succ_cons, List.take_zero, List.drop_succ_cons, List.drop_zero]
          refine wpStill_step (fun K hK => still_load_row _ _ rfl s3 rfl _ _ _ _ HA.out.drew Tryd.underlying30 (by rw [wcs_size, HSJ.out]; kernel_rfl) (hK _ ?_))
          clear hK K
          repeat still_step
          try refine wpStill_nil ?_
          go_wp2_with fail
          refine CW.out.mono ?_
          clear CW
          rintro e w5 ⟨rfl, hb5⟩
          have hs3q : s3 < wr.heap.size := HA.out.lt
          have HA5 := Lib.hid (HA.out.drew.below hb5 hs3q)
          have HZ5 := Lib.hid (HZ.out.drew.below hb5 HZ.out.lt)
          have HM5 := Lib.hid (HM.out.drew.below hb5 hgM)
          have hB5 : Below w.heap.size w w5 := hbr.drew.trans (hb5.mono hbr.size)
          have HWL : Unit → (workBlock (absorb j S1 M) ((M.drop (64 * j)).take 64)).length = 8 := fun _ => by rw [workBlock_length, HSJ.out]
          have HN : Unit → workBlock (absorb j S1 M) ((M.drop (64 * j)).take 64) = absorb (j + 1) S1 M := fun _ => (absorb_snoc j S1 M).symm
          clear HA HZ HM hb5 hbr
          generalize workBlock (absorb j S1 M) ((M.drop (64 * j)).take 64) = S at *
          go_simp
          iterate 1 (first | go_values | go_skip | go_guarded | go_step | go_upon)
          refine wpList_store_row rfl _ _ _ rfl s3 (wcs S) rfl rfl _ _ HA5.out (by rw [wcs_size, HWL ()]; kernel_rfl) (by rw [wcs_size, wcs_size, HWL (), HSJ.out]) (wcs_one _) ?_
          obtain ⟨w6, hw6⟩ : ∃ w6, w5.setRow s3 (wcs S) = w6 := ⟨_, rfl⟩
          have HA6 := Lib.hid (show Arr w6 s3 30 (wcs (absorb (j + 1) S1 M)) by rw [← hw6, ← HN ()]; exact HA5.out.row _)
          have HZ6 := Lib.hid (show Arr w6 w.heap.size 23 (bcs (zs 32)) by rw [← hw6]; exact HZ5.out.rowOther _ _ (by omega))
          have HM6 := Lib.hid (show Arr w6 g 5 (bcs M) by rw [← hw6]; exact HM5.out.rowOther _ _ (by omega))
          have hB6 : Below w.heap.size w w6 := by rw [← hw6]; exact Below.setRow hB5 (by omega) _
          rw [hw6]
          clear hw6 HA5 HZ5 hB5 HM5
          go_simp
          go_wp2_with fail
          go_roundw
          case rel => exact ⟨j + 1, A2, c3 - 64, by omega, by rw [show E - 64 * (j + 1) = E - 64 * j - 64 by omega], by omega, HAd2, HM6, HA6, HZ6, hB6⟩
          case measure => show E - 64 * j - 64 < E - 64 * j; omega
        · have hge0 : decide ((0 : Int) < ((E - 64 * j : Nat) : Int)) = false := by simp; omega
          have hge1 : decide (0 < E - 64 * j) = false := by simpa using hpos
          have HJ : Unit → E / 64 = j := fun _ => by omega
          go_wp2_with (refine wpList_load_row rfl _ _ rfl s3 rfl _ _ _ _ HA.out Tryd.underlying30 rfl (by rw [wcs_size, HSJ.out]; kernel_rfl) ?_)
          refine (seatbytes_any (absorb j S1 M) wr HSJ.out).mono ?_
          rintro e w4 ⟨rfl, hb4⟩
          have HZ4 := Lib.hid (HZ.out.below hb4 HZ.out.lt)
          have hB4 : Below w.heap.size w w4 := hbr.trans (hb4.mono hbr.size)
          have HBL : Unit → (seatB (absorb j S1 M)).length = 32 := fun _ => by rw [seatB_length, HSJ.out]
          rw [← HJ (), ← HFIN ()]
          rw [← HJ (), ← HFIN ()] at HBL
          clear HZ hbr hb4 HA HM
          obtain ⟨H, HH⟩ : ∃ H, Unit → sha l = H := ⟨_, fun _ => rfl⟩
          rw [HH ()]
          rw [HH ()] at HBL
          go_simp
          iterate 1 (first | go_values | go_skip | go_guarded | go_step | go_upon)
          refine wpList_store_row rfl _ _ _ rfl w.heap.size (bcs H) rfl rfl _ _ HZ4.out (by rw [bcs_size, HBL ()]; kernel_rfl) (by rw [bcs_size, bcs_size, HBL ()]; rfl) (bcs_one _) ?_
          go_simp
          go_wp2_with fail
          exact bodyPost_ret (v := .agg (bcs H)) (results_cell_row rfl _ _ w.heap.size _ _ _ _ rfl (HZ4.out.row _) Tryd.underlying23 rfl (by rw [bcs_size, HBL ()]; kernel_rfl)) rfl ⟨by rw [HH ()], Below.setRow hB4 (Nat.le_refl _) _⟩
end Go.Proofs.YtgdcjealhbfnaaaDoor

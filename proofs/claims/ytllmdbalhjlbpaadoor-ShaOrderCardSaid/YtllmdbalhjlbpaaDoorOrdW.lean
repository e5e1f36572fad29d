/-
  The walk of ShaOrder: it answers true, and nothing that was there has turned.
-/
import Derived.Test.YtllmdbalhjlbpaaDoorShaQ
import Derived.Test.YtllmdbalhjlbpaaDoorOrdM
import Derived.Deep.RegionHeld3
import Derived.Deep.QuietTactic
import Derived.BigQuiet
import Derived.Lib.Walk
import Derived.Lib.Bytealg
namespace Go.Proofs.YtllmdbalhjlbpaaDoor
open Go.RowKit

set_option maxHeartbeats 400000 in
set_option maxRecDepth 100000 in
theorem compare_in (s t : ByteArray) (w : World) :
    Calls Tryd.prog 74 #[.string s, .string t] w fun e w' => e = .returned (.int .i64 (Lib.compareBytes s.data.toList t.data.toList)) ∧ w = w' := by
  go_enter Tryd.func74, Tryd.ntmps74
  go_wp2
  rw [run_callFunc_extern Tryd.func88 (by kernel_rfl) (by kernel_rfl) (by kernel_rfl) (e := Extern.BytealgCompare.compare) (by kernel_rfl), Lib.run_compareString]
  simp only [Result.andThen]
  rw [Oper.upon_value]
  go_wp2
  go_ret
  exact ⟨rfl, rfl⟩
set_option maxHeartbeats 400000 in
set_option maxRecDepth 100000 in
theorem compare_any (s t : ByteArray) (w : World) :
    Calls Tryd.prog 41 #[.string s, .string t] w fun e w' => e = .returned (.int .i64 (Lib.compareBytes s.data.toList t.data.toList)) ∧ w = w' := by
  have C := Lib.hid (compare_in s t w)
  go_enter Tryd.func41, Tryd.ntmps41
  go_wp2_with fail
  refine C.out.mono ?_
  rintro e w' ⟨rfl, rfl⟩
  go_wp2_with fail
  go_ret
  exact ⟨rfl, rfl⟩
set_option maxHeartbeats 400000 in
set_option maxRecDepth 100000 in
theorem indexbyte_in (s : ByteArray) (c : Int) (w : World) :
    Calls Tryd.prog 75 #[.string s, .int .u8 c] w fun e w' => e = .returned (.int .i64 (Lib.indexByte s.data.toList c.toNat.toUInt8)) ∧ w = w' := by
  go_enter Tryd.func75, Tryd.ntmps75
  go_wp2
  rw [run_callFunc_extern Tryd.func89 (by kernel_rfl) (by kernel_rfl) (by kernel_rfl) (e := Extern.BytealgIndexByte.indexByte) (by kernel_rfl), Lib.run_indexByteString]
  simp only [Result.andThen]
  rw [Oper.upon_value]
  go_wp2
  go_ret
  exact ⟨rfl, rfl⟩
set_option maxHeartbeats 400000 in
set_option maxRecDepth 100000 in
theorem indexbyte_any (s : ByteArray) (c : Int) (w : World) :
    Calls Tryd.prog 42 #[.string s, .int .u8 c] w fun e w' => e = .returned (.int .i64 (Lib.indexByte s.data.toList c.toNat.toUInt8)) ∧ w = w' := by
  have C := Lib.hid (indexbyte_in s c w)
  go_enter Tryd.func42, Tryd.ntmps42
  go_wp2_with fail
  refine C.out.mono ?_
  rintro e w' ⟨rfl, rfl⟩
  go_wp2_with fail
  go_ret
  exact ⟨rfl, rfl⟩

set_option maxRecDepth 100000 in
theorem run_index_text (W : World) (s : ByteArray) (i : Nat) (x : UInt8) (z : Int) (hz : z = (i : Int)) (h : s.data.toList[i]? = some x) :
    (Instr.index 9 (.string s) (.int .i64 z)).run Tryd.prog W = .ok (.int .u8 (x.toNat : Int)) W := by
  subst hz
  have hi : i < s.size := by
    have := (List.getElem?_eq_some_iff.1 h).1
    rwa [Array.length_toList] at this
  rw [run_index_string W 9 s .i64 (i : Int) Tryd.underlying9, dif_pos ⟨by omega, by omega⟩]
  have e : s[((i : Int)).toNat]'(by omega) = x := by
    have := (List.getElem?_eq_some_iff.1 h).2
    rw [← this]; rfl
  rw [e]

set_option maxHeartbeats 1600000 in
set_option maxRecDepth 100000 in
theorem order_walk (g h : List UInt8) (w : World) (hg : g.length = 32) (hh : h.length = 32) (ht : TabS w) :
    Calls Tryd.prog 7 #[.agg (bcs g), .agg (bcs h)] w fun e w' => e = .returned (.bool true) ∧ Below w.heap.size w w' := by
  have HG := Lib.hid hg
  have HH := Lib.hid hh
  have HT := Lib.hid ht
  have hp := ht.pos
  have HE := Lib.hid (compare_hex g h)
  obtain ⟨s, HS⟩ : ∃ s : ByteArray, Unit → (⟨(hexB g).toArray⟩ : ByteArray) = s := ⟨_, fun _ => rfl⟩
  obtain ⟨t, HS2⟩ : ∃ s : ByteArray, Unit → (⟨(hexB h).toArray⟩ : ByteArray) = s := ⟨_, fun _ => rfl⟩
  obtain ⟨sg, HSG⟩ : ∃ s : ByteArray, Unit → (⟨g.toArray⟩ : ByteArray) = s := ⟨_, fun _ => rfl⟩
  obtain ⟨sh, HSH⟩ : ∃ s : ByteArray, Unit → (⟨h.toArray⟩ : ByteArray) = s := ⟨_, fun _ => rfl⟩
  have hss : s.size = 64 := by rw [← HS ()]; show (hexB g).toArray.size = 64; rw [List.size_toArray, hexB_length, hg]
  have hst : t.size = 64 := by rw [← HS2 ()]; show (hexB h).toArray.size = 64; rw [List.size_toArray, hexB_length, hh]
  have HSS := Lib.hid hss
  have HST := Lib.hid hst
  obtain ⟨cg, HCG⟩ : ∃ cs, Unit → bvs g = cs := ⟨_, fun _ => rfl⟩
  obtain ⟨ch, HCH⟩ : ∃ cs, Unit → bvs h = cs := ⟨_, fun _ => rfl⟩
  have CX := fun W : World => Lib.hid (show Calls Tryd.prog 39 #[.agg cg.toArray] W fun e w' => e = .returned (.string s) ∧ Below W.heap.size W w' by
    have := hex_any g W hg
    rw [HS (), show bcs g = cg.toArray from by rw [← HCG ()]; rfl] at this
    exact this)
  have CY := fun W : World => Lib.hid (show Calls Tryd.prog 39 #[.agg ch.toArray] W fun e w' => e = .returned (.string t) ∧ Below W.heap.size W w' by
    have := hex_any h W hh
    rw [HS2 (), show bcs h = ch.toArray from by rw [← HCH ()]; rfl] at this
    exact this)
  obtain ⟨W0, hW0⟩ : ∃ W, (w.alloc (.cells (bcs g) 51)).alloc (.cells (bcs h) 51) = W := ⟨_, rfl⟩
  have hA0 : Arr W0 w.heap.size 51 (bcs g) := by rw [← hW0]; exact (Arr.new _ _ _).alloc _
  have hB0 : Arr W0 (w.heap.size + 1) 51 (bcs h) := by rw [← hW0]; exact Arr.newAt _ _ _ _ (by simp)
  have hbel : Below w.heap.size w W0 := by rw [← hW0]; exact ((Below.refl _ _).alloc (Nat.le_refl _) _).alloc (by simp) _
  have HA := Lib.hid hA0
  have HB := Lib.hid hB0
  have hz1 : w.heap.size < W0.heap.size := hA0.lt
  have hz2 : w.heap.size + 1 < W0.heap.size := hB0.lt
  clear ht hg hh hss hst hA0 hB0
  go_enter Tryd.func7, Tryd.ntmps7
  go_wp2_with fail
  have hcgl : cg.length = 32 := by rw [← HCG (), bvs_length, HG.out]
  have hchl : ch.length = 32 := by rw [← HCH (), bvs_length, HH.out]
  have hcg1 : ∀ v ∈ cg, v.oneCell' = true := by rw [← HCG ()]; exact bvs_oneCell _
  have hch1 : ∀ v ∈ ch, v.oneCell' = true := by rw [← HCH ()]; exact bvs_oneCell _
  have hcu := Tryd.underlying51
  have hcgi : (Tryd.prog.info? 51).map (·.size) = some cg.length := by rw [hcgl]; kernel_rfl
  have hchi : (Tryd.prog.info? 51).map (·.size) = some ch.length := by rw [hchl]; kernel_rfl
  have HRG := Lib.hid (show W0.rangeAt w.heap.size 0 cg from HA.out.range (by rw [← HCG ()]; simp [bcs]))
  have HRH := Lib.hid (show W0.rangeAt (w.heap.size + 1) 0 ch from HB.out.range (by rw [← HCH ()]; simp [bcs]))
  have hA' := HA.out
  have hB' := HB.out
  generalize hb0 : w.heap.size = b0 at *
  clear hW0
  -- the region of two loads and two calls, its loads taken first by hand
  refine wp_region_held_drew (S := fun w' => w'.rangeAt b0 0 cg ∧ w'.rangeAt (b0 + 1) 0 ch) (by kernel_rfl) ⟨HRG.out, HRH.out⟩ (fun hHeld => ?_)
  refine wpAnyH_take (i := 0) (oi := _) (v := _) rfl (by kernel_rfl) (by kernel_rfl) (by kernel_rfl) (fun _ _ _ h => h) (yieldsIf_load_mid (by rfl) _ _ rfl b0 0 rfl cg _ (fun _ h => h.1) hcu rfl hcgi) hHeld ?_
  try simp only [Act.put, List.getElem_toArray, List.getElem_cons_zero, List.setIfInBounds_toArray, List.set_cons_zero, List.set_cons_succ]
  refine wpAnyH_take (i := 2) (oi := _) (v := _) rfl (by kernel_rfl) (by kernel_rfl) (by kernel_rfl) (fun _ _ _ h => h) (yieldsIf_load_mid (by rfl) _ _ rfl (b0 + 1) 0 rfl ch _ (fun _ h => h.2) hcu rfl hchi) hHeld ?_
  try simp only [Act.put, List.getElem_toArray, List.getElem_cons_zero, List.getElem_cons_succ, List.setIfInBounds_toArray, List.set_cons_zero, List.set_cons_succ]
  clear hHeld
  refine wpAnyH_ready (rs := [1]) (by kernel_rfl) (by simp) ?_
  refine AllReadyH.cons (o := _) rfl (fun K hK => ?_) AllReadyH.nil
  rw [if_pos (by rfl)]
  go_wp2_with fail
  refine (CX _).out.mono ?_
  rintro e w2 ⟨rfl, hb2'⟩
  have hb2 : Below W0.heap.size W0 w2 := ((Below.refl _ _).drew).trans hb2'
  refine hK.out _ _ ⟨World.rangeAt_below HRG.out hb2 hz1, World.rangeAt_below HRH.out hb2 hz2⟩ (fun hHeld => ?_)
  clear hK K hHeld hb2'
  try simp only [Act.put, List.getElem_toArray, List.getElem_cons_zero, List.getElem_cons_succ, List.setIfInBounds_toArray, List.set_cons_zero, List.set_cons_succ]
  refine wpAnyH_ready (rs := [3]) (by kernel_rfl) (by simp) ?_
  refine AllReadyH.cons (o := _) rfl (fun K hK => ?_) AllReadyH.nil
  rw [if_pos (by rfl)]
  go_wp2_with fail
  refine (CY _).out.mono ?_
  rintro e w3 ⟨rfl, hb3'⟩
  have hb3 : Below W0.heap.size W0 w3 := hb2.trans (hb3'.mono hb2.size)
  refine hK.out _ _ ⟨World.rangeAt_below HRG.out hb3 hz1, World.rangeAt_below HRH.out hb3 hz2⟩ (fun hHeld => ?_)
  clear hK K hb3'
  try simp only [Act.put, List.getElem_toArray, List.getElem_cons_zero, List.getElem_cons_succ, List.setIfInBounds_toArray, List.set_cons_zero, List.set_cons_succ]
  refine wpAnyH_take (i := 4) (oi := _) (v := .string s) rfl (by kernel_rfl) (by kernel_rfl) (by kernel_rfl) (fun _ _ _ h => h) (Or.inl ⟨by rfl, fun w hSw => by rfl⟩) hHeld ?_
  try simp only [Act.put, List.getElem_toArray, List.getElem_cons_zero, List.getElem_cons_succ, List.setIfInBounds_toArray, List.set_cons_zero, List.set_cons_succ]
  refine wpAnyH_take (i := 5) (oi := _) (v := .string t) rfl (by kernel_rfl) (by kernel_rfl) (by kernel_rfl) (fun _ _ _ h => h) (Or.inl ⟨by rfl, fun w hSw => by rfl⟩) hHeld ?_
  try simp only [Act.put, List.getElem_toArray, List.getElem_cons_zero, List.getElem_cons_succ, List.setIfInBounds_toArray, List.set_cons_zero, List.set_cons_succ]
  refine wpAnyH_done (by kernel_rfl) ?_ _
  clear hHeld
  go_wp2_with fail
  have hb3w : Below b0 w w3 := hbel.trans (hb3.mono (by omega))
  have HA3 := Lib.hid (show Arr w3 b0 51 (bcs g) from HA.out.below hb3 hz1)
  have HB3 := Lib.hid (show Arr w3 (b0 + 1) 51 (bcs h) from HB.out.below hb3 hz2)
  clear hA' hB' HRG HRH HA HB CX CY hb2 hb3 hbel hcg1 hch1 hcgi hchi hcgl hchl
  have hn1 : ((s.size : Int) != 64) = false := by rw [HSS.out]; rfl
  have hn2 : ((t.size : Int) != 64) = false := by rw [HST.out]; rfl
  have hcv1 : ∀ q, (convert 23 9 (.slice (some ⟨b0, 0, none⟩) 32 32)).run Tryd.prog (w3.drewN q) = .ok (.string sg) (w3.drewN q) := fun q => by
    have := str_rule (n := 32) 32 (by simpa using HA3.out.drewN q |>.rd 0 32 (by rw [HG.out]) : Rd (w3.drewN q) (b0 + 1) (some ⟨b0, 0, none⟩) 32 g)
    rw [this, HSG ()]
  have hcv2 : ∀ q, (convert 23 9 (.slice (some ⟨b0 + 1, 0, none⟩) 32 32)).run Tryd.prog (w3.drewN q) = .ok (.string sh) (w3.drewN q) := fun q => by
    have := str_rule (n := 32) 32 (by simpa using HB3.out.drewN q |>.rd 0 32 (by rw [HH.out]) : Rd (w3.drewN q) (b0 + 1 + 1) (some ⟨b0 + 1, 0, none⟩) 32 h)
    rw [this, HSH ()]
  obtain ⟨D, HD⟩ : ∃ D, Unit → Lib.compareBytes g h = D := ⟨_, fun _ => rfl⟩
  have hDD : (D != D) = false := by simp
  have CC1 := fun W : World => Lib.hid (show Calls Tryd.prog 41 #[.string s, .string t] W fun e w' => e = .returned (.int .i64 D) ∧ w' = W from by
    refine (compare_any s t W).mono ?_
    rintro e w' ⟨rfl, rfl⟩
    refine ⟨?_, rfl⟩
    rw [← HS (), ← HS2 (), ← HD (), ← HE.out])
  have CC2 := fun W : World => Lib.hid (show Calls Tryd.prog 41 #[.string sg, .string sh] W fun e w' => e = .returned (.int .i64 D) ∧ w' = W from by
    refine (compare_any sg sh W).mono ?_
    rintro e w' ⟨rfl, rfl⟩
    refine ⟨?_, rfl⟩
    rw [← HSG (), ← HSH (), ← HD ()])
  have hc3 := HA3.out
  go_quiet ((first
    | (go_at_call_of 41 (Value.string s); exact Calls.quiet_of_same (CC1 _).out)
    | (go_at_call_of 41 (Value.string sg); exact Calls.quiet_of_same (CC2 _).out)))
  have HA4 := Lib.hid (show Arr (w3.drewN nq) b0 51 (bcs g) from HA3.out.drewN nq)
  have hb4 : Below b0 w (w3.drewN nq) := Below.drewN hb3w nq
  clear HA3 HB3 hcv1 hcv2 hb3w hc3 CC1 CC2 hn1 hn2 hDD HCH HCG hcu hz1 hz2
  generalize w3.drewN nq = w4 at *
  go_wp2_with (refine wpList_load_row rfl _ _ rfl b0 rfl _ _ _ _ HA4.out Tryd.underlying51 rfl (by rw [bcs_size, HG.out]; kernel_rfl) ?_)
  have HQ := Lib.hid (show ∀ i, i < 32 → s.data.toList[2 * i]? = some (hexDigit ((g.getD i 0).toNat / 16)) ∧ s.data.toList[2 * i + 1]? = some (hexDigit ((g.getD i 0).toNat % 16)) from fun i hi => by
    have := hexB_at g i (by rw [HG.out]; exact hi)
    rw [← HS ()]
    exact this)
  go_loopw [35] (fun i wr => ∃ k q : Nat, k ≤ 32 ∧ i = .int .i64 (k : Int) ∧ wr = w4.drewN q) (fun i _ => 32 - (intOf i).toNat)
  case atStart => exact ⟨0, 0, by omega, rfl, rfl⟩
  case round =>
    obtain ⟨k, q, hk, rfl, rfl⟩ := hrel
    by_cases hlt : k < 32
    · have hidx := fun W => run_index_bytes W (bcs g) k _ hlt (bcs_at g k (by rw [HG.out]; exact hlt))
      obtain ⟨hq1, hq2⟩ := HQ.out k hlt
      generalize g.getD k 0 = x at *
      have hx : x.toNat < 256 := x.toNat_lt
      obtain ⟨m1, HM1⟩ : ∃ m, Unit → x.toNat / 16 = m := ⟨_, fun _ => rfl⟩
      obtain ⟨m2, HM2⟩ : ∃ m, Unit → x.toNat % 16 = m := ⟨_, fun _ => rfl⟩
      have l1 : m1 < 16 := by rw [← HM1 ()]; omega
      have l2 : m2 < 16 := by rw [← HM2 ()]; omega
      have HX : Unit → 16 * m1 + m2 = x.toNat := fun _ => by rw [← HM1 (), ← HM2 ()]; omega
      rw [HM1 ()] at hq1
      rw [HM2 ()] at hq2
      have hix1 := fun W => run_index_text W s (2 * k) _ (2 * (k : Int)) (by omega) hq1
      have hix2 := fun W => run_index_text W s (2 * k + 1) _ (2 * (k : Int) + 1) (by omega) hq2
      have C1 := fun W : World => Lib.hid (show Calls Tryd.prog 42 #[.string ⟨#[48, 49, 50, 51, 52, 53, 54, 55, 56, 57, 97, 98, 99, 100, 101, 102]⟩, .int .u8 ((hexDigit m1).toNat : Int)] W fun e w' => e = .returned (.int .i64 (m1 : Int)) ∧ w' = W from by
        refine (indexbyte_any _ _ W).mono ?_
        rintro e w' ⟨rfl, rfl⟩
        refine ⟨?_, rfl⟩
        have := index_digit m1 l1
        rw [show ((hexDigit m1).toNat : Int).toNat.toUInt8 = hexDigit m1 by simp]
        rw [← this]
        rfl)
      have C2 := fun W : World => Lib.hid (show Calls Tryd.prog 42 #[.string ⟨#[48, 49, 50, 51, 52, 53, 54, 55, 56, 57, 97, 98, 99, 100, 101, 102]⟩, .int .u8 ((hexDigit m2).toNat : Int)] W fun e w' => e = .returned (.int .i64 (m2 : Int)) ∧ w' = W from by
        refine (indexbyte_any _ _ W).mono ?_
        rintro e w' ⟨rfl, rfl⟩
        refine ⟨?_, rfl⟩
        have := index_digit m2 l2
        rw [show ((hexDigit m2).toNat : Int).toNat.toUInt8 = hexDigit m2 by simp]
        rw [← this]
        rfl)
      have e1 : IntKind.i64.wrap (2 * (k : Int)) = 2 * (k : Int) := IntWalk.i64_in _ (by omega)
      have e2 : IntKind.i64.wrap (2 * (k : Int) + 1) = 2 * (k : Int) + 1 := IntWalk.i64_in _ (by omega)
      generalize (hexDigit m1).toNat = c1 at *
      generalize (hexDigit m2).toNat = c2 at *
      clear hq1 hq2
      go_wp2_with fail
      obtain ⟨w5, HW5⟩ : ∃ w5, Unit → w4.drewN q = w5 := ⟨_, fun _ => rfl⟩
      rw [HW5 ()]
      have e8 : IntKind.u8.wrap (16 * (m1 : Int) + (m2 : Int)) = (x.toNat : Int) := by rw [IntKind.wrap_u8, ← HX ()]; omega
      have e9 : ((x.toNat : Int) != (x.toNat : Int)) = false := by simp
      go_quiet ((first
        | (go_at_call_of 42 (Value.int IntKind.u8 (c1 : Int)); exact Calls.quiet_of_same (C1 _).out)
        | (go_at_call_of 42 (Value.int IntKind.u8 (c2 : Int)); exact Calls.quiet_of_same (C2 _).out)))
      have HWQ : Unit → w5.drewN nq = w4.drewN (q + nq) := fun _ => by rw [← HW5 (), World.drewN_drewN]
      generalize w5.drewN nq = w6 at *
      go_wp2_with fail
      go_roundw
      case rel => exact ⟨k + 1, q + nq, by omega, by go_num, HWQ ()⟩
      case measure => simp [intOf]; omega
    · have hge : decide ((k : Int) < 32) = false := by simp; omega
      have CA := Lib.hid (awake_sha (w4.drewN q) (HT.out.keep (Below.drewN hb4 q) (by omega)))
      have hB := Below.drewN hb4 q
      generalize w4.drewN q = w5 at *
      go_wp2_with fail
      refine CA.out.mono ?_
      rintro e w6 ⟨rfl, hb6⟩
      go_wp2_with fail
      go_ret
      exact ⟨rfl, hb0 ▸ hB.trans (hb6.mono (by have := hB.size; omega))⟩
end Go.Proofs.YtllmdbalhjlbpaaDoor

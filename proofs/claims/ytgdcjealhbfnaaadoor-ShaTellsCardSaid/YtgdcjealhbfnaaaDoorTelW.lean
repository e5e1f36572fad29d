/-
  The walk of ShaTells: it answers true, and nothing that was there has turned.
-/
import Derived.Test.YtgdcjealhbfnaaaDoorRfN
import Derived.Test.YtgdcjealhbfnaaaDoorRfJ
import Derived.Test.YtgdcjealhbfnaaaDoorEql
import Derived.Deep.RegionHeld3
namespace Go.Proofs.YtgdcjealhbfnaaaDoor
open Go.RowKit

theorem of_list (w : World) (l : List UInt8) (n : Nat) (hn : l.length = n) (s : ByteArray) (hs : Unit → ⟨l.toArray⟩ = s) : ∃ g c w', (convert 9 22 (.string s)).run Tryd.prog w = .ok (.slice (some ⟨g, 0, none⟩) n c) w' ∧ n ≤ c ∧
    Rd w' w'.heap.size (some ⟨g, 0, none⟩) n l ∧ Below w.heap.size w w' := by
  obtain ⟨c, w', h1, h2, h3, h4⟩ := of_string w s
  have e1 : s.size = n := by rw [← hs (), ← hn]; simp [ByteArray.size]
  have e2 : s.data.toList = l := by rw [← hs ()]
  rw [e1] at h1 h2 h3
  rw [e2] at h3
  exact ⟨_, c, w', h1, h2, h3, h4⟩
set_option maxHeartbeats 1600000 in
set_option maxRecDepth 100000 in
theorem tells_far (A A2 : Option Addr) (n c n2 c2 : Nat) (lh : List UInt8) (w : World) (hh : lh.length = 32) (hn : 1500 < n ∨ 250 < n2) (ht : TabS w) :
    Calls Tryd.prog 4 #[.slice A n c, .slice A2 n2 c2, .agg (bcs lh)] w fun e w' => e = .returned (.bool true) ∧ Below w.heap.size w w' := by
  have HL := Lib.hid hh
  obtain ⟨wa, hwa⟩ : ∃ wa, w.alloc (.cells (bcs lh) 23) = wa := ⟨_, rfl⟩
  have hba : Below w.heap.size w wa := by rw [← hwa]; exact (Below.refl _ _).alloc (Nat.le_refl _) _
  have CA := Lib.hid (awake_sha wa (ht.keep hba ht.pos))
  clear ht hh
  by_cases h1 : 1500 < n
  · go_enter Tryd.func4, Tryd.ntmps4
    go_wp2_with fail
    refine CA.out.mono ?_
    rintro e w1 ⟨rfl, hb⟩
    go_wp2_with fail
    go_ret
    exact ⟨rfl, hba.trans (hb.mono hba.size)⟩
  · have h2 : 250 < n2 := by omega
    go_enter Tryd.func4, Tryd.ntmps4
    go_wp2_with fail
    refine CA.out.mono ?_
    rintro e w1 ⟨rfl, hb⟩
    go_wp2_with fail
    go_ret
    exact ⟨rfl, hba.trans (hb.mono hba.size)⟩

set_option maxHeartbeats 4000000 in
set_option maxRecDepth 100000 in
theorem tells_near (A A2 : Option Addr) (n c n2 c2 : Nat) (l m lh : List UInt8) (w : World) (h : Rd w w.heap.size A n l) (hn : n ≤ 1500) (h2 : Rd w w.heap.size A2 n2 m) (hn2 : n2 ≤ 250) (hh : lh.length = 32) (ht : TabS w) :
    Calls Tryd.prog 4 #[.slice A n c, .slice A2 n2 c2, .agg (bcs lh)] w fun e w' => e = .returned (.bool true) ∧ Below w.heap.size w w' := by
  obtain ⟨B, hB⟩ : ∃ B, w.heap.size = B := ⟨_, rfl⟩
  obtain ⟨wa, hwa⟩ : ∃ wa, w.alloc (.cells (bcs lh) 23) = wa := ⟨_, rfl⟩
  have hba : Below B w wa := by rw [← hwa, ← hB]; exact (Below.refl _ _).alloc (Nat.le_refl _) _
  have hza : B < wa.heap.size := by rw [← hwa, ← hB]; simp
  have hA : Arr wa B 23 (bcs lh) := by rw [← hwa, ← hB]; exact Arr.new _ _ _
  have HT := Lib.hid (ht.keep hba (by rw [← hB]; exact ht.pos))
  have HP := Lib.hid HT.out.pos
  have HTB := Lib.hid (show 0 < B by rw [← hB]; exact ht.pos)
  have HD := Lib.hid (show Rd wa B A n l by rw [hB] at h; exact h.below hba)
  have HD2 := Lib.hid (show Rd wa B A2 n2 m by rw [hB] at h2; exact h2.below hba)
  have HBB := Lib.hid hB
  have HBA := Lib.hid hba
  have HLH := Lib.hid hh
  have HLN := Lib.hid h.len
  have HLM := Lib.hid h2.len
  obtain ⟨SL, HSL⟩ : ∃ s : ByteArray, Unit → (⟨l.toArray⟩ : ByteArray) = s := ⟨_, fun _ => rfl⟩
  obtain ⟨SM, HSM⟩ : ∃ s : ByteArray, Unit → (⟨m.toArray⟩ : ByteArray) = s := ⟨_, fun _ => rfl⟩
  obtain ⟨SX, HSX⟩ : ∃ s : ByteArray, Unit → (⟨(hexB lh).toArray⟩ : ByteArray) = s := ⟨_, fun _ => rfl⟩
  obtain ⟨ch, HCH⟩ : ∃ cs, Unit → bvs (sha l) = cs := ⟨_, fun _ => rfl⟩
  obtain ⟨ck, HCK⟩ : ∃ cs, Unit → bvs (hmac m l) = cs := ⟨_, fun _ => rfl⟩
  obtain ⟨cx, HCX⟩ : ∃ cs, Unit → bvs lh = cs := ⟨_, fun _ => rfl⟩
  have HA := Lib.hid (show Arr wa B 23 cx.toArray by rw [← HCX ()]; exact hA)
  have SR : ∀ (D : Option Addr) (k d : Nat) (x : List UInt8) (s : ByteArray) (W : World), (Unit → (⟨x.toArray⟩ : ByteArray) = s) → Rd W W.heap.size D k x → (convert 22 9 (.slice D k d)).run Tryd.prog W = .ok (.string s) W := fun D k d x s W hs hr => by
    rw [← hs ()]; exact str_rule d hr
  -- what the calls answer, at whatever world behind wa
  have OF : ∀ (D : Option Addr) (d : Nat) (W : World), Rd W W.heap.size D n l → n ≤ d → Below B wa W → Hid (Calls Tryd.prog 5 #[.slice D n d] W fun e w' => e = .returned (.agg ch.toArray) ∧ Below W.heap.size W w') := by
    intro D d W hr hd hb
    refine (of_any D n d l W hr hd (by omega) (HT.out.keep hb HTB.out)).mono ?_
    rintro e w' ⟨rfl, hb'⟩
    exact ⟨by rw [← HCH ()]; rfl, hb'⟩
  have RF : ∀ (W : World), Below B wa W → Hid (Calls Tryd.prog 6 #[.slice A n c] W fun e w' => e = .returned (.agg ch.toArray) ∧ Below W.heap.size W w') := by
    intro W hb
    refine (rof_any A n c l W ((HD.out.below hb).more (by have := hb.size; omega)) (by omega)).mono ?_
    rintro e w' ⟨rfl, hb'⟩
    exact ⟨by rw [← HCH ()]; rfl, hb'⟩
  have HM : ∀ (D E : Option Addr) (d e : Nat) (W : World), Rd W W.heap.size D n2 m → n2 ≤ d → Rd W W.heap.size E n l → Below B wa W → Hid (Calls Tryd.prog 7 #[.slice D n2 d, .slice E n e] W fun e w' => e = .returned (.agg ck.toArray) ∧ Below W.heap.size W w') := by
    intro D E d e W hr hd hr2 hb
    refine (hmac_any D E n2 d n e m l W hr hd (by omega) hr2 (by omega) (HT.out.keep hb HTB.out)).mono ?_
    rintro e w' ⟨rfl, hb'⟩
    exact ⟨by rw [← HCK ()]; rfl, hb'⟩
  have RM : ∀ (W : World), Below B wa W → Hid (Calls Tryd.prog 8 #[.slice A2 n2 c2, .slice A n c] W fun e w' => e = .returned (.agg ck.toArray) ∧ Below W.heap.size W w') := by
    intro W hb
    refine (rhmac_any A2 A n2 c2 n c m l W ((HD2.out.below hb).more (by have := hb.size; omega)) (by omega) ((HD.out.below hb).more (by have := hb.size; omega)) (by omega)).mono ?_
    rintro e w' ⟨rfl, hb'⟩
    exact ⟨by rw [← HCK ()]; rfl, hb'⟩
  have HX : ∀ (W : World), Hid (Calls Tryd.prog 10 #[.agg cx.toArray] W fun e w' => e = .returned (.string SX) ∧ Below W.heap.size W w') := by
    intro W
    rw [← HCX ()]
    refine (hex_any lh W HLH.out).mono ?_
    rintro e w' ⟨rfl, hb'⟩
    exact ⟨by rw [← HSX ()], hb'⟩
  have RX : ∀ (W : World), Hid (Calls Tryd.prog 11 #[.agg cx.toArray] W fun e w' => e = .returned (.string SX) ∧ Below W.heap.size W w') := by
    intro W
    rw [← HCX ()]
    refine (rhex_any lh W HLH.out).mono ?_
    rintro e w' ⟨rfl, hb'⟩
    exact ⟨by rw [← HSX ()], hb'⟩
  have N1 := fun W : World => eql_hash ch (sha l) (HCH ()) (sha_length _) W
  have N2 := fun W : World => eql_hash ck (hmac m l) (HCK ()) (sha_length _) W
  have HCXL : Unit → cx.length = 32 := fun _ => by rw [← HCX (), bvs_length, HLH.out]
  clear h h2 ht hh hA hB hba
  have HBX : Unit → bcs lh = cx.toArray := fun _ => by rw [← HCX ()]; rfl
  rw [HBX ()] at hwa ⊢
  go_enter Tryd.func4, Tryd.ntmps4
  have HBB2 := HBB.out
  go_wp2_with fail
  clear HBB2
  have hwz : wa.drew.heap.size = wa.heap.size := rfl
  obtain ⟨u0, HU0⟩ : ∃ u, Hid (wa.drew = u) := ⟨_, rfl⟩
  have hu0 : Below wa.heap.size wa u0 := by rw [← HU0.out]; exact (Below.refl _ _).drew
  have hS0 : Rd u0 B A n l ∧ Rd u0 B A2 n2 m := ⟨HD.out.below (hu0.mono (by omega)), HD2.out.below (hu0.mono (by omega))⟩
  refine wp_region_held_drew (S := fun W => Rd W B A n l ∧ Rd W B A2 n2 m) (by kernel_rfl) (by rw [HU0.out]; exact hS0) (fun hHeld => ?_)
  rw [HU0.out] at hHeld ⊢
  clear hwz hS0
  refine wpAnyH_take (i := 0) (oi := _) (v := .slice A n c) rfl (by kernel_rfl) (by kernel_rfl) (by kernel_rfl) (fun _ _ _ h => h) (Or.inl ⟨by rfl, fun W _ => by rfl⟩) hHeld ?_
  try simp only [Act.put, List.getElem_toArray, List.getElem_cons_zero, List.setIfInBounds_toArray, List.set_cons_zero, List.set_cons_succ]
  refine wpAnyH_take (i := 1) (oi := _) (v := .string SL) rfl (by kernel_rfl) (by kernel_rfl) (by kernel_rfl) (fun _ _ _ h => h) (Or.inl ⟨by rfl, fun W hS => by have e := str_rule c hS.1; rw [HSL ()] at e; go_simp⟩) hHeld ?_
  try simp only [Act.put, List.getElem_toArray, List.getElem_cons_zero, List.getElem_cons_succ, List.setIfInBounds_toArray, List.set_cons_zero, List.set_cons_succ]
  refine wpAnyH_take (i := 3) (oi := _) (v := .slice A2 n2 c2) rfl (by kernel_rfl) (by kernel_rfl) (by kernel_rfl) (fun _ _ _ h => h) (Or.inl ⟨by rfl, fun W _ => by rfl⟩) hHeld ?_
  try simp only [Act.put, List.getElem_toArray, List.getElem_cons_zero, List.getElem_cons_succ, List.setIfInBounds_toArray, List.set_cons_zero, List.set_cons_succ]
  refine wpAnyH_take (i := 4) (oi := _) (v := .string SM) rfl (by kernel_rfl) (by kernel_rfl) (by kernel_rfl) (fun _ _ _ h => h) (Or.inl ⟨by rfl, fun W hS => by have e := str_rule c2 hS.2; rw [HSM ()] at e; go_simp⟩) hHeld ?_
  try simp only [Act.put, List.getElem_toArray, List.getElem_cons_zero, List.getElem_cons_succ, List.setIfInBounds_toArray, List.set_cons_zero, List.set_cons_succ]
  clear hHeld
  refine wpAnyH_ready (rs := [2, 5]) (by kernel_rfl) (by simp) ?_
  refine AllReadyH.cons (o := _) rfl (fun K hK => ?_) (AllReadyH.cons (o := _) rfl (fun K hK => ?_) AllReadyH.nil)
  case' refine_1 =>
    rw [if_pos (by rfl)]
    obtain ⟨g7, c7, u1, r7, hc7, d7, hbu1⟩ := of_list u0 l n HLN.out SL HSL
    go_wp2_with fail
    have hu1 : Below wa.heap.size wa u1 := hu0.trans (hbu1.mono hu0.size)
    refine hK.out _ _ ⟨HD.out.below (hu1.mono (by omega)), HD2.out.below (hu1.mono (by omega))⟩ (fun hHeld => ?_)
    clear hK K r7
    try simp only [Act.put, List.getElem_toArray, List.getElem_cons_zero, List.getElem_cons_succ, List.setIfInBounds_toArray, List.set_cons_zero, List.set_cons_succ]
    clear hbu1
    refine wpAnyH_take (i := 6) (oi := _) (v := .slice (some ⟨g7, 0, none⟩) n c7) rfl (by kernel_rfl) (by kernel_rfl) (by kernel_rfl) (fun _ _ _ h => h) (Or.inl ⟨by rfl, fun W _ => by rfl⟩) hHeld ?_
    try simp only [Act.put, List.getElem_toArray, List.getElem_cons_zero, List.getElem_cons_succ, List.setIfInBounds_toArray, List.set_cons_zero, List.set_cons_succ]
    clear hHeld
    refine wpAnyH_ready (rs := [5]) (by kernel_rfl) (by simp) ?_
    refine AllReadyH.cons (o := _) rfl (fun K hK => ?_) AllReadyH.nil
    rw [if_pos (by rfl)]
    obtain ⟨g8, c8, u2, r8, hc8, d8, hbu2⟩ := of_list u1 m n2 HLM.out SM HSM
    go_wp2_with fail
    have hu2 : Below wa.heap.size wa u2 := hu1.trans (hbu2.mono hu1.size)
    refine hK.out _ _ ⟨HD.out.below (hu2.mono (by omega)), HD2.out.below (hu2.mono (by omega))⟩ (fun hHeld => ?_)
    have d7 := (d7.below hbu2).more hbu2.size
    clear hK K r8
    try simp only [Act.put, List.getElem_toArray, List.getElem_cons_zero, List.getElem_cons_succ, List.setIfInBounds_toArray, List.set_cons_zero, List.set_cons_succ]
    clear hbu2
  case' refine_2 =>
    rw [if_pos (by rfl)]
    obtain ⟨g8, c8, u1, r8, hc8, d8, hbu1⟩ := of_list u0 m n2 HLM.out SM HSM
    go_wp2_with fail
    have hu1 : Below wa.heap.size wa u1 := hu0.trans (hbu1.mono hu0.size)
    refine hK.out _ _ ⟨HD.out.below (hu1.mono (by omega)), HD2.out.below (hu1.mono (by omega))⟩ (fun hHeld => ?_)
    clear hK K r8
    try simp only [Act.put, List.getElem_toArray, List.getElem_cons_zero, List.getElem_cons_succ, List.setIfInBounds_toArray, List.set_cons_zero, List.set_cons_succ]
    clear hbu1
    clear hHeld
    refine wpAnyH_ready (rs := [2]) (by kernel_rfl) (by simp) ?_
    refine AllReadyH.cons (o := _) rfl (fun K hK => ?_) AllReadyH.nil
    rw [if_pos (by rfl)]
    obtain ⟨g7, c7, u2, r7, hc7, d7, hbu2⟩ := of_list u1 l n HLN.out SL HSL
    go_wp2_with fail
    have hu2 : Below wa.heap.size wa u2 := hu1.trans (hbu2.mono hu1.size)
    refine hK.out _ _ ⟨HD.out.below (hu2.mono (by omega)), HD2.out.below (hu2.mono (by omega))⟩ (fun hHeld => ?_)
    have d8 := (d8.below hbu2).more hbu2.size
    clear hK K r7
    try simp only [Act.put, List.getElem_toArray, List.getElem_cons_zero, List.getElem_cons_succ, List.setIfInBounds_toArray, List.set_cons_zero, List.set_cons_succ]
    clear hbu2
    refine wpAnyH_take (i := 6) (oi := _) (v := .slice (some ⟨g7, 0, none⟩) n c7) rfl (by kernel_rfl) (by kernel_rfl) (by kernel_rfl) (fun _ _ _ h => h) (Or.inl ⟨by rfl, fun W _ => by rfl⟩) hHeld ?_
    try simp only [Act.put, List.getElem_toArray, List.getElem_cons_zero, List.getElem_cons_succ, List.setIfInBounds_toArray, List.set_cons_zero, List.set_cons_succ]
  all_goals
    refine wpAnyH_take (i := 7) (oi := _) (v := .slice (some ⟨g8, 0, none⟩) n2 c8) rfl (by kernel_rfl) (by kernel_rfl) (by kernel_rfl) (fun _ _ _ h => h) (Or.inl ⟨by rfl, fun W _ => by rfl⟩) hHeld ?_
    try simp only [Act.put, List.getElem_toArray, List.getElem_cons_zero, List.getElem_cons_succ, List.setIfInBounds_toArray, List.set_cons_zero, List.set_cons_succ]
    refine wpAnyH_done (by kernel_rfl) ?_ _
    clear hHeld hu1
    have e7 : Hid (Rd u2 u2.heap.size (some ⟨g7, 0, none⟩) n l) := d7
    have e8 : Hid (Rd u2 u2.heap.size (some ⟨g8, 0, none⟩) n2 m) := d8
    clear d7 d8 hu0 HU0
    have HA2 := Lib.hid (HA.out.below hu2 (by omega))
    have hz2 := hu2.size
    have HR0 := Lib.hid (show u2.rangeAt B 0 cx from HA2.out.range (by simp))
    have hBu : B < u2.heap.size := by omega
    have hcu := Tryd.underlying23
    have hci : (Tryd.prog.info? 23).map (·.size) = some cx.length := by rw [HCXL ()]; kernel_rfl
    have OF2 : ∀ W, Below u2.heap.size u2 W → Hid (Calls Tryd.prog 5 #[.slice (some ⟨g7, 0, none⟩) n c7] W fun e w' => e = .returned (.agg ch.toArray) ∧ Below W.heap.size W w') := fun W hb => OF _ c7 W ((e7.out.below hb).more hb.size) hc7 ((hu2.mono (by omega)).trans (hb.mono (by omega)))
    have RF2 : ∀ W, Below u2.heap.size u2 W → _ := fun W hb => RF W ((hu2.mono (by omega)).trans (hb.mono (by omega)))
    have HM2 : ∀ W, Below u2.heap.size u2 W → Hid (Calls Tryd.prog 7 #[.slice (some ⟨g8, 0, none⟩) n2 c8, .slice (some ⟨g7, 0, none⟩) n c7] W fun e w' => e = .returned (.agg ck.toArray) ∧ Below W.heap.size W w') := fun W hb => HM _ _ c8 c7 W ((e8.out.below hb).more hb.size) hc8 ((e7.out.below hb).more hb.size) ((hu2.mono (by omega)).trans (hb.mono (by omega)))
    have RM2 : ∀ W, Below u2.heap.size u2 W → _ := fun W hb => RM W ((hu2.mono (by omega)).trans (hb.mono (by omega)))
    have hub : Below B wa u2 := hu2.mono (by omega)
    clear OF HM RF RM hwa hu2
    go_wp2_with fail
    obtain ⟨w0, HW0⟩ : ∃ u, Hid (u2.drew = u) := ⟨_, rfl⟩
    have hv0 : Below u2.heap.size u2 w0 := by rw [← HW0.out]; exact (Below.refl _ _).drew
    refine wp_region_held_drew (S := fun W => W.rangeAt B 0 cx) (by kernel_rfl) (by rw [HW0.out]; exact World.rangeAt_below HR0.out hv0 hBu) (fun hHeld => ?_)
    rw [HW0.out] at hHeld ⊢
    refine wpAnyH_take (i := 0) (oi := _) (v := .slice (some ⟨g7, 0, none⟩) n c7) rfl (by kernel_rfl) (by kernel_rfl) (by kernel_rfl) (fun _ _ _ h => h) (Or.inl ⟨by rfl, fun W _ => by rfl⟩) hHeld ?_
    try simp only [Act.put, List.getElem_toArray, List.getElem_cons_zero, List.setIfInBounds_toArray, List.set_cons_zero, List.set_cons_succ]
    refine wpAnyH_take (i := 2) (oi := _) (v := .slice A n c) rfl (by kernel_rfl) (by kernel_rfl) (by kernel_rfl) (fun _ _ _ h => h) (Or.inl ⟨by rfl, fun W _ => by rfl⟩) hHeld ?_
    try simp only [Act.put, List.getElem_toArray, List.getElem_cons_zero, List.getElem_cons_succ, List.setIfInBounds_toArray, List.set_cons_zero, List.set_cons_succ]
    clear hHeld
    refine wpAnyH_ready (rs := [1]) (by kernel_rfl) (by simp) ?_
    refine AllReadyH.cons (o := _) rfl (fun K hK => ?_) AllReadyH.nil
    rw [if_pos (by rfl)]
    go_wp2_with fail
    refine (OF2 w0 hv0).out.mono ?_
    rintro e w1 ⟨rfl, hv1'⟩
    have hv1 : Below u2.heap.size u2 w1 := hv0.trans (hv1'.mono hv0.size)
    refine hK.out _ _ (World.rangeAt_below HR0.out hv1 hBu) (fun hHeld => ?_)
    clear hK K hv1'
    try simp only [Act.put, List.getElem_toArray, List.getElem_cons_zero, List.getElem_cons_succ, List.setIfInBounds_toArray, List.set_cons_zero, List.set_cons_succ]
    clear hHeld
    refine wpAnyH_ready (rs := [3]) (by kernel_rfl) (by simp) ?_
    refine AllReadyH.cons (o := _) rfl (fun K hK => ?_) AllReadyH.nil
    rw [if_pos (by rfl)]
    go_wp2_with fail
    refine (RF2 w1 hv1).out.mono ?_
    rintro e w2 ⟨rfl, hv2'⟩
    have hv2 : Below u2.heap.size u2 w2 := hv1.trans (hv2'.mono hv1.size)
    refine hK.out _ _ (World.rangeAt_below HR0.out hv2 hBu) (fun hHeld => ?_)
    clear hK K hv2'
    try simp only [Act.put, List.getElem_toArray, List.getElem_cons_zero, List.getElem_cons_succ, List.setIfInBounds_toArray, List.set_cons_zero, List.set_cons_succ]
    refine wpAnyH_take (i := 4) (oi := _) (v := .bool true) rfl (by kernel_rfl) (by kernel_rfl) (by kernel_rfl) (fun _ _ _ h => h) (Or.inl ⟨by rfl, fun W _ => by have e := N1 W; go_simp⟩) hHeld ?_
    try simp only [Act.put, List.getElem_toArray, List.getElem_cons_zero, List.getElem_cons_succ, List.setIfInBounds_toArray, List.set_cons_zero, List.set_cons_succ]
    refine wpAnyH_take (i := 5) (oi := _) (v := .bool true) rfl (by kernel_rfl) (by kernel_rfl) (by kernel_rfl) (fun _ _ _ h => h) (Or.inl ⟨by rfl, fun W _ => by rfl⟩) hHeld ?_
    try simp only [Act.put, List.getElem_toArray, List.getElem_cons_zero, List.getElem_cons_succ, List.setIfInBounds_toArray, List.set_cons_zero, List.set_cons_succ]
    refine wpAnyH_take (i := 6) (oi := _) (v := .slice (some ⟨g8, 0, none⟩) n2 c8) rfl (by kernel_rfl) (by kernel_rfl) (by kernel_rfl) (fun _ _ _ h => h) (Or.inl ⟨by rfl, fun W _ => by rfl⟩) hHeld ?_
    try simp only [Act.put, List.getElem_toArray, List.getElem_cons_zero, List.getElem_cons_succ, List.setIfInBounds_toArray, List.set_cons_zero, List.set_cons_succ]
    refine wpAnyH_take (i := 7) (oi := _) (v := .slice (some ⟨g7, 0, none⟩) n c7) rfl (by kernel_rfl) (by kernel_rfl) (by kernel_rfl) (fun _ _ _ h => h) (Or.inl ⟨by rfl, fun W _ => by rfl⟩) hHeld ?_
    try simp only [Act.put, List.getElem_toArray, List.getElem_cons_zero, List.getElem_cons_succ, List.setIfInBounds_toArray, List.set_cons_zero, List.set_cons_succ]
    refine wpAnyH_take (i := 9) (oi := _) (v := .slice A2 n2 c2) rfl (by kernel_rfl) (by kernel_rfl) (by kernel_rfl) (fun _ _ _ h => h) (Or.inl ⟨by rfl, fun W _ => by rfl⟩) hHeld ?_
    try simp only [Act.put, List.getElem_toArray, List.getElem_cons_zero, List.getElem_cons_succ, List.setIfInBounds_toArray, List.set_cons_zero, List.set_cons_succ]
    refine wpAnyH_take (i := 10) (oi := _) (v := .slice A n c) rfl (by kernel_rfl) (by kernel_rfl) (by kernel_rfl) (fun _ _ _ h => h) (Or.inl ⟨by rfl, fun W _ => by rfl⟩) hHeld ?_
    try simp only [Act.put, List.getElem_toArray, List.getElem_cons_zero, List.getElem_cons_succ, List.setIfInBounds_toArray, List.set_cons_zero, List.set_cons_succ]
    clear hHeld
    refine wpAnyH_ready (rs := [8]) (by kernel_rfl) (by simp) ?_
    refine AllReadyH.cons (o := _) rfl (fun K hK => ?_) AllReadyH.nil
    rw [if_pos (by rfl)]
    go_wp2_with fail
    refine (HM2 w2 hv2).out.mono ?_
    rintro e w3 ⟨rfl, hv3'⟩
    have hv3 : Below u2.heap.size u2 w3 := hv2.trans (hv3'.mono hv2.size)
    refine hK.out _ _ (World.rangeAt_below HR0.out hv3 hBu) (fun hHeld => ?_)
    clear hK K hv3'
    try simp only [Act.put, List.getElem_toArray, List.getElem_cons_zero, List.getElem_cons_succ, List.setIfInBounds_toArray, List.set_cons_zero, List.set_cons_succ]
    clear hHeld
    refine wpAnyH_ready (rs := [11]) (by kernel_rfl) (by simp) ?_
    refine AllReadyH.cons (o := _) rfl (fun K hK => ?_) AllReadyH.nil
    rw [if_pos (by rfl)]
    go_wp2_with fail
    refine (RM2 w3 hv3).out.mono ?_
    rintro e w4 ⟨rfl, hv4'⟩
    have hv4 : Below u2.heap.size u2 w4 := hv3.trans (hv4'.mono hv3.size)
    refine hK.out _ _ (World.rangeAt_below HR0.out hv4 hBu) (fun hHeld => ?_)
    clear hK K hv4'
    try simp only [Act.put, List.getElem_toArray, List.getElem_cons_zero, List.getElem_cons_succ, List.setIfInBounds_toArray, List.set_cons_zero, List.set_cons_succ]
    refine wpAnyH_take (i := 12) (oi := _) (v := .bool true) rfl (by kernel_rfl) (by kernel_rfl) (by kernel_rfl) (fun _ _ _ h => h) (Or.inl ⟨by rfl, fun W _ => by have e := N2 W; go_simp⟩) hHeld ?_
    try simp only [Act.put, List.getElem_toArray, List.getElem_cons_zero, List.getElem_cons_succ, List.setIfInBounds_toArray, List.set_cons_zero, List.set_cons_succ]
    refine wpAnyH_take (i := 13) (oi := _) (v := .bool true) rfl (by kernel_rfl) (by kernel_rfl) (by kernel_rfl) (fun _ _ _ h => h) (Or.inl ⟨by rfl, fun W _ => by go_simp⟩) hHeld ?_
    try simp only [Act.put, List.getElem_toArray, List.getElem_cons_zero, List.getElem_cons_succ, List.setIfInBounds_toArray, List.set_cons_zero, List.set_cons_succ]
    refine wpAnyH_take (i := 14) (oi := _) (v := .bool true) rfl (by kernel_rfl) (by kernel_rfl) (by kernel_rfl) (fun _ _ _ h => h) (Or.inl ⟨by rfl, fun W _ => by rfl⟩) hHeld ?_
    try simp only [Act.put, List.getElem_toArray, List.getElem_cons_zero, List.getElem_cons_succ, List.setIfInBounds_toArray, List.set_cons_zero, List.set_cons_succ]
    refine wpAnyH_take (i := 15) (oi := _) (v := _) rfl (by kernel_rfl) (by kernel_rfl) (by kernel_rfl) (fun _ _ _ h => h) (yieldsIf_load_mid (by rfl) _ _ rfl B 0 rfl cx _ (fun _ h => h) hcu rfl hci) hHeld ?_
    try simp only [Act.put, List.getElem_toArray, List.getElem_cons_zero, List.getElem_cons_succ, List.setIfInBounds_toArray, List.set_cons_zero, List.set_cons_succ]
    refine wpAnyH_take (i := 17) (oi := _) (v := _) rfl (by kernel_rfl) (by kernel_rfl) (by kernel_rfl) (fun _ _ _ h => h) (yieldsIf_load_mid (by rfl) _ _ rfl B 0 rfl cx _ (fun _ h => h) hcu rfl hci) hHeld ?_
    try simp only [Act.put, List.getElem_toArray, List.getElem_cons_zero, List.getElem_cons_succ, List.setIfInBounds_toArray, List.set_cons_zero, List.set_cons_succ]
    clear hHeld
    refine wpAnyH_ready (rs := [16]) (by kernel_rfl) (by simp) ?_
    refine AllReadyH.cons (o := _) rfl (fun K hK => ?_) AllReadyH.nil
    rw [if_pos (by rfl)]
    go_wp2_with fail
    refine (HX w4).out.mono ?_
    rintro e w5 ⟨rfl, hv5'⟩
    have hv5 : Below u2.heap.size u2 w5 := hv4.trans (hv5'.mono hv4.size)
    refine hK.out _ _ (World.rangeAt_below HR0.out hv5 hBu) (fun hHeld => ?_)
    clear hK K hv5'
    try simp only [Act.put, List.getElem_toArray, List.getElem_cons_zero, List.getElem_cons_succ, List.setIfInBounds_toArray, List.set_cons_zero, List.set_cons_succ]
    clear hHeld
    refine wpAnyH_ready (rs := [18]) (by kernel_rfl) (by simp) ?_
    refine AllReadyH.cons (o := _) rfl (fun K hK => ?_) AllReadyH.nil
    rw [if_pos (by rfl)]
    go_wp2_with fail
    refine (RX w5).out.mono ?_
    rintro e w6 ⟨rfl, hv6'⟩
    have hv6 : Below u2.heap.size u2 w6 := hv5.trans (hv6'.mono hv5.size)
    refine hK.out _ _ (World.rangeAt_below HR0.out hv6 hBu) (fun hHeld => ?_)
    clear hK K hv6'
    try simp only [Act.put, List.getElem_toArray, List.getElem_cons_zero, List.getElem_cons_succ, List.setIfInBounds_toArray, List.set_cons_zero, List.set_cons_succ]
    refine wpAnyH_take (i := 19) (oi := _) (v := .bool true) rfl (by kernel_rfl) (by kernel_rfl) (by kernel_rfl) (fun _ _ _ h => h) (Or.inl ⟨by rfl, fun W _ => by go_simp⟩) hHeld ?_
    try simp only [Act.put, List.getElem_toArray, List.getElem_cons_zero, List.getElem_cons_succ, List.setIfInBounds_toArray, List.set_cons_zero, List.set_cons_succ]
    refine wpAnyH_take (i := 20) (oi := _) (v := .bool true) rfl (by kernel_rfl) (by kernel_rfl) (by kernel_rfl) (fun _ _ _ h => h) (Or.inl ⟨by rfl, fun W _ => by go_simp⟩) hHeld ?_
    try simp only [Act.put, List.getElem_toArray, List.getElem_cons_zero, List.getElem_cons_succ, List.setIfInBounds_toArray, List.set_cons_zero, List.set_cons_succ]
    refine wpAnyH_take (i := 21) (oi := _) (v := .bool true) rfl (by kernel_rfl) (by kernel_rfl) (by kernel_rfl) (fun _ _ _ h => h) (Or.inl ⟨by rfl, fun W _ => by rfl⟩) hHeld ?_
    try simp only [Act.put, List.getElem_toArray, List.getElem_cons_zero, List.getElem_cons_succ, List.setIfInBounds_toArray, List.set_cons_zero, List.set_cons_succ]
    refine wpAnyH_done (by kernel_rfl) ?_ _
    clear hHeld
    have e7' := (e7.out.below hv6).more hv6.size
    have e8' := (e8.out.below hv6).more hv6.size
    have hw6 : Below B wa w6 := hub.trans (hv6.mono (by omega))
    have hDD := (HD.out.below hw6).more (show B ≤ w6.heap.size by have := hw6.size; omega)
    have hDD2 := (HD2.out.below hw6).more (show B ≤ w6.heap.size by have := hw6.size; omega)
    have s1 := SR _ n c7 l SL w6 HSL e7'
    have s2 := SR _ n c l SL w6 HSL hDD
    have s3 := SR _ n2 c8 m SM w6 HSM e8'
    have s4 := SR _ n2 c2 m SM w6 HSM hDD2
    have CA := Lib.hid (awake_sha w6 (HT.out.keep hw6 HTB.out))
    have HFB := Lib.hid (show Below w.heap.size w w6 by rw [HBB.out]; exact HBA.out.trans hw6)
    clear hv0 hv1 hv2 hv3 hv4 hv5 hv6 e7' e8' hDD hDD2 HR0 HA2 hub hw6 N1 N2
    go_wp2_with fail
    refine CA.out.mono ?_
    rintro e wz ⟨rfl, hz⟩
    go_wp2_with fail
    go_ret
    exact ⟨rfl, HFB.out.trans (hz.mono (HFB.out.size))⟩

theorem tells_walk (A A2 : Option Addr) (n c n2 c2 : Nat) (l m lh : List UInt8) (w : World) (h : Rd w w.heap.size A n l) (h2 : Rd w w.heap.size A2 n2 m) (hh : lh.length = 32) (ht : TabS w) :
    Calls Tryd.prog 4 #[.slice A n c, .slice A2 n2 c2, .agg (bcs lh)] w fun e w' => e = .returned (.bool true) ∧ Below w.heap.size w w' := by
  by_cases hf : 1500 < n ∨ 250 < n2
  · exact tells_far A A2 n c n2 c2 lh w hh hf ht
  · exact tells_near A A2 n c n2 c2 l m lh w h (by omega) h2 (by omega) hh ht
end Go.Proofs.YtgdcjealhbfnaaaDoor

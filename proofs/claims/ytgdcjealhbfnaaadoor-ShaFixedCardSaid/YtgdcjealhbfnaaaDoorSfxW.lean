/-
  The walk of ShaFixed: it answers true, and nothing that was there has turned.
-/
import Derived.Test.YtgdcjealhbfnaaaDoorRfN
import Derived.Test.YtgdcjealhbfnaaaDoorEql
import Derived.Deep.RegionHeld3
namespace Go.Proofs.YtgdcjealhbfnaaaDoor
open Go.RowKit

theorem set_bytes (L : List UInt8) (i : Nat) (x : UInt8) (h : L.length = 200) : (L.set i x).length = 200 := by simp [h]
set_option maxHeartbeats 4000000 in
set_option maxRecDepth 100000 in
theorem fixed_walk (w : World) (ht : TabS w) :
    Calls Tryd.prog 3 #[] w fun e w' => e = .returned (.bool true) ∧ Below w.heap.size w w' := by
  obtain ⟨G, HG⟩ : ∃ G, Hid (w.heap.size = G) := ⟨_, rfl⟩
  have HG2 := HG.out
  have HT := Lib.hid ht
  have HTP := Lib.hid (show 0 < G by rw [← HG2]; exact ht.pos)
  have hmk := fun W => make_big 200 (by omega) 200 rfl W
  have HA0 := Lib.hid (show Arr (w.alloc (.cells (bcs (zs 200)) 5)) G 5 (bcs (zs 200)) from Arr.newAt _ _ _ _ HG2.symm)
  have HB0 := Lib.hid (show Below G w (w.alloc (.cells (bcs (zs 200)) 5)) by rw [← HG2]; exact (Below.refl _ _).alloc (Nat.le_refl _) _)
  have HZL := Lib.hid (show (zs 200).length = 200 by simp [zs])
  generalize zs 200 = Z at *
  clear ht
  go_enter Tryd.func3, Tryd.ntmps3
  go_wp2_with fail
  go_loopw [8] (fun u wr => ∃ (i : Nat) (L : List UInt8), i ≤ 200 ∧ Hid (L.length = 200) ∧ u = .int .i64 (i : Int) ∧ Hid (Arr wr G 5 (bcs L)) ∧ Below G w wr) (fun u _ => 200 - (intOf u).toNat)
  case atStart => exact ⟨0, Z, by omega, HZL, rfl, HA0, HB0.out⟩
  case round =>
    clear HA0 HB0 HZL hmk
    obtain ⟨i, L, hi, HL, rfl, HA, hbr⟩ := hrel
    by_cases hlt : i < 200
    · have hdst := (HA.out.cell i).trans (bcs_at L i (by rw [HL.out]; exact hlt))
      have hfz := HA.out.frozen i
      have hq1 : (0 : Int) ≤ (i : Int) * (i : Int) := Int.mul_nonneg (by omega) (by omega)
      have hq2 : (i : Int) * (i : Int) ≤ 40000 := by
        have := Int.mul_le_mul (show (i : Int) ≤ 200 by omega) (show (i : Int) ≤ 200 by omega) (by omega) (by omega)
        omega
      have HNX := fun (z : Int) (h0 : 0 ≤ z) (h1 : z < 256) => Lib.hid (show Arr (wr.setCell ⟨G, i, none⟩ (.int .u8 z)) G 5 (bcs (L.set i (UInt8.ofNat z.toNat))) by
        have := HA.out.set i (.int .u8 ((UInt8.ofNat z.toNat).toNat : Int))
        rw [bcs_set] at this
        rw [show ((UInt8.ofNat z.toNat).toNat : Int) = z by rw [UInt8.toNat_ofNat']; omega] at this
        exact this)
      have HSL := fun x => Lib.hid (set_bytes L i x HL.out)
      clear HA
      generalize L.getD i 0 = y at *
      go_wp2_with fail
      go_roundw
      case rel => exact ⟨i + 1, _, by omega, HSL _, by go_num, HNX _ (by omega) (by omega), hbr.setCell (Nat.le_refl _) _⟩
      case measure => simp [intOf]; omega
    · have hge : decide ((i : Int) < 200) = false := by simp; omega
      have HGW : Unit → G < wr.heap.size := fun _ => HA.out.lt
      have hgw := HGW ()
      clear HGW
      go_wp2_with fail
      go_loopw [3] (fun u wr => ∃ n : Nat, 1 ≤ n ∧ n ≤ 201 ∧ u = .int .i64 (n : Int) ∧ Hid (Arr wr G 5 (bcs L)) ∧ Below G w wr) (fun u _ => 201 - (intOf u).toNat)
      case atStart => exact ⟨1, by omega, by omega, rfl, HA, hbr⟩
      case round =>
        clear HA hbr hgw hge
        obtain ⟨n, hn1, hn, rfl, HA, hbr⟩ := hrel
        by_cases hlt2 : n ≤ 200
        · have hrd := ((HA.out.rdAll HL.out).more (show G + 1 ≤ wr.heap.size from HA.out.lt))
          obtain ⟨A', c', hsl, hr, hc'⟩ := pre_rule (hi := n) (n : Int) rfl hrd (Nat.le_refl 200) hlt2
          obtain ⟨cs, HCS⟩ : ∃ cs, Unit → bvs (sha (L.take n)) = cs := ⟨_, fun _ => rfl⟩
          have C1 : ∀ W, Below wr.heap.size wr W → Calls Tryd.prog 5 #[.slice A' n c'] W fun e w' => e = .returned (.agg cs.toArray) ∧ Below W.heap.size W w' := fun W hb => by
            refine (of_any A' n c' (L.take n) W ((hr.below hb).more hb.size) hc' (by omega) (HT.out.keep (hbr.trans (hb.mono (by have := HA.out.lt; omega))) HTP.out)).mono ?_
            rintro e w' ⟨rfl, hb'⟩
            exact ⟨by rw [← HCS ()]; rfl, hb'⟩
          have C2 : ∀ W, Below wr.heap.size wr W → Calls Tryd.prog 6 #[.slice A' n c'] W fun e w' => e = .returned (.agg cs.toArray) ∧ Below W.heap.size W w' := fun W hb => by
            refine (rof_any A' n c' (L.take n) W ((hr.below hb).more hb.size) (by omega)).mono ?_
            rintro e w' ⟨rfl, hb'⟩
            exact ⟨by rw [← HCS ()]; rfl, hb'⟩
          have N1 := fun W : World => neq_hash cs (sha (L.take n)) (HCS ()) (sha_length _) W
          have hzr : G < wr.heap.size := HA.out.lt
          clear hrd hr
          go_wp2_with fail
          obtain ⟨u0, HU0⟩ : ∃ u, Hid (wr.drew = u) := ⟨_, rfl⟩
          have hu0 : Below wr.heap.size wr u0 := by rw [← HU0.out]; exact (Below.refl _ _).drew
          refine wp_region_held_drew (S := fun _ => True) (by kernel_rfl) True.intro (fun hHeld => ?_)
          rw [HU0.out]
          refine wpAnyH_take (i := 0) (oi := _) (v := .slice (some ⟨G, 0, none⟩) 200 200) rfl (by kernel_rfl) (by kernel_rfl) (by kernel_rfl) (fun _ _ _ h => h) (Or.inl ⟨by rfl, fun W _ => by rfl⟩) hHeld ?_
          try simp only [Act.put, List.getElem_toArray, List.getElem_cons_zero, List.setIfInBounds_toArray, List.set_cons_zero, List.set_cons_succ]
          refine wpAnyH_take (i := 1) (oi := _) (v := .int .i64 (n : Int)) rfl (by kernel_rfl) (by kernel_rfl) (by kernel_rfl) (fun _ _ _ h => h) (Or.inl ⟨by rfl, fun W _ => by rfl⟩) hHeld ?_
          try simp only [Act.put, List.getElem_toArray, List.getElem_cons_zero, List.getElem_cons_succ, List.setIfInBounds_toArray, List.set_cons_zero, List.set_cons_succ]
          refine wpAnyH_take (i := 2) (oi := _) (v := .slice A' n c') rfl (by kernel_rfl) (by kernel_rfl) (by kernel_rfl) (fun _ _ _ h => h) (Or.inl ⟨by rfl, fun W _ => by have e := hsl W; go_simp⟩) hHeld ?_
          try simp only [Act.put, List.getElem_toArray, List.getElem_cons_zero, List.getElem_cons_succ, List.setIfInBounds_toArray, List.set_cons_zero, List.set_cons_succ]
          refine wpAnyH_take (i := 4) (oi := _) (v := .slice (some ⟨G, 0, none⟩) 200 200) rfl (by kernel_rfl) (by kernel_rfl) (by kernel_rfl) (fun _ _ _ h => h) (Or.inl ⟨by rfl, fun W _ => by rfl⟩) hHeld ?_
          try simp only [Act.put, List.getElem_toArray, List.getElem_cons_zero, List.getElem_cons_succ, List.setIfInBounds_toArray, List.set_cons_zero, List.set_cons_succ]
          refine wpAnyH_take (i := 5) (oi := _) (v := .int .i64 (n : Int)) rfl (by kernel_rfl) (by kernel_rfl) (by kernel_rfl) (fun _ _ _ h => h) (Or.inl ⟨by rfl, fun W _ => by rfl⟩) hHeld ?_
          try simp only [Act.put, List.getElem_toArray, List.getElem_cons_zero, List.getElem_cons_succ, List.setIfInBounds_toArray, List.set_cons_zero, List.set_cons_succ]
          refine wpAnyH_take (i := 6) (oi := _) (v := .slice A' n c') rfl (by kernel_rfl) (by kernel_rfl) (by kernel_rfl) (fun _ _ _ h => h) (Or.inl ⟨by rfl, fun W _ => by have e := hsl W; go_simp⟩) hHeld ?_
          try simp only [Act.put, List.getElem_toArray, List.getElem_cons_zero, List.getElem_cons_succ, List.setIfInBounds_toArray, List.set_cons_zero, List.set_cons_succ]
          clear hHeld
          refine wpAnyH_ready (rs := [3]) (by kernel_rfl) (by simp) ?_
          refine AllReadyH.cons (o := _) rfl (fun K hK => ?_) AllReadyH.nil
          rw [if_pos (by rfl)]
          go_wp2_with fail
          refine (C1 u0 hu0).mono ?_
          rintro e u1 ⟨rfl, hu1'⟩
          have hu1 : Below wr.heap.size wr u1 := hu0.trans (hu1'.mono hu0.size)
          refine hK.out _ _ True.intro (fun hHeld => ?_)
          clear hK K hu1'
          try simp only [Act.put, List.getElem_toArray, List.getElem_cons_zero, List.getElem_cons_succ, List.setIfInBounds_toArray, List.set_cons_zero, List.set_cons_succ]
          clear hHeld
          refine wpAnyH_ready (rs := [7]) (by kernel_rfl) (by simp) ?_
          refine AllReadyH.cons (o := _) rfl (fun K hK => ?_) AllReadyH.nil
          rw [if_pos (by rfl)]
          go_wp2_with fail
          refine (C2 u1 hu1).mono ?_
          rintro e u2 ⟨rfl, hu2'⟩
          have hu2 : Below wr.heap.size wr u2 := hu1.trans (hu2'.mono hu1.size)
          refine hK.out _ _ True.intro (fun hHeld => ?_)
          clear hK K hu2'
          try simp only [Act.put, List.getElem_toArray, List.getElem_cons_zero, List.getElem_cons_succ, List.setIfInBounds_toArray, List.set_cons_zero, List.set_cons_succ]
          refine wpAnyH_take (i := 8) (oi := _) (v := .bool false) rfl (by kernel_rfl) (by kernel_rfl) (by kernel_rfl) (fun _ _ _ h => h) (Or.inl ⟨by rfl, fun W _ => by have e := N1 W; go_simp⟩) hHeld ?_
          try simp only [Act.put, List.getElem_toArray, List.getElem_cons_zero, List.getElem_cons_succ, List.setIfInBounds_toArray, List.set_cons_zero, List.set_cons_succ]
          refine wpAnyH_done (by kernel_rfl) ?_ _
          clear hHeld hu0 hu1 HU0 N1 C1 C2 hsl
          have HA2 := Lib.hid (HA.out.below hu2 hzr)
          have hb2 : Below G w u2 := hbr.trans (hu2.mono (by omega))
          clear HA hbr hu2
          go_wp2_with fail
          go_roundw
          case rel => exact ⟨n + 1, by omega, by omega, by go_num, HA2, hb2⟩
          case measure => simp [intOf]; omega
        · have hge : decide ((n : Int) ≤ 200) = false := by simp; omega
          go_wp2_with fail
          go_loopw [4] (fun u wr => ∃ n : Nat, 50 ≤ n ∧ n ≤ 80 ∧ u = .int .i64 (n : Int) ∧ Hid (Arr wr G 5 (bcs L)) ∧ Below G w wr) (fun u _ => 80 - (intOf u).toNat)
          case atStart => exact ⟨50, by omega, by omega, rfl, HA, hbr⟩
          case round =>
            clear HA hbr hge hn1 hn hlt2 hlt hi
            obtain ⟨n, hn1, hn, rfl, HA, hbr⟩ := hrel
            by_cases hlt2 : n < 80
            · have hrd := ((HA.out.rdAll HL.out).more (show G + 1 ≤ wr.heap.size from HA.out.lt))
              obtain ⟨A', c', hsl, hr, hc'⟩ := pre_rule (hi := n) (n : Int) rfl hrd (Nat.le_refl 200) (by omega)
              obtain ⟨A2', c2', hsl2, hr2, hc2'⟩ := cut_rule (p := n) (hi := n + 9) ((n : Int) + 9) (by omega) hrd (Nat.le_refl 200) (by omega) (by omega)
              rw [show n + 9 - n = 9 by omega] at hsl2 hr2 hc2'
              obtain ⟨cs, HCS⟩ : ∃ cs, Unit → bvs (hmac (L.take n) ((L.drop n).take 9)) = cs := ⟨_, fun _ => rfl⟩
              have C1 : ∀ W, Below wr.heap.size wr W → Calls Tryd.prog 7 #[.slice A' n c', .slice A2' 9 c2'] W fun e w' => e = .returned (.agg cs.toArray) ∧ Below W.heap.size W w' := fun W hb => by
                refine (hmac_any A' A2' n c' 9 c2' (L.take n) ((L.drop n).take 9) W ((hr.below hb).more hb.size) hc' (by omega) ((hr2.below hb).more hb.size) (by omega) (HT.out.keep (hbr.trans (hb.mono (by have := HA.out.lt; omega))) HTP.out)).mono ?_
                rintro e w' ⟨rfl, hb'⟩
                exact ⟨by rw [← HCS ()]; rfl, hb'⟩
              have C2 : ∀ W, Below wr.heap.size wr W → Calls Tryd.prog 8 #[.slice A' n c', .slice A2' 9 c2'] W fun e w' => e = .returned (.agg cs.toArray) ∧ Below W.heap.size W w' := fun W hb => by
                refine (rhmac_any A' A2' n c' 9 c2' (L.take n) ((L.drop n).take 9) W ((hr.below hb).more hb.size) (by omega) ((hr2.below hb).more hb.size) (by omega)).mono ?_
                rintro e w' ⟨rfl, hb'⟩
                exact ⟨by rw [← HCS ()]; rfl, hb'⟩
              have N1 := fun W : World => neq_hash cs (hmac (L.take n) ((L.drop n).take 9)) (HCS ()) (sha_length _) W
              have hzr : G < wr.heap.size := HA.out.lt
              have hw9 : IntKind.i64.wrap ((n : Int) + 9) = (n : Int) + 9 := IntWalk.i64_in _ (by omega)
              clear hrd hr hr2
              go_wp2_with fail
              obtain ⟨u0, HU0⟩ : ∃ u, Hid (wr.drew = u) := ⟨_, rfl⟩
              have hu0 : Below wr.heap.size wr u0 := by rw [← HU0.out]; exact (Below.refl _ _).drew
              refine wp_region_held_drew (S := fun _ => True) (by kernel_rfl) True.intro (fun hHeld => ?_)
              rw [HU0.out]
              refine wpAnyH_take (i := 0) (oi := _) (v := .slice (some ⟨G, 0, none⟩) 200 200) rfl (by kernel_rfl) (by kernel_rfl) (by kernel_rfl) (fun _ _ _ h => h) (Or.inl ⟨by rfl, fun W _ => by rfl⟩) hHeld ?_
              try simp only [Act.put, List.getElem_toArray, List.getElem_cons_zero, List.setIfInBounds_toArray, List.set_cons_zero, List.set_cons_succ]
              refine wpAnyH_take (i := 1) (oi := _) (v := .int .i64 (n : Int)) rfl (by kernel_rfl) (by kernel_rfl) (by kernel_rfl) (fun _ _ _ h => h) (Or.inl ⟨by rfl, fun W _ => by rfl⟩) hHeld ?_
              try simp only [Act.put, List.getElem_toArray, List.getElem_cons_zero, List.getElem_cons_succ, List.setIfInBounds_toArray, List.set_cons_zero, List.set_cons_succ]
              refine wpAnyH_take (i := 2) (oi := _) (v := .slice A' n c') rfl (by kernel_rfl) (by kernel_rfl) (by kernel_rfl) (fun _ _ _ h => h) (Or.inl ⟨by rfl, fun W _ => by have e := hsl W; go_simp⟩) hHeld ?_
              try simp only [Act.put, List.getElem_toArray, List.getElem_cons_zero, List.getElem_cons_succ, List.setIfInBounds_toArray, List.set_cons_zero, List.set_cons_succ]
              refine wpAnyH_take (i := 3) (oi := _) (v := .slice (some ⟨G, 0, none⟩) 200 200) rfl (by kernel_rfl) (by kernel_rfl) (by kernel_rfl) (fun _ _ _ h => h) (Or.inl ⟨by rfl, fun W _ => by rfl⟩) hHeld ?_
              try simp only [Act.put, List.getElem_toArray, List.getElem_cons_zero, List.getElem_cons_succ, List.setIfInBounds_toArray, List.set_cons_zero, List.set_cons_succ]
              refine wpAnyH_take (i := 4) (oi := _) (v := .int .i64 (n : Int)) rfl (by kernel_rfl) (by kernel_rfl) (by kernel_rfl) (fun _ _ _ h => h) (Or.inl ⟨by rfl, fun W _ => by rfl⟩) hHeld ?_
              try simp only [Act.put, List.getElem_toArray, List.getElem_cons_zero, List.getElem_cons_succ, List.setIfInBounds_toArray, List.set_cons_zero, List.set_cons_succ]
              refine wpAnyH_take (i := 5) (oi := _) (v := .int .i64 (n : Int)) rfl (by kernel_rfl) (by kernel_rfl) (by kernel_rfl) (fun _ _ _ h => h) (Or.inl ⟨by rfl, fun W _ => by rfl⟩) hHeld ?_
              try simp only [Act.put, List.getElem_toArray, List.getElem_cons_zero, List.getElem_cons_succ, List.setIfInBounds_toArray, List.set_cons_zero, List.set_cons_succ]
              refine wpAnyH_take (i := 6) (oi := _) (v := .int .i64 ((n : Int) + 9)) rfl (by kernel_rfl) (by kernel_rfl) (by kernel_rfl) (fun _ _ _ h => h) (Or.inl ⟨by rfl, fun W _ => by go_simp⟩) hHeld ?_
              try simp only [Act.put, List.getElem_toArray, List.getElem_cons_zero, List.getElem_cons_succ, List.setIfInBounds_toArray, List.set_cons_zero, List.set_cons_succ]
              refine wpAnyH_take (i := 7) (oi := _) (v := .slice A2' 9 c2') rfl (by kernel_rfl) (by kernel_rfl) (by kernel_rfl) (fun _ _ _ h => h) (Or.inl ⟨by rfl, fun W _ => by have e := hsl2 W; go_simp⟩) hHeld ?_
              try simp only [Act.put, List.getElem_toArray, List.getElem_cons_zero, List.getElem_cons_succ, List.setIfInBounds_toArray, List.set_cons_zero, List.set_cons_succ]
              refine wpAnyH_take (i := 9) (oi := _) (v := .slice (some ⟨G, 0, none⟩) 200 200) rfl (by kernel_rfl) (by kernel_rfl) (by kernel_rfl) (fun _ _ _ h => h) (Or.inl ⟨by rfl, fun W _ => by rfl⟩) hHeld ?_
              try simp only [Act.put, List.getElem_toArray, List.getElem_cons_zero, List.getElem_cons_succ, List.setIfInBounds_toArray, List.set_cons_zero, List.set_cons_succ]
              refine wpAnyH_take (i := 10) (oi := _) (v := .int .i64 (n : Int)) rfl (by kernel_rfl) (by kernel_rfl) (by kernel_rfl) (fun _ _ _ h => h) (Or.inl ⟨by rfl, fun W _ => by rfl⟩) hHeld ?_
              try simp only [Act.put, List.getElem_toArray, List.getElem_cons_zero, List.getElem_cons_succ, List.setIfInBounds_toArray, List.set_cons_zero, List.set_cons_succ]
              refine wpAnyH_take (i := 11) (oi := _) (v := .slice A' n c') rfl (by kernel_rfl) (by kernel_rfl) (by kernel_rfl) (fun _ _ _ h => h) (Or.inl ⟨by rfl, fun W _ => by have e := hsl W; go_simp⟩) hHeld ?_
              try simp only [Act.put, List.getElem_toArray, List.getElem_cons_zero, List.getElem_cons_succ, List.setIfInBounds_toArray, List.set_cons_zero, List.set_cons_succ]
              refine wpAnyH_take (i := 12) (oi := _) (v := .slice (some ⟨G, 0, none⟩) 200 200) rfl (by kernel_rfl) (by kernel_rfl) (by kernel_rfl) (fun _ _ _ h => h) (Or.inl ⟨by rfl, fun W _ => by rfl⟩) hHeld ?_
              try simp only [Act.put, List.getElem_toArray, List.getElem_cons_zero, List.getElem_cons_succ, List.setIfInBounds_toArray, List.set_cons_zero, List.set_cons_succ]
              refine wpAnyH_take (i := 13) (oi := _) (v := .int .i64 (n : Int)) rfl (by kernel_rfl) (by kernel_rfl) (by kernel_rfl) (fun _ _ _ h => h) (Or.inl ⟨by rfl, fun W _ => by rfl⟩) hHeld ?_
              try simp only [Act.put, List.getElem_toArray, List.getElem_cons_zero, List.getElem_cons_succ, List.setIfInBounds_toArray, List.set_cons_zero, List.set_cons_succ]
              refine wpAnyH_take (i := 14) (oi := _) (v := .int .i64 (n : Int)) rfl (by kernel_rfl) (by kernel_rfl) (by kernel_rfl) (fun _ _ _ h => h) (Or.inl ⟨by rfl, fun W _ => by rfl⟩) hHeld ?_
              try simp only [Act.put, List.getElem_toArray, List.getElem_cons_zero, List.getElem_cons_succ, List.setIfInBounds_toArray, List.set_cons_zero, List.set_cons_succ]
              refine wpAnyH_take (i := 15) (oi := _) (v := .int .i64 ((n : Int) + 9)) rfl (by kernel_rfl) (by kernel_rfl) (by kernel_rfl) (fun _ _ _ h => h) (Or.inl ⟨by rfl, fun W _ => by go_simp⟩) hHeld ?_
              try simp only [Act.put, List.getElem_toArray, List.getElem_cons_zero, List.getElem_cons_succ, List.setIfInBounds_toArray, List.set_cons_zero, List.set_cons_succ]
              refine wpAnyH_take (i := 16) (oi := _) (v := .slice A2' 9 c2') rfl (by kernel_rfl) (by kernel_rfl) (by kernel_rfl) (fun _ _ _ h => h) (Or.inl ⟨by rfl, fun W _ => by have e := hsl2 W; go_simp⟩) hHeld ?_
              try simp only [Act.put, List.getElem_toArray, List.getElem_cons_zero, List.getElem_cons_succ, List.setIfInBounds_toArray, List.set_cons_zero, List.set_cons_succ]
              clear hHeld
              refine wpAnyH_ready (rs := [8]) (by kernel_rfl) (by simp) ?_
              refine AllReadyH.cons (o := _) rfl (fun K hK => ?_) AllReadyH.nil
              rw [if_pos (by rfl)]
              go_wp2_with fail
              refine (C1 u0 hu0).mono ?_
              rintro e u1 ⟨rfl, hu1'⟩
              have hu1 : Below wr.heap.size wr u1 := hu0.trans (hu1'.mono hu0.size)
              refine hK.out _ _ True.intro (fun hHeld => ?_)
              clear hK K hu1'
              try simp only [Act.put, List.getElem_toArray, List.getElem_cons_zero, List.getElem_cons_succ, List.setIfInBounds_toArray, List.set_cons_zero, List.set_cons_succ]
              clear hHeld
              refine wpAnyH_ready (rs := [17]) (by kernel_rfl) (by simp) ?_
              refine AllReadyH.cons (o := _) rfl (fun K hK => ?_) AllReadyH.nil
              rw [if_pos (by rfl)]
              go_wp2_with fail
              refine (C2 u1 hu1).mono ?_
              rintro e u2 ⟨rfl, hu2'⟩
              have hu2 : Below wr.heap.size wr u2 := hu1.trans (hu2'.mono hu1.size)
              refine hK.out _ _ True.intro (fun hHeld => ?_)
              clear hK K hu2'
              try simp only [Act.put, List.getElem_toArray, List.getElem_cons_zero, List.getElem_cons_succ, List.setIfInBounds_toArray, List.set_cons_zero, List.set_cons_succ]
              refine wpAnyH_take (i := 18) (oi := _) (v := .bool false) rfl (by kernel_rfl) (by kernel_rfl) (by kernel_rfl) (fun _ _ _ h => h) (Or.inl ⟨by rfl, fun W _ => by have e := N1 W; go_simp⟩) hHeld ?_
              try simp only [Act.put, List.getElem_toArray, List.getElem_cons_zero, List.getElem_cons_succ, List.setIfInBounds_toArray, List.set_cons_zero, List.set_cons_succ]
              refine wpAnyH_done (by kernel_rfl) ?_ _
              clear hHeld hu0 hu1 HU0 N1 C1 C2 hsl hsl2 hw9
              have HA2 := Lib.hid (HA.out.below hu2 hzr)
              have hb2 : Below G w u2 := hbr.trans (hu2.mono (by omega))
              clear HA hbr hu2
              go_wp2_with fail
              go_roundw
              case rel => exact ⟨n + 1, by omega, by omega, by go_num, HA2, hb2⟩
              case measure => simp [intOf]; omega
            · have hge : decide ((n : Int) < 80) = false := by simp; omega
              have hFB : Below w.heap.size w wr := by rw [HG.out]; exact hbr
              have CA := Lib.hid (awake_sha wr (HT.out.keep hbr HTP.out))
              clear HA hbr
              go_wp2_with fail
              refine CA.out.mono ?_
              rintro e wz ⟨rfl, hz⟩
              go_wp2_with fail
              go_ret
              exact ⟨rfl, hFB.trans (hz.mono hFB.size)⟩
end Go.Proofs.YtgdcjealhbfnaaaDoor

/-
  A world's chunk that is not there; its cells; a new world; a player of a world. No statement of the seat is proved here.
-/
import Derived.Test.YtjdhbgdpmojobaaDoorWdP
namespace Go.Proofs.YtjdhbgdpmojobaaDoor
open Go.RowKit Go.Deep

section
variable {w w' : World} {d : Wd}
set_option maxRecDepth 100000 in
set_option maxHeartbeats 3200000 in
theorem wchunk_out (ht : ItT w) (h : InW w d) (r : RgtW d.v) {x y : Int} (ho : ¬ (0 ≤ x ∧ x < d.size ∧ 0 ≤ y ∧ y < d.size)) : Calls Tryd.prog 21 #[d.val, .int .i64 x, .int .i64 y] w fun e w' => e = .returned (.tuple #[.agg #[.int .i64 0, .int .i64 0, .slice none 0 0, .slice none 0 0, .slice none 0 0], .bool false]) ∧ Fr No w w' := by
  have HRT := Lib.hid (fun W (hW : Fr No w W) => wright_any (ht.no hW) (h.no hW))
  rw [rgtW_iff.2 r] at HRT
  have HWX := Lib.hid (fun W => wwithin_any x d.size W)
  have HWY := Lib.hid (fun W => wwithin_any y d.size W)
  have HPQ : Hid ((winB x d.size && winB y d.size) = false) := Lib.hid (by
    cases hq : (winB x d.size && winB y d.size) with
    | false => rfl
    | true =>
      exfalso
      apply ho
      unfold winB at hq
      simp only [Bool.and_eq_true, decide_eq_true_iff] at hq
      exact ⟨hq.1.1, hq.1.2, hq.2.1, hq.2.2⟩)
  obtain ⟨p, hp⟩ : ∃ p, winB x d.size = p := ⟨_, rfl⟩
  obtain ⟨q, hq⟩ : ∃ q, winB y d.size = q := ⟨_, rfl⟩
  rw [hp] at HWX HPQ
  rw [hq] at HWY HPQ
  clear ht h r hp hq ho
  obtain ⟨SV, hSV⟩ : ∃ SV, (d.sd.toNat : Int) = SV := ⟨_, rfl⟩
  obtain ⟨size, sd, tick, A3, n3, c3, cs, A4, n4, c4, ps⟩ := d
  dsimp only [Wd.val, u64v] at *
  rw [hSV] at HRT ⊢
  clear hSV
  have hb0 := heap_alloc_new w (.cells #[.int .i64 size, .int .u64 SV, .int .i64 tick, .slice A3 n3 c3, .slice A4 n4 c4] 26)
  have hf0 := Fr.alloc No w (.cells #[.int .i64 size, .int .u64 SV, .int .i64 tick, .slice A3 n3 c3, .slice A4 n4 c4] 26)
  have hb1 := heap_alloc_new (w.alloc (.cells #[.int .i64 size, .int .u64 SV, .int .i64 tick, .slice A3 n3 c3, .slice A4 n4 c4] 26)) (.cells #[.int .i64 0, .int .i64 0, .slice none 0 0, .slice none 0 0, .slice none 0 0] 31)
  have hf1 := Fr.alloc No (w.alloc (.cells #[.int .i64 size, .int .u64 SV, .int .i64 tick, .slice A3 n3 c3, .slice A4 n4 c4] 26)) (.cells #[.int .i64 0, .int .i64 0, .slice none 0 0, .slice none 0 0, .slice none 0 0] 31)
  have hbD := blk_no hf1 hb0
  have HFX := Lib.hid (hf0.no_trans hf1)
  simp only [World.size_alloc] at hb1
  clear hb0 hf0 hf1
  go_enter Tryd.func21, Tryd.ntmps21
  go_upto_region 1 with fail
  obtain ⟨D, hD⟩ : ∃ D, w.heap.size = D := ⟨_, rfl⟩
  have HD := Lib.hid hD
  rw [hD] at hbD hb1 ⊢
  clear hD
  generalize (w.alloc (.cells #[.int .i64 size, .int .u64 SV, .int .i64 tick, .slice A3 n3 c3, .slice A4 n4 c4] 26)).alloc (.cells #[.int .i64 0, .int .i64 0, .slice none 0 0, .slice none 0 0, .slice none 0 0] 31) = wx at *
  have HBD := Lib.hid hbD
  have HB1 := Lib.hid hb1
  obtain ⟨k0, k1, k2, k3, k4⟩ := cells5 hbD
  clear hbD hb1
  cases p with
  | false =>
    clear HWY HPQ
    go_upto_region 2 with (first
      | (go_at_call 8; refine (HRT.out _ HFX.out).mono ?_; rintro e w1 ⟨rfl, hf⟩; have HF1 := Lib.hid hf; clear k0 k1 k2 k3 k4; obtain ⟨k0, k1, k2, k3, k4⟩ := cells5 (blk_no hf HBD.out); clear hf)
      | (go_at_call 50; refine (HWX.out _).mono ?_; rintro e w2 ⟨rfl, rfl⟩))
    have HBB := Lib.hid (blk_no HF1.out HB1.out)
    obtain ⟨s0, s1, s2, s3, s4⟩ := cells5 HBB.out
    obtain ⟨z0, z1, z2, z3, z4⟩ := free5 HBB.out
    go_wp2_with fail
    refine bodyPost_ret (results_cell_tmp_rowC (p := 6) rfl _ _ (D + 1) 31 #[.int .i64 0, .int .i64 0, .slice none 0 0, .slice none 0 0, .slice none 0 0] (0, 0) _ rfl (set5_heap HBB.out _ _ _ _ _) Tryd.underlying31 rfl (by kernel_rfl)) rfl ?_
    exact ⟨rfl, (HFX.out.no_trans HF1.out).then_new (set5_fr _ _ _ _ _ _ _) (fun i hi => by have e : i = D + 1 := hi; have := HD.out; omega)⟩
  | true =>
    obtain rfl : q = false := by have := HPQ.out; cases q with
      | false => rfl
      | true => exact this
    clear HPQ
    go_upto_region 2 with (first
      | (go_at_call 8; refine (HRT.out _ HFX.out).mono ?_; rintro e w1 ⟨rfl, hf⟩; have HF1 := Lib.hid hf; clear k0 k1 k2 k3 k4; obtain ⟨k0, k1, k2, k3, k4⟩ := cells5 (blk_no hf HBD.out); clear hf)
      | (go_at_call_of 50 (Value.int .i64 x); refine (HWX.out _).mono ?_; rintro e w2 ⟨rfl, rfl⟩)
      | (go_at_call_of 50 (Value.int .i64 y); refine (HWY.out _).mono ?_; rintro e w2 ⟨rfl, rfl⟩))
    have HBB := Lib.hid (blk_no HF1.out HB1.out)
    obtain ⟨s0, s1, s2, s3, s4⟩ := cells5 HBB.out
    obtain ⟨z0, z1, z2, z3, z4⟩ := free5 HBB.out
    go_wp2_with fail
    refine bodyPost_ret (results_cell_tmp_rowC (p := 6) rfl _ _ (D + 1) 31 #[.int .i64 0, .int .i64 0, .slice none 0 0, .slice none 0 0, .slice none 0 0] (0, 0) _ rfl (set5_heap HBB.out _ _ _ _ _) Tryd.underlying31 rfl (by kernel_rfl)) rfl ?_
    exact ⟨rfl, (HFX.out.no_trans HF1.out).then_new (set5_fr _ _ _ _ _ _ _) (fun i hi => by have e : i = D + 1 := hi; have := HD.out; omega)⟩
/-- What a new world is. -/
theorem wnew_any (size : Int) (sd : W64) (w : World) : Calls Tryd.prog 13 #[.int .i64 size, u64v sd] w fun e w' => e = .returned (.tuple (if sizB size = true then #[Wd.val ⟨size, sd, 0, none, 0, 0, [], none, 0, 0, []⟩, .int .i64 0] else #[Wd.val ⟨0, 0#64, 0, none, 0, 0, [], none, 0, 0, []⟩, .int .i64 2])) ∧ Fr No w w' := by
  have HS := Lib.hid (fun W => issize_any size W)
  obtain ⟨p, hp⟩ : ∃ p, sizB size = p := ⟨_, rfl⟩
  rw [hp] at HS ⊢
  clear hp
  obtain ⟨SV, hSV⟩ : ∃ SV, (sd.toNat : Int) = SV := ⟨_, rfl⟩
  have HSV := Lib.hid hSV
  dsimp only [u64v]
  rw [hSV]
  clear hSV
  have hb := heap_alloc_new w (.cells #[.int .i64 0, .int .u64 0, .int .i64 0, .slice none 0 0, .slice none 0 0] 26)
  have HF0 := Lib.hid (Fr.alloc No w (.cells #[.int .i64 0, .int .u64 0, .int .i64 0, .slice none 0 0, .slice none 0 0] 26))
  go_enter Tryd.func13, Tryd.ntmps13
  go_upto_region 1 with fail
  obtain ⟨D, hD⟩ : ∃ D, w.heap.size = D := ⟨_, rfl⟩
  have HD := Lib.hid hD
  rw [hD] at hb ⊢
  clear hD
  generalize w.alloc (.cells #[.int .i64 0, .int .u64 0, .int .i64 0, .slice none 0 0, .slice none 0 0] 26) = wx at *
  have HB := Lib.hid hb
  obtain ⟨s0, s1, s2, s3, s4⟩ := cells5 hb
  obtain ⟨z0, z1, z2, z3, z4⟩ := free5 hb
  clear hb
  cases p with
  | false =>
    go_wp2_with (go_at_call 23; refine (HS.out _).mono ?_; rintro e w1 ⟨rfl, rfl⟩)
    refine bodyPost_ret (results_cell_tmp_rowC (p := 4) rfl _ _ D 26 #[.int .i64 0, .int .u64 0, .int .i64 0, .slice none 0 0, .slice none 0 0] (0, 0) _ rfl (set5_heap HB.out _ _ _ _ _) Tryd.underlying26 rfl (by kernel_rfl)) rfl ?_
    exact ⟨rfl, HF0.out.then_new (set5_fr _ _ _ _ _ _ _) (fun i hi => by have e : i = D := hi; have := HD.out; omega)⟩
  | true =>
    go_wp2_with (go_at_call 23; refine (HS.out _).mono ?_; rintro e w1 ⟨rfl, rfl⟩)
    refine bodyPost_ret (results_cell_tmp_rowC (p := 4) rfl _ _ D 26 #[.int .i64 size, .int .u64 SV, .int .i64 0, .slice none 0 0, .slice none 0 0] (0, 0) _ rfl (set5_heap HB.out _ _ _ _ _) Tryd.underlying26 rfl (by kernel_rfl)) rfl ?_
    exact ⟨by show _ = Ending.returned (.tuple #[.agg #[_, .int .u64 (sd.toNat : Int), _, _, _], _]); rw [HSV.out]; rfl, HF0.out.then_new (set5_fr _ _ _ _ _ _ _) (fun i hi => by have e : i = D := hi; have := HD.out; omega)⟩
end
end Go.Proofs.YtjdhbgdpmojobaaDoor

/-
  The chapter's examples: awake. No statement of the seat is proved here.
-/
import Derived.Test.YtjdhbgdpmojobaaDoorWdR
import Derived.Test.YtjdhbgdpmojobaaDoorWdN
namespace Go.Proofs.YtjdhbgdpmojobaaDoor
open Go.RowKit Go.Deep

abbrev awL : List Nat := cellsL 7#64 1 1
def awC0 : Ck := ⟨1, 1, awL, [], []⟩
def awC1 : Ck := ⟨1, 1, awL.set 9 2, [], []⟩
def awV0 : Wv := ⟨2, 7#64, 0, [], []⟩
def awV1 : Wv := ⟨2, 7#64, 0, [awC1], []⟩
theorem aw_r0 : rgtCW 2 awC0 = true := by decide +kernel
theorem aw_r1 : rgtCW 2 awC1 = true := by decide +kernel
theorem aw_f1 : firstB 7#64 awC1 = false := by decide +kernel
theorem aw_f0 : firstB 7#64 awC0 = true := by decide +kernel
theorem aw_v0 : rgtW awV0 = true := by decide +kernel
theorem aw_v1 : rgtW awV1 = true := by decide +kernel
theorem aw_air : (cellsL 7#64 0 1)[56]? = some 0 := by decide +kernel
theorem aw_by : (awL.all fun i => decide (i < 256)) = true := by decide +kernel
theorem aw_by1 : ((awL.set 9 2).all fun i => decide (i < 256)) = true := by decide +kernel
theorem aw_two : (awL.set 9 2)[9]? = some 2 := by decide +kernel
theorem aw_e1 : putE awV0 awC1 = 0 := by unfold putE; rw [if_pos aw_v0, if_pos (show rgtCW awV0.size awC1 = true from aw_r1)]
theorem aw_e0 : putE awV1 awC0 = 0 := by unfold putE; rw [if_pos aw_v1, if_pos (show rgtCW awV1.size awC0 = true from aw_r0)]
theorem aw_p1 : putV awV0 awC1 = awV1 := by
  unfold putV
  rw [if_pos aw_v0, if_pos (show rgtCW awV0.size awC1 = true from aw_r1)]
  unfold putC putL
  rw [show firstB awV0.sd awC1 = false from aw_f1]
  rfl
theorem aw_p0 : putV awV1 awC0 = awV0 := by
  unfold putV
  rw [if_pos aw_v1, if_pos (show rgtCW awV1.size awC0 = true from aw_r0)]
  unfold putC putL
  rw [show firstB awV1.sd awC0 = true from aw_f0]
  rfl
def awD0 : Wd := ⟨2, 7#64, 0, none, 0, 0, [], none, 0, 0, []⟩
theorem awD0_v : awD0.v = awV0 := rfl
section
variable {w w' : World}
theorem awD0_in (w : World) : InW w awD0 := ⟨⟨⟨rfl, fun h => absurd h (by decide)⟩, rfl, fun C hC => absurd hC (List.not_mem_nil)⟩, ⟨⟨rfl, fun h => absurd h (by decide)⟩, rfl, fun C hC => absurd hC (List.not_mem_nil)⟩, by decide, by decide, fun C hC => absurd hC (List.not_mem_nil), fun C hC => absurd hC (List.not_mem_nil)⟩
theorem awC_in {lo : Nat} {A : Option Addr} {c : Nat} {l : List Nat} (h : w.ownsRow lo 50 1 (.slice A 64 c) 64 (itL l)) (hb : (l.all fun i => decide (i < 256)) = true) : InC w ⟨1, 1, A, 64, c, l, none, 0, 0, [], none, 0, 0, []⟩ := by
  have ho : OwC lo w ⟨1, 1, A, 64, c, l, none, 0, 0, [], none, 0, 0, []⟩ := ⟨h, World.ownsRow_nil _ _ _ _, World.ownsRow_nil _ _ _ _, fun b hb => absurd hb (List.not_mem_nil)⟩
  refine ho.inC ⟨fun i hi => ?_, fun h hh => absurd hh (List.not_mem_nil), fun b hb => absurd hb (List.not_mem_nil)⟩
  exact of_decide_eq_true (List.all_eq_true.1 hb i hi)
set_option maxRecDepth 100000 in
set_option maxHeartbeats 6400000 in
theorem wawake_any (ht : ItT w) : Calls Tryd.prog 9 #[] w fun e w' => e = .returned (.bool true) ∧ Fr No w w' := by
  have HT := Lib.hid (fun W (hW : Fr No w W) => ht.no hW)
  have HNEW : Hid (∀ W, Calls Tryd.prog 13 #[.int .i64 2, .int .u64 7] W fun e w' => e = .returned (.tuple #[.agg #[.int .i64 2, .int .u64 7, .int .i64 0, .slice none 0 0, .slice none 0 0], .int .i64 0]) ∧ Fr No W w') := Lib.hid (fun W => (wnew_any 2 7#64 W).mono (fun e w' ⟨h1, h2⟩ => ⟨by rw [h1, if_pos (by decide)]; rfl, h2⟩))
  have hR0 : RgtW awD0.v := rgtW_iff.1 aw_v0
  have HA1 : Hid (∀ W, Fr No w W → Calls Tryd.prog 15 #[.agg #[.int .i64 2, .int .u64 7, .int .i64 0, .slice none 0 0, .slice none 0 0], .int .i64 0, .int .i64 15] W fun e w' => e = .returned (.tuple #[.int .u8 0, .bool true]) ∧ Fr No W w') := Lib.hid (fun W hW => (wat_in (d := awD0) (a := 0) (b := 15) (ht.no hW) (awD0_in W) hR0 (by decide) (by decide)).mono (fun e w' ⟨c, i, h1, h2, h3, h4⟩ => by
    rcases h2 with ⟨hm, _⟩ | ⟨_, rfl⟩
    · exact absurd hm (List.not_mem_nil)
    · have h3' : (cellsL 7#64 0 1)[56]? = some i := h3
      rw [aw_air] at h3'
      injection h3' with h3'
      subst h3'
      exact ⟨h1, h4⟩))
  have HA2 : Hid (∀ W, Fr No w W → Calls Tryd.prog 15 #[.agg #[.int .i64 2, .int .u64 7, .int .i64 0, .slice none 0 0, .slice none 0 0], .int .i64 16, .int .i64 0] W fun e w' => e = .returned (.tuple #[.int .u8 0, .bool false]) ∧ Fr No W w') := Lib.hid (fun W hW => wat_out (d := awD0) (ht.no hW) (awD0_in W) hR0 (by decide) (by decide) (by decide))
  have HG : Hid (∀ W, Calls Tryd.prog 26 #[.int .u64 7, .int .i64 1, .int .i64 1] W fun e w' => ∃ A c, e = .returned (.agg #[.int .i64 1, .int .i64 1, .slice A 64 c, .slice none 0 0, .slice none 0 0]) ∧ w'.ownsRow W.heap.size 50 1 (.slice A 64 c) 64 (itL awL) ∧ Fr No W w') := Lib.hid (fun W => gchunk_in W 7#64 1 1 (by decide) (by decide))
  have HP1 : Hid (∀ W lo A c, Fr No w W → W.ownsRow lo 50 1 (.slice A 64 c) 64 (itL (awL.set 9 2)) → Calls Tryd.prog 10 #[.agg #[.int .i64 2, .int .u64 7, .int .i64 0, .slice none 0 0, .slice none 0 0], .agg #[.int .i64 1, .int .i64 1, .slice A 64 c, .slice none 0 0, .slice none 0 0]] W fun e w' => ∃ A3 c3 C A4 c4, e = .returned (.tuple #[.agg #[.int .i64 2, .int .u64 7, .int .i64 0, .slice A3 1 c3, .slice A4 0 c4], .int .i64 0]) ∧ (C.ck = awC1 ∧ InW w' ⟨2, 7#64, 0, A3, 1, c3, [C], A4, 0, c4, []⟩) ∧ Fr No W w') := Lib.hid (fun W lo A c hW ho => by
    refine (wput_any (d := awD0) (C := ⟨1, 1, A, 64, c, awL.set 9 2, none, 0, 0, [], none, 0, 0, []⟩) (ht.no hW) (awD0_in W) ((awD0_in W).sz hR0) (awC_in ho aw_by1)).mono ?_
    rintro e w' ⟨⟨size, sd, tick, A3, n3, c3, cs, A4, n4, c4, ps⟩, rfl, hv, how, hf⟩
    have hv2 : Wd.v ⟨size, sd, tick, A3, n3, c3, cs, A4, n4, c4, ps⟩ = awV1 := hv.trans aw_p1
    have hby : ByW (Wd.v ⟨size, sd, tick, A3, n3, c3, cs, A4, n4, c4, ps⟩) := by
      rw [hv2]
      refine ⟨fun c hc => ?_, fun p hp => absurd hp (List.not_mem_nil)⟩
      rw [List.mem_singleton.1 hc]
      exact ⟨fun i hi => of_decide_eq_true (List.all_eq_true.1 aw_by1 i hi), fun h hh => absurd hh (List.not_mem_nil), fun b hb => absurd hb (List.not_mem_nil)⟩
    have hin := how.inW hby
    have e3 : cs.length = n3 := how.e3
    have e4 : ps.length = n4 := how.e4
    unfold Wd.v awV1 at hv2
    injection hv2 with q1 q2 q3 q4 q5
    dsimp only at q1 q2 q3 q4 q5
    subst q1 q2 q3
    have l3 : cs.length = 1 := by have := congrArg List.length q4; rw [List.length_map] at this; exact this
    have l4 : ps.length = 0 := by have := congrArg List.length q5; rw [List.length_map] at this; exact this
    obtain ⟨C, rfl⟩ : ∃ C, cs = [C] := List.length_eq_one_iff.1 l3
    obtain rfl : ps = [] := List.eq_nil_of_length_eq_zero l4
    obtain rfl : n3 = 1 := by omega
    obtain rfl : n4 = 0 := by omega
    refine ⟨A3, c3, C, A4, c4, ?_, ⟨?_, hin⟩, hf⟩
    · show Ending.returned (.tuple #[_, .int .i64 (putE awV0 awC1)]) = _
      rw [aw_e1]
      rfl
    · injection q4)
  have HA3 : Hid (∀ W A3 c3 C A4 c4, Fr No w W → C.ck = awC1 → InW W ⟨2, 7#64, 0, A3, 1, c3, [C], A4, 0, c4, []⟩ → Calls Tryd.prog 15 #[.agg #[.int .i64 2, .int .u64 7, .int .i64 0, .slice A3 1 c3, .slice A4 0 c4], .int .i64 9, .int .i64 9] W fun e w' => e = .returned (.tuple #[.int .u8 2, .bool true]) ∧ Fr No W w') := Lib.hid (fun W A3 c3 C A4 c4 hW hC hin => by
    have hv : Wd.v ⟨2, 7#64, 0, A3, 1, c3, [C], A4, 0, c4, []⟩ = awV1 := by
      unfold Wd.v awV1
      dsimp only [List.map]
      rw [hC]
    refine (wat_in (d := ⟨2, 7#64, 0, A3, 1, c3, [C], A4, 0, c4, []⟩) (a := 9) (b := 9) (ht.no hW) hin (by rw [hv]; exact rgtW_iff.1 aw_v1) (by show (9 : Int) < 8 * 2; decide) (by show (9 : Int) < 8 * 2; decide)).mono ?_
    rintro e w' ⟨c, i, h1, h2, h3, h4⟩
    rw [hv] at h2
    rcases h2 with ⟨hm, _⟩ | ⟨hno, _⟩
    · rw [List.mem_singleton.1 hm] at h3
      have h3' : (awL.set 9 2)[9]? = some i := h3
      rw [aw_two] at h3'
      injection h3' with h3'
      subst h3'
      exact ⟨h1, h4⟩
    · exact absurd rfl (hno awC1 (List.mem_singleton.2 rfl)))
  have HP2 : Hid (∀ W lo A3 c3 C A4 c4 A c, Fr No w W → C.ck = awC1 → InW W ⟨2, 7#64, 0, A3, 1, c3, [C], A4, 0, c4, []⟩ → W.ownsRow lo 50 1 (.slice A 64 c) 64 (itL awL) → Calls Tryd.prog 10 #[.agg #[.int .i64 2, .int .u64 7, .int .i64 0, .slice A3 1 c3, .slice A4 0 c4], .agg #[.int .i64 1, .int .i64 1, .slice A 64 c, .slice none 0 0, .slice none 0 0]] W fun e w' => ∃ A3 c3 A4 c4, e = .returned (.tuple #[.agg #[.int .i64 2, .int .u64 7, .int .i64 0, .slice A3 0 c3, .slice A4 0 c4], .int .i64 0]) ∧ Fr No W w') := Lib.hid (fun W lo A3 c3 C A4 c4 A c hW hC hin ho => by
    have hv : Wd.v ⟨2, 7#64, 0, A3, 1, c3, [C], A4, 0, c4, []⟩ = awV1 := by
      unfold Wd.v awV1
      dsimp only [List.map]
      rw [hC]
    refine (wput_any (d := ⟨2, 7#64, 0, A3, 1, c3, [C], A4, 0, c4, []⟩) (C := ⟨1, 1, A, 64, c, awL, none, 0, 0, [], none, 0, 0, []⟩) (ht.no hW) hin (hin.sz (by rw [hv]; exact rgtW_iff.1 aw_v1)) (awC_in ho aw_by)).mono ?_
    rintro e w' ⟨⟨size, sd, tick, A3', n3, c3', cs, A4', n4, c4', ps⟩, rfl, hv3, how, hf⟩
    rw [hv] at hv3
    have hv2 : Wd.v ⟨size, sd, tick, A3', n3, c3', cs, A4', n4, c4', ps⟩ = awV0 := hv3.trans aw_p0
    have e3 : cs.length = n3 := how.e3
    have e4 : ps.length = n4 := how.e4
    unfold Wd.v awV0 at hv2
    injection hv2 with q1 q2 q3 q4 q5
    dsimp only at q1 q2 q3 q4 q5
    subst q1 q2 q3
    have l3 : cs.length = 0 := by have := congrArg List.length q4; rw [List.length_map] at this; exact this
    have l4 : ps.length = 0 := by have := congrArg List.length q5; rw [List.length_map] at this; exact this
    obtain rfl : n3 = 0 := by omega
    obtain rfl : n4 = 0 := by omega
    refine ⟨A3', c3', A4', c4', ?_, hf⟩
    rw [hv]
    show Ending.returned (.tuple #[_, .int .i64 (putE awV1 awC0)]) = _
    rw [aw_e0]
    rfl)
  clear ht hR0
  go_enter Tryd.func9, Tryd.ntmps9
  go_upto_region 2 with (go_at_call 13; refine (HNEW.out _).mono ?_; rintro e w1 ⟨rfl, hf⟩; have HF1 := Lib.hid hf; clear hf)
  have hbA := heap_alloc_new w1 (.cells #[.int .i64 2, .int .u64 7, .int .i64 0, .slice none 0 0, .slice none 0 0] 26)
  have hfA := Fr.alloc No w1 (.cells #[.int .i64 2, .int .u64 7, .int .i64 0, .slice none 0 0, .slice none 0 0] 26)
  obtain ⟨E1, hE1⟩ : ∃ E, w1.heap.size = E := ⟨_, rfl⟩
  rw [hE1] at hbA ⊢
  have HBA := Lib.hid hbA
  have HFA := Lib.hid (HF1.out.no_trans hfA)
  obtain ⟨k0, k1, k2, k3, k4⟩ := cells5 hbA
  have HE1 : Hid (w.heap.size ≤ E1) := Lib.hid (by rw [← hE1]; exact HF1.out.size)
  generalize w1.alloc (.cells #[.int .i64 2, .int .u64 7, .int .i64 0, .slice none 0 0, .slice none 0 0] 26) = wA at *
  clear hbA hfA hE1 HF1 HNEW
  go_upto_region 3 with (go_at_call 15; refine (HA1.out _ HFA.out).mono ?_; rintro e w2 ⟨rfl, hf⟩; have HF2 := Lib.hid hf; clear hf k0 k1 k2 k3 k4)
  obtain ⟨k0, k1, k2, k3, k4⟩ := cells5 (blk_no HF2.out HBA.out)
  go_upto_region 4 with (go_at_call 15; refine (HA2.out _ (HFA.out.no_trans HF2.out)).mono ?_; rintro e w3 ⟨rfl, hf⟩; have HF3 := Lib.hid (HF2.out.no_trans hf); clear hf k0 k1 k2 k3 k4)
  clear HF2 HA1 HA2
  go_upto_region 5 with (go_at_call 26; refine (HG.out _).mono ?_; rintro e w4 ⟨A, c, rfl, ho, hf⟩; have HO := Lib.hid ho; have HF4 := Lib.hid (HF3.out.no_trans hf); have HFW3 := Lib.hid (HFA.out.no_trans HF3.out); clear hf ho)
  have hbB := heap_alloc_new w4 (.cells #[.int .i64 1, .int .i64 1, .slice A 64 c, .slice none 0 0, .slice none 0 0] 31)
  have hfB := Fr.alloc No w4 (.cells #[.int .i64 1, .int .i64 1, .slice A 64 c, .slice none 0 0, .slice none 0 0] 31)
  obtain ⟨E7, hE7⟩ : ∃ E, w4.heap.size = E := ⟨_, rfl⟩
  rw [hE7] at hbB ⊢
  have HBB := Lib.hid hbB
  have HFB := Lib.hid (HF4.out.no_trans hfB)
  have HOB := Lib.hid (own_no HO.out hfB)
  have HE7 : Hid (w.heap.size ≤ E7) := Lib.hid (by rw [← hE7]; exact (HFA.out.no_trans HF4.out).size)
  obtain ⟨gA, hA, hglo, hgs, hfz, ⟨uu, hcu⟩, hset, hfr⟩ := own_setk HOB.out 9 (by decide)
  subst hA
  have HST := Lib.hid (hset (.int .u8 2))
  have HFRS := Lib.hid (hfr (.int .u8 2))
  have HGLO : Hid (w.heap.size ≤ gA) := Lib.hid (Nat.le_trans HFW3.out.size hglo)
  obtain ⟨g0, g1, g2, g3, g4⟩ := cells5 hbB
  generalize w4.alloc (.cells #[.int .i64 1, .int .i64 1, .slice (some ⟨gA, 0, none⟩) 64 c, .slice none 0 0, .slice none 0 0] 31) = wB at *
  have HNE1 : Hid (¬ E1 = gA) := Lib.hid (fun e => by
    obtain ⟨cur, hc⟩ := own_type HOB.out (k := gA) rfl
    rw [← e, blk_no HFB.out HBA.out] at hc
    injection hc with hc
    injection hc with _ hc _
    exact absurd hc (by decide))
  have HNE7 : Hid (¬ E7 = gA) := Lib.hid (fun e => by
    obtain ⟨cur, hc⟩ := own_type HOB.out (k := gA) rfl
    rw [← e, HBB.out] at hc
    injection hc with hc
    injection hc with _ hc _
    exact absurd hc (by decide))
  clear hbB hfB hE7 HO HF4 HF3 HFW3 hset hfr hglo hgs
  go_upto_region 8 with fail
  have HOS : Hid ((wB.setCell ⟨gA, 9, none⟩ (.int .u8 2)).ownsRow w.heap.size 50 1 (.slice (some ⟨gA, 0, none⟩) 64 c) 64 (itL (awL.set 9 2))) := Lib.hid (by
    have h := HST.out
    rw [show (Value.int .u8 2 : Value) = .int .u8 ((2 : Nat) : Int) from rfl, itL_set] at h
    rcases h.2 with ⟨hv, h0⟩ | ⟨g, cap, cur, hv, _, r⟩
    · exact absurd h0 (by decide)
    · injection hv with e1 e2 e3
      injection e1 with e1
      injection e1 with e1
      subst e1 e3
      exact ⟨h.1, .inr ⟨gA, c, cur, rfl, HGLO.out, r⟩⟩)
  have HB1 := Lib.hid (HFRS.out.blk (blk_no HFB.out HBA.out) HNE1.out)
  have HB7 := Lib.hid (HFRS.out.blk HBB.out HNE7.out)
  have HFS : Hid (Fr No w (wB.setCell ⟨gA, 9, none⟩ (.int .u8 2))) := Lib.hid ((HFA.out.no_trans HFB.out).then_new HFRS.out (fun i hi => by have e : i = gA := hi; rw [e]; exact HGLO.out))
  obtain ⟨k0, k1, k2, k3, k4⟩ := cells5 HB1.out
  clear g0 g1 g2 g3 g4
  obtain ⟨g0, g1, g2, g3, g4⟩ := cells5 HB7.out
  generalize wB.setCell ⟨gA, 9, none⟩ (.int .u8 2) = wC at *
  clear HST HFRS HBB HBA HFB HFA HOB hfz hcu HNE1 HNE7
  go_upto_region 9 with (go_at_call 10; refine (HP1.out _ _ _ _ HFS.out HOS.out).mono ?_; rintro e w5 ⟨A3, c3, C, A4, c4, rfl, ⟨hck, hin⟩, hf⟩; have HCK := Lib.hid hck; have HIN := Lib.hid hin; have HF5 := Lib.hid (HFS.out.no_trans hf); clear hf hck hin k0 k1 k2 k3 k4 g0 g1 g2 g3 g4)
  clear HP1 HOS HB1 HB7 HFS
  have hbX := heap_alloc_new w5 (.cells #[.int .i64 2, .int .u64 7, .int .i64 0, .slice A3 1 c3, .slice A4 0 c4] 26)
  have hfX := Fr.alloc No w5 (.cells #[.int .i64 2, .int .u64 7, .int .i64 0, .slice A3 1 c3, .slice A4 0 c4] 26)
  obtain ⟨E8, hE8⟩ : ∃ E, w5.heap.size = E := ⟨_, rfl⟩
  rw [hE8] at hbX ⊢
  have HBX := Lib.hid hbX
  have HFX := Lib.hid (HF5.out.no_trans hfX)
  have HINX := Lib.hid (HIN.out.no hfX)
  obtain ⟨k0, k1, k2, k3, k4⟩ := cells5 hbX
  generalize w5.alloc (.cells #[.int .i64 2, .int .u64 7, .int .i64 0, .slice A3 1 c3, .slice A4 0 c4] 26) = wX at *
  clear hbX hfX hE8 HF5 HIN
  go_upto_region 10 with (go_at_call 15; refine (HA3.out _ _ _ C _ _ HFX.out HCK.out HINX.out).mono ?_; rintro e w6 ⟨rfl, hf⟩; have HF6 := Lib.hid hf; clear hf k0 k1 k2 k3 k4)
  have hALL : Hid (∀ W, Fr No wX W → W.cell? ⟨E8, 0, none⟩ = some (.int .i64 2) ∧ W.cell? ⟨E8, 1, none⟩ = some (.int .u64 7) ∧ W.cell? ⟨E8, 2, none⟩ = some (.int .i64 0) ∧ W.cell? ⟨E8, 3, none⟩ = some (.slice A3 1 c3) ∧ W.cell? ⟨E8, 4, none⟩ = some (.slice A4 0 c4)) := Lib.hid (fun W hW => cells5 (blk_no hW HBX.out))
  go_cut [12, 13] from 63 to 68 (fun v12 v13 wz => ∃ E12 A3' c3' A4' c4', v12 = .pointer (some ⟨E12, 0, none⟩) ∧ v13 = .int .i64 0 ∧ wz.heap[E12]? = some (.cells #[.int .i64 2, .int .u64 7, .int .i64 0, .slice A3' 0 c3', .slice A4' 0 c4'] 26 (0, 0)) ∧ Fr No wX wz)
  case first =>
    obtain ⟨k0, k1, k2, k3, k4⟩ := hALL.out _ (HF6.out.no_trans (Fr.drew No w6))
    have HF6D := Lib.hid (HF6.out.no_trans (Fr.drew No w6))
    obtain ⟨n0, n1, n2, n3, n4⟩ := hALL.out _ (HF6D.out.no_trans (Fr.alloc No _ (.cells #[.int .i64 0, .int .u64 0, .int .i64 0, .slice none 0 0, .slice none 0 0] 26)))
    have hl8 : E8 < w6.heap.size := Nat.lt_of_lt_of_le (Array.getElem?_eq_some_iff.1 HBX.out).1 HF6.out.size
    have hl9 : ¬ (E8 = w6.heap.size) := by omega
    obtain ⟨o0, o1, o2, o3, o4⟩ := hALL.out _ HF6.out
    have HSX : Hid (wX.heap.size ≤ w6.drew.heap.size) := Lib.hid HF6D.out.size
    go_region_with (first
      | (go_at_call 26; refine (HG.out _).mono ?_; rintro e w7 ⟨A, c, rfl, ho, hf⟩; have HF7 := Lib.hid (HF6D.out.no_trans hf); have HO := Lib.hid ho; obtain ⟨j0, j1, j2, j3, j4⟩ := hALL.out _ HF7.out; obtain ⟨m0, m1, m2, m3, m4⟩ := hALL.out _ (HF7.out.no_trans (Fr.alloc No _ (.cells #[.int .i64 0, .int .u64 0, .int .i64 0, .slice none 0 0, .slice none 0 0] 26))); clear ho hf)
      | (go_at_call 26; refine (HG.out _).mono ?_; rintro e w7 ⟨A, c, rfl, ho, hf⟩; have HF7 := Lib.hid ((HF6D.out.no_trans (Fr.alloc No _ (.cells #[.int .i64 0, .int .u64 0, .int .i64 0, .slice none 0 0, .slice none 0 0] 26))).no_trans hf); have HZ7 := Lib.hid (blk_no hf (show (w6.drew.alloc (.cells #[.int .i64 0, .int .u64 0, .int .i64 0, .slice none 0 0, .slice none 0 0] 26)).heap[w6.heap.size]? = some (.cells #[.int .i64 0, .int .u64 0, .int .i64 0, .slice none 0 0, .slice none 0 0] 26 (0, 0)) from heap_alloc_new w6.drew (.cells #[.int .i64 0, .int .u64 0, .int .i64 0, .slice none 0 0, .slice none 0 0] 26))); have HO := Lib.hid ho; obtain ⟨j0, j1, j2, j3, j4⟩ := hALL.out _ HF7.out; clear ho hf)
      | (go_at_call 10; refine (HP2.out _ _ _ _ C _ _ _ _ (HFX.out.no_trans (HF7.out)) HCK.out (HINX.out.no (HF7.out)) (own_no HO.out (Fr.refl No _))).mono ?_; rintro e w8 ⟨A3', c3', A4', c4', rfl, hf⟩; have HF8 := Lib.hid ((HF7.out).no_trans hf); have HZ8 := Lib.hid (blk_no hf HZ7.out); have HEZ := HSX; obtain ⟨p0, p1, p2, p3, p4⟩ := cells5 HZ8.out; obtain ⟨z0, z1, z2, z3, z4⟩ := free5 HZ8.out; clear hf)
      | (go_at_call 10; refine (HP2.out _ _ _ _ C _ _ _ _ (HFX.out.no_trans (HF7.out.no_trans (Fr.alloc No w7 (.cells #[.int .i64 0, .int .u64 0, .int .i64 0, .slice none 0 0, .slice none 0 0] 26)))) HCK.out (HINX.out.no (HF7.out.no_trans (Fr.alloc No w7 (.cells #[.int .i64 0, .int .u64 0, .int .i64 0, .slice none 0 0, .slice none 0 0] 26)))) (own_no HO.out (Fr.alloc No w7 (.cells #[.int .i64 0, .int .u64 0, .int .i64 0, .slice none 0 0, .slice none 0 0] 26)))).mono ?_; rintro e w8 ⟨A3', c3', A4', c4', rfl, hf⟩; have HF8 := Lib.hid ((HF7.out.no_trans (Fr.alloc No w7 (.cells #[.int .i64 0, .int .u64 0, .int .i64 0, .slice none 0 0, .slice none 0 0] 26))).no_trans hf); have HZ8 := Lib.hid (blk_no hf (heap_alloc_new w7 (.cells #[.int .i64 0, .int .u64 0, .int .i64 0, .slice none 0 0, .slice none 0 0] 26))); have HEZ := Lib.hid HF7.out.size; obtain ⟨p0, p1, p2, p3, p4⟩ := cells5 HZ8.out; obtain ⟨z0, z1, z2, z3, z4⟩ := free5 HZ8.out; clear hf)
      | (go_at_call 10; refine (HP2.out _ _ _ _ C _ _ _ _ (HFX.out.no_trans (HF7.out)) HCK.out (HINX.out.no (HF7.out)) (own_no HO.out (Fr.refl No _))).mono ?_; rintro e w8 ⟨A3', c3', A4', c4', rfl, hf⟩; have HF8 := Lib.hid ((HF7.out).no_trans hf); have hbY := heap_alloc_new w8 (.cells #[.int .i64 2, .int .u64 7, .int .i64 0, .slice A3' 0 c3', .slice A4' 0 c4'] 26); have HBY := Lib.hid hbY; have HFY := Lib.hid (HF8.out.no_trans (Fr.alloc No w8 (.cells #[.int .i64 2, .int .u64 7, .int .i64 0, .slice A3' 0 c3', .slice A4' 0 c4'] 26))); have HZ8 := Lib.hid (heap_alloc_new w8 (.cells #[.int .i64 0, .int .u64 0, .int .i64 0, .slice none 0 0, .slice none 0 0] 26)); have HEZ := Lib.hid HF8.out.size; have HFZ := Lib.hid (HF8.out.no_trans (Fr.alloc No w8 (.cells #[.int .i64 0, .int .u64 0, .int .i64 0, .slice none 0 0, .slice none 0 0] 26))); obtain ⟨p0, p1, p2, p3, p4⟩ := cells5 HZ8.out; obtain ⟨z0, z1, z2, z3, z4⟩ := free5 HZ8.out; clear hf hbY))
    all_goals (
      go_wp2_with fail
      go_meet
      first
        | exact ⟨_, A3', c3', A4', c4', rfl, rfl, HBY.out, HFY.out⟩
        | exact ⟨_, A3', c3', A4', c4', rfl, rfl, set5_heap HZ8.out _ _ _ _ _, HF8.out.then_new (set5_fr _ _ _ _ _ _ _) (fun i hi => by rw [hi]; exact HEZ.out)⟩
        | exact ⟨_, A3', c3', A4', c4', rfl, rfl, set5_heap HZ8.out _ _ _ _ _, HFZ.out.then_new (set5_fr _ _ _ _ _ _ _) (fun i hi => by rw [hi]; exact HEZ.out)⟩)
  case rest =>
  obtain ⟨E12, A3', c3', A4', c4', rfl, rfl, hbY, hfY⟩ := hcut
  obtain ⟨j0, j1, j2, j3, j4⟩ := cells5 hbY
  obtain ⟨k0, k1, k2, k3, k4⟩ := hALL.out _ hfY
  have HFY := Lib.hid (HFX.out.no_trans hfY)
  clear hbY hfY
  go_wp2_with fail
  go_ret
  exact ⟨rfl, HFY.out⟩
end
end Go.Proofs.YtjdhbgdpmojobaaDoor

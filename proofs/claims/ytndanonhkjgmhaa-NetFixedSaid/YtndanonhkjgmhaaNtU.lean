/-
  NetFixed: its datagrams, and the walk. No statement of the seat is proved here.
-/
import Derived.Test.YtndanonhkjgmhaaNtR
namespace Go.Proofs.Ytndanonhkjgmhaa
open Go.RowKit

/-- What the law sends: number i, of node i % 64 to node i % 2; ahead of these an empty one to node 63. -/
def fxG (i : Nat) : Gm := ⟨((i % 64 : Nat) : Int), ((i % 2 : Nat) : Int), ⟨#[UInt8.ofNat (i % 256)]⟩⟩
def fxR (m : Nat) : List Gm := (List.range m).map fun j => fxG (j + 1)
def fxH : Gm := ⟨0, 63, ⟨#[]⟩⟩
def fxL (m : Nat) : List Gm := fxH :: fxR m
theorem fxR_succ (m : Nat) : fxR (m + 1) = fxR m ++ [fxG (m + 1)] := by
  unfold fxR
  rw [List.range_succ, List.map_append]
  rfl
theorem fxR_len (m : Nat) : (fxR m).length = m := by simp [fxR]
theorem fxL_len (m : Nat) : (fxL m).length = m + 1 := by simp [fxL, fxR_len]
theorem fxL_succ (m : Nat) : fxL (m + 1) = fxL m ++ [fxG (m + 1)] := by
  unfold fxL
  rw [fxR_succ]
  rfl
theorem fxR_keep (m : Nat) : (keepN (fxR m) 1).length = m / 2 := by
  induction m with
  | zero => rfl
  | succ m ih =>
    have h : keepN (fxR (m + 1)) 1 = keepN (fxR m) 1 ++ (if (m + 1) % 2 = 1 then [] else [fxG (m + 1)]) := by
      rw [fxR_succ]
      unfold keepN
      rw [List.filter_append]
      congr 1
      by_cases hm : (m + 1) % 2 = 1
      · rw [if_pos hm]
        have : ((fxG (m + 1)).to == 1) = true := by rw [beq_iff_eq]; show (((m + 1) % 2 : Nat) : Int) = 1; omega
        simp [this]
      · rw [if_neg hm]
        have : ((fxG (m + 1)).to == 1) = false := by rw [beq_eq_false_iff_ne]; show ¬ ((((m + 1) % 2 : Nat) : Int) = 1); omega
        simp [this]
    rw [h, List.length_append, ih]
    split
    · show m / 2 + 0 = _
      omega
    · show m / 2 + 1 = _
      omega
theorem fxR_to (m : Nat) : ∀ g ∈ fxR m, g.to = 0 ∨ g.to = 1 := by
  intro g hg
  unfold fxR at hg
  obtain ⟨j, _, rfl⟩ := List.mem_map.1 hg
  show (((j + 1) % 2 : Nat) : Int) = 0 ∨ (((j + 1) % 2 : Nat) : Int) = 1
  omega
theorem keepN_all {l : List Gm} {x : Int} (h : ∀ g ∈ l, g.to ≠ x) : keepN l x = l := by
  unfold keepN
  rw [List.filter_eq_self]
  intro g hg
  have : (g.to == x) = false := by rw [beq_eq_false_iff_ne]; exact h g hg
  rw [this]
  rfl
/-- What is forgotten, step by step. -/
theorem fx_facts : ∃ E : List Gm, keepN (fxL 4095) 1 = fxH :: E ∧ E.length = 2047 ∧ keepN (fxH :: E) 64 = fxH :: E ∧ keepN (fxH :: E) 63 = E ∧ ∃ g, look E 0 = some g := by
  have hE := fxR_keep 4095
  have hto : ∀ g ∈ keepN (fxR 4095) 1, g.to = 0 ∨ g.to = 1 := fun g hg => fxR_to 4095 g (List.mem_filter.1 hg).1
  have hL : keepN (fxL 4095) 1 = fxH :: keepN (fxR 4095) 1 := by
    unfold fxL keepN
    rw [List.filter_cons]
    rfl
  generalize keepN (fxR 4095) 1 = E at *
  refine ⟨E, hL, hE, ?_, ?_, ?_⟩
  · exact keepN_all (fun g hg => by
      rcases List.mem_cons.1 hg with rfl | hg
      · show ¬ ((63 : Int) = 64); decide
      · rcases hto g hg with e | e <;> rw [e] <;> decide)
  · have e : keepN (fxH :: E) 63 = keepN E 63 := by
      unfold keepN
      rw [List.filter_cons]
      rfl
    rw [e]
    exact keepN_all (fun g hg => by rcases hto g hg with e | e <;> rw [e] <;> decide)
  · match E, hE with
    | g :: _, _ => exact ⟨g, rfl⟩
theorem fx_last : look (fxL 4095) 4095 = some ⟨63, 1, ⟨#[255]⟩⟩ := by
  have h : look (fxL 4095) 4095 = (fxL 4095)[4095]? := look_nat _ 4095
  rw [h]
  unfold fxL
  rw [List.getElem?_cons_succ]
  unfold fxR
  rw [List.getElem?_map, List.getElem?_range (by decide)]
  rfl
theorem fx_drop (ds : ByteArray) : dropI ([fxH] ++ [(⟨63, 0, ds⟩ : Gm)]) 1 = fxL 0 := rfl
theorem neq_nil (W : World) : (binOp .neq 23 (.pointer none) (.pointer none)).run Try.prog W = .ok (.bool false) W := by
  have h : ∀ d : Nat, (Op.equalIn (d + 1) 23 (.pointer none) (.pointer none)).run Try.prog W = .ok true W := fun d => by
    simp [Op.equalIn, run_underlying Try.underlying23]
  simp only [binOp]
  simp [Op.equal, Op.maxDepth, h 9999]
set_option maxHeartbeats 8000000 in
set_option maxRecDepth 100000 in
theorem fixed_walk (w : World) :
    Calls Try.prog 3 #[] w fun e w' => e = .returned (.bool true) ∧ Below w.heap.size w w' := by
  have hneq := neq_nil
  obtain ⟨mk0, hmk0⟩ := make_hid 1048576 (by decide)
  obtain ⟨mk1, hmk1⟩ := make_hid 1048577 (by decide)
  obtain ⟨bs, hbs⟩ : ∃ bs, List.replicate 1048576 (0 : UInt8) = bs := ⟨_, rfl⟩
  rw [hbs] at hmk0
  clear hbs
  have hm0 : ∀ W : World, (Instr.makeSlice 28 (.int .i64 1048576) (.int .i64 1048576)).run Try.prog W = .ok (.slice (some ⟨W.heap.size, 0, none⟩) 1048576 1048576) (mk0 W) := fun W => (hmk0 W).1
  have hm1 : ∀ W : World, (Instr.makeSlice 28 (.int .i64 1048577) (.int .i64 1048577)).run Try.prog W = .ok (.slice (some ⟨W.heap.size, 0, none⟩) 1048577 1048577) (mk1 W) := fun W => (hmk1 W).1
  have HM0 := Lib.hid (fun W => (hmk0 W).2)
  have HM1 := Lib.hid (fun W => (hmk1 W).2.1)
  clear hmk0 hmk1
  go_enter Try.func3, Try.ntmps3
  go_wp2_with fail
  obtain ⟨w1, hw1⟩ : ∃ u, w.alloc (.cells #[.int .i64 (-1), .int .i64 0, .int .i64 65, .int .i64 1099511627776] 3) = u := ⟨_, rfl⟩
  obtain ⟨B1, hB1⟩ : ∃ u, w.heap.size = u := ⟨_, rfl⟩
  have HF1 := Lib.hid (show Fr No w w1 by rw [← hw1]; exact Fr.alloc _ _ _)
  have HK1 := Lib.hid (show w1.heap[B1]? = some (.cells #[.int .i64 (-1), .int .i64 0, .int .i64 65, .int .i64 1099511627776] 3 (0, 0)) by rw [← hw1, ← hB1]; exact heap_alloc_new w _)
  rw [hw1, hB1]
  clear hw1
  go_loopw [14] (fun v14 wz => ∃ k : Nat, k ≤ 4 ∧ v14 = .int .i64 (k : Int) ∧ wz = w1) (fun v14 _ => 4 - (intOf v14).toNat)
  case atStart => exact ⟨0, by omega, rfl, rfl⟩
  case round =>
    obtain ⟨k, hk, rfl, rfl⟩ := hrel
    by_cases hlt : k < 4
    · obtain ⟨z, hc, HZ⟩ : ∃ z, wr.cell? ⟨B1, k, none⟩ = some (.int .i64 z) ∧ Hid (z < 1 ∨ 64 < z) := by
        have hb := HK1.out
        have : k = 0 ∨ k = 1 ∨ k = 2 ∨ k = 3 := by omega
        rcases this with rfl | rfl | rfl | rfl
        · exact ⟨-1, blk_cell hb 0, .inl (by decide)⟩
        · exact ⟨0, blk_cell hb 1, .inl (by decide)⟩
        · exact ⟨65, blk_cell hb 2, .inr (by decide)⟩
        · exact ⟨1099511627776, blk_cell hb 3, .inr (by decide)⟩
      have hin : (k : Int) < 4 := by omega
      have hk0 : (0 : Int) ≤ (k : Int) := by omega
      have hwi : IntKind.i64.wrap ((k : Int) + 1) = ((k + 1 : Nat) : Int) := by
        rw [show ((k : Int) + 1) = ((k + 1 : Nat) : Int) by omega]
        exact IntWalk.i64_in _ (by omega)
      go_wp2_with fail
      refine (new_bad z wr HZ.out).mono ?_
      rintro e w2 ⟨rfl, rfl⟩
      go_wp2_with fail
      go_roundw
      case rel => exact ⟨k + 1, by omega, by go_num, by first | rfl | trivial⟩
      case measure => simp [intOf]; omega
    · have hin : ¬ ((k : Int) < 4) := by omega
      go_wp2_with fail
      refine (nq_new 64 wr (by decide) (by decide)).mono ?_
      rintro e w2 ⟨rfl, hq, hf⟩
      have HB2 := Lib.hid (show Below w.heap.size w w2 from (HF1.out.no_trans hf).noBelow)
      have HP := Lib.hid (show w.heap.size ≤ wr.heap.size from HF1.out.size)
      have HS2 := Lib.hid hf.size
      have HQ2 := Lib.hid hq
      clear hq hf
      generalize wr.heap.size = P at *
      go_wp2_with fail
      refine (nq_send HQ2.out (by decide) 0 63 rfl rfl none 0 0 (by decide) [] Rd.nil).mono ?_
      rintro e w3 ⟨rfl, hq⟩
      have HQ3 := Lib.hid (show Nq w2 (.slice none 0 0) P 64 [fxH] w3 from hq)
      clear hq
      go_wp2_with fail
      refine (nq_send (HQ3.out.no (HM0.out w3).1) (by decide) 63 0 rfl rfl _ 1048576 1048576 (by decide) bs (HM0.out w3).2).mono ?_
      rintro e w4 ⟨rfl, hq⟩
      have HQ4 := Lib.hid hq
      clear hq
      go_wp2_with fail
      refine (nq_send_arg HQ4.out 0 64 (by decide) none 0 0).mono ?_
      rintro e w5 ⟨rfl, rfl⟩
      go_wp2_with fail
      refine (nq_send_arg HQ4.out 64 0 (by decide) none 0 0).mono ?_
      rintro e w5 ⟨rfl, rfl⟩
      go_wp2_with fail
      refine (nq_send_arg HQ4.out (-1) 0 (by decide) none 0 0).mono ?_
      rintro e w5 ⟨rfl, rfl⟩
      go_wp2_with fail
      refine (nq_send_arg HQ4.out 0 (-1) (by decide) none 0 0).mono ?_
      rintro e w5 ⟨rfl, rfl⟩
      go_wp2_with fail
      have HQ5 := Lib.hid (HQ4.out.no (HM1.out w4))
      refine (nq_send_long HQ5.out 0 0 rfl rfl _ 1048577 1048577 (by omega)).mono ?_
      rintro e w5 ⟨rfl, rfl⟩
      go_wp2_with fail
      have HQ6 := Lib.hid (HQ5.out.no (HM1.out (mk1 w4)))
      refine (nq_send_arg HQ6.out 64 0 (by decide) _ 1048577 1048577).mono ?_
      rintro e w5 ⟨rfl, rfl⟩
      go_wp2_with fail
      generalize mk1 (mk1 w4) = w6 at *
      obtain ⟨w7, hw7⟩ : ∃ u, w6.alloc (.cells #[.int .i64 (-1), .int .i64 2, .int .i64 1099511627776] 3) = u := ⟨_, rfl⟩
      obtain ⟨B7, hB7⟩ : ∃ u, w6.heap.size = u := ⟨_, rfl⟩
      have HF7 := Lib.hid (show Fr No w6 w7 by rw [← hw7]; exact Fr.alloc _ _ _)
      have HK7 := Lib.hid (show w7.heap[B7]? = some (.cells #[.int .i64 (-1), .int .i64 2, .int .i64 1099511627776] 3 (0, 0)) by rw [← hw7, ← hB7]; exact heap_alloc_new w6 _)
      rw [hw7, hB7]
      clear hw7
      generalize hL2 : [fxH] ++ [(⟨63, 0, ⟨bs.toArray⟩⟩ : Gm)] = L2 at *
      have hLL : L2.length = 2 := by rw [← hL2]; rfl
      have HLL := Lib.hid hLL
      have HL2 := Lib.hid hL2
      clear hLL hL2
      obtain ⟨v, hn6, hx6⟩ := HQ6.out
      have HX7 := Lib.hid (show Nx P (.slice none 0 0) w2 w7 v from hx6.then_no HF7.out)
      have HFT := Lib.hid (show ∀ k, foot P v k → k < B7 from fun k hk => by rw [← hB7]; exact hn6.lt hk)
      have HQ7 := Lib.hid (show Nq w7 v P 64 L2 w7 from ⟨v, hn6.no HF7.out, Nx.refl _ _ _⟩)
      have hB7lt : B7 < w7.heap.size := (Array.getElem?_eq_some_iff.1 HK7.out).1
      have HKZ : Hid (∀ W, Nq w7 v P 64 L2 W → W.heap[B7]? = some (.cells #[.int .i64 (-1), .int .i64 2, .int .i64 1099511627776] 3 (0, 0))) := fun W hW =>
        (hW.fr.block B7 hB7lt (fun hk => Nat.lt_irrefl _ (HFT.out _ hk))).trans HK7.out
      clear hn6 hx6 hB7lt HF7
      go_loopw [79] (fun v79 wz => ∃ k : Nat, k ≤ 3 ∧ v79 = .int .i64 (k : Int) ∧ Nq w7 v P 64 L2 wz) (fun v79 _ => 3 - (intOf v79).toNat)
      case atStart => exact ⟨0, by omega, rfl, HQ7.out⟩
      case round =>
        obtain ⟨k, hk, rfl, hq⟩ := hrel
        have HQ := Lib.hid hq
        clear hq
        by_cases hlt : k < 3
        · obtain ⟨z, hc, HZ⟩ : ∃ z, wr.cell? ⟨B7, k, none⟩ = some (.int .i64 z) ∧ Hid (look L2 z = none) := by
            have hb := HKZ.out wr HQ.out
            have : k = 0 ∨ k = 1 ∨ k = 2 := by omega
            rcases this with rfl | rfl | rfl
            · exact ⟨-1, blk_cell hb 0, look_out _ _ (.inl (by decide))⟩
            · exact ⟨2, blk_cell hb 1, look_out _ _ (.inr (by rw [HLL.out]; decide))⟩
            · exact ⟨1099511627776, blk_cell hb 2, look_out _ _ (.inr (by rw [HLL.out]; decide))⟩
          have hin : (k : Int) < 3 := by omega
          have hk0 : (0 : Int) ≤ (k : Int) := by omega
          have hwi : IntKind.i64.wrap ((k : Int) + 1) = ((k + 1 : Nat) : Int) := by
            rw [show ((k : Int) + 1) = ((k + 1 : Nat) : Int) by omega]
            exact IntWalk.i64_in _ (by omega)
          go_wp2_with fail
          refine (nq_take_no HQ.out HZ.out).mono ?_
          rintro e wa ⟨rfl, hf⟩
          have HQa := Lib.hid ((HQ.out.no hf).no (Fr.alloc No wa (.cells #[.int .i64 0, .int .i64 0, .slice none 0 0] 30)))
          clear hf
          go_wp2_with fail
          refine (nq_drop_no HQa.out HZ.out).mono ?_
          rintro e wb ⟨rfl, hq⟩
          have HQb := Lib.hid hq
          clear hq
          go_wp2_with fail
          refine (nq_copy_none HQb.out HZ.out).mono ?_
          rintro e wc ⟨rfl, hf⟩
          have HQc := Lib.hid (HQb.out.no hf)
          clear hf
          go_wp2_with fail
          refine (nq_flying HQc.out HLL.out).mono ?_
          rintro e wd ⟨rfl, rfl⟩
          go_wp2_with fail
          go_roundw
          case rel => exact ⟨k + 1, by omega, by go_num, HQc.out⟩
          case measure => simp [intOf]; omega
        · have hin : ¬ ((k : Int) < 3) := by omega
          have HQe := Lib.hid (HQ.out.up HX7.out)
          go_wp2_with fail
          refine (nq_drop_yes HQe.out (i := 1) (l' := fxL 0) (by rw [← HL2.out]; rfl) (by rw [← HL2.out]; exact fx_drop _)).mono ?_
          rintro e wa ⟨rfl, hq⟩
          have HQa := Lib.hid hq
          clear hq HQ HQ7 HKZ HFT HX7
          go_wp2_with fail
          go_loopw [11] (fun v11 wz => ∃ m i : Nat, i = m + 1 ∧ m ≤ 4095 ∧ v11 = .int .i64 (i : Int) ∧ Nq w2 (.slice none 0 0) P 64 (fxL m) wz) (fun v11 _ => 4096 - (intOf v11).toNat)
          case atStart => exact ⟨0, 1, rfl, by omega, rfl, HQa.out⟩
          case round =>
            obtain ⟨m, i, him, hm, rfl, hq⟩ := hrel
            have HQ := Lib.hid hq
            have HIM := Lib.hid him
            clear hq
            by_cases hlt : m < 4095
            · obtain ⟨a, ha, HA⟩ : ∃ a : Nat, (i : Int).tmod 64 = (a : Int) ∧ Hid (i % 64 = a) := ⟨i % 64, by rw [Int.tmod_eq_emod_of_nonneg (by omega)]; omega, rfl⟩
              obtain ⟨b, hb, HBB⟩ : ∃ b : Nat, (i : Int).tmod 2 = (b : Int) ∧ Hid (i % 2 = b) := ⟨i % 2, by rw [Int.tmod_eq_emod_of_nonneg (by omega)]; omega, rfl⟩
              obtain ⟨d, hd, HD⟩ : ∃ d : Nat, (i : Int) % 256 = (d : Int) ∧ Hid (i % 256 = d) := ⟨i % 256, by omega, rfl⟩
              have hin : (i : Int) < 4096 := by omega
              have hwa : IntKind.i64.wrap (a : Int) = (a : Int) := IntWalk.i64_in _ (by have := HA.out; omega)
              have hwb : IntKind.i64.wrap (b : Int) = (b : Int) := IntWalk.i64_in _ (by have := HBB.out; omega)
              have hwi : IntKind.i64.wrap ((i : Int) + 1) = ((i + 1 : Nat) : Int) := by
                rw [show ((i : Int) + 1) = ((i + 1 : Nat) : Int) by omega]
                exact IntWalk.i64_in _ (by omega)
              have hia : isN 64 (a : Int) = true := by
                have := HA.out
                unfold isN
                rw [Bool.and_eq_true, decide_eq_true_iff, decide_eq_true_iff]
                omega
              have hib : isN 64 (b : Int) = true := by
                have := HBB.out
                unfold isN
                rw [Bool.and_eq_true, decide_eq_true_iff, decide_eq_true_iff]
                omega
              have HIA := Lib.hid hia
              have HIB := Lib.hid hib
              have HG : Hid (fxG i = ⟨(a : Int), (b : Int), ⟨#[UInt8.ofNat d]⟩⟩) := by
                show _ = _
                rw [← HA.out, ← HBB.out, ← HD.out]
                rfl
              have HLN : Hid ((fxL m).length < 4096) := by
                show _ < _
                rw [fxL_len]
                omega
              have HRD := Lib.hid (rd_lit wr [UInt8.ofNat d] #[.int .u8 (d : Int)] (0, 0) (by have := HD.out; simp [bvs]; omega) (n := 1) rfl)
              have HQ5 := Lib.hid (HQ.out.no (Fr.alloc No wr (.cells #[.int .u8 (d : Int)] 5)))
              clear hia hib him
              go_wp2_with fail
              refine (nq_send HQ5.out HLN.out (a : Int) (b : Int) HIA.out HIB.out _ 1 1 (by decide) [UInt8.ofNat d] HRD.out).mono ?_
              rintro e wb ⟨rfl, hq⟩
              have HQb := Lib.hid (show Nq w2 (.slice none 0 0) P 64 (fxL (m + 1)) wb by rw [fxL_succ, ← HIM.out, HG.out]; exact hq)
              clear hq
              go_wp2_with fail
              go_roundw
              case rel => exact ⟨m + 1, i + 1, by rw [HIM.out], by omega, by go_num, HQb.out⟩
              case measure => have := HIM.out; simp [intOf]; omega
            · have hm5 : m = 4095 := by omega
              subst hm5
              have hin : ¬ ((i : Int) < 4096) := by omega
              have HLN := Lib.hid (show (fxL 4095).length = 4096 from fxL_len 4095)
              have HLAST := Lib.hid fx_last
              obtain ⟨E, hE1, hE2, hE3, hE4, g, hE5⟩ := fx_facts
              have HE1 := Lib.hid hE1
              have HE2 := Lib.hid hE2
              have HE3 := Lib.hid hE3
              have HE4 := Lib.hid hE4
              have HE5 := Lib.hid hE5
              have HLK : Hid (∃ g0, look (fxL 4095) 0 = some g0) := ⟨fxH, rfl⟩
              clear hE1 hE2 hE3 hE4 hE5 him
              generalize fxL 4095 = F at *
              go_wp2_with fail
              refine (nq_send_full HQ.out HLN.out 0 0 rfl rfl none 0 0 (by decide) [] Rd.nil).mono ?_
              rintro e wb ⟨rfl, hf⟩
              have HQb := Lib.hid (HQ.out.no hf)
              clear hf
              go_wp2_with fail
              obtain ⟨g0, hg0⟩ := HLK.out
              refine (nq_copy_full HQb.out HLN.out (i := 0) hg0).mono ?_
              rintro e wc ⟨rfl, hf⟩
              have HQc := Lib.hid (HQb.out.no hf)
              clear hf hg0
              go_wp2_with fail
              refine (nq_copy_none HQc.out (i := 4096) (look_out _ _ (.inr (by rw [HLN.out]; decide)))).mono ?_
              rintro e wd ⟨rfl, hf⟩
              have HQd := Lib.hid (HQc.out.no hf)
              clear hf
              go_wp2_with fail
              refine (nq_flying HQd.out HLN.out).mono ?_
              rintro e we ⟨rfl, rfl⟩
              go_wp2_with fail
              refine (nq_stands HQd.out HLAST.out).mono ?_
              rintro e we ⟨rfl, hf⟩
              have HQe := Lib.hid (HQd.out.no hf)
              clear hf
              go_wp2_with fail
              refine (nq_forget HQe.out 1).mono ?_
              have hc1 : ((F.length - (keepN F 1).length : Nat) : Int) = 2048 := by rw [HE1.out, HLN.out, List.length_cons, HE2.out]; rfl
              rw [hc1, HE1.out]
              rintro e wf ⟨rfl, hq⟩
              have HQf := Lib.hid hq
              clear hq hc1
              go_wp2_with fail
              refine (nq_forget HQf.out 64).mono ?_
              rw [HE3.out, Nat.sub_self]
              rintro e wg ⟨rfl, hq⟩
              have HQg := Lib.hid hq
              clear hq
              go_wp2_with fail
              refine (nq_forget HQg.out 63).mono ?_
              have hc2 : (((fxH :: E).length - (keepN (fxH :: E) 63).length : Nat) : Int) = 1 := by rw [HE4.out, List.length_cons, HE2.out]; rfl
              rw [hc2, HE4.out]
              rintro e wh ⟨rfl, hq⟩
              have HQh := Lib.hid hq
              clear hq hc2
              go_wp2_with fail
              refine (nq_flying HQh.out HE2.out).mono ?_
              rintro e wi ⟨rfl, rfl⟩
              go_wp2_with fail
              refine (nq_copy HQh.out (by rw [HE2.out]; decide) HE5.out).mono ?_
              rintro e wi ⟨rfl, hq⟩
              have HQi := Lib.hid hq
              clear hq
              go_wp2_with fail
              refine (awake_any _).mono ?_
              rintro e wj ⟨rfl, hb⟩
              have hbb := HB2.out.trans (HQi.out.below HB2.out.size (fun k hk => by rw [foot_nil hk]; exact HP.out))
              have HBj := Lib.hid (hbb.trans (hb.mono hbb.size))
              clear hb hbb
              go_wp2_with fail
              go_ret
              exact ⟨rfl, HBj.out⟩
end Go.Proofs.Ytndanonhkjgmhaa

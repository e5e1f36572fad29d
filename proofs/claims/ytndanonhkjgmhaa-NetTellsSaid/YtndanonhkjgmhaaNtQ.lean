/-
  NetStill: the walk. No statement of the seat is proved here.
-/
import Derived.Test.YtndanonhkjgmhaaNtP
namespace Go.Proofs.Ytndanonhkjgmhaa
open Go.RowKit

set_option maxRecDepth 100000 in
/-- Bytes that are made: so many noughts. -/
theorem make_hid (k : Nat) (hk : k ≤ 2000000) : ∃ f : World → World, ∀ W, (Instr.makeSlice 28 (.int .i64 (k : Int)) (.int .i64 (k : Int))).run Try.prog W = .ok (.slice (some ⟨W.heap.size, 0, none⟩) k k) (f W) ∧ Fr No W (f W) ∧ Rd (f W) (f W).heap.size (some ⟨W.heap.size, 0, none⟩) k (List.replicate k 0) := by
  refine ⟨fun W => W.alloc (.cells (List.replicate k (Value.int .u8 0)).toArray 5), fun W => ⟨?_, Fr.alloc _ _ _, ?_⟩⟩
  · obtain ⟨i0, hi, hz0, hz1, hz2⟩ := info_parts info_u8
    have h := run_make (P := Try.prog) W 28 5 i0 (.int .u8 0) Try.underlying28 hi hz0 .i64 .i64 (k : Int) (k : Int) (by omega) (by omega) (by rw [hz2]; omega) (by omega)
    rw [h]
    have e : madeCells (Value.int .u8 0).cells (((k : Nat) : Int).toNat * i0.size) = (List.replicate k (Value.int .u8 0)).toArray := by
      rw [hz1]
      apply Array.ext
      · simp [madeCells]
      · intro i h1 h2
        simp [madeCells, Value.cells, Nat.mod_one]
    rw [e]
    simp
  · have := Rd.new W (List.replicate k 0) (List.replicate k (Value.int .u8 0)).toArray (by simp [bvs]) (0, 0)
    rw [List.length_replicate] at this
    rw [World.size_alloc]
    exact this
theorem lay_to (xs : List Gr) : ∀ g ∈ lay xs, isN 3 g.to = true := by
  intro g hg
  unfold lay at hg
  obtain ⟨x, _, rfl⟩ := List.mem_map.1 hg
  exact isn3 _
theorem keep_none {l : List Gm} {n x : Int} (h : ∀ g ∈ l, isN n g.to = true) (hx : isN n x = false) : keepN l x = l := by
  unfold keepN
  rw [List.filter_eq_self]
  intro g hg
  have := h g hg
  cases e : (g.to == x) with
  | false => rfl
  | true =>
    rw [beq_iff_eq] at e
    rw [e, hx] at this
    cases this
theorem not_n3 {x : Int} (h : x < 0 ∨ 3 ≤ x) : isN 3 x = false := by
  unfold isN
  rw [Bool.and_eq_false_iff, decide_eq_false_iff_not, decide_eq_false_iff_not]
  omega
theorem look_out (l : List Gm) (i : Int) (h : i < 0 ∨ (l.length : Int) ≤ i) : look l i = none := by
  unfold look
  split
  · exact List.getElem?_eq_none_iff.2 (by omega)
  · rfl
/-- The net's anchor anew: since now, nothing has turned. -/
theorem Nq.anchor {wk w : World} {vk : Value} {P : Nat} {n : Int} {l : List Gm} (h : Nq wk vk P n l w) : ∃ v, Ntw w P n v l ∧ Nx P vk wk w v := h
set_option maxHeartbeats 4000000 in
set_option maxRecDepth 100000 in
theorem still_walk {w : World} {A : Option Addr} {n : Nat} {xs : List Gr} (c : Nat) (hx : RowOf w 3 (GrAt w) A n xs) (far : Int) (f0 : 0 ≤ far) (f1 : far ≤ 65535) (node : Int) :
    Calls Try.prog 9 #[.slice A n c, .int .u16 far, .int .i64 node] w fun e w' => e = .returned (.bool true) ∧ Below w.heap.size w w' := by
  have HLD := Lib.hid (laid_any c hx)
  have hlen : (lay (xs.take 30)).length ≤ 30 := by
    have := lay_len (xs.take 30)
    rw [List.length_take] at this
    omega
  have hto := lay_to (xs.take 30)
  clear hx
  generalize lay (xs.take 30) = L at *
  have hcases : ∃ nd : Int, isN 3 nd = false ∧ ((nd < 0 ∧ nd = node) ∨ (0 ≤ node ∧ node < 3 ∧ IntKind.i64.wrap (node + 3) = nd) ∨ (3 ≤ nd ∧ nd = node)) := by
    by_cases h0 : node < 0
    · exact ⟨node, not_n3 (by omega), .inl ⟨h0, rfl⟩⟩
    · by_cases h3 : node < 3
      · exact ⟨node + 3, not_n3 (by omega), .inr (.inl ⟨by omega, h3, IntWalk.i64_in _ (by omega)⟩)⟩
      · exact ⟨node, not_n3 (by omega), .inr (.inr ⟨by omega, rfl⟩)⟩
  obtain ⟨nd, hnd, hcs⟩ := hcases
  have HK := Lib.hid (keep_none hto hnd)
  have HND := Lib.hid hnd
  clear hto hnd
  obtain ⟨mk, hmk⟩ := make_hid 1048577 (by decide)
  have hm1 : ∀ W : World, (Instr.makeSlice 28 (.int .i64 1048577) (.int .i64 1048577)).run Try.prog W = .ok (.slice (some ⟨W.heap.size, 0, none⟩) 1048577 1048577) (mk W) := fun W => (hmk W).1
  have HMK := Lib.hid (fun W => (hmk W).2.1)
  clear hmk
  go_enter Try.func9, Try.ntmps9
  go_wp2_with fail
  refine HLD.out.mono ?_
  rintro e w2 ⟨rfl, w1, hf1, hq⟩
  obtain ⟨v, hn, hx⟩ := hq
  have HB2 := Lib.hid (show Below w.heap.size w w2 from hf1.noBelow.trans (hx.1.below hf1.size (fun k hk => by rw [foot_nil hk]; exact Nat.le_refl _)))
  have HFT := Lib.hid (show ∀ k, foot w.heap.size v k → w.heap.size ≤ k from fun k hk => by
    rcases hk with e | e
    · exact Nat.le_of_eq e.symm
    · rcases hx.2 with q | q
      · rw [q] at e; cases e
      · exact Nat.le_trans hf1.size (q k e))
  have HN := Lib.hid hn
  clear hf1 hn hx
  obtain ⟨N, HNL⟩ : ∃ N, Hid (L.length = N) := ⟨_, rfl⟩
  have hN30 : N ≤ 30 := by rw [← HNL.out]; exact hlen
  obtain ⟨z0, hz0, HZ0⟩ : ∃ z, IntKind.i64.wrap (-1 - far) = z ∧ Hid (look L z = none) := ⟨-1 - far, IntWalk.i64_in _ (by omega), look_out _ _ (by omega)⟩
  obtain ⟨z1, hz1, HZ1⟩ : ∃ z, IntKind.i64.wrap ((N : Int) + far) = z ∧ Hid (look L z = none) := ⟨N + far, IntWalk.i64_in _ (by omega), look_out _ _ (by rw [HNL.out]; omega)⟩
  have hfw : IntKind.i64.wrap far = far := IntWalk.i64_in _ (by omega)
  clear hlen
  rcases hcs with ⟨h0, he⟩ | ⟨h0, h3, hw⟩ | ⟨h3, he⟩
  case' inl => subst he; have hg0 : ¬ (0 ≤ nd) := by omega
  case' inr.inr => subst he; have hg0 : 0 ≤ nd := by omega
  case' inr.inr => have hg1 : ¬ (nd < 3) := by omega
  all_goals (
    go_wp2_with fail
    refine (all_any HN.out).mono ?_
    rintro e w3 ⟨r, M, rfl, hr, hM, hf3⟩
    obtain ⟨A2, c2, e, hc2⟩ := hr.sl
    have hML : M.length = N := by rw [← HNL.out, ← hM, List.length_map]
    rw [hML] at e
    subst e
    have HR0 := Lib.hid hr
    have HF3 := Lib.hid hf3
    have HM := Lib.hid hM
    have HML := Lib.hid hML
    clear hr hf3 hM hML
    have h4 := HF3.out.no_trans (Fr.alloc No w3 (.cells #[.int .i64 z0, .int .i64 z1] 3))
    have HFT4 := Lib.hid (show ∀ k, foot w.heap.size v k → k < w2.heap.size from fun k hk => HN.out.lt hk)
    have HN4 := Lib.hid (show Nq (w3.alloc (.cells #[.int .i64 z0, .int .i64 z1] 3)) v w.heap.size 3 L (w3.alloc (.cells #[.int .i64 z0, .int .i64 z1] 3)) from ⟨v, HN.out.no h4, Nx.refl _ _ _⟩)
    have HL4 : Hid (∀ W, Nq (w3.alloc (.cells #[.int .i64 z0, .int .i64 z1] 3)) v w.heap.size 3 L W → W.heap[w3.heap.size]? = some (.cells #[.int .i64 z0, .int .i64 z1] 3 (0, 0))) := fun W hW =>
      (hW.fr.block _ (by simp) (fun hk => by have := HFT4.out _ hk; have := HF3.out.size; omega)).trans (heap_alloc_new w3 _)
    have HR4 : Hid (∀ W W', Nq (w3.alloc (.cells #[.int .i64 z0, .int .i64 z1] 3)) v w.heap.size 3 L W → Fr No W W' → RowOf W' 3 (GrAt W') A2 N M) := fun W W' hW hf => by
      have q := ((HR0.out.no (Fr.alloc No w3 (.cells #[.int .i64 z0, .int .i64 z1] 3))).keep hW.fr (fun k hlo _ hk => by have := HFT4.out _ hk; omega)).no hf
      rw [← HML.out] at q ⊢
      exact q.of
    have HB4 : Hid (∀ W, Nq (w3.alloc (.cells #[.int .i64 z0, .int .i64 z1] 3)) v w.heap.size 3 L W → Below w.heap.size w W) := fun W hW =>
      (HB2.out.trans (h4.noBelow.mono HB2.out.size)).trans (hW.below (Nat.le_trans HB2.out.size h4.size) HFT.out)
    clear h4
    go_wp2_with fail
    go_loopw [43] (fun v43 wr => ∃ k : Nat, k ≤ 2 ∧ v43 = .int .i64 (k : Int) ∧ Nq (w3.alloc (.cells #[.int .i64 z0, .int .i64 z1] 3)) v w.heap.size 3 L wr) (fun v43 _ => 2 - (intOf v43).toNat)
    case atStart => exact ⟨0, by omega, rfl, HN4.out⟩
    case round =>
      obtain ⟨k, hk, rfl, hq⟩ := hrel
      have HQ := Lib.hid hq
      clear hq
      by_cases hlt : k < 2
      · have hb := HL4.out wr HQ.out
        obtain ⟨z, hc, HZ⟩ : ∃ z, wr.cell? ⟨w3.heap.size, k, none⟩ = some (.int .i64 z) ∧ Hid (look L z = none) := by
          have : k = 0 ∨ k = 1 := by omega
          rcases this with rfl | rfl
          · exact ⟨z0, blk_cell hb 0, HZ0⟩
          · exact ⟨z1, blk_cell hb 1, HZ1⟩
        clear hb
        have hin : (k : Int) < 2 := by omega
        have hk0 : (0 : Int) ≤ (k : Int) := by omega
        have hwi : IntKind.i64.wrap ((k : Int) + 1) = ((k + 1 : Nat) : Int) := by
          rw [show ((k : Int) + 1) = ((k + 1 : Nat) : Int) by omega]
          exact IntWalk.i64_in _ (by omega)
        go_wp2_with fail
        refine (nq_look_no HQ.out HZ.out).mono ?_
        rintro e w5 ⟨rfl, hf⟩
        have H5 := Lib.hid ((HQ.out.no hf).no (Fr.alloc No w5 (.cells #[.int .i64 0, .int .i64 0, .slice none 0 0] 30)))
        clear hf
        go_wp2_with fail
        refine (nq_take_no H5.out HZ.out).mono ?_
        rintro e w6 ⟨rfl, hf⟩
        have H6 := Lib.hid ((H5.out.no hf).no (Fr.alloc No w6 (.cells #[.int .i64 0, .int .i64 0, .slice none 0 0] 30)))
        clear hf
        go_wp2_with fail
        refine (nq_drop_no H6.out HZ.out).mono ?_
        rintro e w7 ⟨rfl, hq⟩
        have H7 := Lib.hid hq
        clear hq
        go_wp2_with fail
        refine (nq_copy_none H7.out HZ.out).mono ?_
        rintro e w8 ⟨rfl, hf⟩
        have H8 := Lib.hid (H7.out.no hf)
        clear hf
        go_wp2_with fail
        refine (nq_send_arg H8.out nd 0 (by rw [HND.out]; rfl) none 0 0).mono ?_
        rintro e w9 ⟨rfl, rfl⟩
        go_wp2_with fail
        refine (nq_send_arg H8.out 0 nd (by rw [HND.out]; rfl) none 0 0).mono ?_
        rintro e w9 ⟨rfl, rfl⟩
        go_wp2_with fail
        refine (nq_forget H8.out nd).mono ?_
        rw [HK.out, Nat.sub_self]
        rintro e w9 ⟨rfl, hq⟩
        have H9 := Lib.hid hq
        clear hq
        go_wp2_with fail
        go_roundw
        case rel => exact ⟨k + 1, by omega, by go_num, H9.out⟩
        case measure => simp [intOf]; omega
      · have hk2 : k = 2 := by omega
        have hin : ¬ ((k : Int) < 2) := by omega
        go_wp2_with fail
        refine (nq_send_long (HQ.out.no (HMK.out wr)) 1 1 rfl rfl _ 1048577 1048577 (by omega)).mono ?_
        rintro e w5 ⟨rfl, rfl⟩
        go_wp2_with fail
        refine (nq_all (HQ.out.no (HMK.out wr))).mono ?_
        rintro e w6 ⟨r6, M6, rfl, hr6, hM6, hf6⟩
        have H6 := Lib.hid ((HQ.out.no (HMK.out wr)).no hf6)
        have hR6 := HR4.out _ _ HQ.out ((HMK.out wr).no_trans hf6)
        obtain ⟨A6, c6, e, hc6⟩ := hr6.sl
        have hML6 : M6.length = N := by rw [← HNL.out, ← hM6, List.length_map]
        subst e
        have hS6 := hr6.of
        rw [hML6] at hS6 ⊢
        have HRW := Lib.hid (rows_yes (c := c6) (c' := c2) hS6 hR6 (by rw [hM6, HM.out]) (by omega))
        clear hr6 hM6 hf6 hR6 hc6 hML6 hS6
        go_wp2_with fail
        refine HRW.out.mono ?_
        rintro e w7 ⟨rfl, hf⟩
        have H7 := Lib.hid (H6.out.no hf)
        clear hf
        go_wp2_with fail
        refine (awake_any _).mono ?_
        rintro e w8 ⟨rfl, hb⟩
        have HB8 := Lib.hid ((HB4.out _ H7.out).trans (hb.mono (HB4.out _ H7.out).size))
        clear hb
        go_wp2_with fail
        go_ret
        exact ⟨rfl, HB8.out⟩)
end Go.Proofs.Ytndanonhkjgmhaa

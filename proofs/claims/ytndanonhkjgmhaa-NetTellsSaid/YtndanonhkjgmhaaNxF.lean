/-
  The document's net: Take of what is there. No statement of the seat is proved here.
-/
import Derived.Test.YtndanonhkjgmhaaNxE
import Derived.BigRegion
namespace Go.Proofs.Ytndanonhkjgmhaa
open Go.RowKit

/-- What Take of what is there leaves. -/
def Took (w : World) (n : Nat) (H : List St) (i : Nat) (x : St) (N : Int) (E : Nat) (e : Ending) (w' : World) : Prop :=
  ∃ A' c' n1, e = .returned (.tuple #[.agg #[.int .i64 N, .int .i64 (E : Int), .slice A' n1 c'], .agg #[.int .i64 x.g.fr, .int .i64 x.g.to, .slice x.g.A x.g.n x.g.c], .bool true]) ∧ n = n1 + 1 ∧ RowOf w' 4 (StAt w') A' n1 (H.eraseIdx i) ∧
    (∀ a, A' = some a → w.heap.size ≤ a.block ∧ a.block < w'.heap.size) ∧ n1 ≤ c' ∧ Fr No w w'
set_option maxHeartbeats 1600000 in
set_option maxRecDepth 100000 in
theorem takeS_yes {w : World} {A : Option Addr} {n : Nat} {H : List St} (c : Nat) (h : RowOf w 4 (StAt w) A n H) (hd : Dsc H) (hn : n ≤ 10000) (hcap : n ≤ c) (N : Int) (E : Nat) (p : Int) {i : Nat} (hi : fpos n p = (i : Int)) {x : St} (hx : H[i]? = some x) :
    Calls Try.prog 22 #[.agg #[.int .i64 N, .int .i64 (E : Int), .slice A n c], .int .i64 p] w (Took w n H i x N E) := by
  have hil : i < H.length := (List.getElem?_eq_some_iff.1 hx).1
  have hin : i < n := by rw [← h.1]; exact hil
  have hxe : H[i] = x := (List.getElem?_eq_some_iff.1 hx).2
  obtain ⟨b, o, hA, hb, hc⟩ := h.2 (by omega)
  subst hA
  have hX := hc i hil
  rw [hxe] at hX
  have HX := Lib.hid hX
  have HBL := Lib.hid hb
  have g0 := heap_alloc_new w (.cells #[.int .i64 N, .int .i64 (E : Int), .slice (some ⟨b, o, none⟩) n c] 42)
  have g1 := heap2 w (.cells #[.int .i64 N, .int .i64 (E : Int), .slice (some ⟨b, o, none⟩) n c] 42) (.cells #[.int .i64 0, .int .i64 0, .slice none 0 0] 42)
  have hfa := Fr.alloc No (w.alloc (.cells #[.int .i64 N, .int .i64 (E : Int), .slice (some ⟨b, o, none⟩) n c] 42)) (.cells #[.int .i64 0, .int .i64 0, .slice none 0 0] 42)
  have hfb := Fr.alloc No ((w.alloc (.cells #[.int .i64 N, .int .i64 (E : Int), .slice (some ⟨b, o, none⟩) n c] 42)).alloc (.cells #[.int .i64 0, .int .i64 0, .slice none 0 0] 42)) (.cells #[.int .i64 0, .int .i64 0, .slice none 0 0] 30)
  have g2 := heap_alloc_new ((w.alloc (.cells #[.int .i64 N, .int .i64 (E : Int), .slice (some ⟨b, o, none⟩) n c] 42)).alloc (.cells #[.int .i64 0, .int .i64 0, .slice none 0 0] 42)) (.cells #[.int .i64 0, .int .i64 0, .slice none 0 0] 30)
  rw [World.size_alloc, World.size_alloc] at g2
  have hf := ((Fr.alloc No w (.cells #[.int .i64 N, .int .i64 (E : Int), .slice (some ⟨b, o, none⟩) n c] 42)).no_trans hfa).no_trans hfb
  have HG0 := Lib.hid (blk_no hfb (blk_no hfa g0))
  have HG1 := Lib.hid (blk_no hfb g1)
  have HG2 := Lib.hid g2
  have HF := Lib.hid hf
  have HR := Lib.hid h
  have HA := Lib.hid (find_any c (rowS_no h hf) hd hn N (E : Int) p)
  rw [hi] at HA
  have hiI : (i : Int) < (n : Int) := by omega
  have hi0 : (0 : Int) ≤ (i : Int) := by omega
  obtain ⟨i1, hi1⟩ : ∃ i1, i + 1 = i1 := ⟨_, rfl⟩
  have hwi : IntKind.i64.wrap ((i : Int) + 1) = (i1 : Int) := by
    rw [show ((i : Int) + 1) = (i1 : Int) by omega]
    exact IntWalk.i64_in _ (by omega)
  have hi1n : i1 ≤ n := by omega
  have hic : i ≤ c := by omega
  have HI1 := Lib.hid hi1
  obtain ⟨n1, hn1⟩ : ∃ n1, n = n1 + 1 := ⟨n - 1, by omega⟩
  have HN1 := Lib.hid hn1
  have HLT := Lib.hid (show (H.take i).length = i by rw [List.length_take]; omega)
  have HER := Lib.hid (show H.take i ++ H.drop i1 = H.eraseIdx i by rw [← hi1]; exact erase_app H i)
  have HLE := Lib.hid (show (H.eraseIdx i).length = n1 by rw [List.length_eraseIdx_of_lt hil, h.1]; omega)
  have HLN := Lib.hid h.1
  clear h hf hd g0 g1 g2 hfa hfb hc hX hxe hx hb hi1 hn1
  go_enter Try.func22, Try.ntmps22
  go_wp2_with fail
  generalize ((w.alloc (.cells #[.int .i64 N, .int .i64 (E : Int), .slice (some ⟨b, o, none⟩) n c] 42)).alloc (.cells #[.int .i64 0, .int .i64 0, .slice none 0 0] 42)).alloc (.cells #[.int .i64 0, .int .i64 0, .slice none 0 0] 30) = w0 at *
  refine HA.out.mono ?_
  rintro e w1 ⟨rfl, hf⟩
  have HF1 := Lib.hid (HF.out.no_trans hf)
  have H0 := Lib.hid (blk_no hf HG0.out)
  have H1 := Lib.hid (blk_no hf HG1.out)
  have H2 := Lib.hid (blk_no hf HG2.out)
  clear hf
  have p2 : w1.cell? ⟨w.heap.size, 2, none⟩ = some (.slice (some ⟨b, o, none⟩) n c) := blk_cell H0.out 2
  obtain ⟨_, x1, x2, x3, _⟩ := (HX.out.no HBL.out HF1.out).at_
  go_upto_region 5 with fail
  have hfg := Fr.alloc No w1 (.cells #[.int .i64 x.g.fr, .int .i64 x.g.to, .slice x.g.A x.g.n x.g.c] 30)
  have HG := Lib.hid (heap_alloc_new w1 (.cells #[.int .i64 x.g.fr, .int .i64 x.g.to, .slice x.g.A x.g.n x.g.c] 30))
  have HF2 := Lib.hid (HF1.out.no_trans hfg)
  have K0 := Lib.hid (blk_no hfg H0.out)
  have K1 := Lib.hid (blk_no hfg H1.out)
  have K2 := Lib.hid (blk_no hfg H2.out)
  have HZ1 := Lib.hid (show w.heap.size + 1 + 1 + 1 ≤ w1.heap.size from (Array.getElem?_eq_some_iff.1 H2.out).1)
  generalize hg1 : w1.heap.size = G1 at *
  clear hfg p2 x1 x2 x3
  generalize w1.alloc (.cells #[.int .i64 x.g.fr, .int .i64 x.g.to, .slice x.g.A x.g.n x.g.c] 30) = w2 at *
  have HFn := Lib.hid (Fr.alloc No w2 (.cells #[] 85))
  have HNW : Hid ((w2.alloc (.cells #[] 85)).ownsRow w2.heap.size 85 4 (.slice (some ⟨w2.heap.size, 0, none⟩) 0 0) 0 (stsCells [])) :=
    ⟨rfl, .inr ⟨w2.heap.size, 0, _, rfl, Nat.le_refl _, heap_alloc_new w2 _, Nat.le_refl _, by unfold maxLen; omega, rfl, rfl⟩⟩
  have HF3 := Lib.hid (HF2.out.no_trans HFn.out)
  have HRT := Lib.hid (rowS_take (rowS_no HR.out HF3.out) (Nat.le_of_lt hin))
  have p3 : (w2.alloc (.cells #[] 85)).cell? ⟨w.heap.size, 2, none⟩ = some (.slice (some ⟨b, o, none⟩) n c) := blk_cell (blk_no HFn.out K0.out) 2
  have HZ2 := Lib.hid (show w.heap.size + 1 + 1 + 1 ≤ w2.heap.size ∧ G1 < w2.heap.size from ⟨by have := (Array.getElem?_eq_some_iff.1 K2.out).1; omega, (Array.getElem?_eq_some_iff.1 HG.out).1⟩)
  go_upto_region 6 with (at_builtin; refine wpList_append_st _ rfl (.tmp 23) (.tmp 27) rfl w2.heap.size (.slice (some ⟨w2.heap.size, 0, none⟩) 0 0) [] rfl HNW.out (some ⟨b, o, none⟩) i c (H.take i) rfl HRT.out (by show 0 + i ≤ 100000; omega) HFn.out.size ?_; intro v4 w4 ho4 hg4; rw [List.nil_append, HLT.out] at ho4; obtain ⟨A4, c4, rfl⟩ := own_sl ho4; have HO4 := Lib.hid ho4; have hf4 := Fr.grown (F := fun i => i = w2.heap.size) hg4 (fun k hk => by injection hk with hk; exact hk.symm); have HFG := Lib.hid ((HFn.out.any (F := fun i => i = w2.heap.size)).trans hf4 (fun _ _ e => e)); clear ho4 hg4 hf4)
  have HF4 := Lib.hid (fr_new HF2.out HFG.out (fun i hi => by have := HZ2.out.1; omega))
  have L0 := Lib.hid (fr_blk HFG.out (by have := HZ2.out.1; omega) K0.out)
  have L1 := Lib.hid (fr_blk HFG.out (by have := HZ2.out.1; omega) K1.out)
  have L2 := Lib.hid (fr_blk HFG.out (by have := HZ2.out.1; omega) K2.out)
  have LG := Lib.hid (fr_blk HFG.out (by have := HZ2.out.2; omega) HG.out)
  obtain ⟨A6, c6, n6, hsl, hn6, hr6⟩ := post_st (rowS_no HR.out HF4.out) hcap hi1n
  have HRD := Lib.hid hr6
  have HN6 := Lib.hid hn6
  clear hr6 hn6
  have l2 : w4.cell? ⟨w.heap.size, 2, none⟩ = some (.slice (some ⟨b, o, none⟩) n c) := blk_cell L0.out 2
  clear p3
  have l3 := blk_free L0.out 2
  have HNB : Hid (∀ k, (Value.slice A4 i c4).ownBlock = some k → w2.heap.size ≤ k) := fun k hk => (HO4.out.lt k hk).1
  go_upto_region 7 with (at_builtin; refine wpList_append_st _ rfl (.tmp 29) (.tmp 34) rfl w2.heap.size (.slice A4 i c4) (H.take i) rfl (by rw [HLT.out]; exact HO4.out) A6 n6 c6 (H.drop i1) rfl HRD.out (by rw [HLT.out, HN6.out]; omega) HFG.out.size ?_; intro v5 w5 ho5 hg5; rw [HER.out, HLE.out] at ho5; obtain ⟨A5, c5, rfl⟩ := own_sl ho5; have HO5 := Lib.hid ho5; have HFH := Lib.hid (Fr.grown (F := fun j => (Value.slice A4 i c4).ownBlock = some j) hg5 (fun k hk => hk)); clear ho5 hg5; have M0 := Lib.hid (fr_blk HFH.out (fun e => by have := HNB.out _ e; have := HZ2.out.1; omega) L0.out); have m0 := blk_cell M0.out 2; have m1 := blk_free M0.out 2)
  have HF5 := Lib.hid (fr_new HF4.out HFH.out (fun k hk => by have := HNB.out k hk; have := HZ2.out.1; omega))
  have M1 := Lib.hid (fr_blk HFH.out (fun e => by have := HNB.out _ e; have := HZ2.out.1; omega) L1.out)
  have M2 := Lib.hid (fr_blk HFH.out (fun e => by have := HNB.out _ e; have := HZ2.out.1; omega) L2.out)
  have MG := Lib.hid (fr_blk HFH.out (fun e => by have := HNB.out _ e; have := HZ2.out.2; omega) LG.out)
  clear l2 l3 hsl m0 m1
  have hs := Fr.setCell (F := fun i => i = w.heap.size) w5 ⟨w.heap.size, 2, none⟩ (.slice A5 n1 c5) rfl
  have hb0 := heap_cells_set w5 w.heap.size 2 _ _ (.slice A5 n1 c5) M0.out
  have hb0 : (w5.setCell ⟨w.heap.size, 2, none⟩ (.slice A5 n1 c5)).heap[w.heap.size]? = some (.cells #[.int .i64 N, .int .i64 (E : Int), .slice A5 n1 c5] 42 (0, 0)) := hb0
  have P0 := Lib.hid hb0
  have P1 := Lib.hid (fr_blk hs (by omega) M1.out)
  have P2 := Lib.hid (fr_blk hs (by omega) M2.out)
  have PG := Lib.hid (fr_blk hs (by have := HZ1.out; omega) MG.out)
  have HF6 := Lib.hid (fr_new HF5.out hs (fun i hi => by omega))
  have HO6 := Lib.hid (own_keep HO5.out (fun k hk => hs.block k (HO5.out.lt k hk).2 (by have := (HO5.out.lt k hk).1; have := HZ2.out.1; omega)))
  clear hs hb0
  generalize w5.setCell ⟨w.heap.size, 2, none⟩ (.slice A5 n1 c5) = w6 at *
  have p0 : w6.cell? ⟨w.heap.size, 0, none⟩ = some (.int .i64 N) := blk_cell P0.out 0
  have p1 : w6.cell? ⟨w.heap.size, 1, none⟩ = some (.int .i64 (E : Int)) := blk_cell P0.out 1
  have p2 : w6.cell? ⟨w.heap.size, 2, none⟩ = some (.slice A5 n1 c5) := blk_cell P0.out 2
  have q0 : w6.cell? ⟨w.heap.size + 1, 0, none⟩ = some (.int .i64 0) := blk_cell P1.out 0
  have q1 : w6.cell? ⟨w.heap.size + 1, 1, none⟩ = some (.int .i64 0) := blk_cell P1.out 1
  have q2 : w6.cell? ⟨w.heap.size + 1, 2, none⟩ = some (.slice none 0 0) := blk_cell P1.out 2
  have r0 : w6.cell? ⟨w.heap.size + 1 + 1, 0, none⟩ = some (.int .i64 0) := blk_cell P2.out 0
  have r1 : w6.cell? ⟨w.heap.size + 1 + 1, 1, none⟩ = some (.int .i64 0) := blk_cell P2.out 1
  have r2 : w6.cell? ⟨w.heap.size + 1 + 1, 2, none⟩ = some (.slice none 0 0) := blk_cell P2.out 2
  have g0 : w6.cell? ⟨G1, 0, none⟩ = some (.int .i64 x.g.fr) := blk_cell PG.out 0
  have g1 : w6.cell? ⟨G1, 1, none⟩ = some (.int .i64 x.g.to) := blk_cell PG.out 1
  have g2 : w6.cell? ⟨G1, 2, none⟩ = some (.slice x.g.A x.g.n x.g.c) := blk_cell PG.out 2
  have fq0 : w6.frozen? ⟨w.heap.size + 1, 0, none⟩ = false := blk_free P1.out 0
  have fq1 : w6.frozen? ⟨w.heap.size + 1, 1, none⟩ = false := blk_free P1.out 1
  have fq2 : w6.frozen? ⟨w.heap.size + 1, 2, none⟩ = false := blk_free P1.out 2
  have fr0 : w6.frozen? ⟨w.heap.size + 1 + 1, 0, none⟩ = false := blk_free P2.out 0
  have fr1 : w6.frozen? ⟨w.heap.size + 1 + 1, 1, none⟩ = false := blk_free P2.out 1
  have fr2 : w6.frozen? ⟨w.heap.size + 1 + 1, 2, none⟩ = false := blk_free P2.out 2
  have hG1 : w.heap.size + 1 ≠ G1 := by have := HZ1.out; omega
  have hG2 : w.heap.size + 1 + 1 ≠ G1 := by have := HZ1.out; omega
  go_region
  all_goals (
    have hs1 := set3_fr w6 (w.heap.size + 1) (.int .i64 N) (.int .i64 (E : Int)) (.slice A5 n1 c5)
    have hb1 := set3_blk P1.out (.int .i64 N) (.int .i64 (E : Int)) (.slice A5 n1 c5)
    have hb2 := fr_blk hs1 (by omega) P2.out
    have hs2 := set3_fr (((w6.setCell ⟨w.heap.size + 1, 0, none⟩ (.int .i64 N)).setCell ⟨w.heap.size + 1, 1, none⟩ (.int .i64 (E : Int))).setCell ⟨w.heap.size + 1, 2, none⟩ (.slice A5 n1 c5)) (w.heap.size + 1 + 1) (.int .i64 x.g.fr) (.int .i64 x.g.to) (.slice x.g.A x.g.n x.g.c)
    have hE := ((hs1.mono (G := fun i => i = w.heap.size + 1 ∨ i = w.heap.size + 1 + 1) (fun _ _ e => .inl e)).trans hs2 (fun i _ e => .inr e)).then_no (Fr.drew No _)
    have hc1 := blk_no (Fr.drew No _) (fr_blk hs2 (by omega) hb1)
    have hc2 := blk_no (Fr.drew No _) (set3_blk hb2 (.int .i64 x.g.fr) (.int .i64 x.g.to) (.slice x.g.A x.g.n x.g.c))
    have HE := Lib.hid hE
    have HC1 := Lib.hid hc1
    have HC2 := Lib.hid hc2
    clear hs1 hb1 hb2 hs2 hE hc1 hc2
    go_wp2_with fail
    refine bodyPost_ret (results_cell2_tmp_row (p := 4) (q := 5) rfl _ _ (w.heap.size + 1) (w.heap.size + 1 + 1) 42 30 #[.int .i64 N, .int .i64 (E : Int), .slice A5 n1 c5] #[.int .i64 x.g.fr, .int .i64 x.g.to, .slice x.g.A x.g.n x.g.c] (0, 0) (0, 0) _ _ rfl HC1.out Try.underlying42 rfl (by kernel_rfl) rfl HC2.out Try.underlying30 rfl (by kernel_rfl)) rfl ?_
    have hall := fr_new HF6.out HE.out (fun i hi => by omega)
    have hoE := own_keep HO6.out (fun k hk => HE.out.block k (HO6.out.lt k hk).2 (by have := (HO6.out.lt k hk).1; have := HZ2.out.1; omega))
    have hrow := rowS_own hoE (fun y hy => rowS_data (rowS_no HR.out hall) y (List.mem_of_mem_eraseIdx hy))
    exact ⟨A5, c5, n1, rfl, HN1.out, hrow.1, fun a ha => ⟨by have := (hrow.2 a ha).1; have := HZ2.out.1; omega, (hrow.2 a ha).2⟩, own_cap hoE, hall⟩)
end Go.Proofs.Ytndanonhkjgmhaa

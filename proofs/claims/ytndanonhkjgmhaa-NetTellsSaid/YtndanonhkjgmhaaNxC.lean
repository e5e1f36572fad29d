/-
  The document's net: joins, Send, Copy. No statement of the seat is proved here.
-/
import Derived.Test.YtndanonhkjgmhaaNxB
namespace Go.Proofs.Ytndanonhkjgmhaa
open Go.RowKit

theorem fr_blk {F : Nat → Prop} {w w' : World} {b : Nat} {o : Obj} (hf : Fr F w w') (hb : ¬ F b) (h : w.heap[b]? = some o) : w'.heap[b]? = some o :=
  (hf.block b (Array.getElem?_eq_some_iff.1 h).1 hb).trans h
/-- What is below stays, where nothing turned but what is new. -/
theorem fr_new {w w1 w2 : World} {F : Nat → Prop} (h : Fr No w w1) (k : Fr F w1 w2) (hF : ∀ i, F i → w.heap.size ≤ i) : Fr No w w2 := h.then_new k hF
theorem own_cap {w : World} {B n c : Nat} {A : Option Addr} {xs : List Value} {e : TypeId} {s : Nat} (h : w.ownsRow B e s (.slice A n c) n xs) : n ≤ c := by
  rcases h.2 with ⟨_, e0⟩ | ⟨G, cap, cur, e, _, _, hc, _⟩
  · omega
  · injection e with _ _ e
    omega
/-- What joins leaves. -/
def Joined (w : World) (n : Nat) (H : List St) (N : Int) (E1 : Nat) (fr tt : Int) (m : Nat) (l : List UInt8) (e : Ending) (w' : World) : Prop :=
  ∃ A' c' B' cb', e = .returned (.tuple #[.agg #[.int .i64 N, .int .i64 (E1 : Int), .slice A' (n + 1) c'], .int .i64 0]) ∧ RowOf w' 4 (StAt w') A' (n + 1) (⟨E1, ⟨fr, tt, B', m, cb', l⟩⟩ :: H) ∧
    (∀ a, A' = some a → w.heap.size ≤ a.block ∧ a.block < w'.heap.size) ∧ (∀ a, B' = some a → w.heap.size ≤ a.block ∧ a.block < w'.heap.size) ∧ n + 1 ≤ c' ∧ Fr No w w'
set_option maxHeartbeats 1600000 in
set_option maxRecDepth 100000 in
theorem joins_any {w : World} {A : Option Addr} {n : Nat} {H : List St} (c : Nat) (h : RowOf w 4 (StAt w) A n H) (hn : n ≤ 4000) (N : Int) (E : Nat) (hE : ∀ x ∈ H, x.t ≤ E) (hE2 : E ≤ 9000) {E1 : Nat} (hE1 : E + 1 = E1) (fr tt : Int) (B : Option Addr) (m cb : Nat) (l : List UInt8) (hr : Rd w w.heap.size B m l) :
    Calls Try.prog 41 #[.agg #[.int .i64 N, .int .i64 (E : Int), .slice A n c], .agg #[.int .i64 fr, .int .i64 tt, .slice B m cb]] w (Joined w n H N E1 fr tt m l) := by
  have g0 := heap_alloc_new w (.cells #[.int .i64 N, .int .i64 (E : Int), .slice A n c] 42)
  have g1 := heap2 w (.cells #[.int .i64 N, .int .i64 (E : Int), .slice A n c] 42) (.cells #[.int .i64 fr, .int .i64 tt, .slice B m cb] 30)
  have hfa := Fr.alloc No (w.alloc (.cells #[.int .i64 N, .int .i64 (E : Int), .slice A n c] 42)) (.cells #[.int .i64 fr, .int .i64 tt, .slice B m cb] 30)
  have hfb := Fr.alloc No ((w.alloc (.cells #[.int .i64 N, .int .i64 (E : Int), .slice A n c] 42)).alloc (.cells #[.int .i64 fr, .int .i64 tt, .slice B m cb] 30)) (.cells #[.int .i64 0, .int .i64 0, .slice none 0 0] 42)
  have g2 := heap_alloc_new ((w.alloc (.cells #[.int .i64 N, .int .i64 (E : Int), .slice A n c] 42)).alloc (.cells #[.int .i64 fr, .int .i64 tt, .slice B m cb] 30)) (.cells #[.int .i64 0, .int .i64 0, .slice none 0 0] 42)
  rw [World.size_alloc, World.size_alloc] at g2
  have hf := ((Fr.alloc No w (.cells #[.int .i64 N, .int .i64 (E : Int), .slice A n c] 42)).no_trans hfa).no_trans hfb
  have HG0 := Lib.hid (blk_no hfb (blk_no hfa g0))
  have HG1 := Lib.hid (blk_no hfb g1)
  have HG2 := Lib.hid g2
  have HF := Lib.hid hf
  have HR := Lib.hid h
  have HRB := Lib.hid hr
  have HA := Lib.hid (flyS_any c (rowS_no h hf) (by omega) N E hE (by omega))
  have HE := Lib.hid hE
  have hnI : ¬ ((4096 : Int) ≤ (n : Int)) := by omega
  have hwE : IntKind.i64.wrap ((E : Int) + 1) = (E1 : Int) := by
    rw [show ((E : Int) + 1) = (E1 : Int) by omega]
    exact IntWalk.i64_in _ (by omega)
  have HLN := Lib.hid h.1
  have HE1 := Lib.hid hE1
  clear h hr g0 g1 g2 hfa hfb hf hE hE1
  go_enter Try.func41, Try.ntmps41
  go_wp2_with fail
  generalize ((w.alloc (.cells #[.int .i64 N, .int .i64 (E : Int), .slice A n c] 42)).alloc (.cells #[.int .i64 fr, .int .i64 tt, .slice B m cb] 30)).alloc (.cells #[.int .i64 0, .int .i64 0, .slice none 0 0] 42) = w0 at *
  refine HA.out.mono ?_
  rintro e w1 ⟨rfl, hf⟩
  have HF1 := Lib.hid (HF.out.no_trans hf)
  have H0 := Lib.hid (blk_no hf HG0.out)
  have H1 := Lib.hid (blk_no hf HG1.out)
  have H2 := Lib.hid (blk_no hf HG2.out)
  clear hf
  have p0 : w1.cell? ⟨w.heap.size, 1, none⟩ = some (.int .i64 (E : Int)) := blk_cell H0.out 1
  have p1 := blk_free H0.out 1
  go_upto_region 4 with fail
  have hs := Fr.setCell (F := fun i => i = w.heap.size) w1 ⟨w.heap.size, 1, none⟩ (.int .i64 (E1 : Int)) rfl
  have K0 := heap_cells_set w1 w.heap.size 1 _ _ (.int .i64 (E1 : Int)) H0.out
  have K0 : (w1.setCell ⟨w.heap.size, 1, none⟩ (.int .i64 (E1 : Int))).heap[w.heap.size]? = some (.cells #[.int .i64 N, .int .i64 (E1 : Int), .slice A n c] 42 (0, 0)) := K0
  have HK0 := Lib.hid K0
  have HK1 := Lib.hid (fr_blk hs (by omega) H1.out)
  have HK2 := Lib.hid (fr_blk hs (by omega) H2.out)
  have HF2 := Lib.hid (fr_new HF1.out hs (fun i hi => by omega))
  clear hs K0 p0 p1
  generalize w1.setCell ⟨w.heap.size, 1, none⟩ (.int .i64 (E1 : Int)) = w2 at *
  have hrd := (HF2.out.rd (Nat.le_refl _) HRB.out)
  have s1 := str_rule cb hrd
  have hsz : (⟨l.toArray⟩ : ByteArray).size = m := by rw [← HRB.out.1]; rfl
  obtain ⟨c2, w3, hcv, hc2, hx2, hf3⟩ := bytes_of w2 ⟨l.toArray⟩
  rw [hsz] at hcv hc2 hx2
  have hx2 : Bx w2.heap.size w3 (some ⟨w2.heap.size, 0, none⟩) m l := hx2
  have HX2 := Lib.hid hx2
  have HC2 := Lib.hid hc2
  have HL0 := Lib.hid (blk_no hf3 HK0.out)
  have HL1 := Lib.hid (blk_no hf3 HK1.out)
  have HL2 := Lib.hid (blk_no hf3 HK2.out)
  have HF3 := Lib.hid (HF2.out.no_trans hf3)
  have HSZ2 := Lib.hid (show w.heap.size + 1 + 1 + 1 ≤ w2.heap.size from (Array.getElem?_eq_some_iff.1 HK2.out).1)
  have hq2 : w2.heap.size ≠ w.heap.size + 1 := by
    have := (Array.getElem?_eq_some_iff.1 HK2.out).1
    omega
  have HQ2 := Lib.hid hq2
  have k1 : w2.cell? ⟨w.heap.size + 1, 2, none⟩ = some (.slice B m cb) := blk_cell HK1.out 2
  have k2 : w3.cell? ⟨w.heap.size + 1, 2, none⟩ = some (.slice B m cb) := blk_cell HL1.out 2
  have k3 := blk_free HL1.out 2
  generalize (⟨l.toArray⟩ : ByteArray) = ba at s1 hcv
  generalize hb2 : w2.heap.size = bd at *
  clear hrd hsz hc2 hx2 hf3 hq2
  go_upto_region 5 with fail
  have hs := Fr.setCell (F := fun i => i = w.heap.size + 1) w3 ⟨w.heap.size + 1, 2, none⟩ (.slice (some ⟨bd, 0, none⟩) m c2) rfl
  have K1 := heap_cells_set w3 (w.heap.size + 1) 2 _ _ (.slice (some ⟨bd, 0, none⟩) m c2) HL1.out
  have K1 : (w3.setCell ⟨w.heap.size + 1, 2, none⟩ (.slice (some ⟨bd, 0, none⟩) m c2)).heap[w.heap.size + 1]? = some (.cells #[.int .i64 fr, .int .i64 tt, .slice (some ⟨bd, 0, none⟩) m c2] 30 (0, 0)) := K1
  have HM1 := Lib.hid K1
  have HM0 := Lib.hid (fr_blk hs (by omega) HL0.out)
  have HM2 := Lib.hid (fr_blk hs (by omega) HL2.out)
  have HF4 := Lib.hid (fr_new HF3.out hs (fun i hi => by omega))
  have HX4 : Hid (Bx (w.heap.size + 1 + 1 + 1) (w3.setCell ⟨w.heap.size + 1, 2, none⟩ (.slice (some ⟨bd, 0, none⟩) m c2)) (some ⟨bd, 0, none⟩) m l) := by
    obtain ⟨hl, b, hA, hlo, hb, hc⟩ := HX2.out
    injection hA with hA
    injection hA with hA
    subst hA
    have := HQ2.out
    have := HSZ2.out
    exact ⟨hl, bd, rfl, by omega, Nat.lt_of_lt_of_le hb hs.size, fun j hj => ⟨(hs.cell (p := ⟨bd, j, none⟩) hb (by omega)).trans (hc j hj).1, (World.frozen?_of_block (a := ⟨bd, j, none⟩) (hs.block bd hb (by omega))).trans (hc j hj).2⟩⟩
  clear hs K1 k1 k2 k3 s1 hcv hb2
  generalize w3.setCell ⟨w.heap.size + 1, 2, none⟩ (.slice (some ⟨bd, 0, none⟩) m c2) = w4 at *
  have HFn := Lib.hid (Fr.alloc No w4 (.cells #[.int .i64 (E1 : Int), .int .i64 fr, .int .i64 tt, .slice (some ⟨bd, 0, none⟩) m c2] 85))
  have HNW : Hid ((w4.alloc (.cells #[.int .i64 (E1 : Int), .int .i64 fr, .int .i64 tt, .slice (some ⟨bd, 0, none⟩) m c2] 85)).ownsRow w4.heap.size 85 4 (.slice (some ⟨w4.heap.size, 0, none⟩) 1 1) 1 (stsCells [⟨E1, ⟨fr, tt, some ⟨bd, 0, none⟩, m, c2, l⟩⟩])) :=
    ⟨rfl, .inr ⟨w4.heap.size, 1, _, rfl, Nat.le_refl _, heap_alloc_new w4 _, Nat.le_refl _, by unfold maxLen; omega, rfl, rfl⟩⟩
  have HRN := Lib.hid (rowS_no HR.out (HF4.out.no_trans HFn.out))
  have m0 : w4.cell? ⟨w.heap.size, 1, none⟩ = some (.int .i64 (E1 : Int)) := blk_cell HM0.out 1
  have m1 : w4.cell? ⟨w.heap.size + 1, 0, none⟩ = some (.int .i64 fr) := blk_cell HM1.out 0
  have m2 : w4.cell? ⟨w.heap.size + 1, 1, none⟩ = some (.int .i64 tt) := blk_cell HM1.out 1
  have m3 : w4.cell? ⟨w.heap.size + 1, 2, none⟩ = some (.slice (some ⟨bd, 0, none⟩) m c2) := blk_cell HM1.out 2
  have HZ4 := Lib.hid (show w.heap.size ≤ w4.heap.size from HF4.out.size)
  have hs0 : w.heap.size < w4.heap.size := (Array.getElem?_eq_some_iff.1 HM0.out).1
  have hs2 : w.heap.size + 1 + 1 < w4.heap.size := (Array.getElem?_eq_some_iff.1 HM2.out).1
  have HS0 := Lib.hid hs0
  have HS2 := Lib.hid hs2
  clear hs0 hs2
  have m4 : (w4.alloc (.cells #[.int .i64 (E1 : Int), .int .i64 fr, .int .i64 tt, .slice (some ⟨bd, 0, none⟩) m c2] 85)).cell? ⟨w.heap.size, 2, none⟩ = some (.slice A n c) := blk_cell (blk_no HFn.out HM0.out) 2
  have HLL : Hid (([(⟨E1, ⟨fr, tt, some ⟨bd, 0, none⟩, m, c2, l⟩⟩ : St)] ++ H).length = n + 1) := by
    show _ = _
    rw [List.length_append, HLN.out, Nat.add_comm]
    rfl
  go_upto_region 6 with (at_builtin; refine wpList_append_st _ rfl (.tmp 23) (.tmp 25) rfl w4.heap.size (.slice (some ⟨w4.heap.size, 0, none⟩) 1 1) [⟨E1, ⟨fr, tt, some ⟨bd, 0, none⟩, m, c2, l⟩⟩] rfl HNW.out A n c H rfl HRN.out (by show 1 + n ≤ 100000; omega) HFn.out.size ?_; intro v5 w5 ho5 hg5; rw [HLL.out] at ho5; obtain ⟨A5, c5, rfl⟩ := own_sl ho5; have HO5 := Lib.hid ho5; have hf5 := Fr.grown (F := fun i => i = w4.heap.size) hg5 (fun k hk => by injection hk with hk; exact hk.symm); have HF5 := Lib.hid (fr_new (HF4.out.no_trans HFn.out) hf5 (fun i hi => by have := HZ4.out; omega)); have HN0 := Lib.hid (fr_blk hf5 (by have := HS0.out; omega) (blk_no HFn.out HM0.out)); have HN2 := Lib.hid (fr_blk hf5 (by have := HS2.out; omega) (blk_no HFn.out HM2.out)); have HX5 := Lib.hid (HX4.out.keep ((HFn.out.any (F := fun i => i = w4.heap.size)).trans hf5 (fun _ _ e => e)) (fun k _ hk2 e => by omega)); clear ho5 hg5 hf5; have n0 := blk_cell HN0.out 2; have n1 := blk_free HN0.out 2)
  have hs := Fr.setCell (F := fun i => i = w.heap.size) w5 ⟨w.heap.size, 2, none⟩ (.slice A5 (n + 1) c5) rfl
  have K0 := heap_cells_set w5 w.heap.size 2 _ _ (.slice A5 (n + 1) c5) HN0.out
  have K0 : (w5.setCell ⟨w.heap.size, 2, none⟩ (.slice A5 (n + 1) c5)).heap[w.heap.size]? = some (.cells #[.int .i64 N, .int .i64 (E1 : Int), .slice A5 (n + 1) c5] 42 (0, 0)) := K0
  have HP0 := Lib.hid K0
  have HP2 := Lib.hid (fr_blk hs (by omega) HN2.out)
  have HF6 := Lib.hid (fr_new HF5.out hs (fun i hi => by omega))
  have HO6 := Lib.hid (own_keep HO5.out (fun k hk => hs.block k (HO5.out.lt k hk).2 (by have := (HO5.out.lt k hk).1; have := HS0.out; omega)))
  have HX6 := Lib.hid (HX5.out.keep hs (fun k hk _ e => by omega))
  clear hs K0 n0 n1
  generalize w5.setCell ⟨w.heap.size, 2, none⟩ (.slice A5 (n + 1) c5) = w6 at *
  have p0 : w6.cell? ⟨w.heap.size, 0, none⟩ = some (.int .i64 N) := blk_cell HP0.out 0
  have p1 : w6.cell? ⟨w.heap.size, 1, none⟩ = some (.int .i64 (E1 : Int)) := blk_cell HP0.out 1
  have p2 : w6.cell? ⟨w.heap.size, 2, none⟩ = some (.slice A5 (n + 1) c5) := blk_cell HP0.out 2
  have q0 := blk_cell HP2.out 0
  have q1 := blk_cell HP2.out 1
  have q2 := blk_cell HP2.out 2
  have f0 := blk_free HP2.out 0
  have f1 := blk_free HP2.out 1
  have f2 := blk_free HP2.out 2
  go_wp2_with fail
  refine bodyPost_ret (results_cell_tmp_row (p := 4) rfl _ _ (w.heap.size + 1 + 1) 42 #[.int .i64 N, .int .i64 (E1 : Int), .slice A5 (n + 1) c5] (0, 0) _ rfl (set3_blk HP2.out _ _ _) Try.underlying42 rfl (by kernel_rfl)) rfl ?_
  have hset := set3_fr w6 (w.heap.size + 1 + 1) (.int .i64 N) (.int .i64 (E1 : Int)) (.slice A5 (n + 1) c5)
  have hfE := fr_new HF6.out hset (fun i hi => by omega)
  have hoE := own_keep HO6.out (fun k hk => hset.block k (HO6.out.lt k hk).2 (by have := (HO6.out.lt k hk).1; have := HS2.out; omega))
  have hxE := HX6.out.keep hset (fun k hk _ e => by omega)
  have hrow := rowS_own hoE (fun x hx => by
    rcases List.mem_append.1 hx with hx | hx
    · rw [List.mem_singleton.1 hx]
      exact ⟨HC2.out, hxE.rd⟩
    · exact rowS_data (rowS_no HR.out hfE) x hx)
  refine ⟨A5, c5, some ⟨bd, 0, none⟩, c2, rfl, hrow.1, fun a ha => ⟨Nat.le_trans HZ4.out (hrow.2 a ha).1, (hrow.2 a ha).2⟩, fun a ha => ?_, own_cap hoE, hfE⟩
  obtain ⟨_, b, hA, hlo, hb, _⟩ := hxE
  rw [ha] at hA
  injection hA with hA
  subst hA
  exact ⟨by show w.heap.size ≤ b; omega, hb⟩
end Go.Proofs.Ytndanonhkjgmhaa

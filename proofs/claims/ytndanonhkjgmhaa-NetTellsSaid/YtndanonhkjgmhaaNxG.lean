/-
  The document's net: New, Forget. No statement of the seat is proved here.
-/
import Derived.Test.YtndanonhkjgmhaaNxE
namespace Go.Proofs.Ytndanonhkjgmhaa
open Go.RowKit

set_option maxRecDepth 100000 in
theorem newS_bad (n : Int) (w : World) (h : n < 1 ∨ 64 < n) :
    Calls Try.prog 20 #[.int .i64 n] w fun e w' => e = .returned (.tuple #[.agg #[.int .i64 0, .int .i64 0, .slice none 0 0], .int .i64 2]) ∧ Fr No w w' := by
  have HB := Lib.hid (heap_alloc_new w (.cells #[.int .i64 0, .int .i64 0, .slice none 0 0] 42))
  have HF := Lib.hid (Fr.alloc No w (.cells #[.int .i64 0, .int .i64 0, .slice none 0 0] 42))
  have h' : n < 1 ∨ (¬ (n < 1) ∧ 64 < n) := by omega
  clear h
  go_enter Try.func20, Try.ntmps20
  go_upto_region 1 with fail
  generalize w.alloc (.cells #[.int .i64 0, .int .i64 0, .slice none 0 0] 42) = w0 at *
  have q0 := blk_cell HB.out 0
  have q1 := blk_cell HB.out 1
  have q2 := blk_cell HB.out 2
  have f0 := blk_free HB.out 0
  have f1 := blk_free HB.out 1
  have f2 := blk_free HB.out 2
  rcases h' with h | ⟨h0, h⟩
  all_goals (
    go_wp2_with fail
    refine bodyPost_ret (results_cell_tmp_row (p := 2) rfl _ _ w.heap.size 42 #[.int .i64 0, .int .i64 0, .slice none 0 0] (0, 0) _ rfl (set3_blk HB.out _ _ _) Try.underlying42 rfl (by kernel_rfl)) rfl ?_
    exact ⟨rfl, fr_new HF.out (set3_fr _ _ _ _ _) (fun i hi => by omega)⟩)
set_option maxRecDepth 100000 in
theorem newS_ok (n : Int) (w : World) (h1 : 1 ≤ n) (h2 : n ≤ 64) :
    Calls Try.prog 20 #[.int .i64 n] w fun e w' => e = .returned (.tuple #[.agg #[.int .i64 n, .int .i64 0, .slice none 0 0], .int .i64 0]) ∧ Fr No w w' := by
  have HB := Lib.hid (heap_alloc_new w (.cells #[.int .i64 0, .int .i64 0, .slice none 0 0] 42))
  have HF := Lib.hid (Fr.alloc No w (.cells #[.int .i64 0, .int .i64 0, .slice none 0 0] 42))
  have h3 : ¬ (n < 1) := by omega
  have h4 : ¬ (64 < n) := by omega
  clear h1 h2
  go_enter Try.func20, Try.ntmps20
  go_upto_region 1 with fail
  generalize w.alloc (.cells #[.int .i64 0, .int .i64 0, .slice none 0 0] 42) = w0 at *
  have q0 := blk_cell HB.out 0
  have q1 := blk_cell HB.out 1
  have q2 := blk_cell HB.out 2
  have f0 := blk_free HB.out 0
  have f1 := blk_free HB.out 1
  have f2 := blk_free HB.out 2
  go_wp2_with fail
  refine bodyPost_ret (results_cell_tmp_row (p := 2) rfl _ _ w.heap.size 42 #[.int .i64 n, .int .i64 0, .slice none 0 0] (0, 0) _ rfl (set3_blk HB.out _ _ _) Try.underlying42 rfl (by kernel_rfl)) rfl ?_
  exact ⟨rfl, fr_new HF.out (set3_fr _ _ _ _ _) (fun i hi => by omega)⟩
theorem rowS_one {w : World} {G : Nat} {x : St} (h : w.heap[G]? = some (.cells #[.int .i64 (x.t : Int), .int .i64 x.g.fr, .int .i64 x.g.to, .slice x.g.A x.g.n x.g.c] 85 (0, 0))) (hd : x.g.n ≤ x.g.c ∧ Rd w w.heap.size x.g.A x.g.n x.g.l) : RowOf w 4 (StAt w) (some ⟨G, 0, none⟩) 1 [x] := by
  refine ⟨rfl, fun _ => ⟨G, 0, rfl, (Array.getElem?_eq_some_iff.1 h).1, fun j hj => ?_⟩⟩
  have hj0 : j = 0 := by simp at hj; omega
  subst hj0
  refine ⟨blk_cell h 0, ?_⟩
  rw [Addr.add_lit]
  exact ⟨blk_cell h 1, by rw [Addr.add_lit]; exact blk_cell h 2, by rw [Addr.add_lit]; exact blk_cell h 3, hd⟩
/-- What Forget leaves. -/
def Forgot (w : World) (n : Nat) (H : List St) (x : Int) (N : Int) (E : Nat) (e : Ending) (w' : World) : Prop :=
  ∃ A' c' m, e = .returned (.tuple #[.agg #[.int .i64 N, .int .i64 (E : Int), .slice A' m c'], .int .i64 ((n - m : Nat) : Int)]) ∧ RowOf w' 4 (StAt w') A' m (H.filter fun s => !(s.g.to == x)) ∧
    (∀ a, A' = some a → w.heap.size ≤ a.block ∧ a.block < w'.heap.size) ∧ m ≤ c' ∧ Fr No w w'
theorem kept_no {H : List St} {x : Int} {k : Nat} {s : St} (hs : H[k]? = some s) (hx : s.g.to = x) : (H.take (k + 1)).filter (fun s => !(s.g.to == x)) = (H.take k).filter (fun s => !(s.g.to == x)) := by
  rw [List.take_add_one, hs, List.filter_append]
  simp [hx]
theorem kept_yes {H : List St} {x : Int} {k : Nat} {s : St} (hs : H[k]? = some s) (hx : ¬ (s.g.to = x)) : (H.take (k + 1)).filter (fun s => !(s.g.to == x)) = (H.take k).filter (fun s => !(s.g.to == x)) ++ [s] := by
  rw [List.take_add_one, hs, List.filter_append]
  simp [hx]
set_option maxHeartbeats 1600000 in
set_option maxRecDepth 100000 in
theorem forgetS_any {w : World} {A : Option Addr} {n : Nat} {H : List St} (c : Nat) (h : RowOf w 4 (StAt w) A n H) (hn : n ≤ 10000) (N : Int) (E : Nat) (x : Int) :
    Calls Try.prog 24 #[.agg #[.int .i64 N, .int .i64 (E : Int), .slice A n c], .int .i64 x] w (Forgot w n H x N E) := by
  have hf := (Fr.alloc No w (.cells #[.int .i64 N, .int .i64 (E : Int), .slice A n c] 42)).no_trans (Fr.alloc No _ (.cells #[.int .i64 0, .int .i64 0, .slice none 0 0] 42))
  have HF := Lib.hid hf
  have HR := Lib.hid h
  have HLN := Lib.hid h.1
  have HB0 := Lib.hid (blk_no (Fr.alloc No _ (.cells #[.int .i64 0, .int .i64 0, .slice none 0 0] 42)) (heap_alloc_new w (.cells #[.int .i64 N, .int .i64 (E : Int), .slice A n c] 42)))
  have HB := Lib.hid (heap2 w (.cells #[.int .i64 N, .int .i64 (E : Int), .slice A n c] 42) (.cells #[.int .i64 0, .int .i64 0, .slice none 0 0] 42))
  clear h hf
  go_enter Try.func24, Try.ntmps24
  go_upto_region 1 with fail
  generalize (w.alloc (.cells #[.int .i64 N, .int .i64 (E : Int), .slice A n c] 42)).alloc (.cells #[.int .i64 0, .int .i64 0, .slice none 0 0] 42) = w0 at *
  have HZ0 := Lib.hid (show w.heap.size + 1 < w0.heap.size from (Array.getElem?_eq_some_iff.1 HB.out).1)
  have p2 : w0.cell? ⟨w.heap.size, 2, none⟩ = some (.slice A n c) := blk_cell HB0.out 2
  go_wp2_with fail
  go_loopw [7, 8] (fun v7 v8 wr => ∃ (k : Nat) (L : List St) (A' : Option Addr) (m c' : Nat), k ≤ n ∧ v8 = .int .i64 (k : Int) ∧ v7 = .slice A' m c' ∧ L.length = m ∧ L = (H.take k).filter (fun s => !(s.g.to == x)) ∧ wr.ownsRow w0.heap.size 85 4 (.slice A' m c') L.length (stsCells L) ∧ Fr No w0 wr) (fun _ v8 _ => n - (intOf v8).toNat)
  case atStart => exact ⟨0, [], none, 0, 0, by omega, rfl, rfl, rfl, rfl, World.ownsRow_nil _ _ _ _, Fr.refl _ _⟩
  case round =>
    obtain ⟨k, L, A', m, c', hk, rfl, rfl, hL, hLe, hown, hfr⟩ := hrel
    have HL := Lib.hid hL
    have HLE := Lib.hid hLe
    have HOW := Lib.hid hown
    have HFR := Lib.hid hfr
    have HC0 := Lib.hid (blk_no hfr HB0.out)
    have HC := Lib.hid (blk_no hfr HB.out)
    have hmk : m ≤ k := by
      rw [← hL, hLe]
      refine Nat.le_trans (List.length_filter_le _ _) ?_
      rw [List.length_take]
      omega
    clear hL hLe hown hfr
    have r2 : wr.cell? ⟨w.heap.size, 2, none⟩ = some (.slice A n c) := blk_cell HC0.out 2
    by_cases hkn : k < n
    · have hkI : (k : Int) < (n : Int) := by omega
      have hk0 : (0 : Int) ≤ (k : Int) := by omega
      have hwk : IntKind.i64.wrap ((k : Int) + 1) = ((k + 1 : Nat) : Int) := by
        rw [show ((k : Int) + 1) = ((k + 1 : Nat) : Int) by omega]
        exact IntWalk.i64_in _ (by omega)
      have HRR := Lib.hid (rowS_no HR.out (HF.out.no_trans HFR.out))
      obtain ⟨b, o, hA, hb, hc⟩ := HRR.out.2 (by omega)
      subst hA
      have hkl : k < H.length := by rw [HLN.out]; exact hkn
      have hx := (hc k hkl).at_
      have HX := Lib.hid (List.getElem?_eq_getElem hkl)
      have HD := Lib.hid (fun W (hW : Fr No wr W) => rowS_data (rowS_no HRR.out hW) _ (List.getElem_mem hkl))
      clear hc
      generalize H[k] = s at *
      obtain ⟨y0, y1, y2, y3, _⟩ := hx
      by_cases hto : s.g.to = x
      · have HK := Lib.hid (kept_no HX.out hto)
        rw [hto] at y2
        go_wp2_with fail
        go_roundw
        case rel => exact ⟨k + 1, L, A', m, c', by omega, by go_num, rfl, HL.out, by rw [HK.out]; exact HLE.out, HOW.out, HFR.out⟩
        case measure => simp [intOf]; omega
      · have HK := Lib.hid (kept_yes HX.out hto)
        have hfn := Fr.alloc No wr (.cells #[.int .i64 (s.t : Int), .int .i64 s.g.fr, .int .i64 s.g.to, .slice s.g.A s.g.n s.g.c] 85)
        have HFN := Lib.hid hfn
        have HON := Lib.hid (own_keep HOW.out (fun k hk => hfn.block k (HOW.out.lt k hk).2 (fun e => e)))
        have HR1 := Lib.hid (rowS_one (heap_alloc_new wr _) (HD.out _ hfn))
        have HNB : Hid (∀ k, (Value.slice A' m c').ownBlock = some k → w0.heap.size ≤ k) := fun k hk => (HOW.out.lt k hk).1
        have HLL : Hid ((L ++ [s]).length = m + 1) := by
          show _ = _
          rw [List.length_append, HL.out]
          rfl
        clear hfn
        go_wp2_with (at_builtin; refine wpList_append_st _ rfl (.tmp 26) (.tmp 32) rfl w0.heap.size (.slice A' m c') L rfl HON.out (some ⟨wr.heap.size, 0, none⟩) 1 1 [s] rfl HR1.out (by rw [HL.out]; omega) (Nat.le_trans HFR.out.size HFN.out.size) ?_; intro v5 w5 ho5 hg5; obtain ⟨A5, c5, e5⟩ := own_sl ho5; rw [HLL.out] at e5; subst e5; have HO5 := Lib.hid ho5; have HFH := Lib.hid (Fr.grown (F := fun j => (Value.slice A' m c').ownBlock = some j) hg5 (fun k hk => hk)); clear ho5 hg5)
        go_roundw
        case rel => exact ⟨k + 1, L ++ [s], A5, m + 1, c5, by omega, by go_num, rfl, HLL.out, by rw [HK.out, ← HLE.out], HO5.out, (HFR.out.no_trans HFN.out).then_new HFH.out (fun k hk => HNB.out k hk)⟩
        case measure => simp [intOf]; omega
    · have hkn2 : k = n := by omega
      have hkI : ¬ ((k : Int) < (n : Int)) := by omega
      have HLF := Lib.hid (show L = H.filter (fun s => !(s.g.to == x)) by
        have := HLE.out
        rw [List.take_of_length_le (by rw [HLN.out]; omega)] at this
        exact this)
      obtain ⟨q, HQ⟩ : ∃ q, Hid (n - m = q) := ⟨_, rfl⟩
      have hws : IntKind.i64.wrap ((n : Int) - (m : Int)) = (q : Int) := by
        have := HQ.out
        rw [show ((n : Int) - (m : Int)) = (q : Int) by omega]
        exact IntWalk.i64_in _ (by omega)
      have r3 := blk_free HC0.out 2
      go_upto_region 9 with fail
      have hs := Fr.setCell (F := fun i => i = w.heap.size) wr ⟨w.heap.size, 2, none⟩ (.slice A' m c') rfl
      have hb0 := heap_cells_set wr w.heap.size 2 _ _ (.slice A' m c') HC0.out
      have hb0 : (wr.setCell ⟨w.heap.size, 2, none⟩ (.slice A' m c')).heap[w.heap.size]? = some (.cells #[.int .i64 N, .int .i64 (E : Int), .slice A' m c'] 42 (0, 0)) := hb0
      have P0 := Lib.hid hb0
      have P1 := Lib.hid (fr_blk hs (by omega) HC.out)
      have HF6 := Lib.hid (fr_new (HF.out.no_trans HFR.out) hs (fun i hi => by omega))
      have HO6 := Lib.hid (own_keep HOW.out (fun k hk => hs.block k (HOW.out.lt k hk).2 (by have := (HOW.out.lt k hk).1; have := HZ0.out; omega)))
      clear hs hb0 r2 r3
      generalize wr.setCell ⟨w.heap.size, 2, none⟩ (.slice A' m c') = w6 at *
      have p0 : w6.cell? ⟨w.heap.size, 0, none⟩ = some (.int .i64 N) := blk_cell P0.out 0
      have p1 : w6.cell? ⟨w.heap.size, 1, none⟩ = some (.int .i64 (E : Int)) := blk_cell P0.out 1
      have p2 : w6.cell? ⟨w.heap.size, 2, none⟩ = some (.slice A' m c') := blk_cell P0.out 2
      have q0 := blk_cell P1.out 0
      have q1 := blk_cell P1.out 1
      have q2 := blk_cell P1.out 2
      have f0 := blk_free P1.out 0
      have f1 := blk_free P1.out 1
      have f2 := blk_free P1.out 2
      go_wp2_with fail
      refine bodyPost_ret (results_cell_tmp_row (p := 4) rfl _ _ (w.heap.size + 1) 42 #[.int .i64 N, .int .i64 (E : Int), .slice A' m c'] (0, 0) _ rfl (set3_blk P1.out _ _ _) Try.underlying42 rfl (by kernel_rfl)) rfl ?_
      have hset := set3_fr w6 (w.heap.size + 1) (.int .i64 N) (.int .i64 (E : Int)) (.slice A' m c')
      have hall := fr_new HF6.out hset (fun i hi => by omega)
      have hoE := own_keep HO6.out (fun k hk => hset.block k (HO6.out.lt k hk).2 (by have := (HO6.out.lt k hk).1; have := HZ0.out; omega))
      rw [HL.out] at hoE
      have hrow := rowS_own hoE (fun y hy => rowS_data (rowS_no HR.out hall) y (by rw [HLF.out] at hy; exact (List.mem_filter.1 hy).1))
      exact ⟨A', c', m, by rw [HQ.out]; rfl, by rw [← HLF.out]; exact hrow.1, fun a ha => ⟨by have := (hrow.2 a ha).1; have := HZ0.out; omega, (hrow.2 a ha).2⟩, own_cap hoE, hall⟩
end Go.Proofs.Ytndanonhkjgmhaa

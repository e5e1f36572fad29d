/-
  The document's net: Look, joins, Send, Copy. No statement of the seat is proved here.
-/
import Derived.Test.YtndanonhkjgmhaaNxA
namespace Go.Proofs.Ytndanonhkjgmhaa
open Go.RowKit

theorem fpos_no {n : Nat} {i : Int} (h : ¬ (0 ≤ i ∧ i < (n : Int))) : fpos n i = -1 := if_neg h
theorem fpos_yes {n p : Nat} (h : p < n) : fpos n (p : Int) = ((n - 1 - p : Nat) : Int) := by
  unfold fpos
  rw [if_pos (by omega)]
  omega
set_option maxRecDepth 100000 in
theorem lookS_no {w : World} {A : Option Addr} {n : Nat} {H : List St} (c : Nat) (h : RowOf w 4 (StAt w) A n H) (hd : Dsc H) (hn : n ≤ 10000) (N E i : Int) (hi : fpos n i = -1) :
    Calls Try.prog 26 #[.agg #[.int .i64 N, .int .i64 E, .slice A n c], .int .i64 i] w fun e w' => e = .returned (.tuple #[.agg #[.int .i64 0, .int .i64 0, .slice none 0 0], .bool false]) ∧ Fr No w w' := by
  have hf := (Fr.alloc No w (.cells #[.int .i64 N, .int .i64 E, .slice A n c] 42)).no_trans (Fr.alloc No _ (.cells #[.int .i64 0, .int .i64 0, .slice none 0 0] 30))
  have HA := Lib.hid (find_any c (rowS_no h hf) hd hn N E i)
  have HF := Lib.hid hf
  rw [hi] at HA
  clear h hf hd
  go_enter Try.func26, Try.ntmps26
  go_wp2_with fail
  refine HA.out.mono ?_
  rintro e w1 ⟨rfl, hf⟩
  have HF1 := Lib.hid hf
  clear hf
  have HB := Lib.hid (blk_no HF1.out (heap2 w _ _))
  have q0 := blk_cell HB.out 0
  have q1 := blk_cell HB.out 1
  have q2 := blk_cell HB.out 2
  have f0 := blk_free HB.out 0
  have f1 := blk_free HB.out 1
  have f2 := blk_free HB.out 2
  go_wp2_with fail
  refine bodyPost_ret (results_cell_tmp_row (p := 4) rfl _ _ (w.heap.size + 1) 30 #[.int .i64 0, .int .i64 0, .slice none 0 0] (0, 0) _ rfl (set3_blk HB.out _ _ _) Try.underlying30 rfl (by kernel_rfl)) rfl ?_
  exact ⟨rfl, (HF.out.no_trans HF1.out).then_new (set3_fr _ _ _ _ _) (fun i hi => by rw [hi]; exact Nat.le_succ _)⟩
set_option maxRecDepth 100000 in
theorem lookS_yes {w : World} {A : Option Addr} {n : Nat} {H : List St} (c : Nat) (h : RowOf w 4 (StAt w) A n H) (hd : Dsc H) (hn : n ≤ 10000) (N E p : Int) {i : Nat} (hi : fpos n p = (i : Int)) {x : St} (hx : H[i]? = some x) :
    Calls Try.prog 26 #[.agg #[.int .i64 N, .int .i64 E, .slice A n c], .int .i64 p] w fun e w' => e = .returned (.tuple #[.agg #[.int .i64 x.g.fr, .int .i64 x.g.to, .slice x.g.A x.g.n x.g.c], .bool true]) ∧ Fr No w w' := by
  have hf := (Fr.alloc No w (.cells #[.int .i64 N, .int .i64 E, .slice A n c] 42)).no_trans (Fr.alloc No _ (.cells #[.int .i64 0, .int .i64 0, .slice none 0 0] 30))
  have HA := Lib.hid (find_any c (rowS_no h hf) hd hn N E p)
  have HF := Lib.hid hf
  have HR := Lib.hid h
  have hil : i < H.length := (List.getElem?_eq_some_iff.1 hx).1
  have hin : i < n := by rw [← h.1]; exact hil
  have hxe : H[i] = x := (List.getElem?_eq_some_iff.1 hx).2
  rw [hi] at HA
  obtain ⟨b, o, rfl, hb, hc⟩ := h.2 (by omega)
  have hX := hc i hil
  rw [hxe] at hX
  have HX := Lib.hid hX
  have HBL := Lib.hid hb
  have hiI : (i : Int) < (n : Int) := by omega
  have hi0 : (0 : Int) ≤ (i : Int) := by omega
  clear h hf hd hc hX hxe hx hb
  go_enter Try.func26, Try.ntmps26
  go_wp2_with fail
  refine HA.out.mono ?_
  rintro e w1 ⟨rfl, hf⟩
  have HF1 := Lib.hid hf
  clear hf
  have HB0 := Lib.hid (blk_no HF1.out (blk_no (Fr.alloc No _ (.cells #[.int .i64 0, .int .i64 0, .slice none 0 0] 30)) (heap_alloc_new w (.cells #[.int .i64 N, .int .i64 E, .slice (some ⟨b, o, none⟩) n c] 42))))
  have HB := Lib.hid (blk_no HF1.out (heap2 w (.cells #[.int .i64 N, .int .i64 E, .slice (some ⟨b, o, none⟩) n c] 42) (.cells #[.int .i64 0, .int .i64 0, .slice none 0 0] 30)))
  obtain ⟨_, x1, x2, x3, _⟩ := (HX.out.no HBL.out (HF.out.no_trans HF1.out)).at_
  have p2 : w1.cell? ⟨w.heap.size, 2, none⟩ = some (.slice (some ⟨b, o, none⟩) n c) := blk_cell HB0.out 2
  have q0 := blk_cell HB.out 0
  have q1 := blk_cell HB.out 1
  have q2 := blk_cell HB.out 2
  have f0 := blk_free HB.out 0
  have f1 := blk_free HB.out 1
  have f2 := blk_free HB.out 2
  go_wp2_with fail
  refine bodyPost_ret (results_cell_tmp_row (p := 4) rfl _ _ (w.heap.size + 1) 30 #[.int .i64 x.g.fr, .int .i64 x.g.to, .slice x.g.A x.g.n x.g.c] (0, 0) _ rfl (set3_blk HB.out _ _ _) Try.underlying30 rfl (by kernel_rfl)) rfl ?_
  exact ⟨rfl, (HF.out.no_trans HF1.out).then_new (set3_fr _ _ _ _ _) (fun i hi => by rw [hi]; exact Nat.le_succ _)⟩

/-! ### rows of the call's own -/
set_option maxRecDepth 100000 in
theorem info_st : (Try.prog.info? 85).map (fun i => (i.zero, i.size, i.bytes)) = some (some (.agg #[.int .i64 0, .int .i64 0, .int .i64 0, .slice none 0 0]), 4, 48) := by kernel_rfl
theorem rowS_cells {w : World} {b o n : Nat} {L : List St} (h : RowOf w 4 (StAt w) (some ⟨b, o, none⟩) n L) : ∀ j u, (stsCells L)[j]? = some u → w.cell? ((⟨b, o, none⟩ : Addr).add j) = some u := by
  intro j u hu
  have hj : j < L.length * 4 := by
    have := (List.getElem?_eq_some_iff.1 hu).1
    rw [stsCells_length] at this
    exact this
  have hq : j / 4 < L.length := by omega
  obtain ⟨b', o', e, _, hc⟩ := h.2 (by have := h.1; omega)
  injection e with e
  injection e with e1 e2
  subst e1 e2
  obtain ⟨x0, x1, x2, x3, _⟩ := (hc (j / 4) hq).at_
  have ej : j = j / 4 * 4 + j % 4 := by omega
  rw [ej, stsCells_at L (j / 4) (j % 4) (List.getElem?_eq_getElem hq) (by omega)] at hu
  rw [Addr.add_lit, ej]
  have hr : j % 4 = 0 ∨ j % 4 = 1 ∨ j % 4 = 2 ∨ j % 4 = 3 := by omega
  rcases hr with e | e | e | e
  · rw [e] at hu ⊢; rw [← hu]; exact x0
  · rw [e] at hu ⊢; rw [← hu]; exact x1
  · rw [e] at hu ⊢; rw [← hu]; exact x2
  · rw [e] at hu ⊢; rw [← hu]; exact x3
set_option maxRecDepth 100000 in
/-- What the document's net sent, in whatever slice, nil too, appended to a row of the call's own. -/
theorem run_append_st (w : World) (ty : TypeId) (B : Nat) (v : Value) (L : List St) (hown : w.ownsRow B 85 4 v L.length (stsCells L)) (A : Option Addr) (m c : Nat) (news : List St)
    (hr : RowOf w 4 (StAt w) A m news) (hlen : L.length + m ≤ 100000) (hbase : B ≤ w.heap.size) :
    ∃ v' w', (Builtin.append_ #[40, 40] ty #[v, .slice A m c]).run Try.prog w = .ok v' w' ∧ w'.ownsRow B 85 4 v' (L ++ news).length (stsCells (L ++ news)) ∧ w.grownBy w' v.ownBlock := by
  obtain ⟨i0, hi, hz0, hz1, hz2⟩ := info_parts info_st
  have hnl := hr.1
  rcases A with _ | ad
  · have hm : m = 0 := by
      rcases Nat.eq_zero_or_pos m with h0 | h0
      · exact h0
      · obtain ⟨b, o, h, _⟩ := hr.2 h0
        cases h
    subst hm
    have hn : news = [] := List.eq_nil_of_length_eq_zero hnl
    subst hn
    refine ⟨v, w, ?_, by simpa using hown, World.grownBy.refl w _⟩
    rcases hown.2 with ⟨rfl, _⟩ | ⟨g, cap, cur, rfl, _, _, hnc, _⟩
    · simp [Builtin.append_, run_underlying Try.underlying40, sizeOf, typeInfo, hi, Builtin.lenOf, Builtin.firstCells]
    · simp [Builtin.append_, run_underlying Try.underlying40, sizeOf, typeInfo, hi, Builtin.lenOf, Builtin.firstCells, hnc, storeCells]
  · have hcells : ∀ j u, (stsCells news)[j]? = some u → w.cell? (ad.add j) = some u := by
      intro j u hu
      have hj : 0 < news.length := by
        rcases Nat.eq_zero_or_pos news.length with h0 | h0
        · rw [List.eq_nil_of_length_eq_zero h0] at hu; cases hu
        · exact h0
      obtain ⟨b, o, h, _⟩ := hr.2 (by omega)
      injection h with h
      subst h
      exact rowS_cells hr j u hu
    obtain ⟨v', w', hrun, h2, h3, _⟩ := run_append_own (P := Try.prog) w B 40 ty 85 i0 _ 4 48 Try.underlying40 hi hz0 hz1 hz2 rfl (by decide) v L.length (stsCells L) hown ad m c (stsCells news)
      (by rw [stsCells_length, hnl]) hcells (stsCells_one news) (by unfold maxLen; omega) (by omega) hbase
    refine ⟨v', w', hrun, ?_, h3⟩
    rw [stsCells_append, List.length_append, hnl]
    exact h2
set_option maxRecDepth 100000 in
theorem wpList_append_st (w : World) {ops : Array Oper} {rest : List Oper} {o : Oper} {a : Act} {Q : Exit → Act → World → Prop} (hgd : o.guard = none) (s x : Operand)
    (ho : o.op = .call { callee := .builtin .append, args := #[s, x], argTypes := #[40, 40] })
    (B : Nat) (v : Value) (L : List St) (hs : a.eval s = v) (hown : w.ownsRow B 85 4 v L.length (stsCells L)) (A : Option Addr) (m c : Nat) (news : List St) (hx : a.eval x = .slice A m c)
    (hr : RowOf w 4 (StAt w) A m news) (hlen : L.length + m ≤ 100000) (hbase : B ≤ w.heap.size)
    (h : ∀ v' w', w'.ownsRow B 85 4 v' (L ++ news).length (stsCells (L ++ news)) → w.grownBy w' v.ownBlock → wpList Try.prog ops Q rest (a.put o.dst v') w') : wpList Try.prog ops Q (o :: rest) a w := by
  obtain ⟨v', w', hrun, h2, h3⟩ := run_append_st w o.type B v L hown A m c news hr hlen hbase
  exact Lib.wpList_append_run w hgd s x 40 40 ho v (.slice A m c) hs hx v' w' hrun (h v' w' h2 h3)
/-- A row of the call's own, read. -/
theorem rowS_own {w : World} {B n : Nat} {A : Option Addr} {c : Nat} {L : List St} (h : w.ownsRow B 85 4 (.slice A n c) n (stsCells L)) (hx : ∀ x ∈ L, x.g.n ≤ x.g.c ∧ Rd w w.heap.size x.g.A x.g.n x.g.l) :
    RowOf w 4 (StAt w) A n L ∧ ∀ a, A = some a → B ≤ a.block ∧ a.block < w.heap.size := by
  have hl : L.length = n := by
    have := h.1
    rw [stsCells_length] at this
    omega
  have hcell : ∀ G, A = some ⟨G, 0, none⟩ → ∀ k u, (stsCells L)[k]? = some u → w.cell? ⟨G, k, none⟩ = some u := by
    intro G hG k u hu
    have hk : k < (stsCells L).length := (List.getElem?_eq_some_iff.1 hu).1
    obtain ⟨G', e, _, _, hc⟩ := row_cells h (j := k) hk
    rw [hG] at e
    injection e with e
    injection e with e1
    subst e1
    exact hc k u hu
  refine ⟨⟨hl, fun hn => ?_⟩, fun a ha => ?_⟩
  · obtain ⟨G, rfl, _, hG, _⟩ := row_cells h (j := 0) (by rw [stsCells_length]; omega)
    refine ⟨G, 0, rfl, hG, fun j hj => ?_⟩
    have hj' := List.getElem?_eq_getElem hj
    have q : ∀ k u, k < 4 → (stCells L[j])[k]? = some u → w.cell? ⟨G, j * 4 + k, none⟩ = some u := fun k u hk hu => hcell G rfl _ _ ((stsCells_at L j k hj' hk).trans hu)
    have hb := hx _ (List.getElem_mem hj)
    refine ⟨?_, ?_⟩
    · rw [Nat.zero_add]; exact q 0 _ (by omega) rfl
    · rw [Addr.add_lit, Nat.zero_add]
      exact ⟨q 1 _ (by omega) rfl, by rw [Addr.add_lit]; exact q 2 _ (by omega) rfl, by rw [Addr.add_lit]; exact q 3 _ (by omega) rfl, hb⟩
  · rcases h.2 with ⟨e, _⟩ | ⟨g, cap, cur, e, hb, hg, _⟩
    · cases e; cases ha
    · injection e with e1
      rw [ha] at e1
      injection e1 with e1
      subst e1
      exact ⟨hb, (Array.getElem?_eq_some_iff.1 hg).1⟩
theorem rowS_data {w : World} {A : Option Addr} {n : Nat} {L : List St} (h : RowOf w 4 (StAt w) A n L) : ∀ x ∈ L, x.g.n ≤ x.g.c ∧ Rd w w.heap.size x.g.A x.g.n x.g.l := by
  intro x hx
  obtain ⟨j, hj, rfl⟩ := List.getElem_of_mem hx
  obtain ⟨b, o, rfl, _, hc⟩ := h.2 (by have := h.1; omega)
  exact (hc j hj).at_.2.2.2.2
theorem own_sl {w : World} {B n : Nat} {v : Value} {xs : List Value} {e : TypeId} {s : Nat} (h : w.ownsRow B e s v n xs) : ∃ A c, v = .slice A n c := by
  rcases h.2 with ⟨rfl, e0⟩ | ⟨G, cap, cur, rfl, _⟩
  · exact ⟨none, 0, by rw [e0]⟩
  · exact ⟨_, _, rfl⟩
end Go.Proofs.Ytndanonhkjgmhaa

/-
  A world in memory of its own. No statement of the seat is proved here.
-/
import Derived.Test.YtjdhbgdpmojobaaDoorWdD
namespace Go.Proofs.YtjdhbgdpmojobaaDoor
open Go.RowKit Go.Deep

/-! ### a chunk, a player written over one of a row -/
def put5 (w : World) (g o : Nat) (a b c d e : Value) : World := ((((w.setCell ⟨g, o, none⟩ a).setCell ⟨g, o + 1, none⟩ b).setCell ⟨g, o + 2, none⟩ c).setCell ⟨g, o + 3, none⟩ d).setCell ⟨g, o + 4, none⟩ e
def put7 (w : World) (g o : Nat) (a b c d e f q : Value) : World := ((((((w.setCell ⟨g, o, none⟩ a).setCell ⟨g, o + 1, none⟩ b).setCell ⟨g, o + 2, none⟩ c).setCell ⟨g, o + 3, none⟩ d).setCell ⟨g, o + 4, none⟩ e).setCell ⟨g, o + 5, none⟩ f).setCell ⟨g, o + 6, none⟩ q
theorem put5_fr (w : World) (g o : Nat) (a b c d e : Value) : Fr (fun i => i = g) w (put5 w g o a b c d e) := by
  have q : ∀ (W : World) (k : Nat) (u : Value), Fr (fun i => i = g) W (W.setCell ⟨g, k, none⟩ u) := fun W k u => Fr.setCell W ⟨g, k, none⟩ u rfl
  have t : ∀ {A B C : World}, Fr (fun i => i = g) A B → Fr (fun i => i = g) B C → Fr (fun i => i = g) A C := fun h1 h2 => h1.trans h2 (fun _ _ e => e)
  exact t (t (t (t (q _ _ _) (q _ _ _)) (q _ _ _)) (q _ _ _)) (q _ _ _)
theorem put7_fr (w : World) (g o : Nat) (a b c d e f p : Value) : Fr (fun i => i = g) w (put7 w g o a b c d e f p) := by
  have q : ∀ (W : World) (k : Nat) (u : Value), Fr (fun i => i = g) W (W.setCell ⟨g, k, none⟩ u) := fun W k u => Fr.setCell W ⟨g, k, none⟩ u rfl
  have t : ∀ {A B C : World}, Fr (fun i => i = g) A B → Fr (fun i => i = g) B C → Fr (fun i => i = g) A C := fun h1 h2 => h1.trans h2 (fun _ _ e => e)
  exact t (t (t (t (t (t (q _ _ _) (q _ _ _)) (q _ _ _)) (q _ _ _)) (q _ _ _)) (q _ _ _)) (q _ _ _)
theorem chL_put (l : List Ch) (j : Nat) (h : j < l.length) (C : Ch) : ((((((chL l).set (j * 5) (.int .i64 C.x)).set (j * 5 + 1) (.int .i64 C.y)).set (j * 5 + 2) (.slice C.A1 C.n1 C.c1)).set (j * 5 + 3) (.slice C.A2 C.n2 C.c2)).set (j * 5 + 4) (.slice C.A3 C.n3 C.c3)) = chL (l.set j C) := by
  induction l generalizing j with
  | nil => simp at h
  | cons x l ih =>
    cases j with
    | zero => rfl
    | succ j =>
      have := ih j (by simpa using h)
      rw [show (j + 1) * 5 = j * 5 + 5 by omega, show j * 5 + 5 + 1 = (j * 5 + 1) + 5 by omega, show j * 5 + 5 + 2 = (j * 5 + 2) + 5 by omega, show j * 5 + 5 + 3 = (j * 5 + 3) + 5 by omega, show j * 5 + 5 + 4 = (j * 5 + 4) + 5 by omega]
      show x.cells ++ _ = x.cells ++ chL (l.set j C)
      rw [← this]
      rfl
theorem plL_put (l : List Pl) (j : Nat) (h : j < l.length) (C : Pl) : ((((((((plL l).set (j * 7) (.int .i64 C.id)).set (j * 7 + 1) (.int .i64 C.x)).set (j * 7 + 2) (.int .i64 C.y)).set (j * 7 + 3) (.slice C.A1 C.n1 C.c1)).set (j * 7 + 4) (.int .i64 C.wi)).set (j * 7 + 5) (.slice C.A2 C.n2 C.c2)).set (j * 7 + 6) (.bool C.ag)) = plL (l.set j C) := by
  induction l generalizing j with
  | nil => simp at h
  | cons x l ih =>
    cases j with
    | zero => rfl
    | succ j =>
      have := ih j (by simpa using h)
      rw [show (j + 1) * 7 = j * 7 + 7 by omega, show j * 7 + 7 + 1 = (j * 7 + 1) + 7 by omega, show j * 7 + 7 + 2 = (j * 7 + 2) + 7 by omega, show j * 7 + 7 + 3 = (j * 7 + 3) + 7 by omega, show j * 7 + 7 + 4 = (j * 7 + 4) + 7 by omega, show j * 7 + 7 + 5 = (j * 7 + 5) + 7 by omega, show j * 7 + 7 + 6 = (j * 7 + 6) + 7 by omega]
      show x.cells ++ _ = x.cells ++ plL (l.set j C)
      rw [← this]
      rfl
section
variable {w w' : World} {A : Option Addr} {n c lo : Nat} {l : List Ch} {q : List Pl}
theorem own_put5 (h : w.ownsRow lo 31 5 (.slice A n c) n (chL l)) (hl : l.length = n) (k : Nat) (hk : k < n) : ∃ g, A = some ⟨g, 0, none⟩ ∧ lo ≤ g ∧ g < w.heap.size ∧ (∃ cur, w.heap[g]? = some (.cells cur 31 (0, 0))) ∧
    ∀ C : Ch, (put5 w g (k * 5) (.int .i64 C.x) (.int .i64 C.y) (.slice C.A1 C.n1 C.c1) (.slice C.A2 C.n2 C.c2) (.slice C.A3 C.n3 C.c3)).ownsRow lo 31 5 (.slice A n c) n (chL (l.set k C)) := by
  rcases h.2 with ⟨hv, h0⟩ | ⟨g, cap, cur, hv, hlo, hh, hnc, hcm, hsz, htk⟩
  · omega
  · injection hv with e1 e2 e3
    subst e1 e3
    clear e2
    refine ⟨g, rfl, hlo, (Array.getElem?_eq_some_iff.1 hh).1, ⟨cur, hh⟩, fun C => ⟨by rw [chL_len, List.length_set, hl], .inr ⟨g, c, _, rfl, hlo, heap_cells_set _ g _ _ _ _ (heap_cells_set _ g _ _ _ _ (heap_cells_set _ g _ _ _ _ (heap_cells_set _ g _ _ _ _ (heap_cells_set w g _ _ _ _ hh)))), hnc, hcm, by simpa using hsz, ?_⟩⟩⟩
    simp only [Array.toList_setIfInBounds, List.take_set, htk]
    exact chL_put l k (by omega) C
theorem own_put7 (h : w.ownsRow lo 35 7 (.slice A n c) n (plL q)) (hl : q.length = n) (k : Nat) (hk : k < n) : ∃ g, A = some ⟨g, 0, none⟩ ∧ lo ≤ g ∧ g < w.heap.size ∧ (∃ cur, w.heap[g]? = some (.cells cur 35 (0, 0))) ∧
    ∀ C : Pl, (put7 w g (k * 7) (.int .i64 C.id) (.int .i64 C.x) (.int .i64 C.y) (.slice C.A1 C.n1 C.c1) (.int .i64 C.wi) (.slice C.A2 C.n2 C.c2) (.bool C.ag)).ownsRow lo 35 7 (.slice A n c) n (plL (q.set k C)) := by
  rcases h.2 with ⟨hv, h0⟩ | ⟨g, cap, cur, hv, hlo, hh, hnc, hcm, hsz, htk⟩
  · omega
  · injection hv with e1 e2 e3
    subst e1 e3
    clear e2
    refine ⟨g, rfl, hlo, (Array.getElem?_eq_some_iff.1 hh).1, ⟨cur, hh⟩, fun C => ⟨by rw [plL_len, List.length_set, hl], .inr ⟨g, c, _, rfl, hlo, heap_cells_set _ g _ _ _ _ (heap_cells_set _ g _ _ _ _ (heap_cells_set _ g _ _ _ _ (heap_cells_set _ g _ _ _ _ (heap_cells_set _ g _ _ _ _ (heap_cells_set _ g _ _ _ _ (heap_cells_set w g _ _ _ _ hh)))))), hnc, hcm, by simpa using hsz, ?_⟩⟩⟩
    simp only [Array.toList_setIfInBounds, List.take_set, htk]
    exact plL_put q k (by omega) C
end
/-- While chunks, then players, get memory of their own: the first k chunks, the first q players have it. -/
structure Owl2 (w : World) (D : Nat) (d : Wd) (B3 B4 : Option Addr) (d3 d4 k q : Nat) (bk : List Ch) (pk : List Pl) (wr : World) : Prop where
  l1 : bk.length = d.n3
  l2 : pk.length = d.n4
  hD : wr.heap[D]? = some (.cells #[.int .i64 d.size, u64v d.sd, .int .i64 d.tick, .slice B3 d.n3 d3, .slice B4 d.n4 d4] 26 (0, 0))
  hE : wr.heap[D + 1]? = some (.cells #[.int .i64 0, .int .u64 0, .int .i64 0, .slice none 0 0, .slice none 0 0] 26 (0, 0))
  o1 : wr.ownsRow D 31 5 (.slice B3 d.n3 d3) d.n3 (chL bk)
  o2 : wr.ownsRow D 35 7 (.slice B4 d.n4 d4) d.n4 (plL pk)
  bp : bk.map Ch.ck = d.cs.map Ch.ck
  pp : pk.map Pl.py = d.ps.map Pl.py
  old : ∀ j (h : j < bk.length) (h' : j < d.cs.length), k ≤ j → bk[j] = d.cs[j]
  own : ∀ j (h : j < bk.length), j < k → OwC D wr bk[j]
  oldp : ∀ j (h : j < pk.length) (h' : j < d.ps.length), q ≤ j → pk[j] = d.ps[j]
  ownp : ∀ j (h : j < pk.length), j < q → OwP D wr pk[j]
  fr : Fr No w wr
section
variable {w wr w' : World} {D d3 d4 k q : Nat} {d : Wd} {B3 B4 : Option Addr} {bk : List Ch} {pk : List Pl}
theorem Owl2.no (h : Owl2 w D d B3 B4 d3 d4 k q bk pk wr) (hf : Fr No wr w') : Owl2 w D d B3 B4 d3 d4 k q bk pk w' :=
  ⟨h.l1, h.l2, blk_no hf h.hD, blk_no hf h.hE, own_no h.o1 hf, own_no h.o2 hf, h.bp, h.pp, h.old, fun j hj hk => (h.own j hj hk).no hf, h.oldp, fun j hj hk => (h.ownp j hj hk).no hf, h.fr.no_trans hf⟩
theorem Owl2.step (h : Owl2 w D d B3 B4 d3 d4 k 0 bk pk wr) (hDw : w.heap.size = D) {lo : Nat} (hk : k < d.cs.length) (hlb : d.cs.length = d.n3) (hlo : D ≤ lo) {g : Nat} (hg : B3 = some ⟨g, 0, none⟩) {C : Ch} (hC : C.ck = d.cs[k].ck) (ho : OwC lo wr C) :
    ∃ bk', Owl2 w D d B3 B4 d3 d4 (k + 1) 0 bk' pk (put5 wr g (k * 5) (.int .i64 C.x) (.int .i64 C.y) (.slice C.A1 C.n1 C.c1) (.slice C.A2 C.n2 C.c2) (.slice C.A3 C.n3 C.c3)) := by
  subst hg
  have hkb : k < bk.length := by rw [h.l1]; omega
  obtain ⟨g', hg', hglo, hgs, ⟨cur, hcur⟩, hset⟩ := own_put5 h.o1 h.l1 k (by omega)
  injection hg' with hg'
  injection hg' with hg'
  subst hg'
  have hf := put5_fr wr g (k * 5) (.int .i64 C.x) (.int .i64 C.y) (.slice C.A1 C.n1 C.c1) (.slice C.A2 C.n2 C.c2) (.slice C.A3 C.n3 C.c3)
  have hnd : D ≠ g := fun e => by rw [← e, h.hD] at hcur; injection hcur with hc; injection hc with _ hc _; exact absurd hc (by decide)
  have hne : D + 1 ≠ g := fun e => by rw [← e, h.hE] at hcur; injection hcur with hc; injection hc with _ hc _; exact absurd hc (by decide)
  refine ⟨bk.set k C, ⟨by rw [List.length_set]; exact h.l1, h.l2, ?_, ?_, hset C, own_oth h.o2 hcur (by decide) hf, ?_, h.pp, ?_, ?_, h.oldp, fun j hj hj' => absurd hj' (by omega), ?_⟩⟩
  · exact (hf.block D (Array.getElem?_eq_some_iff.1 h.hD).1 hnd).trans h.hD
  · exact (hf.block (D + 1) (Array.getElem?_eq_some_iff.1 h.hE).1 hne).trans h.hE
  · rw [List.map_set, h.bp]
    apply List.ext_getElem
    · simp
    · intro i h1 h2
      rw [List.getElem_set]
      split
      · rename_i e
        subst e
        rw [List.getElem_map, hC]
      · rfl
  · intro j hj hj' hkj
    rw [List.getElem_set_ne (by omega)]
    exact h.old j (by rw [List.length_set] at hj; exact hj) hj' (by omega)
  · intro j hj hjk
    by_cases e : j = k
    · subst e
      rw [List.getElem_set_self]
      exact (ho.oth hcur (by decide) hf).low hlo
    · rw [List.getElem_set_ne (by omega)]
      exact (h.own j (by rw [List.length_set] at hj; exact hj) (by omega)).oth hcur (by decide) hf
  · exact h.fr.then_new hf (fun i hi => by have e : i = g := hi; rw [e, hDw]; exact hglo)
theorem Owl2.stepp (h : Owl2 w D d B3 B4 d3 d4 k q bk pk wr) (hDw : w.heap.size = D) {lo : Nat} (hk : q < d.ps.length) (hlb : d.ps.length = d.n4) (hlo : D ≤ lo) {g : Nat} (hg : B4 = some ⟨g, 0, none⟩) {C : Pl} (hC : C.py = d.ps[q].py) (ho : OwP lo wr C) :
    ∃ pk', Owl2 w D d B3 B4 d3 d4 k (q + 1) bk pk' (put7 wr g (q * 7) (.int .i64 C.id) (.int .i64 C.x) (.int .i64 C.y) (.slice C.A1 C.n1 C.c1) (.int .i64 C.wi) (.slice C.A2 C.n2 C.c2) (.bool C.ag)) := by
  subst hg
  have hkb : q < pk.length := by rw [h.l2]; omega
  obtain ⟨g', hg', hglo, hgs, ⟨cur, hcur⟩, hset⟩ := own_put7 h.o2 h.l2 q (by omega)
  injection hg' with hg'
  injection hg' with hg'
  subst hg'
  have hf := put7_fr wr g (q * 7) (.int .i64 C.id) (.int .i64 C.x) (.int .i64 C.y) (.slice C.A1 C.n1 C.c1) (.int .i64 C.wi) (.slice C.A2 C.n2 C.c2) (.bool C.ag)
  have hnd : D ≠ g := fun e => by rw [← e, h.hD] at hcur; injection hcur with hc; injection hc with _ hc _; exact absurd hc (by decide)
  have hne : D + 1 ≠ g := fun e => by rw [← e, h.hE] at hcur; injection hcur with hc; injection hc with _ hc _; exact absurd hc (by decide)
  refine ⟨pk.set q C, ⟨h.l1, by rw [List.length_set]; exact h.l2, ?_, ?_, own_oth h.o1 hcur (by decide) hf, hset C, h.bp, ?_, h.old, fun j hj hjk => (h.own j hj hjk).oth hcur (by decide) hf, ?_, ?_, ?_⟩⟩
  · exact (hf.block D (Array.getElem?_eq_some_iff.1 h.hD).1 hnd).trans h.hD
  · exact (hf.block (D + 1) (Array.getElem?_eq_some_iff.1 h.hE).1 hne).trans h.hE
  · rw [List.map_set, h.pp]
    apply List.ext_getElem
    · simp
    · intro i h1 h2
      rw [List.getElem_set]
      split
      · rename_i e
        subst e
        rw [List.getElem_map, hC]
      · rfl
  · intro j hj hj' hkj
    rw [List.getElem_set_ne (by omega)]
    exact h.oldp j (by rw [List.length_set] at hj; exact hj) hj' (by omega)
  · intro j hj hjk
    by_cases e : j = q
    · subst e
      rw [List.getElem_set_self]
      exact (ho.oth hcur (by decide) hf).low hlo
    · rw [List.getElem_set_ne (by omega)]
      exact (h.ownp j (by rw [List.length_set] at hj; exact hj) (by omega)).oth hcur (by decide) hf
  · exact h.fr.then_new hf (fun i hi => by have e : i = g := hi; rw [e, hDw]; exact hglo)
/-- All have memory of their own. -/
theorem Owl2.oww (h : Owl2 w D d B3 B4 d3 d4 d.n3 d.n4 bk pk wr) : OwW D wr ⟨d.size, d.sd, d.tick, B3, d.n3, d3, bk, B4, d.n4, d4, pk⟩ :=
  ⟨h.l1, h.l2, h.o1, h.o2, fun C hC => by
    obtain ⟨j, hj, rfl⟩ := List.getElem_of_mem hC
    have hj' : j < bk.length := hj
    exact h.own j hj' (by have := h.l1; omega), fun P hP => by
    obtain ⟨j, hj, rfl⟩ := List.getElem_of_mem hP
    have hj' : j < pk.length := hj
    exact h.ownp j hj' (by have := h.l2; omega)⟩
/-- What happens to a block of a world leaves it. -/
theorem OwW.at_ {lo E : Nat} {cur : Array Value} (h : OwW lo w d) (hE : w.heap[E]? = some (.cells cur 26 (0, 0))) (hf : Fr (fun i => i = E) w w') : OwW lo w' d :=
  ⟨h.e3, h.e4, own_oth h.o3 hE (by decide) hf, own_oth h.o4 hE (by decide) hf, fun C hC => (h.oc C hC).oth hE (by decide) hf, fun P hP => (h.op P hP).oth hE (by decide) hf⟩
end
end Go.Proofs.YtjdhbgdpmojobaaDoor

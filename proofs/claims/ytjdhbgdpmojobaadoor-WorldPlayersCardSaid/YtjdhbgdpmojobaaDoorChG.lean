/-
  Rows of cells, of the call's own, whatever their things are; rows in memory of their own. No statement of the seat is proved here.
-/
import Derived.Test.YtjdhbgdpmojobaaDoorChA
import Derived.Test.YtjdhbgdpmojobaaDoorChC
import Derived.Lib.AppendZerosOnto
namespace Go.Proofs.YtjdhbgdpmojobaaDoor
open Go.RowKit Go.Deep

set_option maxRecDepth 100000 in
theorem info_itm : (Tryd.prog.info? 50).map (fun i => (i.zero, i.size, i.bytes)) = some (some (.int .u8 0), 1, 1) := by kernel_rfl
set_option maxRecDepth 100000 in
theorem info_hp : (Tryd.prog.info? 114).map (fun i => (i.zero, i.size, i.bytes)) = some (some (.agg #[.int .i64 0, .int .u8 0, .int .i64 0]), 3, 24) := by kernel_rfl
/-- A slice of n things of so many cells each, cell by cell. -/
def Rc (W : World) (size : Nat) (A : Option Addr) (n : Nat) (cells : List Value) : Prop :=
  cells.length = n * size ∧ (0 < n → ∃ b o, A = some ⟨b, o, none⟩ ∧ b < W.heap.size ∧ ∀ r u, cells[r]? = some u → W.cell? ⟨b, o + r, none⟩ = some u)
section
variable {w w' : World} {A : Option Addr} {n c lo size : Nat} {e : TypeId} {v : Value} {cells : List Value}
theorem Rc.no (h : Rc w size A n cells) (hf : Fr No w w') : Rc w' size A n cells := by
  refine ⟨h.1, fun hn => ?_⟩
  obtain ⟨b, o, e, hb, hc⟩ := h.2 hn
  exact ⟨b, o, e, Nat.lt_of_lt_of_le hb hf.size, fun r u hu => (hf.cell (p := ⟨b, o + r, none⟩) hb (fun e => e)).trans (hc r u hu)⟩
theorem own_rc (h : w.ownsRow lo e size (.slice A n c) n cells) : Rc w size A n cells := by
  refine ⟨h.1, fun hn => ?_⟩
  rcases h.2 with ⟨_, h0⟩ | ⟨g, cap, cur, hv, _, hh, hnc, _, hsz, htk⟩
  · omega
  · injection hv with e1 e2 e3
    subst e1 e3
    clear e2
    refine ⟨g, 0, rfl, (Array.getElem?_eq_some_iff.1 hh).1, fun r u hu => ?_⟩
    have hr : r < n * size := by rw [← h.1]; exact (List.getElem?_eq_some_iff.1 hu).1
    rw [Nat.zero_add, blk_cell hh, ← Array.getElem?_toList]
    rw [← htk, List.getElem?_take] at hu
    simpa [hr] using hu
theorem own_cap (h : w.ownsRow lo e size (.slice A n c) n cells) : n ≤ c := by
  rcases h.2 with ⟨hv, h0⟩ | ⟨g, cap, cur, hv, _, hh, hnc, _, hsz, htk⟩
  · omega
  · injection hv with e1 e2 e3
    omega
theorem own_slice (h : w.ownsRow lo e size v n cells) : ∃ A c, v = .slice A n c ∧ n ≤ c := by
  rcases h.2 with ⟨rfl, h0⟩ | ⟨g, cap, cur, rfl, _, hh, hnc, _, hsz, htk⟩
  · exact ⟨none, 0, by rw [h0], by omega⟩
  · exact ⟨_, _, rfl, hnc⟩
theorem own_no (h : w.ownsRow lo e size v n cells) (hf : Fr No w w') : w'.ownsRow lo e size v n cells := own_keep h (fun k hk => hf.block k (h.lt k hk).2 (fun e => e))
theorem own_fr {F : Nat → Prop} (h : w.ownsRow lo e size v n cells) (hf : Fr F w w') (hF : ∀ k, v.ownBlock = some k → ¬ F k) : w'.ownsRow lo e size v n cells := own_keep h (fun k hk => hf.block k (h.lt k hk).2 (hF k hk))
theorem own_low {lo' : Nat} (h : w.ownsRow lo e size v n cells) (hl : lo' ≤ lo) : w.ownsRow lo' e size v n cells := by
  refine ⟨h.1, ?_⟩
  rcases h.2 with hn | ⟨g, cap, cur, rfl, hb, r⟩
  · exact .inl hn
  · exact .inr ⟨g, cap, cur, rfl, by omega, r⟩
/-- What type the things of a block are of. -/
theorem own_type (h : w.ownsRow lo e size v n cells) {k : Nat} (hk : v.ownBlock = some k) : ∃ cur, w.heap[k]? = some (.cells cur e (0, 0)) := by
  rcases h.2 with ⟨rfl, h0⟩ | ⟨g, cap, cur, rfl, _, hh, hnc, _, hsz, htk⟩
  · cases hk
  · injection hk with hk
    subst hk
    exact ⟨cur, hh⟩
theorem own_apart {e' : TypeId} {size' n' : Nat} {v' : Value} {cells' : List Value} {lo' : Nat} (h : w.ownsRow lo e size v n cells) (h' : w.ownsRow lo' e' size' v' n' cells') (hne : e ≠ e') : ∀ k, v.ownBlock = some k → ¬ v'.ownBlock = some k := by
  intro k hk hk'
  obtain ⟨_, h1⟩ := own_type h hk
  obtain ⟨_, h2⟩ := own_type h' hk'
  rw [h1] at h2
  injection h2 with h2
  injection h2 with _ h2 _
  exact hne h2
/-- One cell of a row of the call's own is written. -/
theorem own_setk (h : w.ownsRow lo e size (.slice A n c) n cells) (r : Nat) (hr : r < n * size) : ∃ b, A = some ⟨b, 0, none⟩ ∧ lo ≤ b ∧ b < w.heap.size ∧ w.frozen? ⟨b, r, none⟩ = false ∧ (∃ u, w.cell? ⟨b, r, none⟩ = some u) ∧
    (∀ u, (w.setCell ⟨b, r, none⟩ u).ownsRow lo e size (.slice A n c) n (cells.set r u)) ∧ ∀ u, Fr (fun i => i = b) w (w.setCell ⟨b, r, none⟩ u) := by
  rcases h.2 with ⟨hv, h0⟩ | ⟨g, cap, cur, hv, hlo, hh, hnc, hcm, hsz, htk⟩
  · subst h0; simp at hr
  · injection hv with e1 e2 e3
    subst e1 e3
    clear e2
    have hrc : r < cur.size := by rw [hsz]; exact Nat.lt_of_lt_of_le hr (Nat.mul_le_mul_right _ hnc)
    refine ⟨g, rfl, hlo, (Array.getElem?_eq_some_iff.1 hh).1, blk_free hh _, ⟨cur[r], by rw [blk_cell hh]; exact Array.getElem?_eq_getElem hrc⟩, fun u => ⟨by rw [List.length_set]; exact h.1, .inr ⟨g, c, _, rfl, hlo, heap_cells_set w g r _ _ u hh, hnc, hcm, by simpa using hsz, ?_⟩⟩, fun u => Fr.setCell w ⟨g, r, none⟩ u rfl⟩
    rw [Array.toList_setIfInBounds, List.take_set, htk]
set_option maxRecDepth 100000 in
/-- Cells of whatever slice, nil too, appended to a row of the call's own. -/
theorem run_append_k (w : World) (ty T e : TypeId) {z : Value} {size bytes : Nat} (hT : Tryd.prog.underlying T = some (.slice e)) (hinf : (Tryd.prog.info? e).map (fun i => (i.zero, i.size, i.bytes)) = some (some z, size, bytes)) (hz : z.cells.size = size) (hsz : 0 < size) (hby : bytes ≤ 100)
    (hown : w.ownsRow lo e size v n cells) (A : Option Addr) (m c : Nat) (news : List Value) (hr : Rc w size A m news) (h1 : ∀ u ∈ news, u.oneCell' = true) (hlen : n + m ≤ 1000000) (hbase : lo ≤ w.heap.size) :
    ∃ v' w', (Builtin.append_ #[T, T] ty #[v, .slice A m c]).run Tryd.prog w = .ok v' w' ∧ w'.ownsRow lo e size v' (n + m) (cells ++ news) ∧ w.grownBy w' v.ownBlock := by
  obtain ⟨i0, hi, hz0, hz1, hz2⟩ := info_parts hinf
  have hnl := hr.1
  rcases A with _ | ad
  · have hm : m = 0 := by
      rcases Nat.eq_zero_or_pos m with h0 | h0
      · exact h0
      · obtain ⟨b, o, h, _⟩ := hr.2 h0
        cases h
    subst hm
    have hn : news = [] := List.eq_nil_of_length_eq_zero (by simpa using hnl)
    subst hn
    refine ⟨v, w, ?_, by simpa using hown, World.grownBy.refl w _⟩
    rcases hown.2 with ⟨rfl, _⟩ | ⟨g, cap, cur, rfl, _, _, hnc, _⟩
    · simp [Builtin.append_, run_underlying hT, sizeOf, typeInfo, hi, Builtin.lenOf, Builtin.firstCells]
    · simp [Builtin.append_, run_underlying hT, sizeOf, typeInfo, hi, Builtin.lenOf, Builtin.firstCells, hnc, storeCells]
  · have hcells : ∀ j u, news[j]? = some u → w.cell? (ad.add j) = some u := by
      intro j u hu
      have hm : 0 < m := by
        have := (List.getElem?_eq_some_iff.1 hu).1
        rcases Nat.eq_zero_or_pos m with h0 | h0
        · rw [hnl, h0] at this; simp at this
        · exact h0
      obtain ⟨b, o, h, _, hc⟩ := hr.2 hm
      injection h with h
      subst h
      rw [Addr.add_lit]
      exact hc j u hu
    obtain ⟨v', w', hrun, h2, h3, _⟩ := run_append_own (P := Tryd.prog) w lo T ty e i0 _ size bytes hT hi hz0 hz1 hz2 hz hsz v n cells hown ad m c news
      hnl hcells h1 (by unfold maxLen; omega) (by have := Nat.mul_le_mul (show n + m ≤ 1000000 from hlen) hby; omega) hbase
    exact ⟨v', w', hrun, h2, h3⟩
set_option maxRecDepth 100000 in
/-- A row in memory of its own. -/
theorem run_fresh_k (w : World) (ty T e : TypeId) {z : Value} {size bytes : Nat} (hT : Tryd.prog.underlying T = some (.slice e)) (hinf : (Tryd.prog.info? e).map (fun i => (i.zero, i.size, i.bytes)) = some (some z, size, bytes)) (hz : z.cells.size = size) (hsz : 0 < size) (hby : bytes ≤ 100)
    (A : Option Addr) (m c : Nat) (news : List Value) (hr : Rc w size A m news) (h1 : ∀ u ∈ news, u.oneCell' = true) (hlen : m ≤ 1000000) :
    ∃ A' c' w', (Builtin.append_ #[T, T] ty #[.slice none 0 0, .slice A m c]).run Tryd.prog w = .ok (.slice A' m c') w' ∧ w'.ownsRow w.heap.size e size (.slice A' m c') m news ∧ Fr No w w' := by
  obtain ⟨v', w', hrun, ho, hg⟩ := run_append_k w ty T e hT hinf hz hsz hby (lo := w.heap.size) (v := .slice none 0 0) (n := 0) (cells := []) (World.ownsRow_nil _ _ _ _) A m c news hr h1 (by omega) (Nat.le_refl _)
  rw [Nat.zero_add, List.nil_append] at ho
  obtain ⟨A', c', rfl, _⟩ := own_slice ho
  exact ⟨A', c', w', hrun, ho, Fr.grown hg (fun k hk => by cases hk)⟩
end
/-! ### the parts of a chunk, cell by cell -/
def itL (l : List Nat) : List Value := l.map fun (i : Nat) => Value.int .u8 (i : Int)
def hpL (l : List Hp) : List Value := l.flatMap fun h => [.int .i64 h.1, .int .u8 (h.2.1 : Int), .int .i64 h.2.2]
def bxL (l : List Bx) : List Value := l.flatMap fun b => [.int .i64 b.cell, .slice b.A b.n b.c]
theorem itL_len (l : List Nat) : (itL l).length = l.length * 1 := by simp [itL]
theorem hpL_len (l : List Hp) : (hpL l).length = l.length * 3 := by
  induction l with
  | nil => rfl
  | cons x l ih =>
    show (hpL l).length + 3 = (l.length + 1) * 3
    omega
theorem bxL_len (l : List Bx) : (bxL l).length = l.length * 2 := by
  induction l with
  | nil => rfl
  | cons x l ih =>
    show (bxL l).length + 2 = (l.length + 1) * 2
    omega
theorem itL_one (l : List Nat) : ∀ u ∈ itL l, u.oneCell' = true := by
  intro u hu
  simp only [itL, List.mem_map] at hu
  obtain ⟨_, _, rfl⟩ := hu
  rfl
theorem hpL_one (l : List Hp) : ∀ u ∈ hpL l, u.oneCell' = true := by
  intro u hu
  simp only [hpL, List.mem_flatMap] at hu
  obtain ⟨_, _, hu⟩ := hu
  simp at hu
  rcases hu with rfl | rfl | rfl <;> rfl
theorem bxL_one (l : List Bx) : ∀ u ∈ bxL l, u.oneCell' = true := by
  intro u hu
  simp only [bxL, List.mem_flatMap] at hu
  obtain ⟨_, _, hu⟩ := hu
  simp at hu
  rcases hu with rfl | rfl <;> rfl
theorem hpL_at (l : List Hp) (j : Nat) (h : j < l.length) : (hpL l)[j * 3]? = some (.int .i64 l[j].1) ∧ (hpL l)[j * 3 + 1]? = some (.int .u8 (l[j].2.1 : Int)) ∧ (hpL l)[j * 3 + 2]? = some (.int .i64 l[j].2.2) := by
  induction l generalizing j with
  | nil => simp at h
  | cons x l ih =>
    cases j with
    | zero => exact ⟨rfl, rfl, rfl⟩
    | succ j =>
      have := ih j (by simpa using h)
      rw [show (j + 1) * 3 = j * 3 + 3 by omega]
      exact this
theorem bxL_at (l : List Bx) (j : Nat) (h : j < l.length) : (bxL l)[j * 2]? = some (.int .i64 l[j].cell) ∧ (bxL l)[j * 2 + 1]? = some (.slice l[j].A l[j].n l[j].c) := by
  induction l generalizing j with
  | nil => simp at h
  | cons x l ih =>
    cases j with
    | zero => exact ⟨rfl, rfl⟩
    | succ j =>
      have := ih j (by simpa using h)
      rw [show (j + 1) * 2 = j * 2 + 2 by omega]
      exact this
theorem itL_at (l : List Nat) (j : Nat) (h : j < l.length) : (itL l)[j]? = some (.int .u8 (l[j] : Int)) := by
  unfold itL
  rw [List.getElem?_map, List.getElem?_eq_getElem h]
  rfl
theorem itL_append (l m : List Nat) : itL (l ++ m) = itL l ++ itL m := by simp [itL]
theorem hpL_append (l m : List Hp) : hpL (l ++ m) = hpL l ++ hpL m := by simp [hpL]
theorem bxL_append (l m : List Bx) : bxL (l ++ m) = bxL l ++ bxL m := by simp [bxL]
theorem bxL_set (l : List Bx) (j : Nat) (h : j < l.length) (A : Option Addr) (n c : Nat) (m : List (Nat × Int)) : (bxL l).set (j * 2 + 1) (.slice A n c) = bxL (l.set j ⟨l[j].cell, A, n, c, m⟩) := by
  induction l generalizing j with
  | nil => simp at h
  | cons x l ih =>
    cases j with
    | zero => rfl
    | succ j =>
      have := ih j (by simpa using h)
      rw [show (j + 1) * 2 + 1 = (j * 2 + 1) + 2 by omega]
      show Value.int .i64 x.cell :: Value.slice x.A x.n x.c :: (bxL l).set (j * 2 + 1) (.slice A n c) = _
      rw [this]
      rfl
theorem itL_set (l : List Nat) (j : Nat) (x : Nat) : (itL l).set j (.int .u8 (x : Int)) = itL (l.set j x) := by
  unfold itL
  rw [List.map_set]
section
variable {W : World} {A : Option Addr} {n : Nat}
theorem rk_it {l : List Nat} (h : RwK W 1 (ItAt W) A n l) : Rc W 1 A n (itL l) := by
  refine ⟨by rw [itL_len, h.1], fun hn => ?_⟩
  obtain ⟨b, o, e, hb, hc⟩ := h.2 hn
  refine ⟨b, o, e, hb, fun r u hu => ?_⟩
  have hr : r < l.length := by have := (List.getElem?_eq_some_iff.1 hu).1; rw [itL_len] at this; omega
  rw [itL_at l r hr] at hu
  have := hc r hr
  rw [Nat.mul_one] at this
  exact this.trans hu
theorem rk_hp {l : List Hp} (h : RwK W 3 (HpAt W) A n l) : Rc W 3 A n (hpL l) := by
  refine ⟨by rw [hpL_len, h.1], fun hn => ?_⟩
  obtain ⟨b, o, e, hb, hc⟩ := h.2 hn
  refine ⟨b, o, e, hb, fun r u hu => ?_⟩
  have hr : r < l.length * 3 := by have := (List.getElem?_eq_some_iff.1 hu).1; rw [hpL_len] at this; omega
  obtain ⟨d0, d1, d2⟩ := hpL_at l (r / 3) (by omega)
  obtain ⟨c0, c1, c2⟩ := hc (r / 3) (by omega)
  rw [Addr.add_lit] at c1 c2
  rcases (show r = r / 3 * 3 ∨ r = r / 3 * 3 + 1 ∨ r = r / 3 * 3 + 2 by omega) with e | e | e
  · rw [e, d0] at hu; rw [e, c0]; exact hu
  · rw [e, d1] at hu; rw [e, ← Nat.add_assoc, c1]; exact hu
  · rw [e, d2] at hu; rw [e, ← Nat.add_assoc, c2]; exact hu
theorem rk_bx {l : List Bx} (h : RwK W 2 (BxAt W) A n l) : Rc W 2 A n (bxL l) := by
  refine ⟨by rw [bxL_len, h.1], fun hn => ?_⟩
  obtain ⟨b, o, e, hb, hc⟩ := h.2 hn
  refine ⟨b, o, e, hb, fun r u hu => ?_⟩
  have hr : r < l.length * 2 := by have := (List.getElem?_eq_some_iff.1 hu).1; rw [bxL_len] at this; omega
  obtain ⟨d0, d1⟩ := bxL_at l (r / 2) (by omega)
  obtain ⟨c0, c1, _⟩ := hc (r / 2) (by omega)
  rw [Addr.add_lit] at c1
  rcases (show r = r / 2 * 2 ∨ r = r / 2 * 2 + 1 by omega) with e | e
  · rw [e, d0] at hu; rw [e, c0]; exact hu
  · rw [e, d1] at hu; rw [e, ← Nat.add_assoc, c1]; exact hu
theorem rds_rc {l : List (Nat × Int)} (h : RdS W A n l) : Rc W 2 A n (slC l) := by
  refine ⟨by rw [slC_len, h.1], fun hn => ?_⟩
  obtain ⟨b, o, e, hb, hc⟩ := h.2 hn
  refine ⟨b, o, e, hb, fun r u hu => ?_⟩
  have hr : r < l.length * 2 := by have := (List.getElem?_eq_some_iff.1 hu).1; rw [slC_len] at this; omega
  obtain ⟨d0, d1⟩ := slC_at l (r / 2) (by omega)
  obtain ⟨c0, c1⟩ := hc (r / 2) (by omega)
  rcases (show r = r / 2 * 2 ∨ r = r / 2 * 2 + 1 by omega) with e | e
  · rw [e, d0] at hu; rw [e, c0]; exact hu
  · rw [e, d1] at hu; rw [e, ← Nat.add_assoc, c1]; exact hu
theorem rc_it {l : List Nat} (h : Rc W 1 A n (itL l)) : RwK W 1 (ItAt W) A n l := by
  have hl := h.1
  rw [itL_len] at hl
  refine ⟨by omega, fun hn => ?_⟩
  obtain ⟨b, o, e, hb, hc⟩ := h.2 hn
  exact ⟨b, o, e, hb, fun j hj => by rw [Nat.mul_one]; exact hc j _ (itL_at l j hj)⟩
theorem rc_hp {l : List Hp} (h : Rc W 3 A n (hpL l)) : RwK W 3 (HpAt W) A n l := by
  have hl := h.1
  rw [hpL_len] at hl
  refine ⟨by omega, fun hn => ?_⟩
  obtain ⟨b, o, e, hb, hc⟩ := h.2 hn
  refine ⟨b, o, e, hb, fun j hj => ?_⟩
  obtain ⟨d0, d1, d2⟩ := hpL_at l j hj
  refine ⟨hc _ _ d0, ?_, ?_⟩
  · rw [Addr.add_lit, Nat.add_assoc]; exact hc _ _ d1
  · rw [Addr.add_lit, Nat.add_assoc]; exact hc _ _ d2
theorem rc_bx {l : List Bx} (h : Rc W 2 A n (bxL l)) (hr : ∀ b ∈ l, RdS W b.A b.n b.l) : RwK W 2 (BxAt W) A n l := by
  have hl := h.1
  rw [bxL_len] at hl
  refine ⟨by omega, fun hn => ?_⟩
  obtain ⟨b, o, e, hb, hc⟩ := h.2 hn
  refine ⟨b, o, e, hb, fun j hj => ?_⟩
  obtain ⟨d0, d1⟩ := bxL_at l j hj
  refine ⟨hc _ _ d0, ?_, hr _ (List.getElem_mem hj)⟩
  rw [Addr.add_lit, Nat.add_assoc]; exact hc _ _ d1
end
/-- Five cells written over. -/
def set5 (w : World) (E : Nat) (a b c d e : Value) : World := ((((w.setCell ⟨E, 0, none⟩ a).setCell ⟨E, 1, none⟩ b).setCell ⟨E, 2, none⟩ c).setCell ⟨E, 3, none⟩ d).setCell ⟨E, 4, none⟩ e
theorem set5_heap {w : World} {E : Nat} {a0 b0 c0 d0 e0 : Value} {T : TypeId} (h : w.heap[E]? = some (.cells #[a0, b0, c0, d0, e0] T (0, 0))) (a b c d e : Value) : (set5 w E a b c d e).heap[E]? = some (.cells #[a, b, c, d, e] T (0, 0)) := by
  unfold set5
  rw [heap_cells_set _ E 4 _ _ _ (heap_cells_set _ E 3 _ _ _ (heap_cells_set _ E 2 _ _ _ (heap_cells_set _ E 1 _ _ _ (heap_cells_set _ E 0 _ _ _ h))))]
  rfl
theorem set5_fr (w : World) (E : Nat) (a b c d e : Value) : Fr (fun i => i = E) w (set5 w E a b c d e) := by
  have q : ∀ (W : World) (k : Nat) (u : Value), Fr (fun i => i = E) W (W.setCell ⟨E, k, none⟩ u) := fun W k u => Fr.setCell W ⟨E, k, none⟩ u rfl
  have t : ∀ {A B C : World}, Fr (fun i => i = E) A B → Fr (fun i => i = E) B C → Fr (fun i => i = E) A C := fun h1 h2 => h1.trans h2 (fun _ _ e => e)
  exact t (t (t (t (q _ _ _) (q _ _ _)) (q _ _ _)) (q _ _ _)) (q _ _ _)
section
variable {w w' : World} {lo : Nat}
theorem own_not {e T : TypeId} {size n E : Nat} {v : Value} {cells : List Value} {cur : Array Value} (h : w.ownsRow lo e size v n cells) (hE : w.heap[E]? = some (.cells cur T (0, 0))) (hne : e ≠ T) : ¬ v.ownBlock = some E := fun hq => by
  obtain ⟨_, hc⟩ := own_type h hq
  rw [hE] at hc
  injection hc with hc
  injection hc with _ hc _
  exact hne hc.symm
theorem Fr.blk {F : Nat → Prop} (hf : Fr F w w') {b : Nat} {o : Obj} (h : w.heap[b]? = some o) (hF : ¬ F b) : w'.heap[b]? = some o := (hf.block b (Array.getElem?_eq_some_iff.1 h).1 hF).trans h
end
theorem cells5 {W : World} {D : Nat} {a b c d e : Value} {T : TypeId} (h : W.heap[D]? = some (.cells #[a, b, c, d, e] T (0, 0))) :
    W.cell? ⟨D, 0, none⟩ = some a ∧ W.cell? ⟨D, 1, none⟩ = some b ∧ W.cell? ⟨D, 2, none⟩ = some c ∧ W.cell? ⟨D, 3, none⟩ = some d ∧ W.cell? ⟨D, 4, none⟩ = some e :=
  ⟨(blk_cell h 0).trans (by simp), (blk_cell h 1).trans (by simp), (blk_cell h 2).trans (by simp), (blk_cell h 3).trans (by simp), (blk_cell h 4).trans (by simp)⟩
theorem free5 {W : World} {D : Nat} {cs : Array Value} {T : TypeId} (h : W.heap[D]? = some (.cells cs T (0, 0))) :
    W.frozen? ⟨D, 0, none⟩ = false ∧ W.frozen? ⟨D, 1, none⟩ = false ∧ W.frozen? ⟨D, 2, none⟩ = false ∧ W.frozen? ⟨D, 3, none⟩ = false ∧ W.frozen? ⟨D, 4, none⟩ = false :=
  ⟨blk_free h _, blk_free h _, blk_free h _, blk_free h _, blk_free h _⟩
/-- A chunk in memory of the call's own, from block lo on. -/
structure OwC (lo : Nat) (W : World) (C : Ch) : Prop where
  o1 : W.ownsRow lo 50 1 (.slice C.A1 C.n1 C.c1) C.n1 (itL C.cs)
  o2 : W.ownsRow lo 114 3 (.slice C.A2 C.n2 C.c2) C.n2 (hpL C.hs)
  o3 : W.ownsRow lo 97 2 (.slice C.A3 C.n3 C.c3) C.n3 (bxL C.bs)
  o4 : ∀ b ∈ C.bs, b.l.length = b.n ∧ OwS lo W (.slice b.A b.n b.c) b.l
section
variable {w w' : World} {lo : Nat} {C : Ch}
theorem OwC.rd (h : OwC lo w C) : RdC w C :=
  ⟨rc_it (own_rc h.o1), rc_hp (own_rc h.o2), rc_bx (own_rc h.o3) (fun b hb => (h.o4 b hb).2.rd)⟩
theorem OwC.no (h : OwC lo w C) (hf : Fr No w w') : OwC lo w' C :=
  ⟨own_no h.o1 hf, own_no h.o2 hf, own_no h.o3 hf, fun b hb => ⟨(h.o4 b hb).1, (h.o4 b hb).2.no hf⟩⟩
theorem OwC.low {lo' : Nat} (h : OwC lo w C) (hl : lo' ≤ lo) : OwC lo' w C :=
  ⟨own_low h.o1 hl, own_low h.o2 hl, own_low h.o3 hl, fun b hb => ⟨(h.o4 b hb).1, own_low (h.o4 b hb).2 hl⟩⟩
end
end Go.Proofs.YtjdhbgdpmojobaaDoor

/-
  The net and the document's net beside each other. No statement of the seat is proved here.
-/
import Derived.Test.YtndanonhkjgmhaaNxF
import Derived.Test.YtndanonhkjgmhaaNxG
import Derived.Test.YtndanonhkjgmhaaNtV
namespace Go.Proofs.Ytndanonhkjgmhaa
open Go.RowKit

/-- The row that the document's heap is. -/
def rowOf (H : List St) : List Gm := (H.map fun s => s.g.gm).reverse
theorem rowOf_len (H : List St) : (rowOf H).length = H.length := by unfold rowOf; rw [List.length_reverse, List.length_map]
theorem rowOf_cons (s : St) (H : List St) : rowOf (s :: H) = rowOf H ++ [s.g.gm] := by unfold rowOf; rw [List.map_cons, List.reverse_cons]
theorem rowOf_at {H : List St} {n i : Nat} {p : Int} (hl : H.length = n) (hi : fpos n p = (i : Int)) {x : St} (hx : H[i]? = some x) : look (rowOf H) p = some x.g.gm := by
  have hil : i < H.length := (List.getElem?_eq_some_iff.1 hx).1
  unfold fpos at hi
  by_cases h : 0 ≤ p ∧ p < (n : Int)
  · rw [if_pos h] at hi
    obtain ⟨q, rfl⟩ : ∃ q : Nat, p = (q : Int) := ⟨p.toNat, by omega⟩
    rw [look_nat]
    unfold rowOf
    rw [List.getElem?_reverse (by rw [List.length_map]; omega), List.length_map, List.getElem?_map, show H.length - 1 - q = i by omega, hx]
    rfl
  · rw [if_neg h] at hi
    omega
theorem rowOf_no {H : List St} {n : Nat} {p : Int} (hl : H.length = n) (hi : fpos n p = -1) : look (rowOf H) p = none := by
  refine look_out _ _ ?_
  rw [rowOf_len, hl]
  unfold fpos at hi
  by_cases h : 0 ≤ p ∧ p < (n : Int)
  · rw [if_pos h] at hi; omega
  · omega
theorem fpos_ways (H : List St) {n : Nat} (hl : H.length = n) (p : Int) : fpos n p = -1 ∨ ∃ (i : Nat) (x : St), fpos n p = (i : Int) ∧ H[i]? = some x := by
  by_cases h : 0 ≤ p ∧ p < (n : Int)
  · obtain ⟨q, rfl⟩ : ∃ q : Nat, p = (q : Int) := ⟨p.toNat, by omega⟩
    refine .inr ⟨n - 1 - q, _, fpos_yes (by omega), List.getElem?_eq_getElem (by omega)⟩
  · exact .inl (fpos_no h)
theorem rowOf_drop {H : List St} {n i : Nat} {p : Int} (hl : H.length = n) (hi : fpos n p = (i : Int)) {x : St} (hx : H[i]? = some x) : dropI (rowOf H) p = rowOf (H.eraseIdx i) := by
  have hil : i < H.length := (List.getElem?_eq_some_iff.1 hx).1
  unfold fpos at hi
  by_cases h : 0 ≤ p ∧ p < (n : Int)
  · rw [if_pos h] at hi
    obtain ⟨q, rfl⟩ : ∃ q : Nat, p = (q : Int) := ⟨p.toNat, by omega⟩
    rw [dropI_nat]
    unfold rowOf
    rw [List.eraseIdx_eq_take_drop_succ, List.eraseIdx_eq_take_drop_succ, List.map_append, List.reverse_append, List.take_reverse, List.drop_reverse, List.length_map, List.map_drop, List.map_take]
    rw [show H.length - q = i + 1 by omega, show H.length - (q + 1) = i by omega]
  · rw [if_neg h] at hi
    omega
theorem rowOf_keep (H : List St) (x : Int) : keepN (rowOf H) x = rowOf (H.filter fun s => !(s.g.to == x)) := by
  unfold keepN rowOf
  rw [List.filter_reverse, List.filter_map]
  rfl

/-- Blocks that the document's heap reads. -/
def Hin (S : Nat → Prop) (A : Option Addr) (H : List St) : Prop := (0 < H.length → ∀ a, A = some a → S a.block) ∧ ∀ x ∈ H, 0 < x.g.n → ∀ a, x.g.A = some a → S a.block
theorem rowS_keep2 {F : Nat → Prop} {w w' : World} {A : Option Addr} {n : Nat} {L : List St} {S : Nat → Prop} (hf : Fr F w w') (h : RowOf w 4 (StAt w) A n L) (hi : Hin S A L) (hS : ∀ k, S k → ¬ F k) : RowOf w' 4 (StAt w') A n L := by
  refine ⟨h.1, fun hn => ?_⟩
  obtain ⟨b, o, e, hb, hc⟩ := h.2 hn
  exact ⟨b, o, e, Nat.lt_of_lt_of_le hb hf.size, fun j hj => stAt_keep hf (hc j hj) hb (show ¬ F b from hS _ (hi.1 (by have := h.1; omega) _ e))
    ⟨(rowS_data h _ (List.getElem_mem hj)).1, rd_keep hf (rowS_data h _ (List.getElem_mem hj)).2 (fun h0 a ha => hS _ (hi.2 _ (List.getElem_mem hj) h0 a ha))⟩⟩

/-- The net and the document's heap; the variable that holds this one; blocks of S that are read alone, of them S0 the heap's. -/
def Tl (wk : World) (f : Nat → Prop) (P WB : Nat) (N : Int) (S S0 : Nat → Prop) (l : List Gm) (E : Nat) (A : Option Addr) (n c : Nat) (H : List St) (W : World) : Prop :=
  ∃ x, Ntw W P N x l ∧ (∀ k, foot P x k → ¬ S k ∧ k ≠ WB) ∧ (∀ k, S0 k → S k) ∧ (∀ k, S k → k < W.heap.size ∧ k ≠ WB) ∧
    W.heap[WB]? = some (.cells #[.int .i64 N, .int .i64 (E : Int), .slice A n c] 42 (0, 0)) ∧ RowOf W 4 (StAt W) A n H ∧ Hin S0 A H ∧ Fr f wk W ∧ ∀ k, foot P x k ∨ k = WB → f k ∨ wk.heap.size ≤ k
section
variable {wk w w' : World} {f S S0 : Nat → Prop} {P WB : Nat} {N : Int} {l l' : List Gm} {E n c : Nat} {A : Option Addr} {H : List St}
theorem Tl.row (o : Tl wk f P WB N S S0 l E A n c H w) : RowOf w 4 (StAt w) A n H := by
  obtain ⟨x, h1, h2, h3, h4, h5, h6, _⟩ := o
  exact h6
theorem Tl.fr (o : Tl wk f P WB N S S0 l E A n c H w) : Fr f wk w := by
  obtain ⟨x, h1, h2, h3, h4, h5, h6, h7, h8, h9⟩ := o
  exact h8
theorem Tl.var (o : Tl wk f P WB N S S0 l E A n c H w) : w.heap[WB]? = some (.cells #[.int .i64 N, .int .i64 (E : Int), .slice A n c] 42 (0, 0)) := by
  obtain ⟨x, h1, h2, h3, h4, h5, _⟩ := o
  exact h5
theorem Tl.no (o : Tl wk f P WB N S S0 l E A n c H w) (hf : Fr No w w') : Tl wk f P WB N S S0 l E A n c H w' := by
  obtain ⟨x, h1, h2, h3, h4, h5, h6, h7, h8, h9⟩ := o
  exact ⟨x, h1.no hf, h2, h3, fun k hk => ⟨Nat.lt_of_lt_of_le (h4 k hk).1 hf.size, (h4 k hk).2⟩, blk_no hf h5, rowS_no h6 hf, h7, h8.then_no hf, h9⟩
theorem Tl.ag_no (o : Tl wk f P WB N S S0 l E A n c H w) (hf : Fr No w w') : Ag S w w' := by
  obtain ⟨x, h1, h2, h3, h4, _⟩ := o
  exact ⟨hf.size, fun k hk => hf.block k (h4 k hk).1 (fun e => e)⟩
/-- What has come is read alone from now on. -/
theorem Tl.lend (o : Tl wk f P WB N S S0 l E A n c H w) (hf : Fr No w w') : Tl wk f P WB N (fun k => S k ∨ (w.heap.size ≤ k ∧ k < w'.heap.size)) S0 l E A n c H w' := by
  obtain ⟨x, h1, h2, h3, h4, h5, h6, h7, h8, h9⟩ := o
  have q5 := (Array.getElem?_eq_some_iff.1 h5).1
  refine ⟨x, h1.no hf, fun k hk => ⟨fun hs => ?_, (h2 k hk).2⟩, fun k hk => .inl (h3 k hk), fun k hk => ?_, blk_no hf h5, rowS_no h6 hf, h7, h8.then_no hf, h9⟩
  · rcases hs with hs | hs
    · exact (h2 k hk).1 hs
    · have := h1.lt hk
      omega
  · rcases hk with hk | hk
    · exact ⟨Nat.lt_of_lt_of_le (h4 k hk).1 hf.size, (h4 k hk).2⟩
    · exact ⟨hk.2, by omega⟩
theorem Tl.step {x x' : Value} (h2 : ∀ k, foot P x k → ¬ S k ∧ k ≠ WB) (h3 : ∀ k, S0 k → S k) (h4 : ∀ k, S k → k < w.heap.size ∧ k ≠ WB)
    (h5 : w.heap[WB]? = some (.cells #[.int .i64 N, .int .i64 (E : Int), .slice A n c] 42 (0, 0))) (h6 : RowOf w 4 (StAt w) A n H) (h7 : Hin S0 A H) (h8 : Fr f wk w) (h9 : ∀ k, foot P x k ∨ k = WB → f k ∨ wk.heap.size ≤ k)
    (hn : Ntw w' P N x' l') (hx : Nx P x w w' x') : Tl wk f P WB N S S0 l' E A n c H w' ∧ Ag S w w' := by
  have hWB := (Array.getElem?_eq_some_iff.1 h5).1
  have hS : ∀ k, S k → w'.heap[k]? = w.heap[k]? := fun k hk => hx.1.block k (h4 k hk).1 (fun e => (h2 k e).1 hk)
  have hft : ∀ k, foot P x' k → foot P x k ∨ w.heap.size ≤ k := fun k hk => by
    rcases hk with e | e
    · exact .inl (.inl e)
    · rcases hx.2 with q | q
      · exact .inl (.inr (q ▸ e))
      · exact .inr (q k e)
  refine ⟨⟨x', hn, fun k hk => ?_, h3, fun k hk => ⟨Nat.lt_of_lt_of_le (h4 k hk).1 hx.1.size, (h4 k hk).2⟩, (hx.1.block WB hWB (fun e => (h2 _ e).2 rfl)).trans h5, rowS_keep2 hx.1 h6 h7 (fun k hk e => (h2 k e).1 (h3 k hk)), h7, h8.trans hx.1 (fun i hi hk => ?_), fun k hk => ?_⟩, hx.1.size, hS⟩
  · rcases hft k hk with e | e
    · exact h2 k e
    · exact ⟨fun hs => by have := (h4 k hs).1; omega, by omega⟩
  · rcases h9 i (.inl hk) with e | e
    · exact e
    · omega
  · rcases hk with hk | hk
    · rcases hft k hk with e | e
      · exact h9 k (.inl e)
      · have := h8.size
        exact .inr (by omega)
    · exact h9 k (.inr hk)
/-- A variable of the law's own, written. -/
theorem Tl.set (o : Tl wk f P WB N S S0 l E A n c H w) {G : Nat} (hf : Fr (fun k => k = G) w w') (hG : S G) (hG0 : ¬ S0 G) (hGw : wk.heap.size ≤ G) : Tl wk f P WB N S S0 l E A n c H w' := by
  obtain ⟨x, h1, h2, h3, h4, h5, h6, h7, h8, h9⟩ := o
  exact ⟨x, h1.keep hf (fun k hk e => (h2 k hk).1 (e ▸ hG)), h2, h3, fun k hk => ⟨Nat.lt_of_lt_of_le (h4 k hk).1 hf.size, (h4 k hk).2⟩, fr_blk hf (fun e => (h4 G hG).2 e.symm) h5, rowS_keep2 hf h6 h7 (fun k hk e => hG0 (e ▸ hk)), h7, h8.then_new hf (fun i e => by omega), h9⟩
/-- The document's net, put into its variable. -/
theorem Tl.put (o : Tl wk f P WB N S S0 l E A n c H w) (hf : Fr No w w') {E' n' c' : Nat} {A' : Option Addr} {H' : List St} (hr : RowOf w' 4 (StAt w') A' n' H') (hi : Hin (fun k => S0 k ∨ (w.heap.size ≤ k ∧ k < w'.heap.size)) A' H') :
    Tl wk f P WB N (fun k => S k ∨ (w.heap.size ≤ k ∧ k < w'.heap.size)) (fun k => S0 k ∨ (w.heap.size ≤ k ∧ k < w'.heap.size)) l E' A' n' c' H' (((w'.setCell ⟨WB, 0, none⟩ (.int .i64 N)).setCell ⟨WB, 1, none⟩ (.int .i64 (E' : Int))).setCell ⟨WB, 2, none⟩ (.slice A' n' c')) := by
  obtain ⟨x, h1, h2, h3, h4, h5, h6, h7, h8, h9⟩ := o.lend hf
  have hs := set3_fr w' WB (.int .i64 N) (.int .i64 (E' : Int)) (.slice A' n' c')
  have hb : ∀ k, S0 k ∨ (w.heap.size ≤ k ∧ k < w'.heap.size) → S k ∨ (w.heap.size ≤ k ∧ k < w'.heap.size) := fun k hk => by
    rcases hk with hk | hk
    · exact h3 k hk
    · exact .inr hk
  refine ⟨x, h1.keep hs (fun k hk e => (h2 k hk).2 e), h2, hb, fun k hk => ⟨Nat.lt_of_lt_of_le (h4 k hk).1 hs.size, (h4 k hk).2⟩, set3_blk h5 _ _ _, rowS_keep2 hs hr hi (fun k hk e => (h4 k (hb k hk)).2 e), hi, h8.trans hs (fun i hi e => ?_), h9⟩
  rcases h9 WB (.inr rfl) with q | q
  · exact e ▸ q
  · omega
/-- The same net put back. -/
theorem Tl.back (o : Tl wk f P WB N S S0 l E A n c H w) (hf : Fr No w w') :
    Tl wk f P WB N S S0 l E A n c H (((w'.setCell ⟨WB, 0, none⟩ (.int .i64 N)).setCell ⟨WB, 1, none⟩ (.int .i64 (E : Int))).setCell ⟨WB, 2, none⟩ (.slice A n c)) := by
  obtain ⟨x, h1, h2, h3, h4, h5, h6, h7, h8, h9⟩ := o.no hf
  have hs := set3_fr w' WB (.int .i64 N) (.int .i64 (E : Int)) (.slice A n c)
  refine ⟨x, h1.keep hs (fun k hk e => (h2 k hk).2 e), h2, h3, fun k hk => ⟨Nat.lt_of_lt_of_le (h4 k hk).1 hs.size, (h4 k hk).2⟩, set3_blk h5 _ _ _, rowS_keep2 hs h6 h7 (fun k hk e => (h4 k (h3 k hk)).2 e), h7, h8.trans hs (fun i hi e => ?_), h9⟩
  rcases h9 WB (.inr rfl) with q | q
  · exact e ▸ q
  · omega
/-- All that was lent is the heap's from now on. -/
theorem Tl.all (o : Tl wk f P WB N S S0 l E A n c H w) : Tl wk f P WB N S S l E A n c H w := by
  obtain ⟨x, h1, h2, h3, h4, h5, h6, h7, h8, h9⟩ := o
  exact ⟨x, h1, h2, fun k hk => hk, h4, h5, h6, ⟨fun h0 a ha => h3 _ (h7.1 h0 a ha), fun x hx h0 a ha => h3 _ (h7.2 x hx h0 a ha)⟩, h8, h9⟩
theorem Tl.hin (o : Tl wk f P WB N S S0 l E A n c H w) : Hin S0 A H := by
  obtain ⟨x, h1, h2, h3, h4, h5, h6, h7, _⟩ := o
  exact h7
theorem Tl.old (o : Tl wk f P WB N S S0 l E A n c H w) {k : Nat} (hk : S k) : k < w.heap.size ∧ k ≠ WB := by
  obtain ⟨x, h1, h2, h3, h4, _⟩ := o
  exact h4 k hk
set_option maxRecDepth 100000 in
theorem tl_send (o : Tl wk f P WB N S S0 l E A n c H w) (hl : l.length < 4096) (fr tt : Int) (hx : isN N fr = true) (hy : isN N tt = true) (B : Option Addr) (m cb : Nat) (hm : m ≤ 1048576) (bs : List UInt8) (hr : Rd w w.heap.size B m bs) :
    Calls Try.prog 12 #[.pointer (some ⟨P, 0, none⟩), .int .i64 fr, .int .i64 tt, .slice B m cb] w fun e w' => e = .returned (.int .i64 0) ∧ Tl wk f P WB N S S0 (l ++ [⟨fr, tt, ⟨bs.toArray⟩⟩]) E A n c H w' ∧ Ag S w w' := by
  obtain ⟨x, h1, h2, h3, h4, h5, h6, h7, h8, h9⟩ := o
  refine (send_ok h1 hl fr tt hx hy B m cb hm bs hr).mono ?_
  rintro e w' ⟨rfl, v', hn', hx'⟩
  exact ⟨rfl, Tl.step h2 h3 h4 h5 h6 h7 h8 h9 hn' hx'⟩
set_option maxRecDepth 100000 in
theorem tl_send_arg (o : Tl wk f P WB N S S0 l E A n c H w) (fr tt : Int) (hb : (isN N fr && isN N tt) = false) (B : Option Addr) (m cb : Nat) :
    Calls Try.prog 12 #[.pointer (some ⟨P, 0, none⟩), .int .i64 fr, .int .i64 tt, .slice B m cb] w fun e w' => e = .returned (.int .i64 2) ∧ w = w' := by
  obtain ⟨x, h1, _⟩ := o
  exact send_arg h1 fr tt hb B m cb
set_option maxRecDepth 100000 in
theorem tl_copy (o : Tl wk f P WB N S S0 l E A n c H w) (hl : l.length < 4096) {i : Int} {g : Gm} (hg : look l i = some g) :
    Calls Try.prog 15 #[.pointer (some ⟨P, 0, none⟩), .int .i64 i] w fun e w' => e = .returned (.int .i64 0) ∧ Tl wk f P WB N S S0 (l ++ [g]) E A n c H w' ∧ Ag S w w' := by
  obtain ⟨x, h1, h2, h3, h4, h5, h6, h7, h8, h9⟩ := o
  refine (copy_ok h1 hl hg).mono ?_
  rintro e w' ⟨rfl, v', hn', hx'⟩
  exact ⟨rfl, Tl.step h2 h3 h4 h5 h6 h7 h8 h9 hn' hx'⟩
set_option maxRecDepth 100000 in
theorem tl_copy_no (o : Tl wk f P WB N S S0 l E A n c H w) {i : Int} (hg : look l i = none) :
    Calls Try.prog 15 #[.pointer (some ⟨P, 0, none⟩), .int .i64 i] w fun e w' => e = .returned (.int .i64 2) ∧ Fr No w w' := by
  obtain ⟨x, h1, _⟩ := o
  exact copy_none h1 hg
set_option maxRecDepth 100000 in
theorem tl_take (o : Tl wk f P WB N S S0 l E A n c H w) {i : Int} {x : St} (hg : look l i = some x.g.gm) (hd : x.g.l.length = x.g.n) :
    Calls Try.prog 13 #[.pointer (some ⟨P, 0, none⟩), .int .i64 i] w fun e w' => ∃ A' c', e = .returned (.tuple #[.agg #[.int .i64 x.g.fr, .int .i64 x.g.to, .slice A' x.g.n c'], .bool true]) ∧ Bx w.heap.size w' A' x.g.n x.g.l ∧ Tl wk f P WB N S S0 (dropI l i) E A n c H w' ∧ Ag S w w' := by
  obtain ⟨y, h1, h2, h3, h4, h5, h6, h7, h8, h9⟩ := o
  have e1 : x.g.gm.ds.size = x.g.n := hd
  have e2 : x.g.gm.ds.data.toList = x.g.l := rfl
  have := take_yes h1 hg
  rw [e1, e2] at this
  refine this.mono ?_
  rintro e w' ⟨A', c', rfl, hc, hb, v', hn', hx', _⟩
  exact ⟨A', c', rfl, hb, Tl.step h2 h3 h4 h5 h6 h7 h8 h9 hn' hx'⟩
set_option maxRecDepth 100000 in
theorem tl_take_no (o : Tl wk f P WB N S S0 l E A n c H w) {i : Int} (hg : look l i = none) :
    Calls Try.prog 13 #[.pointer (some ⟨P, 0, none⟩), .int .i64 i] w fun e w' => e = .returned (.tuple #[.agg #[.int .i64 0, .int .i64 0, .slice none 0 0], .bool false]) ∧ Fr No w w' := by
  obtain ⟨y, h1, _⟩ := o
  exact take_no h1 hg
set_option maxRecDepth 100000 in
theorem tl_look (o : Tl wk f P WB N S S0 l E A n c H w) {i : Int} {x : St} (hg : look l i = some x.g.gm) (hd : x.g.l.length = x.g.n) :
    Calls Try.prog 25 #[.pointer (some ⟨P, 0, none⟩), .int .i64 i] w fun e w' => ∃ A' c', e = .returned (.tuple #[.agg #[.int .i64 x.g.fr, .int .i64 x.g.to, .slice A' x.g.n c'], .bool true]) ∧ Bx w.heap.size w' A' x.g.n x.g.l ∧ Fr No w w' := by
  obtain ⟨y, h1, _⟩ := o
  have e1 : x.g.gm.ds.size = x.g.n := hd
  have e2 : x.g.gm.ds.data.toList = x.g.l := rfl
  have := look_yes h1 hg
  rw [e1, e2] at this
  refine this.mono ?_
  rintro e w' ⟨A', c', rfl, hc, hb, hf⟩
  exact ⟨A', c', rfl, hb, hf⟩
set_option maxRecDepth 100000 in
theorem tl_look_no (o : Tl wk f P WB N S S0 l E A n c H w) {i : Int} (hg : look l i = none) :
    Calls Try.prog 25 #[.pointer (some ⟨P, 0, none⟩), .int .i64 i] w fun e w' => e = .returned (.tuple #[.agg #[.int .i64 0, .int .i64 0, .slice none 0 0], .bool false]) ∧ Fr No w w' := by
  obtain ⟨y, h1, _⟩ := o
  exact look_no h1 hg
set_option maxRecDepth 100000 in
theorem tl_drop (o : Tl wk f P WB N S S0 l E A n c H w) (i : Int) {ok : Bool} (hg : (look l i).isSome = ok) :
    Calls Try.prog 14 #[.pointer (some ⟨P, 0, none⟩), .int .i64 i] w fun e w' => e = .returned (.bool ok) ∧ Tl wk f P WB N S S0 (dropI l i) E A n c H w' ∧ Ag S w w' := by
  obtain ⟨x, h1, h2, h3, h4, h5, h6, h7, h8, h9⟩ := o
  subst hg
  refine (drop_any h1 i).mono ?_
  rintro e w' ⟨rfl, v', hn', hx', _⟩
  exact ⟨rfl, Tl.step h2 h3 h4 h5 h6 h7 h8 h9 hn' hx'⟩
set_option maxRecDepth 100000 in
theorem tl_forget (o : Tl wk f P WB N S S0 l E A n c H w) (x : Int) {q : Nat} (hq : l.length - (keepN l x).length = q) :
    Calls Try.prog 18 #[.pointer (some ⟨P, 0, none⟩), .int .i64 x] w fun e w' => e = .returned (.int .i64 (q : Int)) ∧ Tl wk f P WB N S S0 (keepN l x) E A n c H w' ∧ Ag S w w' := by
  obtain ⟨y, h1, h2, h3, h4, h5, h6, h7, h8, h9⟩ := o
  subst hq
  refine (forget_any h1 x).mono ?_
  rintro e w' ⟨rfl, v', hn', hx'⟩
  exact ⟨rfl, Tl.step h2 h3 h4 h5 h6 h7 h8 h9 hn' hx'⟩
set_option maxRecDepth 100000 in
theorem tl_flying (o : Tl wk f P WB N S S0 l E A n c H w) {m : Nat} (hm : l.length = m) :
    Calls Try.prog 16 #[.pointer (some ⟨P, 0, none⟩)] w fun e w' => e = .returned (.int .i64 (m : Int)) ∧ w = w' := by
  obtain ⟨x, h1, _⟩ := o
  subst hm
  exact flying_any h1
end

/-! ### what the document's calls leave, lent -/
theorem hin_joined {S0 : Nat → Prop} {lo hi : Nat} {A A' B' : Option Addr} {H : List St} {s : St} (h : Hin S0 A H) (hA : ∀ a, A' = some a → lo ≤ a.block ∧ a.block < hi) (hs : s.g.A = B') (hB : ∀ a, B' = some a → lo ≤ a.block ∧ a.block < hi) : Hin (fun k => S0 k ∨ (lo ≤ k ∧ k < hi)) A' (s :: H) := by
  refine ⟨fun _ a ha => .inr (hA a ha), fun x hx h0 a ha => ?_⟩
  rcases List.mem_cons.1 hx with rfl | hx
  · exact .inr (hB a (hs ▸ ha))
  · exact .inl (h.2 x hx h0 a ha)
theorem hin_sub {S0 : Nat → Prop} {lo hi : Nat} {A A' : Option Addr} {H H' : List St} (h : Hin S0 A H) (hA : ∀ a, A' = some a → lo ≤ a.block ∧ a.block < hi) (hH : ∀ x ∈ H', x ∈ H) : Hin (fun k => S0 k ∨ (lo ≤ k ∧ k < hi)) A' H' :=
  ⟨fun _ a ha => .inr (hA a ha), fun x hx h0 a ha => .inl (h.2 x (hH x hx) h0 a ha)⟩
/-- What is known of the document's heap beside its memory. -/
def Wf (H : List St) (E n c i : Nat) : Prop := Dsc H ∧ (∀ x ∈ H, x.t ≤ E) ∧ n ≤ c ∧ E ≤ i ∧ n ≤ i ∧ H.length = n
theorem Wf.join {H : List St} {E n c i c' : Nat} (h : Wf H E n c i) (g : Gr) (hc : n + 1 ≤ c') : Wf (⟨E + 1, g⟩ :: H) (E + 1) (n + 1) c' (i + 1) := by
  obtain ⟨h1, h2, h3, h4, h5, h6⟩ := h
  refine ⟨List.pairwise_cons.2 ⟨fun x hx => Nat.lt_succ_of_le (h2 x hx), h1⟩, fun x hx => ?_, hc, by omega, by omega, by rw [List.length_cons, h6]⟩
  rcases List.mem_cons.1 hx with rfl | hx
  · exact Nat.le_refl _
  · exact Nat.le_succ_of_le (h2 x hx)
theorem Wf.sub {H H' : List St} {E n c i n' c' : Nat} (h : Wf H E n c i) (hs : H'.Sublist H) (hl : H'.length = n') (hc : n' ≤ c') : Wf H' E n' c' (i + 1) := by
  obtain ⟨h1, h2, h3, h4, h5, h6⟩ := h
  have := hs.length_le
  exact ⟨h1.sublist hs, fun x hx => h2 x (hs.subset hx), hc, by omega, by omega, hl⟩
theorem Wf.up {H : List St} {E n c i : Nat} (h : Wf H E n c i) : Wf H E n c (i + 1) := by
  obtain ⟨h1, h2, h3, h4, h5, h6⟩ := h
  exact ⟨h1, h2, h3, by omega, by omega, h6⟩
end Go.Proofs.Ytndanonhkjgmhaa

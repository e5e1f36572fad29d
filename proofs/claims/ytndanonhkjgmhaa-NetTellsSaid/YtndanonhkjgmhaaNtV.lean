/-
  What NetOrder keeps: which numbers are in the row, and what was sent; the net beside these. No statement of the seat is proved here.
-/
import Derived.Test.YtndanonhkjgmhaaNtR
namespace Go.Proofs.Ytndanonhkjgmhaa
open Go.RowKit

/-! ### numbers in order -/
def ord (h : Nat → Bool) : List Nat := (List.range 90).filter h
def upd (h : Nat → Bool) (k : Nat) (b : Bool) : Nat → Bool := fun j => if j = k then b else h j
theorem ord_lt {h : Nat → Bool} {k : Nat} (hk : k ∈ ord h) : k < 90 ∧ h k = true := by
  unfold ord at hk
  rw [List.mem_filter, List.mem_range] at hk
  exact hk
theorem ord_mem {h : Nat → Bool} {k : Nat} (h1 : k < 90) (h2 : h k = true) : k ∈ ord h := by
  unfold ord
  rw [List.mem_filter, List.mem_range]
  exact ⟨h1, h2⟩
theorem ord_len (h : Nat → Bool) : (ord h).length ≤ 90 := by
  have := List.length_filter_le h (List.range 90)
  rw [List.length_range] at this
  exact this
theorem ord_new (h : Nat → Bool) (i : Nat) (hi : i < 90) (hh : ∀ k, h k = true → k < i) : ord (upd h i true) = ord h ++ [i] := by
  have key : ∀ m, (List.range m).filter (upd h i true) = (List.range m).filter h ++ (if i < m then [i] else []) := by
    intro m
    induction m with
    | zero => simp
    | succ m ih =>
      rw [List.range_succ, List.filter_append, List.filter_append, ih, List.append_assoc, List.append_assoc]
      congr 1
      by_cases e : m = i
      · subst e
        have h0 : h m = false := by
          cases e : h m with
          | false => rfl
          | true => have := hh m e; omega
        simp [upd, h0]
      · have e1 : upd h i true m = h m := by unfold upd; rw [if_neg e]
        by_cases hlt : i < m
        · rw [if_pos hlt, if_pos (by omega)]
          have h0 : h m = false := by
            cases e : h m with
            | false => rfl
            | true => have := hh m e; omega
          simp [e1, h0]
        · rw [if_neg hlt, if_neg (by omega)]
          simp [e1, List.filter_cons]
  unfold ord
  rw [key 90, if_pos hi]
theorem ord_at (h : Nat → Bool) (k : Nat) (hk : k < 90) (hh : h k = true) : (ord h)[((List.range k).filter h).length]? = some k := by
  have key : ∀ m, k < m → ((List.range m).filter h)[((List.range k).filter h).length]? = some k := by
    intro m
    induction m with
    | zero => intro e; omega
    | succ m ih =>
      intro e
      rw [List.range_succ, List.filter_append]
      by_cases e1 : k = m
      · subst e1
        rw [List.getElem?_append_right (Nat.le_refl _), Nat.sub_self]
        simp [hh]
      · have := ih (by omega)
        rw [List.getElem?_append_left (List.getElem?_eq_some_iff.1 this).1]
        exact this
  exact key 90 hk
theorem erase_ne (L : List Nat) (hp : L.Pairwise (· < ·)) : ∀ (a k : Nat), L[a]? = some k → L.eraseIdx a = L.filter (fun j => !(j == k)) := by
  induction L with
  | nil => intro a k h; cases h
  | cons x L ih =>
    intro a k h
    rw [List.pairwise_cons] at hp
    cases a with
    | zero =>
      have e : x = k := by simpa using h
      subst e
      rw [List.eraseIdx_cons_zero, List.filter_cons]
      have : L.filter (fun j => !(j == x)) = L := by
        rw [List.filter_eq_self]
        intro j hj
        have := hp.1 j hj
        have : (j == x) = false := by rw [beq_eq_false_iff_ne]; omega
        rw [this]; rfl
      simp [this]
    | succ a =>
      have h' : L[a]? = some k := by simpa using h
      have hk : k ∈ L := List.mem_of_getElem? h'
      have := hp.1 k hk
      have e : (x == k) = false := by rw [beq_eq_false_iff_ne]; omega
      rw [List.eraseIdx_cons_succ, List.filter_cons, e, ih hp.2 a k h']
      rfl
theorem ord_sorted (h : Nat → Bool) : (ord h).Pairwise (· < ·) := List.Pairwise.filter _ List.pairwise_lt_range
theorem ord_gone (h : Nat → Bool) (a k : Nat) (hk : (ord h)[a]? = some k) : ord (upd h k false) = (ord h).eraseIdx a := by
  rw [erase_ne _ (ord_sorted h) a k hk]
  unfold ord
  rw [List.filter_filter]
  congr 1
  funext j
  unfold upd
  by_cases e : j = k
  · subst e
    simp
  · have : (j == k) = false := by rw [beq_eq_false_iff_ne]; exact e
    rw [if_neg e, this]
    simp

/-! ### what was sent -/
/-- From whom, to whom, and the block of its byte. -/
abbrev Sg := Nat → Int × Int × Nat
def gmOf (sg : Sg) (k : Nat) : Gm := ⟨(sg k).1, (sg k).2.1, ⟨#[UInt8.ofNat k]⟩⟩
def updS (sg : Sg) (k : Nat) (v : Int × Int × Nat) : Sg := fun j => if j = k then v else sg j
theorem gms_upd (sg : Sg) (h : Nat → Bool) (i : Nat) (v : Int × Int × Nat) (hi : h i = false) : (ord h).map (gmOf (updS sg i v)) = (ord h).map (gmOf sg) := by
  apply List.map_congr_left
  intro k hk
  have : k ≠ i := by
    rintro rfl
    have := (ord_lt hk).2
    rw [hi] at this
    cases this
  unfold gmOf updS
  rw [if_neg this]
theorem gms_new (sg : Sg) (h : Nat → Bool) (i : Nat) (v : Int × Int × Nat) (hi : i < 90) (hh : ∀ k, h k = true → k < i) :
    (ord (upd h i true)).map (gmOf (updS sg i v)) = (ord h).map (gmOf sg) ++ [⟨v.1, v.2.1, ⟨#[UInt8.ofNat i]⟩⟩] := by
  have h0 : h i = false := by
    cases e : h i with
    | false => rfl
    | true => have := hh i e; omega
  rw [ord_new h i hi hh, List.map_append, gms_upd sg h i v h0]
  congr 1
  simp [gmOf, updS]
theorem gms_gone (sg : Sg) (h : Nat → Bool) (a k : Nat) (hk : (ord h)[a]? = some k) : dropI ((ord h).map (gmOf sg)) (a : Int) = (ord (upd h k false)).map (gmOf sg) := by
  rw [dropI_nat, ord_gone h a k hk, List.eraseIdx_eq_take_drop_succ, List.eraseIdx_eq_take_drop_succ, List.map_append, List.map_take, List.map_drop]
theorem gms_look (sg : Sg) (h : Nat → Bool) (a : Nat) (ha : a < (ord h).length) : ∃ k, (ord h)[a]? = some k ∧ k < 90 ∧ h k = true ∧ look ((ord h).map (gmOf sg)) (a : Int) = some (gmOf sg k) := by
  have e := List.getElem?_eq_getElem ha
  have hk := ord_lt (List.mem_of_getElem? e)
  exact ⟨_, e, hk.1, hk.2, by rw [look_nat, List.getElem?_map, e]; rfl⟩

/-! ### in a world -/
/-- The net, which numbers are in its row, what was sent; blocks of S are read alone. -/
def Or (wk : World) (f : Nat → Prop) (P HB SB : Nat) (S : Nat → Prop) (l : List Gm) (h t : Nat → Bool) (sg : Sg) (W : World) : Prop :=
  ∃ x, Ntw W P 4 x l ∧ (∀ k, foot P x k → ¬ S k ∧ k ≠ HB ∧ k ≠ SB) ∧ (∀ k, S k → k < W.heap.size ∧ k ≠ HB ∧ k ≠ SB) ∧ HB ≠ SB ∧
    (∃ ha, W.heap[HB]? = some (.cells ha 60 (0, 0)) ∧ ∀ k, k < 90 → ha[k]? = some (.bool (h k))) ∧
    (∃ sa, W.heap[SB]? = some (.cells sa 61 (0, 0)) ∧ sa.size = 270 ∧ ∀ k, k < 90 → t k = true → sa[k * 3]? = some (.int .i64 (sg k).1) ∧ sa[k * 3 + 1]? = some (.int .i64 (sg k).2.1) ∧ sa[k * 3 + 2]? = some (.slice (some ⟨(sg k).2.2, 0, none⟩) 1 1)) ∧
    (∀ k, k < 90 → t k = true → S (sg k).2.2 ∧ W.cell? ⟨(sg k).2.2, 0, none⟩ = some (.int .u8 (k : Int))) ∧
    Fr f wk W ∧ ∀ k, foot P x k ∨ k = HB ∨ k = SB → f k ∨ wk.heap.size ≤ k
section
variable {wk w w' : World} {f S : Nat → Prop} {P HB SB : Nat} {l l' : List Gm} {h t : Nat → Bool} {sg : Sg}
theorem Or.fr (o : Or wk f P HB SB S l h t sg w) : Fr f wk w := by
  obtain ⟨x, h1, h2, h3, h4, h5, h6, h7, h8, h9⟩ := o
  exact h8
theorem Or.few (o : Or wk f P HB SB S l h t sg w) : l.length ≤ 4096 := by
  obtain ⟨x, h1, _⟩ := o
  exact h1.few
theorem Or.no (o : Or wk f P HB SB S l h t sg w) (hf : Fr No w w') : Or wk f P HB SB S l h t sg w' := by
  obtain ⟨x, h1, h2, h3, h4, ⟨ha, h5, h5'⟩, ⟨sa, h6, h6'⟩, h7, h8, h9⟩ := o
  exact ⟨x, h1.no hf, h2, fun k hk => ⟨Nat.lt_of_lt_of_le (h3 k hk).1 hf.size, (h3 k hk).2⟩, h4, ⟨ha, blk_no hf h5, h5'⟩, ⟨sa, blk_no hf h6, h6'⟩,
    fun k hk ht => ⟨(h7 k hk ht).1, (hf.cell (p := ⟨(sg k).2.2, 0, none⟩) (h3 _ (h7 k hk ht).1).1 (fun e => e)).trans (h7 k hk ht).2⟩, h8.then_no hf, h9⟩
/-- What is read alone reads as it did. -/
def Ag (S : Nat → Prop) (w w' : World) : Prop := w.heap.size ≤ w'.heap.size ∧ ∀ k, S k → w'.heap[k]? = w.heap[k]?
theorem Ag.refl (S : Nat → Prop) (w : World) : Ag S w w := ⟨Nat.le_refl _, fun _ _ => rfl⟩
theorem Ag.trans {a b c : World} (x : Ag S a b) (y : Ag S b c) : Ag S a c := ⟨Nat.le_trans x.1 y.1, fun k hk => (y.2 k hk).trans (x.2 k hk)⟩
theorem Or.step {x x' : Value} (h2 : ∀ k, foot P x k → ¬ S k ∧ k ≠ HB ∧ k ≠ SB) (h3 : ∀ k, S k → k < w.heap.size ∧ k ≠ HB ∧ k ≠ SB) (h4 : HB ≠ SB)
    (h5 : ∃ ha, w.heap[HB]? = some (.cells ha 60 (0, 0)) ∧ ∀ k, k < 90 → ha[k]? = some (.bool (h k)))
    (h6 : ∃ sa, w.heap[SB]? = some (.cells sa 61 (0, 0)) ∧ sa.size = 270 ∧ ∀ k, k < 90 → t k = true → sa[k * 3]? = some (.int .i64 (sg k).1) ∧ sa[k * 3 + 1]? = some (.int .i64 (sg k).2.1) ∧ sa[k * 3 + 2]? = some (.slice (some ⟨(sg k).2.2, 0, none⟩) 1 1))
    (h7 : ∀ k, k < 90 → t k = true → S (sg k).2.2 ∧ w.cell? ⟨(sg k).2.2, 0, none⟩ = some (.int .u8 (k : Int)))
    (h8 : Fr f wk w) (h9 : ∀ k, foot P x k ∨ k = HB ∨ k = SB → f k ∨ wk.heap.size ≤ k)
    (hn : Ntw w' P 4 x' l') (hx : Nx P x w w' x') : Or wk f P HB SB S l' h t sg w' ∧ Ag S w w' := by
  obtain ⟨ha, h5, h5'⟩ := h5
  obtain ⟨sa, h6, h6'⟩ := h6
  have hHB := (Array.getElem?_eq_some_iff.1 h5).1
  have hSB := (Array.getElem?_eq_some_iff.1 h6).1
  have hS : ∀ k, S k → w'.heap[k]? = w.heap[k]? := fun k hk => hx.1.block k (h3 k hk).1 (fun e => (h2 k e).1 hk)
  have hft : ∀ k, foot P x' k → foot P x k ∨ w.heap.size ≤ k := fun k hk => by
    rcases hk with e | e
    · exact .inl (.inl e)
    · rcases hx.2 with q | q
      · exact .inl (.inr (q ▸ e))
      · exact .inr (q k e)
  refine ⟨⟨x', hn, fun k hk => ?_, fun k hk => ⟨Nat.lt_of_lt_of_le (h3 k hk).1 hx.1.size, (h3 k hk).2⟩, h4, ⟨ha, (hx.1.block HB hHB (fun e => (h2 _ e).2.1 rfl)).trans h5, h5'⟩, ⟨sa, (hx.1.block SB hSB (fun e => (h2 _ e).2.2 rfl)).trans h6, h6'⟩,
    fun k hk ht => ⟨(h7 k hk ht).1, (World.cell?_of_block (a := ⟨(sg k).2.2, 0, none⟩) (hS _ (h7 k hk ht).1)).trans (h7 k hk ht).2⟩, h8.trans hx.1 (fun i hi hk => ?_), fun k hk => ?_⟩, hx.1.size, hS⟩
  · rcases hft k hk with e | e
    · exact h2 k e
    · exact ⟨fun hs => by have := (h3 k hs).1; omega, by omega, by omega⟩
  · rcases h9 i (.inl hk) with e | e
    · exact e
    · omega
  · rcases hk with hk | hk
    · rcases hft k hk with e | e
      · exact h9 k (.inl e)
      · have := h8.size
        exact .inr (by omega)
    · exact h9 k (.inr hk)
/-- What has come is read alone from now on. -/
theorem Or.lend (o : Or wk f P HB SB S l h t sg w) (hf : Fr No w w') : Or wk f P HB SB (fun k => S k ∨ (w.heap.size ≤ k ∧ k < w'.heap.size)) l h t sg w' := by
  obtain ⟨x, h1, h2, h3, h4, ⟨ha, h5, h5'⟩, ⟨sa, h6, h6'⟩, h7, h8, h9⟩ := o
  have q5 := (Array.getElem?_eq_some_iff.1 h5).1
  have q6 := (Array.getElem?_eq_some_iff.1 h6).1
  refine ⟨x, h1.no hf, fun k hk => ⟨fun hs => ?_, (h2 k hk).2⟩, fun k hk => ?_, h4, ⟨ha, blk_no hf h5, h5'⟩, ⟨sa, blk_no hf h6, h6'⟩,
    fun k hk ht => ⟨.inl (h7 k hk ht).1, (hf.cell (p := ⟨(sg k).2.2, 0, none⟩) (h3 _ (h7 k hk ht).1).1 (fun e => e)).trans (h7 k hk ht).2⟩, h8.then_no hf, h9⟩
  · rcases hs with hs | hs
    · exact (h2 k hk).1 hs
    · have := h1.lt hk
      omega
  · rcases hk with hk | hk
    · exact ⟨Nat.lt_of_lt_of_le (h3 k hk).1 hf.size, (h3 k hk).2⟩
    · exact ⟨hk.2, by omega, by omega⟩
theorem Or.ag_no (o : Or wk f P HB SB S l h t sg w) (hf : Fr No w w') : Ag S w w' := by
  obtain ⟨x, h1, h2, h3, _⟩ := o
  exact ⟨hf.size, fun k hk => hf.block k (h3 k hk).1 (fun e => e)⟩
theorem Or.ag_set (o : Or wk f P HB SB S l h t sg w) (k : Nat) (u : Value) : Ag S w (w.setCell ⟨HB, k, none⟩ u) ∧ Ag S w (w.setCell ⟨SB, k, none⟩ u) := by
  obtain ⟨x, h1, h2, h3, _⟩ := o
  exact ⟨⟨(Fr.setCell (F := fun i => i = HB) w ⟨HB, k, none⟩ u rfl).size, fun j hj => (Fr.setCell (F := fun i => i = HB) w ⟨HB, k, none⟩ u rfl).block j (h3 j hj).1 (h3 j hj).2.1⟩,
    ⟨(Fr.setCell (F := fun i => i = SB) w ⟨SB, k, none⟩ u rfl).size, fun j hj => (Fr.setCell (F := fun i => i = SB) w ⟨SB, k, none⟩ u rfl).block j (h3 j hj).1 (h3 j hj).2.2⟩⟩
theorem rw_agree {lo : Nat} {r : Value} {L : List Gr} (hr : Rw lo w r L) (hS : ∀ k, lo ≤ k → k < w.heap.size → S k) (ha : Ag S w w') : Rw lo w' r L := by
  refine ⟨own_keep hr.row (fun k hk => ha.2 k (hS k (hr.row.lt k hk).1 (hr.row.lt k hk).2)), fun g hg => ⟨(hr.bx g hg).1, ?_⟩, hr.ap⟩
  obtain ⟨hl, b, e, hlo, hb, hc⟩ := (hr.bx g hg).2
  have q := ha.2 b (hS b hlo hb)
  exact ⟨hl, b, e, hlo, Nat.lt_of_lt_of_le hb ha.1, fun j hj => ⟨(World.cell?_of_block (a := ⟨b, j, none⟩) q).trans (hc j hj).1, (World.frozen?_of_block (a := ⟨b, j, none⟩) q).trans (hc j hj).2⟩⟩
set_option maxRecDepth 100000 in
theorem or_send (o : Or wk f P HB SB S l h t sg w) (hl : l.length < 4096) (fr to : Int) (hx : isN 4 fr = true) (hy : isN 4 to = true) (A : Option Addr) (m c : Nat) (hm : m ≤ 1048576) (bs : List UInt8) (hr : Rd w w.heap.size A m bs) :
    Calls Try.prog 12 #[.pointer (some ⟨P, 0, none⟩), .int .i64 fr, .int .i64 to, .slice A m c] w fun e w' => e = .returned (.int .i64 0) ∧ Or wk f P HB SB S (l ++ [⟨fr, to, ⟨bs.toArray⟩⟩]) h t sg w' ∧ Ag S w w' := by
  obtain ⟨x, h1, h2, h3, h4, h5, h6, h7, h8, h9⟩ := o
  refine (send_ok h1 hl fr to hx hy A m c hm bs hr).mono ?_
  rintro e w' ⟨rfl, v', hn', hx'⟩
  exact ⟨rfl, Or.step h2 h3 h4 h5 h6 h7 h8 h9 hn' hx'⟩
set_option maxRecDepth 100000 in
theorem or_drop (o : Or wk f P HB SB S l h t sg w) (i : Int) :
    Calls Try.prog 14 #[.pointer (some ⟨P, 0, none⟩), .int .i64 i] w fun e w' => e = .returned (.bool (look l i).isSome) ∧ Or wk f P HB SB S (dropI l i) h t sg w' ∧ Ag S w w' := by
  obtain ⟨x, h1, h2, h3, h4, h5, h6, h7, h8, h9⟩ := o
  refine (drop_any h1 i).mono ?_
  rintro e w' ⟨rfl, v', hn', hx', _⟩
  exact ⟨rfl, Or.step h2 h3 h4 h5 h6 h7 h8 h9 hn' hx'⟩
set_option maxRecDepth 100000 in
theorem or_forget (o : Or wk f P HB SB S l h t sg w) (x : Int) :
    Calls Try.prog 18 #[.pointer (some ⟨P, 0, none⟩), .int .i64 x] w fun e w' => e = .returned (.int .i64 ((l.length - (keepN l x).length : Nat) : Int)) ∧ Or wk f P HB SB S (keepN l x) h t sg w' ∧ Ag S w w' := by
  obtain ⟨y, h1, h2, h3, h4, h5, h6, h7, h8, h9⟩ := o
  refine (forget_any h1 x).mono ?_
  rintro e w' ⟨rfl, v', hn', hx'⟩
  exact ⟨rfl, Or.step h2 h3 h4 h5 h6 h7 h8 h9 hn' hx'⟩
set_option maxRecDepth 100000 in
theorem or_take (o : Or wk f P HB SB S l h t sg w) {i : Int} {g : Gm} (hg : look l i = some g) :
    Calls Try.prog 13 #[.pointer (some ⟨P, 0, none⟩), .int .i64 i] w fun e w' => ∃ A c, e = .returned (.tuple #[.agg #[.int .i64 g.fr, .int .i64 g.to, .slice A g.ds.size c], .bool true]) ∧ g.ds.size ≤ c ∧ Bx w.heap.size w' A g.ds.size g.ds.data.toList ∧ Or wk f P HB SB S (dropI l i) h t sg w' ∧ Ag S w w' := by
  obtain ⟨y, h1, h2, h3, h4, h5, h6, h7, h8, h9⟩ := o
  refine (take_yes h1 hg).mono ?_
  rintro e w' ⟨A, c, rfl, hc, hb, v', hn', hx', _⟩
  exact ⟨A, c, rfl, hc, hb, Or.step h2 h3 h4 h5 h6 h7 h8 h9 hn' hx'⟩
set_option maxRecDepth 100000 in
theorem or_take_gm (o : Or wk f P HB SB S l h t sg w) {i : Int} {k : Nat} (hg : look l i = some (gmOf sg k)) :
    Calls Try.prog 13 #[.pointer (some ⟨P, 0, none⟩), .int .i64 i] w fun e w' => ∃ A c, e = .returned (.tuple #[.agg #[.int .i64 (sg k).1, .int .i64 (sg k).2.1, .slice A 1 c], .bool true]) ∧ 1 ≤ c ∧ Bx w.heap.size w' A 1 [UInt8.ofNat k] ∧ Or wk f P HB SB S (dropI l i) h t sg w' ∧ Ag S w w' := or_take o hg
set_option maxRecDepth 100000 in
theorem or_take_no (o : Or wk f P HB SB S l h t sg w) {i : Int} (hg : look l i = none) :
    Calls Try.prog 13 #[.pointer (some ⟨P, 0, none⟩), .int .i64 i] w fun e w' => e = .returned (.tuple #[.agg #[.int .i64 0, .int .i64 0, .slice none 0 0], .bool false]) ∧ Fr No w w' := by
  obtain ⟨y, h1, _⟩ := o
  exact take_no h1 hg
set_option maxRecDepth 100000 in
theorem or_all (o : Or wk f P HB SB S l h t sg w) :
    Calls Try.prog 29 #[.pointer (some ⟨P, 0, none⟩)] w fun e w' => ∃ r L, e = .returned r ∧ Rw w.heap.size w' r L ∧ L.map Gr.gm = l ∧ Fr No w w' := by
  obtain ⟨y, h1, _⟩ := o
  exact all_any h1
theorem Or.hcell (o : Or wk f P HB SB S l h t sg w) {k : Nat} (hk : k < 90) : w.cell? ⟨HB, k, none⟩ = some (.bool (h k)) ∧ w.frozen? ⟨HB, k, none⟩ = false := by
  obtain ⟨y, h1, h2, h3, h4, ⟨ha, h5, h5'⟩, _⟩ := o
  exact ⟨(blk_cell h5 k).trans (h5' k hk), blk_free h5 k⟩
theorem Or.scell (o : Or wk f P HB SB S l h t sg w) {k : Nat} (hk : k < 90) (ht : t k = true) : w.cell? ⟨SB, k * 3, none⟩ = some (.int .i64 (sg k).1) ∧ w.cell? ⟨SB, k * 3 + 1, none⟩ = some (.int .i64 (sg k).2.1) ∧ w.cell? ⟨SB, k * 3 + 2, none⟩ = some (.slice (some ⟨(sg k).2.2, 0, none⟩) 1 1) ∧ Rd w w.heap.size (some ⟨(sg k).2.2, 0, none⟩) 1 [UInt8.ofNat k] := by
  obtain ⟨y, h1, h2, h3, h4, _, ⟨sa, h6, h6', h6''⟩, h7, _⟩ := o
  obtain ⟨a, b, c⟩ := h6'' k hk ht
  refine ⟨(blk_cell h6 _).trans a, (blk_cell h6 _).trans b, (blk_cell h6 _).trans c, rfl, fun _ => ⟨(sg k).2.2, 0, rfl, (h3 _ (h7 k hk ht).1).1, fun j hj => ?_⟩⟩
  have hj0 : j = 0 := by simp at hj; omega
  subst hj0
  rw [(h7 k hk ht).2]
  simp
  omega
theorem Or.sfree (o : Or wk f P HB SB S l h t sg w) {k : Nat} (hk : k < 270) : (∃ u, w.cell? ⟨SB, k, none⟩ = some u) ∧ w.frozen? ⟨SB, k, none⟩ = false := by
  obtain ⟨y, h1, h2, h3, h4, _, ⟨sa, h6, h6', h6''⟩, _⟩ := o
  exact ⟨⟨_, (blk_cell h6 k).trans (Array.getElem?_eq_getElem (by omega))⟩, blk_free h6 k⟩
/-- A number noted, or struck out. -/
theorem Or.setH (o : Or wk f P HB SB S l h t sg w) {k : Nat} (hk : k < 90) (b : Bool) : Or wk f P HB SB S l (upd h k b) t sg (w.setCell ⟨HB, k, none⟩ (.bool b)) := by
  obtain ⟨x, h1, h2, h3, h4, ⟨ha, h5, h5'⟩, ⟨sa, h6, h6'⟩, h7, h8, h9⟩ := o
  have hf := Fr.setCell (F := fun i => i = HB) w ⟨HB, k, none⟩ (.bool b) rfl
  have hSB := (Array.getElem?_eq_some_iff.1 h6).1
  refine ⟨x, h1.keep hf (fun j hj e => (h2 j hj).2.1 e), h2, fun j hj => ⟨Nat.lt_of_lt_of_le (h3 j hj).1 hf.size, (h3 j hj).2⟩, h4, ⟨_, heap_cells_set w HB k ha _ _ h5, fun j hj => ?_⟩, ⟨sa, (hf.block SB hSB (fun e => h4 e.symm)).trans h6, h6'⟩,
    fun j hj ht => ⟨(h7 j hj ht).1, (hf.cell (p := ⟨(sg j).2.2, 0, none⟩) (h3 _ (h7 j hj ht).1).1 (h3 _ (h7 j hj ht).1).2.1).trans (h7 j hj ht).2⟩, h8.trans hf (fun i hi e => ?_), h9⟩
  · have hsz : j < ha.size := (Array.getElem?_eq_some_iff.1 (h5' j hj)).1
    unfold upd
    by_cases e : j = k
    · subst e
      rw [if_pos rfl, Array.getElem?_setIfInBounds_self_of_lt hsz]
    · rw [if_neg e, Array.getElem?_setIfInBounds_ne (fun e' => e e'.symm)]
      exact h5' j hj
  · rcases h9 HB (.inr (.inl rfl)) with q | q
    · exact e ▸ q
    · omega
/-- What was sent, noted. -/
theorem Or.setS (o : Or wk f P HB SB S l h t sg w) {k : Nat} (hk : k < 90) (fr to : Int) (b : Nat) (hb : S b) (hbc : w.cell? ⟨b, 0, none⟩ = some (.int .u8 (k : Int))) :
    Or wk f P HB SB S l h (upd t k true) (updS sg k (fr, to, b)) (((w.setCell ⟨SB, k * 3, none⟩ (.int .i64 fr)).setCell ⟨SB, k * 3 + 1, none⟩ (.int .i64 to)).setCell ⟨SB, k * 3 + 2, none⟩ (.slice (some ⟨b, 0, none⟩) 1 1)) := by
  obtain ⟨x, h1, h2, h3, h4, ⟨ha, h5, h5'⟩, ⟨sa, h6, hsz, h6'⟩, h7, h8, h9⟩ := o
  have hf : Fr (fun i => i = SB) w (((w.setCell ⟨SB, k * 3, none⟩ (.int .i64 fr)).setCell ⟨SB, k * 3 + 1, none⟩ (.int .i64 to)).setCell ⟨SB, k * 3 + 2, none⟩ (.slice (some ⟨b, 0, none⟩) 1 1)) :=
    ((Fr.setCell (F := fun i => i = SB) w ⟨SB, k * 3, none⟩ _ rfl).trans (Fr.setCell (F := fun i => i = SB) _ ⟨SB, k * 3 + 1, none⟩ _ rfl) (fun _ _ e => e)).trans (Fr.setCell (F := fun i => i = SB) _ ⟨SB, k * 3 + 2, none⟩ _ rfl) (fun _ _ e => e)
  have hHB := (Array.getElem?_eq_some_iff.1 h5).1
  have g6 := heap_cells_set _ SB (k * 3 + 2) _ _ (.slice (some ⟨b, 0, none⟩) 1 1) (heap_cells_set _ SB (k * 3 + 1) _ _ (.int .i64 to) (heap_cells_set w SB (k * 3) sa _ (.int .i64 fr) h6))
  have hbS := h3 b hb
  refine ⟨x, h1.keep hf (fun j hj e => (h2 j hj).2.2 e), h2, fun j hj => ⟨Nat.lt_of_lt_of_le (h3 j hj).1 hf.size, (h3 j hj).2⟩, h4, ⟨ha, (hf.block HB hHB (fun e => h4 e)).trans h5, h5'⟩, ⟨_, g6, by simp [hsz], fun j hj ht => ?_⟩,
    fun j hj ht => ?_, h8.trans hf (fun i hi e => ?_), h9⟩
  · by_cases e : j = k
    · subst e
      unfold updS
      rw [if_pos rfl]
      refine ⟨?_, ?_, ?_⟩
      · rw [Array.getElem?_setIfInBounds_ne (by omega), Array.getElem?_setIfInBounds_ne (by omega), Array.getElem?_setIfInBounds_self_of_lt (by omega)]
      · rw [Array.getElem?_setIfInBounds_ne (by omega), Array.getElem?_setIfInBounds_self_of_lt (by simp; omega)]
      · rw [Array.getElem?_setIfInBounds_self_of_lt (by simp; omega)]
    · unfold updS
      unfold upd at ht
      rw [if_neg e] at ht ⊢
      obtain ⟨q0, q1, q2⟩ := h6' j hj ht
      refine ⟨?_, ?_, ?_⟩
      · rw [Array.getElem?_setIfInBounds_ne (by omega), Array.getElem?_setIfInBounds_ne (by omega), Array.getElem?_setIfInBounds_ne (by omega)]; exact q0
      · rw [Array.getElem?_setIfInBounds_ne (by omega), Array.getElem?_setIfInBounds_ne (by omega), Array.getElem?_setIfInBounds_ne (by omega)]; exact q1
      · rw [Array.getElem?_setIfInBounds_ne (by omega), Array.getElem?_setIfInBounds_ne (by omega), Array.getElem?_setIfInBounds_ne (by omega)]; exact q2
  · by_cases e : j = k
    · subst e
      unfold updS
      rw [if_pos rfl]
      exact ⟨hb, (hf.cell (p := ⟨b, 0, none⟩) hbS.1 hbS.2.2).trans hbc⟩
    · unfold updS
      unfold upd at ht
      rw [if_neg e] at ht ⊢
      have := h7 j hj ht
      exact ⟨this.1, (hf.cell (p := ⟨(sg j).2.2, 0, none⟩) (h3 _ this.1).1 (h3 _ this.1).2.2).trans this.2⟩
  · rcases h9 SB (.inr (.inr rfl)) with q | q
    · exact e ▸ q
    · omega
theorem Or.apart (o : Or wk f P HB SB S l h t sg w) : HB ≠ SB ∧ ∀ k, S k → k ≠ HB ∧ k ≠ SB := by
  obtain ⟨y, h1, h2, h3, h4, _⟩ := o
  exact ⟨h4, fun k hk => (h3 k hk).2⟩
end
/-- What the law's own loop keeps: the first i deeds done. -/
def Inv (wk : World) (f : Nat → Prop) (P HB SB i : Nat) (W : World) : Prop :=
  ∃ S h t sg, Or wk f P HB SB S ((ord h).map (gmOf sg)) h t sg W ∧ (∀ k, h k = true → t k = true) ∧ ∀ k, t k = true → k < i
section
variable {wk W : World} {f S : Nat → Prop} {P HB SB i : Nat} {h t : Nat → Bool} {sg : Sg}
theorem inv_same (o : Or wk f P HB SB S ((ord h).map (gmOf sg)) h t sg W) (hht : ∀ k, h k = true → t k = true) (htt : ∀ k, t k = true → k < i) : Inv wk f P HB SB (i + 1) W :=
  ⟨S, h, t, sg, o, hht, fun k hk => Nat.lt_succ_of_lt (htt k hk)⟩
theorem inv_gone {a k : Nat} (o : Or wk f P HB SB S (dropI ((ord h).map (gmOf sg)) (a : Int)) h t sg W) (hk : (ord h)[a]? = some k) (hht : ∀ k, h k = true → t k = true) (htt : ∀ k, t k = true → k < i) :
    Inv wk f P HB SB (i + 1) (W.setCell ⟨HB, k, none⟩ (.bool false)) := by
  rw [gms_gone sg h a k hk] at o
  refine inv_same (o.setH (ord_lt (List.mem_of_getElem? hk)).1 false) (fun j hj => ?_) htt
  unfold upd at hj
  by_cases e : j = k
  · rw [if_pos e] at hj; cases hj
  · rw [if_neg e] at hj; exact hht j hj
end
/-- Which numbers are left, when of the first j those for x have been struck out. -/
def hjs (h : Nat → Bool) (sg : Sg) (x : Int) (j : Nat) : Nat → Bool := fun m => h m && !(((ord h).take j).contains m && ((sg m).2.1 == x))
theorem hjs_zero (h : Nat → Bool) (sg : Sg) (x : Int) : hjs h sg x 0 = h := by
  funext m
  unfold hjs
  simp
theorem hjs_take {h : Nat → Bool} {j k : Nat} (hk : (ord h)[j]? = some k) : (ord h).take (j + 1) = (ord h).take j ++ [k] := by
  rw [List.take_add_one, hk]
  rfl
theorem hjs_no {h : Nat → Bool} {sg : Sg} {x : Int} {j k : Nat} (hk : (ord h)[j]? = some k) (hx : ((sg k).2.1 == x) = false) : hjs h sg x (j + 1) = hjs h sg x j := by
  funext m
  unfold hjs
  rw [hjs_take hk]
  by_cases e : m = k
  · subst e
    simp [hx]
  · simp [e]
theorem hjs_yes {h : Nat → Bool} {sg : Sg} {x : Int} {j k : Nat} (hk : (ord h)[j]? = some k) (hx : ((sg k).2.1 == x) = true) : hjs h sg x (j + 1) = upd (hjs h sg x j) k false := by
  funext m
  unfold upd hjs
  rw [hjs_take hk]
  by_cases e : m = k
  · subst e
    simp [hx]
  · simp [e]
theorem hjs_end (h : Nat → Bool) (sg : Sg) (x : Int) (N : Nat) (hN : (ord h).length = N) : ord (hjs h sg x N) = (ord h).filter fun m => !((sg m).2.1 == x) := by
  show (List.range 90).filter _ = ((List.range 90).filter h).filter _
  rw [List.filter_filter]
  refine List.filter_congr fun m hm => ?_
  unfold hjs
  rw [List.take_of_length_le (by omega)]
  cases hh : h m with
  | false => simp
  | true =>
    have : m ∈ ord h := ord_mem (List.mem_range.1 hm) hh
    simp [this]
theorem hjs_gms (h : Nat → Bool) (sg : Sg) (x : Int) (N : Nat) (hN : (ord h).length = N) : keepN ((ord h).map (gmOf sg)) x = (ord (hjs h sg x N)).map (gmOf sg) := by
  rw [hjs_end h sg x N hN]
  unfold keepN
  rw [List.filter_map]
  rfl
theorem hjs_le {h : Nat → Bool} {sg : Sg} {x : Int} {j k : Nat} (hk : hjs h sg x j k = true) : h k = true := by
  unfold hjs at hk
  rw [Bool.and_eq_true] at hk
  exact hk.1
theorem flt_len {α : Type} (p : α → Bool) (l : List α) : (l.filter p).length + (l.filter fun a => !p a).length = l.length := by
  induction l with
  | nil => rfl
  | cons a l ih => cases h : p a <;> simp [h] <;> omega
/-- How many of the first j are for x. -/
def cntT (h : Nat → Bool) (sg : Sg) (x : Int) (j : Nat) : Nat := (((ord h).take j).filter fun m => (sg m).2.1 == x).length
theorem cntT_zero (h : Nat → Bool) (sg : Sg) (x : Int) : cntT h sg x 0 = 0 := by simp [cntT]
theorem cntT_no {h : Nat → Bool} {sg : Sg} {x : Int} {j k : Nat} (hk : (ord h)[j]? = some k) (hx : ((sg k).2.1 == x) = false) : cntT h sg x (j + 1) = cntT h sg x j := by
  unfold cntT
  rw [hjs_take hk, List.filter_append, List.length_append]
  simp [hx]
theorem cntT_yes {h : Nat → Bool} {sg : Sg} {x : Int} {j k : Nat} (hk : (ord h)[j]? = some k) (hx : ((sg k).2.1 == x) = true) : cntT h sg x (j + 1) = cntT h sg x j + 1 := by
  unfold cntT
  rw [hjs_take hk, List.filter_append, List.length_append]
  simp [hx]
theorem cntT_le (h : Nat → Bool) (sg : Sg) (x : Int) (j : Nat) : cntT h sg x j ≤ 90 := by
  unfold cntT
  refine Nat.le_trans (List.length_filter_le _ _) ?_
  rw [List.length_take]
  have := ord_len h
  omega
theorem cntT_end (h : Nat → Bool) (sg : Sg) (x : Int) (N : Nat) (hN : (ord h).length = N) : ((ord h).map (gmOf sg)).length - (keepN ((ord h).map (gmOf sg)) x).length = cntT h sg x N := by
  have e := flt_len (fun m => (sg m).2.1 == x) (ord h)
  have e1 : (keepN ((ord h).map (gmOf sg)) x).length = ((ord h).filter fun m => !((sg m).2.1 == x)).length := by
    unfold keepN
    rw [List.filter_map, List.length_map]
    rfl
  unfold cntT
  rw [List.take_of_length_le (by omega), List.length_map, e1]
  omega
section
variable {wk w : World} {f S : Nat → Prop} {P HB SB : Nat} {l : List Gm} {h t : Nat → Bool} {sg : Sg}
set_option maxRecDepth 100000 in
theorem or_drop_yes (o : Or wk f P HB SB S l h t sg w) {i : Int} {g : Gm} (hg : look l i = some g) :
    Calls Try.prog 14 #[.pointer (some ⟨P, 0, none⟩), .int .i64 i] w fun e w' => e = .returned (.bool true) ∧ Or wk f P HB SB S (dropI l i) h t sg w' ∧ Ag S w w' := by
  have := or_drop o i
  rw [hg] at this
  exact this
set_option maxRecDepth 100000 in
theorem or_drop_no (o : Or wk f P HB SB S l h t sg w) {i : Int} (hg : look l i = none) :
    Calls Try.prog 14 #[.pointer (some ⟨P, 0, none⟩), .int .i64 i] w fun e w' => e = .returned (.bool false) ∧ Or wk f P HB SB S l h t sg w' ∧ Ag S w w' := by
  have := or_drop o i
  rw [hg, dropI_none hg] at this
  exact this
end
section
variable {wk w : World} {f S : Nat → Prop} {P HB SB : Nat} {h t : Nat → Bool} {sg : Sg}
set_option maxRecDepth 100000 in
theorem or_forget_all {h' : Nat → Bool} (o : Or wk f P HB SB S ((ord h).map (gmOf sg)) h' t sg w) (x : Int) {N : Nat} (hN : (ord h).length = N) :
    Calls Try.prog 18 #[.pointer (some ⟨P, 0, none⟩), .int .i64 x] w fun e w' => e = .returned (.int .i64 (cntT h sg x N : Nat)) ∧ Or wk f P HB SB S ((ord (hjs h sg x N)).map (gmOf sg)) h' t sg w' ∧ Ag S w w' := by
  have := or_forget o x
  rw [cntT_end h sg x N hN, hjs_gms h sg x N hN] at this
  exact this
end
/-- A datagram of a row that was handed out, wherever it is looked at. -/
theorem was_all {S4 : Nat → Prop} {w4 : World} {lo c4 a k : Nat} {A4 : Option Addr} {M : List Gr} {sg : Sg} (hk90 : k < 90) (hr : ∀ W, Ag S4 w4 W → Rw lo W (.slice A4 M.length c4) M) (ha : a < M.length) (hg : (M.map Gr.gm)[a]? = some (gmOf sg k)) :
    ∃ b4 o4 bd yc, A4 = some ⟨b4, o4, none⟩ ∧ ∀ W, Ag S4 w4 W → W.cell? ⟨b4, o4 + a * 3, none⟩ = some (.int .i64 (sg k).1) ∧ W.cell? ⟨b4, o4 + a * 3 + 1, none⟩ = some (.int .i64 (sg k).2.1) ∧
      W.cell? ⟨b4, o4 + a * 3 + 2, none⟩ = some (.slice (some ⟨bd, 0, none⟩) 1 yc) ∧ W.cell? ⟨bd, 0, none⟩ = some (.int .u8 (k : Int)) ∧ Rd W W.heap.size (some ⟨bd, 0, none⟩) 1 [UInt8.ofNat k] := by
  have e0 := List.getElem?_eq_getElem ha
  generalize M[a] = y at e0
  have hgm : y.gm = gmOf sg k := by
    rw [List.getElem?_map, e0] at hg
    exact Option.some.inj hg
  obtain ⟨e1, e2, e3⟩ : y.fr = (sg k).1 ∧ y.to = (sg k).2.1 ∧ y.l = [UInt8.ofNat k] := by
    unfold Gr.gm gmOf at hgm
    injection hgm with h1 h2 h3
    injection h3 with h3
    exact ⟨h1, h2, by simpa using congrArg Array.toList h3⟩
  have hym : y ∈ M := List.mem_of_getElem? e0
  obtain ⟨b4, o4, hA, _, _⟩ := (hr w4 (Ag.refl _ _)).of.2 (by omega)
  subst hA
  obtain ⟨_, hl, bd, hbd, _⟩ := (hr w4 (Ag.refl _ _)).bx y hym
  have en : y.n = 1 := by rw [← hl, e3]; rfl
  refine ⟨b4, o4, bd, y.c, rfl, fun W hW => ?_⟩
  have hR := hr W hW
  obtain ⟨b', o', e', _, hcc⟩ := hR.of.2 (by omega)
  injection e' with e'
  injection e' with eb eo
  subst eb eo
  have hx := hcc a ha
  rw [List.getElem?_eq_getElem ha] at e0
  rw [Option.some.inj e0] at hx
  obtain ⟨q0, q1, q2⟩ := hx.at_
  have hrd := hx.2.2.2.2
  rw [e1] at q0
  rw [e2] at q1
  rw [hbd, en] at q2 hrd
  rw [e3] at hrd
  refine ⟨q0, q1, q2, ?_, hrd⟩
  obtain ⟨_, _, b2, hb2, _, _, hc⟩ := hR.bx y hym
  rw [hbd] at hb2
  injection hb2 with hb2
  injection hb2 with hb2
  subst hb2
  have := (hc 0 (by rw [e3]; exact Nat.zero_lt_one)).1
  simp only [e3, List.getElem_cons_zero] at this
  rw [this]
  simp
  omega
end Go.Proofs.Ytndanonhkjgmhaa

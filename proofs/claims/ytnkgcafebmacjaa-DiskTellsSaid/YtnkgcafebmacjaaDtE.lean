/-
  The document's disk: files of the call's own, in two rows. No statement of the seat is proved here.
-/
import Derived.Test.YtnkgcafebmacjaaDtD
import Derived.Deep.AppendLies
import Derived.Deep.Upon
namespace Go.Proofs.Ytnkgcafebmacjaa
open Go.RowKit Go.Maps

set_option maxRecDepth 100000 in
theorem info_rf : (Try.prog.info? 73).map (fun i => (i.zero, i.size, i.bytes)) = some (some (.agg #[.string ⟨#[]⟩, .slice none 0 0, .int .i64 0]), 3, 48) := by kernel_rfl
def rfCells (f : Fl) : List Value := [.string ⟨f.nm.toArray⟩, .slice f.A f.bs.length f.c, .int .i64 (f.fm : Int)]
def rfsCells (l : List Fl) : List Value := l.flatMap rfCells
theorem rfsCells_length (l : List Fl) : (rfsCells l).length = l.length * 3 := by
  induction l with
  | nil => rfl
  | cons t l ih =>
    have e : rfsCells (t :: l) = rfCells t ++ rfsCells l := rfl
    rw [e, List.length_append, ih, show (rfCells t).length = 3 from rfl, List.length_cons]
    omega
theorem rfsCells_append (l m : List Fl) : rfsCells (l ++ m) = rfsCells l ++ rfsCells m := by simp [rfsCells]
theorem rfsCells_at (l : List Fl) (j r : Nat) {f : Fl} (hj : l[j]? = some f) (hr : r < 3) : (rfsCells l)[j * 3 + r]? = (rfCells f)[r]? := by
  induction l generalizing j with
  | nil => simp at hj
  | cons t l ih =>
    have e : rfsCells (t :: l) = rfCells t ++ rfsCells l := rfl
    have h3 : (rfCells t).length = 3 := rfl
    rw [e]
    cases j with
    | zero =>
      rw [List.getElem?_append_left (by omega)]
      have : t = f := by simpa using hj
      rw [this]
      simp
    | succ j =>
      rw [List.getElem?_append_right (by omega), h3, show (j + 1) * 3 + r - 3 = j * 3 + r by omega, ih j (by simpa using hj)]
theorem rfCells_one (f : Fl) : ∀ u ∈ rfCells f, u.oneCell' = true := by
  intro u hu
  simp only [rfCells, List.mem_cons, List.not_mem_nil, or_false] at hu
  rcases hu with rfl | rfl | rfl <;> rfl
theorem rfsCells_one (l : List Fl) : ∀ u ∈ rfsCells l, u.oneCell' = true := by
  intro u hu
  obtain ⟨f, _, h⟩ := List.mem_flatMap.1 hu
  exact rfCells_one f u h
theorem Sep.turn {a a' b : Value} {w : World} (h : Sep a b) (hb : ∀ g, b.ownBlock = some g → g < w.heap.size) (ha : a'.ownBlock = a.ownBlock ∨ ∀ g, a'.ownBlock = some g → w.heap.size ≤ g) : Sep a' b := fun g hg e => by
  rcases ha with ha | ha
  · exact h g (ha ▸ hg) e
  · have := ha g hg
    have := hb g e
    omega
theorem Sep.ne {a b : Value} (h : Sep a b) : b.ownBlock = none ∨ b.ownBlock ≠ a.ownBlock := by
  cases hb : b.ownBlock with
  | none => exact .inl rfl
  | some g => exact .inr (fun e => h g e.symm hb)
/-- Two rows of files of the call's own, apart. -/
structure Pt (w0 w : World) (va vb : Value) (la lb : List Fl) : Prop where
  oa : w.ownsRow w0.heap.size 73 3 va la.length (rfsCells la)
  ob : w.ownsRow w0.heap.size 73 3 vb lb.length (rfsCells lb)
  sp : Sep va vb
  fr : Fr No w0 w
section
variable {w0 w w' : World} {va vb v' : Value} {la lb l' : List Fl}
set_option maxRecDepth 100000 in
theorem Pt.no (h : Pt w0 w va vb la lb) (hf : Fr No w w') : Pt w0 w' va vb la lb :=
  ⟨own_keep h.oa (fun k hk => hf.block k (h.oa.lt k hk).2 (fun e => e)), own_keep h.ob (fun k hk => hf.block k (h.ob.lt k hk).2 (fun e => e)), h.sp, h.fr.no_trans hf⟩
theorem Pt.swap (h : Pt w0 w va vb la lb) : Pt w0 w vb va lb la := ⟨h.ob, h.oa, h.sp.symm, h.fr⟩
set_option maxRecDepth 100000 in
theorem Pt.turn (h : Pt w0 w va vb la lb) (ho : w'.ownsRow w0.heap.size 73 3 v' l'.length (rfsCells l')) (hg : w.grownBy w' va.ownBlock) (ha : v'.ownBlock = va.ownBlock ∨ ∀ g, v'.ownBlock = some g → w.heap.size ≤ g) : Pt w0 w' v' vb l' lb :=
  ⟨ho, h.ob.kept hg h.sp.ne, h.sp.turn (fun g hg => (h.ob.lt g hg).2) ha, h.fr.trans (Fr.grown hg (F := fun k => w0.heap.size ≤ k) (fun k hk => (h.oa.lt k hk).1)) (fun i hi e => by omega)⟩
/-- A row of the call's own, as files that are read. -/
theorem Pt.files (h : Pt w0 w va vb la lb) (hr : ∀ f ∈ la, Rd w w.heap.size f.A f.bs.length f.bs) : ∃ A c, va = .slice A la.length c ∧ Rk w A la.length la := by
  rcases h.oa.2 with ⟨rfl, e0⟩ | ⟨G, cap, cur, rfl, hG⟩
  · refine ⟨none, 0, by rw [e0], ?_⟩
    exact ⟨rfl, fun hn => by omega, hr⟩
  · refine ⟨_, _, rfl, rfl, fun _ => ⟨G, 0, rfl, (h.oa.lt G rfl).2, fun j f hj => ?_⟩, hr⟩
    have q : ∀ r v, r < 3 → (rfCells f)[r]? = some v → w.cell? ⟨G, j * 3 + r, none⟩ = some v := fun r v hr hv => by
      have e := h.oa.cells (g := G) rfl (j * 3 + r) v ((rfsCells_at la j r hj hr).trans hv)
      rw [Addr.add_lit, Nat.zero_add] at e
      exact e
    rw [Nat.zero_add]
    exact ⟨q 0 _ (by omega) rfl, q 1 _ (by omega) rfl, q 2 _ (by omega) rfl⟩
end
set_option maxRecDepth 100000 in
/-- A file appended to the first row. -/
theorem wpList_append_rf (w0 : World) (wr : World) {ops : Array Oper} {rest : List Oper} {o : Oper} {a : Act} {Q : Exit → Act → World → Prop} (hgd : o.guard = none) (s x : Operand)
    (ho : o.op = .call { callee := .builtin .append, args := #[s, x], argTypes := #[27, 27] })
    {va vb : Value} {la lb : List Fl} (h : Pt w0 wr va vb la lb) (hl : la.length ≤ 1000) (f : Fl) (cs : Array Value) (hcs : cs = (rfCells f).toArray)
    (hs : a.eval s = va) (H : Nat) (hx : a.eval x = .slice (some ⟨H, 0, none⟩) 1 1) (hH : H = wr.heap.size)
    (hk : ∀ g cap w', Pt w0 w' (.slice (some ⟨g, 0, none⟩) (la.length + 1) cap) vb (la ++ [f]) lb → wpList Try.prog ops Q rest (a.put o.dst (.slice (some ⟨g, 0, none⟩) (la.length + 1) cap)) w') :
    wpList Try.prog ops Q (o :: rest) a (wr.alloc (.cells cs 73)) := by
  subst hcs
  subst hH
  obtain ⟨i0, hi, hz0, hz1, hz2⟩ := info_parts info_rf
  have hA := h.no (Fr.alloc No wr (.cells (rfCells f).toArray 73))
  have hb : w0.heap.size ≤ (wr.alloc (.cells (rfCells f).toArray 73)).heap.size := hA.fr.size
  refine wpList_append_lies _ hgd s x 27 ho w0.heap.size 73 i0 _ 3 48 Try.underlying27 hi hz0 hz1 hz2 rfl (by omega) va la.length (rfsCells la) hs hA.oa ⟨wr.heap.size, 0, none⟩ 1 1 (rfCells f) hx rfl (fun j u hu => by
    rw [Addr.add_lit, Nat.zero_add, World.cell?_alloc_mark, List.getElem?_toArray]
    exact hu) (rfCells_one f) (by omega) (by unfold maxLen; omega) (by omega) hb _ rfl ?_
  intro g cap w' hown hg hat _
  refine hk g cap w' (hA.turn ?_ hg ?_)
  · rw [rfsCells_append, List.length_append]
    have e : rfsCells [f] = rfCells f := by simp [rfsCells]
    rw [e]
    exact hown
  · rcases hat with e | e
    · left; rw [e]; rfl
    · right
      intro g' hg'
      injection hg' with hg'
      subst hg'
      exact Nat.le_of_eq e.symm
set_option maxRecDepth 100000 in
/-- The second row appended to the first. -/
theorem wpList_append_rfs (w0 : World) (wr : World) {ops : Array Oper} {rest : List Oper} {o : Oper} {a : Act} {Q : Exit → Act → World → Prop} (hgd : o.guard = none) (s x : Operand)
    (ho : o.op = .call { callee := .builtin .append, args := #[s, x], argTypes := #[27, 27] })
    {va : Value} {la lb : List Fl} {G m cb : Nat} (h : Pt w0 wr va (.slice (some ⟨G, 0, none⟩) m cb) la lb) (hm : lb.length = m) (h0 : 0 < m) (hl : la.length + m ≤ 2000)
    (hs : a.eval s = va) (hx : a.eval x = .slice (some ⟨G, 0, none⟩) m cb)
    (hk : ∀ g cap w', w'.ownsRow w0.heap.size 73 3 (.slice (some ⟨g, 0, none⟩) (la.length + m) cap) (la ++ lb).length (rfsCells (la ++ lb)) → Fr No w0 w' → wpList Try.prog ops Q rest (a.put o.dst (.slice (some ⟨g, 0, none⟩) (la.length + m) cap)) w') :
    wpList Try.prog ops Q (o :: rest) a wr := by
  obtain ⟨i0, hi, hz0, hz1, hz2⟩ := info_parts info_rf
  subst hm
  refine wpList_append_lies _ hgd s x 27 ho w0.heap.size 73 i0 _ 3 48 Try.underlying27 hi hz0 hz1 hz2 rfl (by omega) va la.length (rfsCells la) hs h.oa ⟨G, 0, none⟩ lb.length cb (rfsCells lb) hx (rfsCells_length _) (fun j u hu => h.ob.cells (g := G) rfl j u hu) (rfsCells_one _) h0 (by unfold maxLen; omega) (by omega) h.fr.size _ rfl ?_
  intro g cap w' hown hg hat _
  refine hk g cap w' ?_ ?_
  · rw [rfsCells_append, List.length_append]
    exact hown
  · exact h.fr.trans (Fr.grown hg (F := fun k => w0.heap.size ≤ k) (fun k hk => (h.oa.lt k hk).1)) (fun i hi e => by omega)
/-- A row of the call's own in a world further on, as files that are read. -/
theorem own_files {w : World} {base : Nat} {v : Value} {l : List Fl} (h : w.ownsRow base 73 3 v l.length (rfsCells l)) (hr : ∀ f ∈ l, Rd w w.heap.size f.A f.bs.length f.bs) : ∃ A c, v = .slice A l.length c ∧ Rk w A l.length l := by
  rcases h.2 with ⟨rfl, e0⟩ | ⟨G, cap, cur, rfl, hG⟩
  · refine ⟨none, 0, by rw [e0], ?_⟩
    exact ⟨rfl, fun hn => by omega, hr⟩
  · refine ⟨_, _, rfl, rfl, fun _ => ⟨G, 0, rfl, (h.lt G rfl).2, fun j f hj => ?_⟩, hr⟩
    have q : ∀ r v, r < 3 → (rfCells f)[r]? = some v → w.cell? ⟨G, j * 3 + r, none⟩ = some v := fun r v hr hv => by
      have e := h.cells (g := G) rfl (j * 3 + r) v ((rfsCells_at l j r hj hr).trans hv)
      rw [Addr.add_lit, Nat.zero_add] at e
      exact e
    rw [Nat.zero_add]
    exact ⟨q 0 _ (by omega) rfl, q 1 _ (by omega) rfl, q 2 _ (by omega) rfl⟩
theorem own_cap {w : World} {base n m c size : Nat} {A : Option Addr} {e : TypeId} {xs : List Value} (h : w.ownsRow base e size (.slice A m c) n xs) : m ≤ c := by
  rcases h.2 with ⟨e, _⟩ | ⟨g, cap, cur, e, _, _, hc, _⟩
  · injection e with _ e2 e3
    omega
  · injection e with _ e2 e3
    omega
theorem own_sl {w : World} {base m size : Nat} {v : Value} {e : TypeId} {xs : List Value} (h : w.ownsRow base e size v m xs) : ∃ A c, v = .slice A m c := by
  rcases h.2 with ⟨rfl, e0⟩ | ⟨G, cap, cur, rfl, _⟩
  · exact ⟨none, 0, by rw [e0]⟩
  · exact ⟨_, _, rfl⟩
set_option maxRecDepth 100000 in
/-- Nothing appended to a row of the call's own. -/
theorem wpList_append_noth {w : World} {ops : Array Oper} {rest : List Oper} {o : Oper} {a : Act} {Q : Exit → Act → World → Prop} (hgd : o.guard = none) (s x : Operand)
    (ho : o.op = .call { callee := .builtin .append, args := #[s, x], argTypes := #[27, 27] })
    (A B : Option Addr) (n c cb : Nat) (hc : n ≤ c) (hs : a.eval s = .slice A n c) (hx : a.eval x = .slice B 0 cb)
    (h : wpList Try.prog ops Q rest (a.put o.dst (.slice A n c)) w) : wpList Try.prog ops Q (o :: rest) a w := by
  obtain ⟨i0, hi, _, _, _⟩ := info_parts info_rf
  refine wpList_plain hgd fun K hK => ?_
  have hrun : (Builtin.append_ #[27, 27] o.type #[.slice A n c, .slice B 0 cb]).run Try.prog w = .ok (.slice A n c) w := by
    cases A <;> cases B <;> simp [Builtin.append_, run_underlying Try.underlying27, sizeOf, typeInfo, hi, Builtin.lenOf, Builtin.firstCells, loadCells, loadCellsFrom, Result.andThen, hc, storeCells]
  unfold Oper.wp
  simp [execOp, ho, resolve, invoke, builtin, hs, hx, hrun, Result.andThen]
  exact hK _ _ h
end Go.Proofs.Ytnkgcafebmacjaa

/-
  DiskWoven: calls of the law's own in memory, errors collected, two disks beside four rows. No statement of the seat is proved here.
-/
import Derived.Test.YtpffgkflebbejaaDnM
import Derived.Test.YtpffgkflebbejaaDmY
namespace Go.Proofs.Ytpffgkflebbejaa
open Go.RowKit Go.Maps

set_option maxRecDepth 100000 in
theorem info_cl : (Try.prog.info? 39).map (fun i => (i.zero, i.size, i.bytes)) = some (some (.agg #[.int .u8 0, .string ⟨#[]⟩, .string ⟨#[]⟩, .slice none 0 0, .int .i64 0, .slice none 0 0]), 6, 96) := by kernel_rfl
set_option maxRecDepth 100000 in
theorem info_en : (Try.prog.info? 27).map (fun i => (i.zero, i.size, i.bytes)) = some (some (.int .i64 0), 1, 8) := by kernel_rfl
def clCells (c : Cl) : List Value := [.int .u8 (c.wh : Int), .string c.nm, .string c.to, .slice c.B.A c.B.n c.B.c, .int .i64 c.n, .slice c.K c.kn c.kc]
def clsCells (l : List Cl) : List Value := l.flatMap clCells
theorem clsCells_length (l : List Cl) : (clsCells l).length = l.length * 6 := by
  induction l with
  | nil => rfl
  | cons t l ih =>
    have e : clsCells (t :: l) = clCells t ++ clsCells l := rfl
    rw [e, List.length_append, ih, show (clCells t).length = 6 from rfl, List.length_cons]
    omega
theorem clsCells_append (l m : List Cl) : clsCells (l ++ m) = clsCells l ++ clsCells m := by simp [clsCells]
theorem clsCells_at (l : List Cl) (j r : Nat) {c : Cl} (hj : l[j]? = some c) (hr : r < 6) : (clsCells l)[j * 6 + r]? = (clCells c)[r]? := by
  induction l generalizing j with
  | nil => simp at hj
  | cons t l ih =>
    have e : clsCells (t :: l) = clCells t ++ clsCells l := rfl
    have h6 : (clCells t).length = 6 := rfl
    rw [e]
    cases j with
    | zero =>
      rw [List.getElem?_append_left (by omega)]
      have : t = c := by simpa using hj
      rw [this]
      simp
    | succ j =>
      rw [List.getElem?_append_right (by omega), h6, show (j + 1) * 6 + r - 6 = j * 6 + r by omega, ih j (by simpa using hj)]
theorem clCells_one (c : Cl) : ∀ u ∈ clCells c, u.oneCell' = true := by
  intro u hu
  simp only [clCells, List.mem_cons, List.not_mem_nil, or_false] at hu
  rcases hu with rfl | rfl | rfl | rfl | rfl | rfl <;> rfl
def evs (l : List Int) : List Value := l.map fun n => Value.int .i64 n
theorem evs_length (l : List Int) : (evs l).length = l.length := by simp [evs]
theorem evs_at {l : List Int} {j : Nat} {x : Int} (h : l[j]? = some x) : (evs l)[j]? = some (.int .i64 x) := by
  unfold evs
  rw [List.getElem?_map, h]
  rfl

/-- A list of calls of the call's own. -/
structure Ow (w0 w : World) (v : Value) (L : List Cl) : Prop where
  o : w.ownsRow w0.heap.size 39 6 v L.length (clsCells L)
  fr : Fr No w0 w
section
variable {w0 w w' : World} {v : Value} {L : List Cl}
set_option maxRecDepth 100000 in
theorem Ow.no (h : Ow w0 w v L) (hf : Fr No w w') : Ow w0 w' v L := ⟨own_keep h.o (fun k hk => hf.block k (h.o.lt k hk).2 (fun e => e)), h.fr.no_trans hf⟩
end
set_option maxRecDepth 100000 in
/-- A call appended to a list of the call's own. -/
theorem wpList_append_cl (w0 : World) (wr : World) {ops : Array Oper} {rest : List Oper} {o : Oper} {a : Act} {Q : Exit → Act → World → Prop} (hgd : o.guard = none) (s x : Operand)
    (ho : o.op = .call { callee := .builtin .append, args := #[s, x], argTypes := #[35, 35] })
    (v : Value) (L : List Cl) (h : Ow w0 wr v L) (hL : L.length ≤ 1000) (t : Cl) (cs : Array Value) (hcs : cs = (clCells t).toArray)
    (hs : a.eval s = v) (H : Nat) (hx : a.eval x = .slice (some ⟨H, 0, none⟩) 1 1) (hH : H = wr.heap.size)
    (hk : ∀ g cap w', Ow w0 w' (.slice (some ⟨g, 0, none⟩) (L.length + 1) cap) (L ++ [t]) → wpList Try.prog ops Q rest (a.put o.dst (.slice (some ⟨g, 0, none⟩) (L.length + 1) cap)) w') :
    wpList Try.prog ops Q (o :: rest) a (wr.alloc (.cells cs 39)) := by
  obtain ⟨i0, hi, hz0, hz1, hz2⟩ := info_parts info_cl
  subst hcs
  subst hH
  have hA := h.no (Fr.alloc No wr (.cells (clCells t).toArray 39))
  have hb : w0.heap.size ≤ (wr.alloc (.cells (clCells t).toArray 39)).heap.size := hA.fr.size
  have hnew : ∀ j u, (clCells t)[j]? = some u → (wr.alloc (.cells (clCells t).toArray 39)).cell? ((⟨wr.heap.size, 0, none⟩ : Addr).add j) = some u := fun j u hu => by
    rw [Addr.add_lit, Nat.zero_add, World.cell?_alloc_mark, List.getElem?_toArray]
    exact hu
  refine wpList_append_lies _ hgd s x 35 ho w0.heap.size 39 i0 _ 6 96 Try.underlying35 hi hz0 hz1 hz2 rfl (by omega) v L.length (clsCells L) hs hA.o ⟨wr.heap.size, 0, none⟩ 1 1 (clCells t) hx rfl hnew (clCells_one t) (by omega) (by unfold maxLen; omega) (by omega) hb _ rfl ?_
  intro g cap w' hown hg hat _
  refine hk g cap w' ⟨?_, ?_⟩
  · rw [clsCells_append, List.length_append]
    have e : clsCells [t] = clCells t := by simp [clsCells]
    rw [e]
    exact hown
  · exact hA.fr.trans (Fr.grown hg (F := fun k => w0.heap.size ≤ k) (fun k hk => (hA.o.lt k hk).1)) (fun i hi e => by omega)

/-- Two disks, two lists of calls, two lists of errors: each in memory of its own. -/
structure Wv (B : Nat) (w0 w : World) (D M D2 M2 : Nat) (s t : St) (vl vm v1 v2 : Value) (L R : List Cl) (c1 c2 : List Int) : Prop where
  two : Two B w0 w D M D2 M2 s t
  ol : w.ownsRow B 39 6 vl L.length (clsCells L)
  om : w.ownsRow B 39 6 vm R.length (clsCells R)
  o1 : w.ownsRow B 27 1 v1 c1.length (evs c1)
  o2 : w.ownsRow B 27 1 v2 c2.length (evs c2)
  sl1 : Sep vl v1
  sl2 : Sep vl v2
  sm1 : Sep vm v1
  sm2 : Sep vm v2
  s12 : Sep v1 v2
  fl : ∀ k, vl.ownBlock = some k → ¬ foot D M s.fs k ∧ ¬ foot D2 M2 t.fs k
  fm : ∀ k, vm.ownBlock = some k → ¬ foot D M s.fs k ∧ ¬ foot D2 M2 t.fs k
  f1 : ∀ k, v1.ownBlock = some k → ¬ foot D M s.fs k ∧ ¬ foot D2 M2 t.fs k
  f2 : ∀ k, v2.ownBlock = some k → ¬ foot D M s.fs k ∧ ¬ foot D2 M2 t.fs k
section
variable {B D M D2 M2 : Nat} {w0 w w' : World} {s s' t t' : St} {vl vm v1 v2 v' : Value} {L R : List Cl} {c1 c2 c' : List Int}
set_option maxRecDepth 100000 in
theorem off_next {k : Nat} (hN : Nx D M w s w' s') (hk : k < w.heap.size) (h : ¬ foot D M s.fs k) : ¬ foot D M s'.fs k := fun hf => by
  rcases hN.2.2 k hf with e | e
  · exact h e
  · omega
set_option maxRecDepth 100000 in
/-- A call upon the first disk. -/
theorem Wv.left (h : Wv B w0 w D M D2 M2 s t vl vm v1 v2 L R c1 c2) (hB : B ≤ w.heap.size) (hN : Nx D M w s w' s') : Wv B w0 w' D M D2 M2 s' t vl vm v1 v2 L R c1 c2 :=
  ⟨h.two.left hB hN, own_keep h.ol (fun k hk => hN.2.1.block k (h.ol.lt k hk).2 (h.fl k hk).1), own_keep h.om (fun k hk => hN.2.1.block k (h.om.lt k hk).2 (h.fm k hk).1),
    own_keep h.o1 (fun k hk => hN.2.1.block k (h.o1.lt k hk).2 (h.f1 k hk).1), own_keep h.o2 (fun k hk => hN.2.1.block k (h.o2.lt k hk).2 (h.f2 k hk).1),
    h.sl1, h.sl2, h.sm1, h.sm2, h.s12, fun k hk => ⟨off_next hN (h.ol.lt k hk).2 (h.fl k hk).1, (h.fl k hk).2⟩, fun k hk => ⟨off_next hN (h.om.lt k hk).2 (h.fm k hk).1, (h.fm k hk).2⟩,
    fun k hk => ⟨off_next hN (h.o1.lt k hk).2 (h.f1 k hk).1, (h.f1 k hk).2⟩, fun k hk => ⟨off_next hN (h.o2.lt k hk).2 (h.f2 k hk).1, (h.f2 k hk).2⟩⟩
set_option maxRecDepth 100000 in
/-- A call upon the second disk. -/
theorem Wv.right (h : Wv B w0 w D M D2 M2 s t vl vm v1 v2 L R c1 c2) (hB : B ≤ w.heap.size) (hN : Nx D2 M2 w t w' t') : Wv B w0 w' D M D2 M2 s t' vl vm v1 v2 L R c1 c2 :=
  ⟨h.two.right hB hN, own_keep h.ol (fun k hk => hN.2.1.block k (h.ol.lt k hk).2 (h.fl k hk).2), own_keep h.om (fun k hk => hN.2.1.block k (h.om.lt k hk).2 (h.fm k hk).2),
    own_keep h.o1 (fun k hk => hN.2.1.block k (h.o1.lt k hk).2 (h.f1 k hk).2), own_keep h.o2 (fun k hk => hN.2.1.block k (h.o2.lt k hk).2 (h.f2 k hk).2),
    h.sl1, h.sl2, h.sm1, h.sm2, h.s12, fun k hk => ⟨(h.fl k hk).1, off_next hN (h.ol.lt k hk).2 (h.fl k hk).2⟩, fun k hk => ⟨(h.fm k hk).1, off_next hN (h.om.lt k hk).2 (h.fm k hk).2⟩,
    fun k hk => ⟨(h.f1 k hk).1, off_next hN (h.o1.lt k hk).2 (h.f1 k hk).2⟩, fun k hk => ⟨(h.f2 k hk).1, off_next hN (h.o2.lt k hk).2 (h.f2 k hk).2⟩⟩
set_option maxRecDepth 100000 in
theorem Wv.no (h : Wv B w0 w D M D2 M2 s t vl vm v1 v2 L R c1 c2) (hB : B ≤ w.heap.size) (hf : Fr No w w') : Wv B w0 w' D M D2 M2 s t vl vm v1 v2 L R c1 c2 := h.left hB (Nx.no h.two.a hf)
set_option maxRecDepth 100000 in
/-- The first list of errors turned to another one. -/
theorem Wv.turn1 (h : Wv B w0 w D M D2 M2 s t vl vm v1 v2 L R c1 c2) (hB : B ≤ w.heap.size) (ho : w'.ownsRow B 27 1 v' c'.length (evs c')) (hg : w.grownBy w' v1.ownBlock) (ha : v'.ownBlock = v1.ownBlock ∨ ∀ g, v'.ownBlock = some g → w.heap.size ≤ g) :
    Wv B w0 w' D M D2 M2 s t vl vm v' v2 L R c' c2 := by
  have hfr : Fr (fun k => v1.ownBlock = some k) w w' := Fr.grown hg (F := fun k => v1.ownBlock = some k) (fun k hk => hk)
  have hlt : ∀ k, v1.ownBlock = some k → k < w.heap.size := fun k hk => (h.o1.lt k hk).2
  refine ⟨⟨h.two.a.keep hfr (fun k hk e => (h.f1 k e).1 hk), h.two.b.keep hfr (fun k hk e => (h.f1 k e).2 hk), h.two.ap, h.two.fa, h.two.fb, h.two.bel.trans (hfr.below hB (fun k hk => (h.o1.lt k hk).1))⟩,
    h.ol.kept hg h.sl1.symm.ne, h.om.kept hg h.sm1.symm.ne, ho, h.o2.kept hg h.s12.ne, (h.sl1.symm.turn (fun g hg => (h.ol.lt g hg).2) ha).symm, h.sl2, (h.sm1.symm.turn (fun g hg => (h.om.lt g hg).2) ha).symm, h.sm2,
    h.s12.turn (fun g hg => (h.o2.lt g hg).2) ha, h.fl, h.fm, fun k hk => ?_, h.f2⟩
  rcases ha with e | e
  · exact h.f1 k (e ▸ hk)
  · have := e k hk
    exact ⟨fun hf => by have := h.two.a.foot_lt hf; omega, fun hf => by have := h.two.b.foot_lt hf; omega⟩
set_option maxRecDepth 100000 in
/-- The second list of errors turned to another one. -/
theorem Wv.turn2 (h : Wv B w0 w D M D2 M2 s t vl vm v1 v2 L R c1 c2) (hB : B ≤ w.heap.size) (ho : w'.ownsRow B 27 1 v' c'.length (evs c')) (hg : w.grownBy w' v2.ownBlock) (ha : v'.ownBlock = v2.ownBlock ∨ ∀ g, v'.ownBlock = some g → w.heap.size ≤ g) :
    Wv B w0 w' D M D2 M2 s t vl vm v1 v' L R c1 c' := by
  have hfr : Fr (fun k => v2.ownBlock = some k) w w' := Fr.grown hg (F := fun k => v2.ownBlock = some k) (fun k hk => hk)
  refine ⟨⟨h.two.a.keep hfr (fun k hk e => (h.f2 k e).1 hk), h.two.b.keep hfr (fun k hk e => (h.f2 k e).2 hk), h.two.ap, h.two.fa, h.two.fb, h.two.bel.trans (hfr.below hB (fun k hk => (h.o2.lt k hk).1))⟩,
    h.ol.kept hg h.sl2.symm.ne, h.om.kept hg h.sm2.symm.ne, h.o1.kept hg h.s12.symm.ne, ho, h.sl1, (h.sl2.symm.turn (fun g hg => (h.ol.lt g hg).2) ha).symm, h.sm1, (h.sm2.symm.turn (fun g hg => (h.om.lt g hg).2) ha).symm,
    (h.s12.symm.turn (fun g hg => (h.o1.lt g hg).2) ha).symm, h.fl, h.fm, h.f1, fun k hk => ?_⟩
  rcases ha with e | e
  · exact h.f2 k (e ▸ hk)
  · have := e k hk
    exact ⟨fun hf => by have := h.two.a.foot_lt hf; omega, fun hf => by have := h.two.b.foot_lt hf; omega⟩
set_option maxRecDepth 100000 in
theorem Wv.start {wa wb : World} (h : Two B w0 wa D M D2 M2 s t) (hB : B ≤ wa.heap.size) (hl : Ow wa wb vl L) (hm : Ow wb w vm R) : Wv B w0 w D M D2 M2 s t vl vm (.slice none 0 0) (.slice none 0 0) L R [] [] := by
  have hs := hl.fr.size
  have hfar : ∀ k, wa.heap.size ≤ k → ¬ foot D M s.fs k ∧ ¬ foot D2 M2 t.fs k := fun k hk => ⟨fun hf => by have := h.a.foot_lt hf; omega, fun hf => by have := h.b.foot_lt hf; omega⟩
  refine ⟨(h.no hB hl.fr).no (by omega) hm.fr, own_base (own_keep hl.o (fun k hk => hm.fr.block k (hl.o.lt k hk).2 (fun e => e))) hB, own_base hm.o (by omega), World.ownsRow_nil _ _ _ _, World.ownsRow_nil _ _ _ _,
    (fun g _ e => by cases e), (fun g _ e => by cases e), (fun g _ e => by cases e), (fun g _ e => by cases e), (fun g _ e => by cases e), fun k hk => hfar k (hl.o.lt k hk).1, fun k hk => hfar k (by have := (hm.o.lt k hk).1; omega), (fun k hk => by cases hk), (fun k hk => by cases hk)⟩
end
section
variable {B D M D2 M2 : Nat} {w0 wr : World} {s t : St} {vl vm v1 v2 : Value} {L R : List Cl} {c1 c2 : List Int}
set_option maxRecDepth 100000 in
/-- An error appended to the first list. -/
theorem wpList_append_e1 (w0 : World) (wr : World) {ops : Array Oper} {rest : List Oper} {o : Oper} {a : Act} {Q : Exit → Act → World → Prop} (hgd : o.guard = none) (s0 x0 : Operand)
    (ho : o.op = .call { callee := .builtin .append, args := #[s0, x0], argTypes := #[63, 63] })
    (h : Wv B w0 wr D M D2 M2 s t vl vm v1 v2 L R c1 c2) (hB : B ≤ wr.heap.size) (k : Nat) (hkl : c1.length = k) (hl : k ≤ 1000) (x : Int)
    (hs : a.eval s0 = v1) (hx : a.eval x0 = .slice (some ⟨wr.heap.size, 0, none⟩) 1 1)
    (hk : ∀ g cap w', Wv B w0 w' D M D2 M2 s t vl vm (.slice (some ⟨g, 0, none⟩) (k + 1) cap) v2 L R (c1 ++ [x]) c2 → wpList Try.prog ops Q rest (a.put o.dst (.slice (some ⟨g, 0, none⟩) (k + 1) cap)) w') :
    wpList Try.prog ops Q (o :: rest) a (wr.alloc (.cells #[.int .i64 x] 27)) := by
  subst hkl
  obtain ⟨i0, hi, hz0, hz1, hz2⟩ := info_parts info_en
  have hA := h.no hB (Fr.alloc No wr (.cells #[.int .i64 x] 27))
  have hb : B ≤ (wr.alloc (.cells #[.int .i64 x] 27)).heap.size := by rw [World.size_alloc]; omega
  refine wpList_append_lies _ hgd s0 x0 63 ho B 27 i0 _ 1 8 Try.underlying63 hi hz0 hz1 hz2 rfl (by omega) v1 c1.length (evs c1) hs hA.o1 ⟨wr.heap.size, 0, none⟩ 1 1 [.int .i64 x] hx rfl (fun j u hu => by
    rw [Addr.add_lit, Nat.zero_add, World.cell?_alloc_mark, List.getElem?_toArray]
    exact hu) (fun u hu => by simp at hu; subst hu; rfl) (by omega) (by unfold maxLen; omega) (by omega) hb _ rfl ?_
  intro g cap w' hown hg hat _
  refine hk g cap w' (hA.turn1 hb ?_ hg ?_)
  · have e : evs (c1 ++ [x]) = evs c1 ++ [.int .i64 x] := by simp [evs]
    rw [e, List.length_append]
    exact hown
  · rcases hat with e | e
    · left; rw [e]; rfl
    · right
      intro g' hg'
      injection hg' with hg'
      subst hg'
      exact Nat.le_of_eq e.symm
set_option maxRecDepth 100000 in
/-- An error appended to the second list. -/
theorem wpList_append_e2 (w0 : World) (wr : World) {ops : Array Oper} {rest : List Oper} {o : Oper} {a : Act} {Q : Exit → Act → World → Prop} (hgd : o.guard = none) (s0 x0 : Operand)
    (ho : o.op = .call { callee := .builtin .append, args := #[s0, x0], argTypes := #[63, 63] })
    (h : Wv B w0 wr D M D2 M2 s t vl vm v1 v2 L R c1 c2) (hB : B ≤ wr.heap.size) (k : Nat) (hkl : c2.length = k) (hl : k ≤ 1000) (x : Int)
    (hs : a.eval s0 = v2) (hx : a.eval x0 = .slice (some ⟨wr.heap.size, 0, none⟩) 1 1)
    (hk : ∀ g cap w', Wv B w0 w' D M D2 M2 s t vl vm v1 (.slice (some ⟨g, 0, none⟩) (k + 1) cap) L R c1 (c2 ++ [x]) → wpList Try.prog ops Q rest (a.put o.dst (.slice (some ⟨g, 0, none⟩) (k + 1) cap)) w') :
    wpList Try.prog ops Q (o :: rest) a (wr.alloc (.cells #[.int .i64 x] 27)) := by
  subst hkl
  obtain ⟨i0, hi, hz0, hz1, hz2⟩ := info_parts info_en
  have hA := h.no hB (Fr.alloc No wr (.cells #[.int .i64 x] 27))
  have hb : B ≤ (wr.alloc (.cells #[.int .i64 x] 27)).heap.size := by rw [World.size_alloc]; omega
  refine wpList_append_lies _ hgd s0 x0 63 ho B 27 i0 _ 1 8 Try.underlying63 hi hz0 hz1 hz2 rfl (by omega) v2 c2.length (evs c2) hs hA.o2 ⟨wr.heap.size, 0, none⟩ 1 1 [.int .i64 x] hx rfl (fun j u hu => by
    rw [Addr.add_lit, Nat.zero_add, World.cell?_alloc_mark, List.getElem?_toArray]
    exact hu) (fun u hu => by simp at hu; subst hu; rfl) (by omega) (by unfold maxLen; omega) (by omega) hb _ rfl ?_
  intro g cap w' hown hg hat _
  refine hk g cap w' (hA.turn2 hb ?_ hg ?_)
  · have e : evs (c2 ++ [x]) = evs c2 ++ [.int .i64 x] := by simp [evs]
    rw [e, List.length_append]
    exact hown
  · rcases hat with e | e
    · left; rw [e]; rfl
    · right
      intro g' hg'
      injection hg' with hg'
      subst hg'
      exact Nat.le_of_eq e.symm
end
/-- What six cells of a call of the law's own hold. -/
def SixAt (W : World) (G o : Nat) (x : Cl) : Prop :=
  W.cell? ⟨G, o, none⟩ = some (.int .u8 (x.wh : Int)) ∧ W.cell? ⟨G, o + 1, none⟩ = some (.string x.nm) ∧ W.cell? ⟨G, o + 2, none⟩ = some (.string x.to) ∧ W.cell? ⟨G, o + 3, none⟩ = some (.slice x.B.A x.B.n x.B.c) ∧
    W.cell? ⟨G, o + 4, none⟩ = some (.int .i64 x.n) ∧ W.cell? ⟨G, o + 5, none⟩ = some (.slice x.K x.kn x.kc)
set_option maxRecDepth 100000 in
theorem own_six {w : World} {B n G c : Nat} {L : List Cl} (h : w.ownsRow B 39 6 (.slice (some ⟨G, 0, none⟩) n c) n (clsCells L)) {i : Nat} {x : Cl} (hx : L[i]? = some x) : SixAt w G (i * 6) x := by
  have q : ∀ r v, r < 6 → (clCells x)[r]? = some v → w.cell? ⟨G, i * 6 + r, none⟩ = some v := fun r v hr hv => by
    have e := h.cells (g := G) rfl (i * 6 + r) v ((clsCells_at L i r hx hr).trans hv)
    rw [Addr.add_lit, Nat.zero_add] at e
    exact e
  exact ⟨q 0 _ (by omega) rfl, q 1 _ (by omega) rfl, q 2 _ (by omega) rfl, q 3 _ (by omega) rfl, q 4 _ (by omega) rfl, q 5 _ (by omega) rfl⟩
set_option maxRecDepth 100000 in
theorem own_err {w : World} {B n G c : Nat} {l : List Int} (h : w.ownsRow B 27 1 (.slice (some ⟨G, 0, none⟩) n c) n (evs l)) {i : Nat} {x : Int} (hx : l[i]? = some x) : w.cell? ⟨G, i, none⟩ = some (.int .i64 x) := by
  have e := h.cells (g := G) rfl i _ (evs_at hx)
  rw [Addr.add_lit, Nat.zero_add] at e
  exact e
set_option maxRecDepth 100000 in
theorem own_blk {w : World} {B n c m size : Nat} {A : Option Addr} {e : TypeId} {xs : List Value} (h : w.ownsRow B e size (.slice A n c) m xs) (hm : 0 < m) : n = m ∧ ∃ G, A = some ⟨G, 0, none⟩ := by
  rcases h.2 with ⟨e, e0⟩ | ⟨G, cap, cur, e, _⟩
  · omega
  · injection e with e1 e2 e3
    exact ⟨e2, G, e1⟩
set_option maxRecDepth 100000 in
theorem own_slice {w : World} {B m size : Nat} {v : Value} {e : TypeId} {xs : List Value} (h : w.ownsRow B e size v m xs) : ∃ A c, v = .slice A m c := by
  rcases h.2 with ⟨rfl, e0⟩ | ⟨G, cap, cur, rfl, _⟩
  · exact ⟨none, 0, by rw [e0]⟩
  · exact ⟨_, _, rfl⟩
set_option maxRecDepth 100000 in
theorem same_maps {s t : St} (e : s.ab.fs = t.ab.fs) : (decide (s.fs.map (·.nm) = t.fs.map (·.nm)) && (decide (s.fs.map (·.bs) = t.fs.map (·.bs)) && decide (s.fs.map (·.fm) = t.fs.map (·.fm)))) = true := by
  have e' : s.fs.map Fl.ab = t.fs.map Fl.ab := e
  have e2 := congrArg (List.map Af.nm) e'
  have e3 := congrArg (List.map Af.bs) e'
  have e4 := congrArg (List.map Af.fm) e'
  rw [List.map_map, List.map_map] at e2 e3 e4
  rw [decide_eq_true (show s.fs.map (·.nm) = t.fs.map (·.nm) from e2), decide_eq_true (show s.fs.map (·.bs) = t.fs.map (·.bs) from e3), decide_eq_true (show s.fs.map (·.fm) = t.fs.map (·.fm) from e4)]
  rfl
set_option maxRecDepth 100000 in
theorem Sho.stay {B1 B n : Nat} {w w' : World} {v1 v2 v3 : Value} {ns bs : List (List UInt8)} {es : List Nat} (h : Sho B1 B w v1 v2 v3 n ns bs es) (hf : Fr No w w') : Sho B1 B w' v1 v2 v3 n ns bs es :=
  ⟨own_keep h.o1 (fun k hk => hf.block k (h.o1.lt k hk).2 (fun e => e)), own_keep h.o2 (fun k hk => hf.block k (h.o2.lt k hk).2 (fun e => e)), own_keep h.o3 (fun k hk => hf.block k (h.o3.lt k hk).2 (fun e => e))⟩
end Go.Proofs.Ytpffgkflebbejaa

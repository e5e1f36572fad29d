/-
  Three rows of the call's own, apart from one another: bytes, things, ends. No statement of the seat is proved here.
-/
import Derived.Test.YtbiglickijmmhaaDoorThU
import Derived.Test.YtbiglickijmmhaaDoorThG
namespace Go.Proofs.YtbiglickijmmhaaDoor
open Go.RowKit

set_option maxRecDepth 100000 in
theorem info_th : (Tryd.prog.info? 45).map (fun i => (i.zero, i.size, i.bytes)) = some (some (.agg #[.int .u8 0, .int .u64 0, .slice none 0 0]), 3, 40) := by kernel_rfl
set_option maxRecDepth 100000 in
theorem info_int : (Tryd.prog.info? 3).map (fun i => (i.zero, i.size, i.bytes)) = some (some (.int .i64 0), 1, 8) := by kernel_rfl
def thCells (t : Th) : List Value := [.int .u8 (t.K : Int), .int .u64 (t.N : Int), .slice t.A t.n t.c]
def thsCells (l : List Th) : List Value := l.flatMap thCells
theorem thsCells_length (l : List Th) : (thsCells l).length = l.length * 3 := by
  induction l with
  | nil => rfl
  | cons t l ih => 
    have e : thsCells (t :: l) = thCells t ++ thsCells l := rfl
    rw [e, List.length_append, ih, show (thCells t).length = 3 from rfl, List.length_cons]
    omega
theorem thsCells_append (l m : List Th) : thsCells (l ++ m) = thsCells l ++ thsCells m := by simp [thsCells]
theorem thsCells_at (l : List Th) (j r : Nat) (hj : j < l.length) (hr : r < 3) : (thsCells l)[3 * j + r]? = (thCells l[j])[r]? := by
  induction l generalizing j with
  | nil => simp at hj
  | cons t l ih =>
    have e : thsCells (t :: l) = thCells t ++ thsCells l := rfl
    have h3 : (thCells t).length = 3 := rfl
    rw [e]
    cases j with
    | zero => rw [List.getElem?_append_left (by omega)]; simp
    | succ j =>
      rw [List.getElem?_append_right (by omega), h3, show 3 * (j + 1) + r - 3 = 3 * j + r by omega, ih j (by simpa using hj)]
      rfl
theorem thCells_one (t : Th) : ∀ u ∈ thCells t, u.oneCell' = true := by
  intro u hu
  simp only [thCells, List.mem_cons, List.not_mem_nil, or_false] at hu
  rcases hu with rfl | rfl | rfl <;> rfl
def ivs (l : List Nat) : List Value := l.map fun (n : Nat) => Value.int .i64 (n : Int)
theorem ivs_length (l : List Nat) : (ivs l).length = l.length := by simp [ivs]

/-- Two values' rows lie in blocks of their own. -/
def Sep (a b : Value) : Prop := ∀ g, a.ownBlock = some g → b.ownBlock ≠ some g
theorem Sep.symm {a b : Value} (h : Sep a b) : Sep b a := fun g hb ha => h g ha hb
theorem Sep.turn {a a' b : Value} {w : World} (h : Sep a b) (hb : ∀ g, b.ownBlock = some g → g < w.heap.size) (ha : a'.ownBlock = a.ownBlock ∨ ∀ g, a'.ownBlock = some g → w.heap.size ≤ g) : Sep a' b := fun g hg e => by
  rcases ha with ha | ha
  · exact h g (ha ▸ hg) e
  · have := ha g hg
    have := hb g e
    omega
theorem Sep.ne {a b : Value} (h : Sep a b) : b.ownBlock = none ∨ b.ownBlock ≠ a.ownBlock := by
  cases hb : b.ownBlock with
  | none => exact .inl rfl
  | some g => exact .inr (fun e => h g e.symm hb)

structure P3 (w0 : World) (B : Nat) (wr : World) (v7 v8 v9 : Value) (bs : List UInt8) (al : List Th) (es : List Nat) : Prop where
  o7 : wr.ownsRow B 5 1 v7 bs.length (bvs bs)
  o8 : wr.ownsRow B 45 3 v8 al.length (thsCells al)
  o9 : wr.ownsRow B 3 1 v9 es.length (ivs es)
  s78 : Sep v7 v8
  s79 : Sep v7 v9
  s89 : Sep v8 v9
  below : Below B w0 wr
section
variable {w0 wr w' : World} {B : Nat} {v7 v8 v9 v' : Value} {bs bs' : List UInt8} {al al' : List Th} {es es' : List Nat}
theorem P3.alloc (h : P3 w0 B wr v7 v8 v9 bs al es) (hB : B ≤ wr.heap.size) (o : Obj) : P3 w0 B (wr.alloc o) v7 v8 v9 bs al es :=
  ⟨h.o7.alloc o, h.o8.alloc o, h.o9.alloc o, h.s78, h.s79, h.s89, h.below.alloc hB o⟩
theorem P3.turn7 (h : P3 w0 B wr v7 v8 v9 bs al es) (hB : B ≤ wr.heap.size) (ho : w'.ownsRow B 5 1 v' bs'.length (bvs bs')) (hg : wr.grownBy w' v7.ownBlock) (ha : v'.ownBlock = v7.ownBlock ∨ ∀ g, v'.ownBlock = some g → wr.heap.size ≤ g) :
    P3 w0 B w' v' v8 v9 bs' al es :=
  ⟨ho, h.o8.kept hg h.s78.ne, h.o9.kept hg h.s79.ne, h.s78.turn (fun g hg => (h.o8.lt g hg).2) ha, h.s79.turn (fun g hg => (h.o9.lt g hg).2) ha, h.s89, h.below.grown hg hB (fun g hg => (h.o7.lt g hg).1)⟩
theorem P3.turn8 (h : P3 w0 B wr v7 v8 v9 bs al es) (hB : B ≤ wr.heap.size) (ho : w'.ownsRow B 45 3 v' al'.length (thsCells al')) (hg : wr.grownBy w' v8.ownBlock) (ha : v'.ownBlock = v8.ownBlock ∨ ∀ g, v'.ownBlock = some g → wr.heap.size ≤ g) :
    P3 w0 B w' v7 v' v9 bs al' es :=
  ⟨h.o7.kept hg h.s78.symm.ne, ho, h.o9.kept hg h.s89.ne, (h.s78.symm.turn (fun g hg => (h.o7.lt g hg).2) ha).symm, h.s79, h.s89.turn (fun g hg => (h.o9.lt g hg).2) ha, h.below.grown hg hB (fun g hg => (h.o8.lt g hg).1)⟩
theorem P3.turn9 (h : P3 w0 B wr v7 v8 v9 bs al es) (hB : B ≤ wr.heap.size) (ho : w'.ownsRow B 3 1 v' es'.length (ivs es')) (hg : wr.grownBy w' v9.ownBlock) (ha : v'.ownBlock = v9.ownBlock ∨ ∀ g, v'.ownBlock = some g → wr.heap.size ≤ g) :
    P3 w0 B w' v7 v8 v' bs al es' :=
  ⟨h.o7.kept hg h.s79.symm.ne, h.o8.kept hg h.s89.symm.ne, ho, h.s78, (h.s79.symm.turn (fun g hg => (h.o7.lt g hg).2) ha).symm, (h.s89.symm.turn (fun g hg => (h.o8.lt g hg).2) ha).symm, h.below.grown hg hB (fun g hg => (h.o9.lt g hg).1)⟩
end

set_option maxRecDepth 100000 in
/-- A thing appended, of the three rows the second. -/
theorem wpList_append_th (w0 : World) (wr : World) {ops : Array Oper} {rest : List Oper} {o : Oper} {a : Act} {Q : Exit → Act → World → Prop} (hgd : o.guard = none) (s x : Operand)
    (ho : o.op = .call { callee := .builtin .append, args := #[s, x], argTypes := #[41, 41] })
    (B : Nat) (v7 v8 v9 : Value) (bs : List UInt8) (al : List Th) (es : List Nat) (h : P3 w0 B wr v7 v8 v9 bs al es) (hB : B ≤ wr.heap.size) (hal : al.length ≤ 1000) (t : Th) (cs : Array Value) (hcs : cs = (thCells t).toArray)
    (hs : a.eval s = v8) (hx : a.eval x = .slice (some ⟨wr.heap.size, 0, none⟩) 1 1)
    (hk : ∀ g cap w', P3 w0 B w' v7 (.slice (some ⟨g, 0, none⟩) (al.length + 1) cap) v9 bs (al ++ [t]) es → wpList Tryd.prog ops Q rest (a.put o.dst (.slice (some ⟨g, 0, none⟩) (al.length + 1) cap)) w') :
    wpList Tryd.prog ops Q (o :: rest) a (wr.alloc (.cells cs 45)) := by
  obtain ⟨i0, hi, hz0, hz1, hz2⟩ := info_parts info_th
  subst hcs
  have hA := h.alloc hB (.cells (thCells t).toArray 45)
  have hnew : ∀ j u, (thCells t)[j]? = some u → (wr.alloc (.cells (thCells t).toArray 45)).cell? ((⟨wr.heap.size, 0, none⟩ : Addr).add j) = some u := fun j u hu => by
    rw [Addr.add_lit, Nat.zero_add, World.cell?_alloc_mark, List.getElem?_toArray]
    exact hu
  refine wpList_append_lies _ hgd s x 41 ho B 45 i0 _ 3 40 Tryd.underlying41 hi hz0 hz1 hz2 rfl (by omega) v8 al.length (thsCells al) hs hA.o8 ⟨wr.heap.size, 0, none⟩ 1 1 (thCells t) hx rfl hnew (thCells_one t) (by omega) (by unfold maxLen; omega) (by omega) (by rw [World.size_alloc]; omega) _ rfl ?_
  intro g cap w' hown hg hat _
  refine hk g cap w' (hA.turn8 (by rw [World.size_alloc]; omega) ?_ hg ?_)
  · rw [thsCells_append, List.length_append]
    have e : thsCells [t] = thCells t := by simp [thsCells]
    rw [e]
    exact hown
  · rcases hat with e | e
    · left; rw [e]; rfl
    · right
      intro g' hg'
      injection hg' with hg'
      subst hg'
      exact Nat.le_of_eq e.symm
set_option maxRecDepth 100000 in
/-- A number appended, of the three rows the third. -/
theorem wpList_append_end (w0 : World) (wr : World) {ops : Array Oper} {rest : List Oper} {o : Oper} {a : Act} {Q : Exit → Act → World → Prop} (hgd : o.guard = none) (s x : Operand)
    (ho : o.op = .call { callee := .builtin .append, args := #[s, x], argTypes := #[43, 43] })
    (B : Nat) (v7 v8 v9 : Value) (bs : List UInt8) (al : List Th) (es : List Nat) (h : P3 w0 B wr v7 v8 v9 bs al es) (hB : B ≤ wr.heap.size) (hal : es.length ≤ 1000) (n : Nat)
    (hs : a.eval s = v9) (hx : a.eval x = .slice (some ⟨wr.heap.size, 0, none⟩) 1 1)
    (hk : ∀ g cap w', P3 w0 B w' v7 v8 (.slice (some ⟨g, 0, none⟩) (es.length + 1) cap) bs al (es ++ [n]) → wpList Tryd.prog ops Q rest (a.put o.dst (.slice (some ⟨g, 0, none⟩) (es.length + 1) cap)) w') :
    wpList Tryd.prog ops Q (o :: rest) a (wr.alloc (.cells #[.int .i64 (n : Int)] 3)) := by
  obtain ⟨i0, hi, hz0, hz1, hz2⟩ := info_parts info_int
  have hA := h.alloc hB (.cells #[.int .i64 (n : Int)] 3)
  refine wpList_append_lies _ hgd s x 43 ho B 3 i0 _ 1 8 Tryd.underlying43 hi hz0 hz1 hz2 rfl (by omega) v9 es.length (ivs es) hs hA.o9 ⟨wr.heap.size, 0, none⟩ 1 1 [.int .i64 (n : Int)] hx rfl (fun j u hu => by
    rw [Addr.add_lit, Nat.zero_add, World.cell?_alloc_mark, List.getElem?_toArray]
    exact hu) (fun u hu => by simp at hu; subst hu; rfl) (by omega) (by unfold maxLen; omega) (by omega) (by rw [World.size_alloc]; omega) _ rfl ?_
  intro g cap w' hown hg hat _
  refine hk g cap w' (hA.turn9 (by rw [World.size_alloc]; omega) ?_ hg ?_)
  · have e : ivs (es ++ [n]) = ivs es ++ [.int .i64 (n : Int)] := by simp [ivs]
    rw [e, List.length_append]
    exact hown
  · rcases hat with e | e
    · left; rw [e]; rfl
    · right
      intro g' hg'
      injection hg' with hg'
      subst hg'
      exact Nat.le_of_eq e.symm
end Go.Proofs.YtbiglickijmmhaaDoor

/-
  A shot of all files: three rows of the call's own. No statement of the seat is proved here.
-/
import Derived.Test.YtpffgkflebbejaaDkY
import Derived.Deep.AppendLies
namespace Go.Proofs.Ytpffgkflebbejaa
open Go.RowKit Go.Maps

set_option maxRecDepth 100000 in
theorem info_str : (Try.prog.info? 9).map (fun i => (i.zero, i.size, i.bytes)) = some (some (.string ⟨#[]⟩), 1, 16) := by kernel_rfl
set_option maxRecDepth 100000 in
theorem info_int : (Try.prog.info? 3).map (fun i => (i.zero, i.size, i.bytes)) = some (some (.int .i64 0), 1, 8) := by kernel_rfl
def ivs (l : List Nat) : List Value := l.map fun (n : Nat) => Value.int .i64 (n : Int)
def svs (l : List (List UInt8)) : List Value := l.map Proofs.encStr
theorem ivs_length (l : List Nat) : (ivs l).length = l.length := by simp [ivs]
theorem szL (l : List UInt8) (h : l.length ≤ 1000) : (⟨l.toArray⟩ : ByteArray).size ≤ maxLen := by
  have e : (⟨l.toArray⟩ : ByteArray).size = l.length := by show l.toArray.size = _; simp
  unfold maxLen
  omega
theorem svs_length (l : List (List UInt8)) : (svs l).length = l.length := by simp [svs]
theorem Sep.turn {a a' b : Value} {w : World} (h : Sep a b) (hb : ∀ g, b.ownBlock = some g → g < w.heap.size) (ha : a'.ownBlock = a.ownBlock ∨ ∀ g, a'.ownBlock = some g → w.heap.size ≤ g) : Sep a' b := fun g hg e => by
  rcases ha with ha | ha
  · exact h g (ha ▸ hg) e
  · have := ha g hg
    have := hb g e
    omega
theorem Sep.ne {a b : Value} (h : Sep a b) : b.ownBlock = none ∨ b.ownBlock ≠ a.ownBlock := by
  cases hb : b.ownBlock with
  | none => exact .inl rfl
  | some g => exact .inr (fun e => h g e.symm hb)
/-- A row of another kind lies in another block. -/
theorem own_ne {w : World} {base n size : Nat} {e t : TypeId} {v : Value} {xs : List Value} (h : w.ownsRow base e size v n xs) {T : Nat} {cs : Array Value} {fr : Nat × Nat} (hT : w.heap[T]? = some (.cells cs t fr)) (hne : t ≠ e) :
    ∀ g, v.ownBlock = some g → g ≠ T := by
  rintro g hg rfl
  rcases h.2 with ⟨rfl, _⟩ | ⟨k, cap, cur, rfl, _, hk, _⟩
  · cases hg
  · have : k = g := by injection hg
    subst this
    rw [hT] at hk
    exact hne (Obj.cells.inj (Option.some.inj hk)).2.1

/-- A shot, as it lies when it is told. -/
structure Sho (B1 B : Nat) (w : World) (v1 v2 v3 : Value) (n : Nat) (ns bs : List (List UInt8)) (es : List Nat) : Prop where
  o1 : w.ownsRow B1 9 1 v1 n (svs ns)
  o2 : w.ownsRow B 9 1 v2 n (svs bs)
  o3 : w.ownsRow B 3 1 v3 n (ivs es)

/-- A shot that is being taken. -/
structure Sht (B1 : Nat) (w0 wr : World) (P T : Nat) (v1 v2 v3 : Value) (n : Nat) (ns bs : List (List UInt8)) (es : List Nat) : Prop where
  blk : wr.heap[T]? = some (.cells #[v1, v2, v3] 33 (0, 0))
  res : wr.heap[P]? = some (.cells #[.slice none 0 0, .slice none 0 0, .slice none 0 0] 33 (0, 0))
  ne : P ≠ T
  base : w0.heap.size ≤ P ∧ w0.heap.size ≤ T
  o1 : wr.ownsRow B1 9 1 v1 n (svs ns)
  o2 : wr.ownsRow w0.heap.size 9 1 v2 bs.length (svs bs)
  o3 : wr.ownsRow w0.heap.size 3 1 v3 es.length (ivs es)
  s12 : Sep v1 v2
  s13 : Sep v1 v3
  s23 : Sep v2 v3
  fr : Fr No w0 wr
section
variable {w0 wr w' : World} {B1 P T n : Nat} {v1 v2 v3 v' : Value} {ns bs bs' : List (List UInt8)} {es es' : List Nat}
set_option maxRecDepth 100000 in
theorem Sht.no (h : Sht B1 w0 wr P T v1 v2 v3 n ns bs es) (hf : Fr No wr w') : Sht B1 w0 w' P T v1 v2 v3 n ns bs es :=
  ⟨(hf.block T (Array.getElem?_eq_some_iff.1 h.blk).1 (fun e => e)).trans h.blk, (hf.block P (Array.getElem?_eq_some_iff.1 h.res).1 (fun e => e)).trans h.res, h.ne, h.base,
    own_keep h.o1 (fun k hk => hf.block k (h.o1.lt k hk).2 (fun e => e)), own_keep h.o2 (fun k hk => hf.block k (h.o2.lt k hk).2 (fun e => e)), own_keep h.o3 (fun k hk => hf.block k (h.o3.lt k hk).2 (fun e => e)),
    h.s12, h.s13, h.s23, h.fr.no_trans hf⟩
theorem Sht.lt (h : Sht B1 w0 wr P T v1 v2 v3 n ns bs es) : P < wr.heap.size ∧ T < wr.heap.size := ⟨(Array.getElem?_eq_some_iff.1 h.res).1, (Array.getElem?_eq_some_iff.1 h.blk).1⟩
theorem Sht.c1 (h : Sht B1 w0 wr P T v1 v2 v3 n ns bs es) : wr.cell? ⟨T, 0, none⟩ = some v1 := by unfold World.cell?; rw [h.blk]; rfl
theorem Sht.c2 (h : Sht B1 w0 wr P T v1 v2 v3 n ns bs es) : wr.cell? ⟨T, 1, none⟩ = some v2 := by unfold World.cell?; rw [h.blk]; rfl
theorem Sht.c3 (h : Sht B1 w0 wr P T v1 v2 v3 n ns bs es) : wr.cell? ⟨T, 2, none⟩ = some v3 := by unfold World.cell?; rw [h.blk]; rfl
theorem Sht.p (h : Sht B1 w0 wr P T v1 v2 v3 n ns bs es) : wr.cell? ⟨P, 0, none⟩ = some (.slice none 0 0) ∧ wr.cell? ⟨P, 1, none⟩ = some (.slice none 0 0) ∧ wr.cell? ⟨P, 2, none⟩ = some (.slice none 0 0) := by
  unfold World.cell?
  rw [h.res]
  exact ⟨rfl, rfl, rfl⟩
theorem Sht.zT (h : Sht B1 w0 wr P T v1 v2 v3 n ns bs es) (k : Nat) : wr.frozen? ⟨T, k, none⟩ = false := by unfold World.frozen?; rw [h.blk]; simp
theorem Sht.zP (h : Sht B1 w0 wr P T v1 v2 v3 n ns bs es) (k : Nat) : wr.frozen? ⟨P, k, none⟩ = false := by unfold World.frozen?; rw [h.res]; simp
set_option maxRecDepth 100000 in
theorem Sht.turn2 (h : Sht B1 w0 wr P T v1 v2 v3 n ns bs es) (ho : w'.ownsRow w0.heap.size 9 1 v' bs'.length (svs bs')) (hg : wr.grownBy w' v2.ownBlock) (ha : v'.ownBlock = v2.ownBlock ∨ ∀ g, v'.ownBlock = some g → wr.heap.size ≤ g) :
    Sht B1 w0 (w'.setCell ⟨T, 1, none⟩ v') P T v1 v' v3 n ns bs' es ∧ w'.frozen? ⟨T, 1, none⟩ = false ∧ w'.cell? ⟨T, 1, none⟩ = some v2 := by
  have hT2 := own_ne h.o2 h.blk (by decide)
  have hP2 := own_ne h.o2 h.res (by decide)
  have hbT : w'.heap[T]? = some (.cells #[v1, v2, v3] 33 (0, 0)) := (hg.block T h.lt.2 (fun e => hT2 T e.symm rfl)).trans h.blk
  have hbP : w'.heap[P]? = _ := (hg.block P h.lt.1 (fun e => hP2 P e.symm rfl)).trans h.res
  have hk : ∀ k, k ≠ T → (w'.setCell ⟨T, 1, none⟩ v').heap[k]? = w'.heap[k]? := fun k hk => Below.heap_setCell _ _ _ _ hk
  refine ⟨⟨heap_cells_set w' T 1 _ _ v' hbT, (hk P h.ne).trans hbP, h.ne, h.base, ?_, ?_, ?_, ?_, h.s13, ?_, ?_⟩, by unfold World.frozen?; rw [hbT]; simp, by unfold World.cell?; rw [hbT]; rfl⟩
  · exact own_keep (h.o1.kept hg h.s12.symm.ne) (fun k hk' => hk k (own_ne h.o1 h.blk (by decide) k hk'))
  · exact own_keep ho (fun k hk' => hk k (own_ne ho hbT (by decide) k hk'))
  · exact own_keep (h.o3.kept hg h.s23.ne) (fun k hk' => hk k (own_ne h.o3 h.blk (by decide) k hk'))
  · exact (h.s12.symm.turn (fun g hg => (h.o1.lt g hg).2) ha).symm
  · exact h.s23.turn (fun g hg => (h.o3.lt g hg).2) ha
  · have h1 : Fr No w0 w' := h.fr.trans (Fr.grown hg (F := fun k => w0.heap.size ≤ k) (fun k hk => (h.o2.lt k hk).1)) (fun i hi e => by omega)
    exact h1.trans (Fr.setCell w' ⟨T, 1, none⟩ v' (F := fun k => k = T) rfl) (fun i hi e => by have := h.base.2; omega)
set_option maxRecDepth 100000 in
theorem Sht.turn3 (h : Sht B1 w0 wr P T v1 v2 v3 n ns bs es) (ho : w'.ownsRow w0.heap.size 3 1 v' es'.length (ivs es')) (hg : wr.grownBy w' v3.ownBlock) (ha : v'.ownBlock = v3.ownBlock ∨ ∀ g, v'.ownBlock = some g → wr.heap.size ≤ g) :
    Sht B1 w0 (w'.setCell ⟨T, 2, none⟩ v') P T v1 v2 v' n ns bs es' ∧ w'.frozen? ⟨T, 2, none⟩ = false ∧ w'.cell? ⟨T, 2, none⟩ = some v3 := by
  have hT2 := own_ne h.o3 h.blk (by decide)
  have hP2 := own_ne h.o3 h.res (by decide)
  have hbT : w'.heap[T]? = some (.cells #[v1, v2, v3] 33 (0, 0)) := (hg.block T h.lt.2 (fun e => hT2 T e.symm rfl)).trans h.blk
  have hbP : w'.heap[P]? = _ := (hg.block P h.lt.1 (fun e => hP2 P e.symm rfl)).trans h.res
  have hk : ∀ k, k ≠ T → (w'.setCell ⟨T, 2, none⟩ v').heap[k]? = w'.heap[k]? := fun k hk => Below.heap_setCell _ _ _ _ hk
  refine ⟨⟨heap_cells_set w' T 2 _ _ v' hbT, (hk P h.ne).trans hbP, h.ne, h.base, ?_, ?_, ?_, h.s12, ?_, ?_, ?_⟩, by unfold World.frozen?; rw [hbT]; simp, by unfold World.cell?; rw [hbT]; rfl⟩
  · exact own_keep (h.o1.kept hg h.s13.symm.ne) (fun k hk' => hk k (own_ne h.o1 h.blk (by decide) k hk'))
  · exact own_keep (h.o2.kept hg h.s23.symm.ne) (fun k hk' => hk k (own_ne h.o2 h.blk (by decide) k hk'))
  · exact own_keep ho (fun k hk' => hk k (own_ne ho hbT (by decide) k hk'))
  · exact (h.s13.symm.turn (fun g hg => (h.o1.lt g hg).2) ha).symm
  · exact (h.s23.symm.turn (fun g hg => (h.o2.lt g hg).2) ha).symm
  · have h1 : Fr No w0 w' := h.fr.trans (Fr.grown hg (F := fun k => w0.heap.size ≤ k) (fun k hk => (h.o3.lt k hk).1)) (fun i hi e => by omega)
    exact h1.trans (Fr.setCell w' ⟨T, 2, none⟩ v' (F := fun k => k = T) rfl) (fun i hi e => by have := h.base.2; omega)
set_option maxRecDepth 100000 in
theorem Sht.done (h : Sht B1 w0 wr P T v1 v2 v3 n ns bs es) (hb : bs.length = n) (he : es.length = n) (a b c : Value) :
    Sho B1 w0.heap.size (((wr.setCell ⟨P, 0, none⟩ a).setCell ⟨P, 1, none⟩ b).setCell ⟨P, 2, none⟩ c) v1 v2 v3 n ns bs es ∧ Fr No w0 (((wr.setCell ⟨P, 0, none⟩ a).setCell ⟨P, 1, none⟩ b).setCell ⟨P, 2, none⟩ c) := by
  have hf : Fr (fun k => k = P) wr (((wr.setCell ⟨P, 0, none⟩ a).setCell ⟨P, 1, none⟩ b).setCell ⟨P, 2, none⟩ c) :=
    ((Fr.setCell wr ⟨P, 0, none⟩ a (F := fun k => k = P) rfl).trans (Fr.setCell _ ⟨P, 1, none⟩ b (F := fun k => k = P) rfl) (fun _ _ e => e)).trans (Fr.setCell _ ⟨P, 2, none⟩ c (F := fun k => k = P) rfl) (fun _ _ e => e)
  have o2 := h.o2
  have o3 := h.o3
  rw [hb] at o2
  rw [he] at o3
  exact ⟨⟨own_keep h.o1 (fun k hk => hf.block k (h.o1.lt k hk).2 (own_ne h.o1 h.res (by decide) k hk)), own_keep o2 (fun k hk => hf.block k (o2.lt k hk).2 (own_ne o2 h.res (by decide) k hk)), own_keep o3 (fun k hk => hf.block k (o3.lt k hk).2 (own_ne o3 h.res (by decide) k hk))⟩,
    h.fr.trans hf (fun i hi e => by have := h.base.1; omega)⟩
end
set_option maxRecDepth 100000 in
/-- A file's bytes, appended. -/
theorem wpList_append_sho (w0 : World) (wr : World) {ops : Array Oper} {rest : List Oper} {o : Oper} {a : Act} {Q : Exit → Act → World → Prop} (hgd : o.guard = none) (s x : Operand)
    (ho : o.op = .call { callee := .builtin .append, args := #[s, x], argTypes := #[31, 31] })
    {B1 P T n : Nat} {v1 v2 v3 : Value} {ns bs : List (List UInt8)} {es : List Nat} (h : Sht B1 w0 wr P T v1 v2 v3 n ns bs es) (k : Nat) (hkl : bs.length = k) (hl : k ≤ 1000) (l : List UInt8)
    (hs : a.eval s = v2) (hx : a.eval x = .slice (some ⟨wr.heap.size, 0, none⟩) 1 1)
    (hk : ∀ g cap v' w', v' = .slice (some ⟨g, 0, none⟩) (k + 1) cap → Sht B1 w0 (w'.setCell ⟨T, 1, none⟩ v') P T v1 v' v3 n ns (bs ++ [l]) es → w'.frozen? ⟨T, 1, none⟩ = false → w'.cell? ⟨T, 1, none⟩ = some v2 → wpList Try.prog ops Q rest (a.put o.dst v') w') :
    wpList Try.prog ops Q (o :: rest) a (wr.alloc (.cells #[.string ⟨l.toArray⟩] 9)) := by
  subst hkl
  obtain ⟨i0, hi, hz0, hz1, hz2⟩ := info_parts info_str
  have hA := h.no (Fr.alloc No wr (.cells #[.string ⟨l.toArray⟩] 9))
  have hb : w0.heap.size ≤ (wr.alloc (.cells #[.string ⟨l.toArray⟩] 9)).heap.size := hA.fr.size
  refine wpList_append_lies _ hgd s x 31 ho w0.heap.size 9 i0 _ 1 16 Try.underlying31 hi hz0 hz1 hz2 rfl (by omega) v2 bs.length (svs bs) hs hA.o2 ⟨wr.heap.size, 0, none⟩ 1 1 [.string ⟨l.toArray⟩] hx rfl (fun j u hu => by
    rw [Addr.add_lit, Nat.zero_add, World.cell?_alloc_mark, List.getElem?_toArray]
    exact hu) (fun u hu => by simp at hu; subst hu; rfl) (by omega) (by unfold maxLen; omega) (by omega) hb _ rfl ?_
  intro g cap w' hown hg hat _
  have hq := hA.turn2 (bs' := bs ++ [l]) (v' := .slice (some ⟨g, 0, none⟩) (bs.length + 1) cap) (w' := w') ?_ hg ?_
  · exact hk _ _ _ w' rfl hq.1 hq.2.1 hq.2.2
  · have e : svs (bs ++ [l]) = svs bs ++ [.string ⟨l.toArray⟩] := by simp [svs]
    rw [e, List.length_append]
    exact hown
  · rcases hat with e | e
    · left; rw [e]; rfl
    · right
      intro g' hg'
      injection hg' with hg'
      subst hg'
      exact Nat.le_of_eq e.symm
set_option maxRecDepth 100000 in
/-- The same of a text, at a step of a region that draws its order. -/
theorem step_append_sho (w0 : World) (wx : World) {ops : Array Oper} {o : Oper} {a : Act} {K : Act → World → Prop} {Q : Exit → Act → World → Prop} {E : Prop} (hgd : o.guard = none) (s x : Operand)
    (ho : o.op = .call { callee := .builtin .append, args := #[s, x], argTypes := #[31, 31] })
    {B1 P T n : Nat} {v1 v2 v3 : Value} {ns bs : List (List UInt8)} {es : List Nat} (hA : Sht B1 w0 wx P T v1 v2 v3 n ns bs es) (k : Nat) (hkl : bs.length = k) (hl : k ≤ 1000) (l : List UInt8) (tx : ByteArray) (htx : ⟨l.toArray⟩ = tx)
    (H : Nat) (hH : wx.cell? ⟨H, 0, none⟩ = some (.string tx)) (hs : a.eval s = v2) (hx : a.eval x = .slice (some ⟨H, 0, none⟩) 1 1)
    (hk : ∀ g cap v' w', v' = .slice (some ⟨g, 0, none⟩) (k + 1) cap → Sht B1 w0 (w'.setCell ⟨T, 1, none⟩ v') P T v1 v' v3 n ns (bs ++ [l]) es → w'.frozen? ⟨T, 1, none⟩ = false → w'.cell? ⟨T, 1, none⟩ = some v2 → K (a.put o.dst v') w') :
    (if Region.wanted o (yielded ops a.tmps) = true then Oper.wp Try.prog o a wx K Q else E) := by
  subst htx
  subst hkl
  obtain ⟨i0, hi, hz0, hz1, hz2⟩ := info_parts info_str
  have hb : w0.heap.size ≤ wx.heap.size := hA.fr.size
  refine step_append_lies _ hgd s x 31 ho w0.heap.size 9 i0 _ 1 16 Try.underlying31 hi hz0 hz1 hz2 rfl (by omega) v2 bs.length (svs bs) hs hA.o2 ⟨H, 0, none⟩ 1 1 [.string ⟨l.toArray⟩] hx rfl (fun j u hu => by
    rcases j with _ | j
    · rw [Addr.add_lit, Nat.zero_add]
      simp at hu
      subst hu
      exact hH
    · simp at hu) (fun u hu => by simp at hu; subst hu; rfl) (by omega) (by unfold maxLen; omega) (by omega) hb _ rfl ?_
  intro g cap w' hown hg hat _
  have hq := hA.turn2 (bs' := bs ++ [l]) (v' := .slice (some ⟨g, 0, none⟩) (bs.length + 1) cap) (w' := w') ?_ hg ?_
  · exact hk _ _ _ w' rfl hq.1 hq.2.1 hq.2.2
  · have e : svs (bs ++ [l]) = svs bs ++ [.string ⟨l.toArray⟩] := by simp [svs]
    rw [e, List.length_append]
    exact hown
  · rcases hat with e | e
    · left; rw [e]; rfl
    · right
      intro g' hg'
      injection hg' with hg'
      subst hg'
      exact Nat.le_of_eq e.symm
set_option maxRecDepth 100000 in
/-- How many bytes of a file are firm, appended. -/
theorem wpList_append_fir (w0 : World) (wr : World) {ops : Array Oper} {rest : List Oper} {o : Oper} {a : Act} {Q : Exit → Act → World → Prop} (hgd : o.guard = none) (s x : Operand)
    (ho : o.op = .call { callee := .builtin .append, args := #[s, x], argTypes := #[24, 24] })
    {B1 P T n : Nat} {v1 v2 v3 : Value} {ns bs : List (List UInt8)} {es : List Nat} (h : Sht B1 w0 wr P T v1 v2 v3 n ns bs es) (k : Nat) (hkl : es.length = k) (hl : k ≤ 1000) (m : Nat)
    (hs : a.eval s = v3) (hx : a.eval x = .slice (some ⟨wr.heap.size, 0, none⟩) 1 1)
    (hk : ∀ g cap v' w', v' = .slice (some ⟨g, 0, none⟩) (k + 1) cap → Sht B1 w0 (w'.setCell ⟨T, 2, none⟩ v') P T v1 v2 v' n ns bs (es ++ [m]) → w'.frozen? ⟨T, 2, none⟩ = false → w'.cell? ⟨T, 2, none⟩ = some v3 → wpList Try.prog ops Q rest (a.put o.dst v') w') :
    wpList Try.prog ops Q (o :: rest) a (wr.alloc (.cells #[.int .i64 (m : Int)] 3)) := by
  subst hkl
  obtain ⟨i0, hi, hz0, hz1, hz2⟩ := info_parts info_int
  have hA := h.no (Fr.alloc No wr (.cells #[.int .i64 (m : Int)] 3))
  have hb : w0.heap.size ≤ (wr.alloc (.cells #[.int .i64 (m : Int)] 3)).heap.size := hA.fr.size
  refine wpList_append_lies _ hgd s x 24 ho w0.heap.size 3 i0 _ 1 8 Try.underlying24 hi hz0 hz1 hz2 rfl (by omega) v3 es.length (ivs es) hs hA.o3 ⟨wr.heap.size, 0, none⟩ 1 1 [.int .i64 (m : Int)] hx rfl (fun j u hu => by
    rw [Addr.add_lit, Nat.zero_add, World.cell?_alloc_mark, List.getElem?_toArray]
    exact hu) (fun u hu => by simp at hu; subst hu; rfl) (by omega) (by unfold maxLen; omega) (by omega) hb _ rfl ?_
  intro g cap w' hown hg hat _
  have hq := hA.turn3 (es' := es ++ [m]) (v' := .slice (some ⟨g, 0, none⟩) (es.length + 1) cap) (w' := w') ?_ hg ?_
  · exact hk _ _ _ w' rfl hq.1 hq.2.1 hq.2.2
  · have e : ivs (es ++ [m]) = ivs es ++ [.int .i64 (m : Int)] := by simp [ivs]
    rw [e, List.length_append]
    exact hown
  · rcases hat with e | e
    · left; rw [e]; rfl
    · right
      intro g' hg'
      injection hg' with hg'
      subst hg'
      exact Nat.le_of_eq e.symm
set_option maxRecDepth 100000 in
/-- The same at a step of a region that draws its order. -/
theorem step_append_fir (w0 : World) (wr : World) {ops : Array Oper} {o : Oper} {a : Act} {K : Act → World → Prop} {Q : Exit → Act → World → Prop} {E : Prop} (hgd : o.guard = none) (s x : Operand)
    (ho : o.op = .call { callee := .builtin .append, args := #[s, x], argTypes := #[24, 24] })
    {B1 P T n : Nat} {v1 v2 v3 : Value} {ns bs : List (List UInt8)} {es : List Nat} (h : Sht B1 w0 wr P T v1 v2 v3 n ns bs es) (k : Nat) (hkl : es.length = k) (hl : k ≤ 1000) (m : Nat)
    (hs : a.eval s = v3) (hx : a.eval x = .slice (some ⟨wr.heap.size, 0, none⟩) 1 1)
    (hk : ∀ g cap v' w', v' = .slice (some ⟨g, 0, none⟩) (k + 1) cap → Sht B1 w0 (w'.setCell ⟨T, 2, none⟩ v') P T v1 v2 v' n ns bs (es ++ [m]) → w'.frozen? ⟨T, 2, none⟩ = false → w'.cell? ⟨T, 2, none⟩ = some v3 → K (a.put o.dst v') w') :
    (if Region.wanted o (yielded ops a.tmps) = true then Oper.wp Try.prog o a (wr.alloc (.cells #[.int .i64 (m : Int)] 3)) K Q else E) := by
  subst hkl
  obtain ⟨i0, hi, hz0, hz1, hz2⟩ := info_parts info_int
  have hA := h.no (Fr.alloc No wr (.cells #[.int .i64 (m : Int)] 3))
  have hb : w0.heap.size ≤ (wr.alloc (.cells #[.int .i64 (m : Int)] 3)).heap.size := hA.fr.size
  refine step_append_lies _ hgd s x 24 ho w0.heap.size 3 i0 _ 1 8 Try.underlying24 hi hz0 hz1 hz2 rfl (by omega) v3 es.length (ivs es) hs hA.o3 ⟨wr.heap.size, 0, none⟩ 1 1 [.int .i64 (m : Int)] hx rfl (fun j u hu => by
    rw [Addr.add_lit, Nat.zero_add, World.cell?_alloc_mark, List.getElem?_toArray]
    exact hu) (fun u hu => by simp at hu; subst hu; rfl) (by omega) (by unfold maxLen; omega) (by omega) hb _ rfl ?_
  intro g cap w' hown hg hat _
  have hq := hA.turn3 (es' := es ++ [m]) (v' := .slice (some ⟨g, 0, none⟩) (es.length + 1) cap) (w' := w') ?_ hg ?_
  · exact hk _ _ _ w' rfl hq.1 hq.2.1 hq.2.2
  · have e : ivs (es ++ [m]) = ivs es ++ [.int .i64 (m : Int)] := by simp [ivs]
    rw [e, List.length_append]
    exact hown
  · rcases hat with e | e
    · left; rw [e]; rfl
    · right
      intro g' hg'
      injection hg' with hg'
      subst hg'
      exact Nat.le_of_eq e.symm
end Go.Proofs.Ytpffgkflebbejaa

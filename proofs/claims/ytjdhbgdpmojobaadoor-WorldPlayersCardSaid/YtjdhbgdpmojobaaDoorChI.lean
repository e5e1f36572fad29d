/-
  What the calls upon a chunk share. No statement of the seat is proved here.
-/
import Derived.Test.YtjdhbgdpmojobaaDoorChH
import Derived.Test.YtjdhbgdpmojobaaDoorChM
import Derived.Deep.AppendLies
import Derived.Deep.CutBlock
namespace Go.Proofs.YtjdhbgdpmojobaaDoor
open Go.RowKit Go.Deep

/-- A chunk that is handed in. -/
structure InC (W : World) (C : Ch) : Prop where
  rd : RdC W C
  cap : C.n3 ≤ C.c3
  sm : SmC C
  bt : ByC C.ck
section
variable {w w' : World} {lo : Nat} {C : Ch}
theorem InC.no (h : InC w C) (hf : Fr No w w') : InC w' C := ⟨h.rd.no hf, h.cap, h.sm, h.bt⟩
theorem own_max {e : TypeId} {size n : Nat} {A : Option Addr} {c : Nat} {cells : List Value} (h : w.ownsRow lo e size (.slice A n c) n cells) : n ≤ 9223372036854775807 := by
  rcases h.2 with ⟨_, h0⟩ | ⟨g, cap, cur, hv, _, hh, hnc, hm, hsz, htk⟩
  · omega
  · unfold maxLen at hm
    omega
theorem OwC.inC (h : OwC lo w C) (hb : ByC C.ck) : InC w C :=
  ⟨h.rd, own_cap h.o3, ⟨own_max h.o1, own_max h.o2, own_max h.o3, fun b hb => by have h4 := (h.o4 b hb).2; have := own_max (n := b.l.length) (by have e := (h.o4 b hb).1; unfold OwS at h4; rw [← e] at h4; exact h4); have e := (h.o4 b hb).1; omega⟩, hb⟩
/-- How many things a right chunk has. -/
theorem InC.small (h : InC w C) (r : Rgt C.ck) : C.n1 = 64 ∧ C.n2 ≤ 32 ∧ C.n3 ≤ 64 ∧ ∀ b ∈ C.bs, b.n = 6 := by
  have e1 := h.rd.r1.1
  have e2 := h.rd.r2.1
  have e3 := h.rd.r3.1
  have q1 : C.cs.length = 64 := r.cl
  have q2 : C.hs.length ≤ 32 := r.hl
  have q3 := r.bl
  have q3' : (C.bs.map Bx.bp).length ≤ 64 := q3
  rw [List.length_map] at q3'
  refine ⟨by omega, by omega, by omega, fun b hb => ?_⟩
  have q4 := (r.br b.bp (List.mem_map_of_mem hb)).1
  obtain ⟨j, hj, rfl⟩ := List.getElem_of_mem hb
  obtain ⟨_, _, _, _, hc⟩ := h.rd.r3.2 (by omega)
  have := (hc j hj).2.2.1
  rw [← this]
  exact q4
/-- A chunk in memory of its own: the words of own_c, part by part. -/
theorem own_x (h : InC w C) (r : Rgt C.ck) : Calls Tryd.prog 34 #[C.val] w fun e w' => ∃ B1 d1 B2 d2 B3 d3 bk,
    e = .returned (.agg #[.int .i64 C.x, .int .i64 C.y, .slice B1 C.n1 d1, .slice B2 C.n2 d2, .slice B3 C.n3 d3]) ∧ bk.map Bx.bp = C.bs.map Bx.bp ∧ OwC w.heap.size w' ⟨C.x, C.y, B1, C.n1, d1, C.cs, B2, C.n2, d2, C.hs, B3, C.n3, d3, bk⟩ ∧ Fr No w w' := by
  obtain ⟨h1, h2, h3, h4⟩ := h.small r
  refine (own_c h.rd (by omega) (by omega) (by omega) (fun b hb => by have := h4 b hb; omega)).mono ?_
  rintro e w' ⟨⟨x', y', B1, m1, d1, cs', B2, m2, d2, hs', B3, m3, d3, bk⟩, rfl, hck, ⟨e1, e2, e3⟩, ho, hf⟩
  dsimp only [Ch.ck] at hck e1 e2 e3
  injection hck with q1 q2 q3 q4 q5
  subst q1 q2 q3 q4 e1 e2 e3
  exact ⟨B1, d1, B2, d2, B3, d3, bk, rfl, q5, ho, hf⟩
/-- Two results, the first of which lies in a cell. -/
theorem results_cell_tmp_rowC {P : Program} {fn : Func} {p u : Tmp} {ty : TypeId} (h : fn.results = #[.cell p ty, .tmp u]) (tmps : Array Value) (w : World) (g : Nat) (t : TypeId) (cs : Array Value) (fr : Nat × Nat) (d : TypeDesc)
    (hp : tmps.getD p undef = .pointer (some ⟨g, 0, none⟩)) (hg : w.heap[g]? = some (.cells cs t fr))
    (hu : P.underlying ty = some d) (hd : (match d with | .struct _ | .array _ _ => true | _ => false) = true) (hi : (P.info? ty).map (·.size) = some cs.size) :
    (results fn tmps).run P w = .ok (.tuple #[.agg cs, tmps.getD u undef]) w := by
  rw [results_cell_tmp h, hp]
  simp [asAddr, run_loadVar_row w g t ty cs fr d hg hu hd hi]
set_option maxRecDepth 100000 in
/-- One heap appended to heaps of the call's own. -/
theorem wpList_append_h1 (wr : World) {ops : Array Oper} {rest : List Oper} {o : Oper} {a : Act} {Q : Exit → Act → World → Prop} (hgd : o.guard = none) (s x : Operand)
    (ho : o.op = .call { callee := .builtin .append, args := #[s, x], argTypes := #[28, 28] })
    {A : Option Addr} {n c : Nat} {cells : List Value} (hs : a.eval s = .slice A n c) (hown : wr.ownsRow lo 114 3 (.slice A n c) n cells) (y z : Int) (i : Nat) {G : Nat} (hG : wr.heap.size = G) (hx : a.eval x = .slice (some ⟨G, 0, none⟩) 1 1) (hlen : n ≤ 100000) (hbase : lo ≤ wr.heap.size)
    (h : ∀ A' c' w', w'.ownsRow lo 114 3 (.slice A' (n + 1) c') (n + 1) (cells ++ [.int .i64 y, .int .u8 (i : Int), .int .i64 z]) → Fr (fun k => (Value.slice A n c).ownBlock = some k) wr w' → wpList Tryd.prog ops Q rest (a.put o.dst (.slice A' (n + 1) c')) w') :
    wpList Tryd.prog ops Q (o :: rest) a (wr.alloc (.cells #[.int .i64 y, .int .u8 (i : Int), .int .i64 z] 114)) := by
  subst hG
  obtain ⟨i0, hi, hz0, hz1, hz2⟩ := info_parts info_hp
  have hA := own_no hown (Fr.alloc No wr (.cells #[.int .i64 y, .int .u8 (i : Int), .int .i64 z] 114))
  refine wpList_append_lies _ hgd s x 28 ho lo 114 i0 _ 3 24 Tryd.underlying28 hi hz0 hz1 hz2 rfl (by omega) (.slice A n c) n cells hs hA ⟨wr.heap.size, 0, none⟩ 1 1 [.int .i64 y, .int .u8 (i : Int), .int .i64 z] hx rfl (fun j u hu => by
    rw [Addr.add_lit, Nat.zero_add, World.cell?_alloc_mark, List.getElem?_toArray]
    exact hu) (fun u hu => by simp at hu; rcases hu with rfl | rfl | rfl <;> rfl) (by omega) (by unfold maxLen; omega) (by omega) (by rw [World.size_alloc]; omega) _ rfl ?_
  intro g cap w' ho' hg hat _
  exact h _ _ w' ho' ((Fr.alloc (fun k => (Value.slice A n c).ownBlock = some k) wr _).trans (Fr.grown hg (fun k hk => hk)) (fun _ _ e => e))
/-- A heap more. -/
theorem OwC.app2 (h : OwC lo w C) {A' : Option Addr} {n' c' : Nat} {hs' : List Hp} (hf : Fr (fun k => (Value.slice C.A2 C.n2 C.c2).ownBlock = some k) w w') (ho : w'.ownsRow lo 114 3 (.slice A' n' c') n' (hpL hs')) :
    OwC lo w' ⟨C.x, C.y, C.A1, C.n1, C.c1, C.cs, A', n', c', hs', C.A3, C.n3, C.c3, C.bs⟩ := by
  have ap : ∀ {e : TypeId} {size m lo' : Nat} {v : Value} {L : List Value}, e ≠ 114 → w.ownsRow lo' e size v m L → ∀ q, v.ownBlock = some q → ¬ (Value.slice C.A2 C.n2 C.c2).ownBlock = some q := fun hne h' q hq => own_apart h' h.o2 hne q hq
  exact ⟨own_fr h.o1 hf (ap (by decide) h.o1), ho, own_fr h.o3 hf (ap (by decide) h.o3), fun b hb => ⟨(h.o4 b hb).1, own_fr (h.o4 b hb).2 hf (ap (by decide) (h.o4 b hb).2)⟩⟩
end
end Go.Proofs.YtjdhbgdpmojobaaDoor

/-
  Append at a disk. No statement of the seat is proved here.
-/
import Derived.Test.YtggejecmhfafoaaGreatDoorDkP
import Derived.Maps.AppendAt
namespace Go.Proofs.YtggejecmhfafoaaGreatDoor
open Go.RowKit Go.Maps

/-- The file of a name, an empty one if there is none. -/
def old (nm : List UInt8) (fs : List Fl) : Fl := (fnd nm fs).getD ⟨nm, none, 0, [], 0⟩
set_option maxRecDepth 100000 in
theorem look_old (nm : List UInt8) (fs : List Fl) : (match fnd nm fs with | some f => f.val | none => Value.agg #[.slice none 0 0, .int .i64 0]) = .agg #[.slice (old nm fs).A (old nm fs).bs.length (old nm fs).c, .int .i64 ((old nm fs).fm : Int)] := by
  unfold old
  cases fnd nm fs <;> rfl
set_option maxRecDepth 100000 in
theorem old_nm (nm : List UInt8) (fs : List Fl) : (old nm fs).nm = nm := by
  unfold old
  cases h : fnd nm fs with
  | none => rfl
  | some f => exact (fnd_mem h).2
section
variable {w w' : World} {D M : Nat} {s : St} {F : Nat → Prop}
set_option maxRecDepth 100000 in
theorem Dsk.old_row (h : Dsk w D M s) (nm : List UInt8) : w.ownsRow 0 5 1 (old nm s.fs).row (old nm s.fs).bs.length (bvs (old nm s.fs).bs) := by
  unfold old
  cases hf : fnd nm s.fs with
  | none => exact World.ownsRow_nil _ _ _ _
  | some f => exact h.rows f (fnd_mem hf).1
set_option maxRecDepth 100000 in
theorem Dsk.old_firm (h : Dsk w D M s) (nm : List UInt8) : (old nm s.fs).fm ≤ (old nm s.fs).bs.length := by
  unfold old
  cases hf : fnd nm s.fs with
  | none => exact Nat.le_refl _
  | some f => exact h.firm f (fnd_mem hf).1
set_option maxRecDepth 100000 in
theorem Dsk.old_foot (h : Dsk w D M s) (nm : List UInt8) {k : Nat} (hk : (old nm s.fs).row.ownBlock = some k) : foot D M s.fs k ∧ k ≠ D ∧ k ≠ M ∧ k < w.heap.size := by
  unfold old at hk
  cases hf : fnd nm s.fs with
  | none => rw [hf] at hk; cases hk
  | some f =>
    rw [hf] at hk
    have hm := (fnd_mem hf).1
    exact ⟨.inr (.inr ⟨f, hm, hk⟩), (h.row_ne hm hk).1, (h.row_ne hm hk).2, ((h.rows f hm).lt k hk).2⟩
set_option maxRecDepth 100000 in
theorem Dsk.old_sep (h : Dsk w D M s) (nm : List UInt8) {g : Fl} (hg : g ∈ s.fs) (hn : g.nm ≠ nm) : Sep (old nm s.fs).row g.row := by
  unfold old
  cases hf : fnd nm s.fs with
  | none => intro k hk; cases hk
  | some f =>
    refine h.sep f (fnd_mem hf).1 g hg ?_
    rw [(fnd_mem hf).2]
    exact hn.symm
set_option maxRecDepth 100000 in
theorem used_put (h : Dsk w D M s) (f : Fl) : used (put f s.fs) + (old f.nm s.fs).bs.length = used s.fs + f.bs.length := by
  unfold put old
  rw [used_ins]
  cases hf : fnd f.nm s.fs with
  | none =>
    rw [del_none hf]
    simp
    omega
  | some g =>
    have := (del_some h.apart hf).1
    simp
    omega
set_option maxRecDepth 100000 in
theorem length_put (h : Dsk w D M s) (f : Fl) : (put f s.fs).length = s.fs.length + (if (fnd f.nm s.fs).isSome then 0 else 1) := by
  unfold put
  rw [length_ins]
  cases hf : fnd f.nm s.fs with
  | none =>
    rw [del_none hf]
    rfl
  | some g =>
    have := (del_some h.apart hf).2
    simp
    omega
set_option maxRecDepth 100000 in
/-- A file stored under its name: the disk that is then. -/
theorem Dsk.stored (h : Dsk w D M s) (f : Fl) (hfr : Fr F w w') (hFD : ¬ F D) (hF : ∀ g ∈ s.fs, g.nm ≠ f.nm → ∀ k, g.row.ownBlock = some k → ¬ F k)
    (hm : w'.ownsMap Tryz.prog 9 flR M (put f s.fs).length (dat (put f s.fs))) (hrow : w'.ownsRow 0 5 1 f.row f.bs.length (bvs f.bs))
    (hsep : ∀ g ∈ s.fs, g.nm ≠ f.nm → Sep f.row g.row) (hfirm : f.fm ≤ f.bs.length) (hnm : isNm f.nm = true) (hroom : used (put f s.fs) ≤ s.mo) (hfew : (put f s.fs).length ≤ 200) : Dsk w' D M { s with fs := put f s.fs } := by
  refine ⟨(hfr.block D (h.foot_lt (.inl rfl)) hFD).trans h.blk, hm, ?_, ?_, ?_, ?_, hroom, h.most, hfew, h.left⟩
  · intro g hg
    rcases mem_put.1 hg with rfl | ⟨hg, hn⟩
    · exact hrow
    · exact own_keep (h.rows g hg) (fun k hk => hfr.block k ((h.rows g hg).lt k hk).2 (hF g hg hn k hk))
  · intro a ha b hb hne
    rcases mem_put.1 ha with ea | ⟨ha', hna⟩
    · subst ea
      rcases mem_put.1 hb with eb | ⟨hb', hnb⟩
      · exact absurd (congrArg Fl.nm eb).symm hne
      · exact hsep b hb' hnb
    · rcases mem_put.1 hb with eb | ⟨hb', hnb⟩
      · rw [eb]
        exact (hsep a ha' hna).symm
      · exact h.sep a ha' b hb' hne
  · intro g hg
    rcases mem_put.1 hg with rfl | ⟨hg, _⟩
    · exact hfirm
    · exact h.firm g hg
  · intro g hg
    rcases mem_put.1 hg with rfl | ⟨hg, _⟩
    · exact hnm
    · exact h.nms g hg
set_option maxRecDepth 100000 in
/-- A file struck: the disk that is then. -/
theorem Dsk.struck (h : Dsk w D M s) (nm : List UInt8) (hfr : Fr (fun k => k = M) w w') (hm : w'.ownsMap Tryz.prog 9 flR M (del nm s.fs).length (dat (del nm s.fs))) : Dsk w' D M { s with fs := del nm s.fs } := by
  have hu : used (del nm s.fs) ≤ used s.fs ∧ (del nm s.fs).length ≤ s.fs.length := by
    cases hf : fnd nm s.fs with
    | none => rw [del_none hf]; exact ⟨Nat.le_refl _, Nat.le_refl _⟩
    | some f => have := del_some h.apart hf; omega
  refine ⟨(hfr.block D (h.foot_lt (.inl rfl)) h.ne).trans h.blk, hm, ?_, ?_, ?_, ?_, Nat.le_trans hu.1 h.room, h.most, Nat.le_trans hu.2 h.few, h.left⟩
  · intro g hg
    have hg := (mem_del.1 hg).1
    exact own_keep (h.rows g hg) (fun k hk => hfr.block k ((h.rows g hg).lt k hk).2 (h.row_ne hg hk).2)
  · intro a ha b hb
    exact h.sep a (mem_del.1 ha).1 b (mem_del.1 hb).1
  · intro g hg
    exact h.firm g (mem_del.1 hg).1
  · intro g hg
    exact h.nms g (mem_del.1 hg).1
set_option maxRecDepth 100000 in
theorem Dsk.stepped_fs : s.step.fs = s.fs := by unfold St.step; split <;> (try split) <;> rfl
set_option maxRecDepth 100000 in
theorem Dsk.stepped_mo : s.step.mo = s.mo := by unfold St.step; split <;> (try split) <;> rfl
end
/-- What a call leaves that turns a disk: nothing else has turned, and what is the disk's own was so, or is new. -/
def Nx (D M : Nat) (w : World) (s : St) (w' : World) (s' : St) : Prop :=
  Dsk w' D M s' ∧ Fr (foot D M s.fs) w w' ∧ ∀ k, foot D M s'.fs k → foot D M s.fs k ∨ w.heap.size ≤ k
set_option maxRecDepth 100000 in
theorem Nx.refl {D M : Nat} {w : World} {s : St} (h : Dsk w D M s) : Nx D M w s w s := ⟨h, Fr.refl _ _, fun _ hk => .inl hk⟩
set_option maxRecDepth 100000 in
theorem Nx.no {D M : Nat} {w w' : World} {s : St} (h : Dsk w D M s) (hf : Fr No w w') : Nx D M w s w' s := ⟨h.no hf, hf.mono (fun _ _ e => e.elim), fun _ hk => .inl hk⟩
set_option maxRecDepth 100000 in
theorem Nx.trans {D M : Nat} {a b c : World} {s t u : St} (h : Nx D M a s b t) (k : Nx D M b t c u) : Nx D M a s c u :=
  ⟨k.1, h.2.1.trans k.2.1 (fun i hi hf => (h.2.2 i hf).resolve_right (by omega)), fun i hi => by
    rcases k.2.2 i hi with e | e
    · exact h.2.2 i e
    · exact .inr (Nat.le_trans h.2.1.size e)⟩
set_option maxRecDepth 100000 in
theorem Nx.step {D M : Nat} {w w' : World} {s : St} (h : Dsk w' D M s.step) (hf : Fr (fun k => k = D) w w') : Nx D M w s w' s.step :=
  ⟨h, hf.mono (fun _ _ e => .inl e), fun k hk => by rw [Dsk.stepped_fs] at hk; exact .inl hk⟩

set_option maxRecDepth 100000 in
/-- Bytes of whatever slice, nil too, appended to a row; and where the new one lies. -/
theorem run_append_rd_at (w : World) (ty : TypeId) (B B' : Nat) (v : Value) (l : List UInt8) (hown : w.ownsRow B 5 1 v l.length (bvs l)) (A : Option Addr) (m c : Nat) (news : List UInt8)
    (hr : Rd w B' A m news) (hlen : l.length + m ≤ 33554432) (hbase : B ≤ w.heap.size) :
    ∃ v' w', (Builtin.append_ #[28, 28] ty #[v, .slice A m c]).run Tryz.prog w = .ok v' w' ∧ w'.ownsRow B 5 1 v' (l ++ news).length (bvs (l ++ news)) ∧ w.grownBy w' v.ownBlock ∧ (v'.ownBlock = v.ownBlock ∨ v'.ownBlock = some w.heap.size) := by
  obtain ⟨i0, hi, hz0, hz1, hz2⟩ := info_parts info_u8
  have hnl := hr.len
  rcases A with _ | ad
  · have hm : m = 0 := by
      rcases Nat.eq_zero_or_pos m with h0 | h0
      · exact h0
      · obtain ⟨b, o, h, _⟩ := hr.2 h0
        cases h
    subst hm
    have hn : news = [] := List.eq_nil_of_length_eq_zero hnl
    subst hn
    refine ⟨v, w, ?_, by simpa using hown, World.grownBy.refl w _, .inl rfl⟩
    rcases hown.2 with ⟨rfl, _⟩ | ⟨g, cap, cur, rfl, _, _, hnc, _⟩
    · simp [Builtin.append_, run_underlying Tryz.underlying28, sizeOf, typeInfo, hi, Builtin.lenOf, Builtin.firstCells]
    · simp [Builtin.append_, run_underlying Tryz.underlying28, sizeOf, typeInfo, hi, Builtin.lenOf, Builtin.firstCells, hnc, storeCells]
  · have hcells : ∀ j u, (bvs news)[j]? = some u → w.cell? (ad.add j) = some u := by
      intro j u hu
      have hj : j < news.length := by
        have := (List.getElem?_eq_some_iff.1 hu).1
        simpa [bvs_length] using this
      obtain ⟨b, o, h, _, hc⟩ := hr.2 (by omega)
      injection h with h
      subst h
      rw [Addr.add_lit, hc j hj, ← bvs_at news j hj, hu]
    obtain ⟨v', w', hrun, h2, h3, _, h5⟩ := run_append_own_at (P := Tryz.prog) w B 28 ty 5 i0 (.int .u8 0) 1 1 Tryz.underlying28 hi hz0 hz1 hz2 rfl (by decide) v l.length (bvs l) hown ad m c (bvs news)
      (by rw [bvs_length, hnl]; simp) hcells (bvs_oneCell news) (by unfold maxLen; omega) (by omega) hbase
    refine ⟨v', w', hrun, ?_, h3, h5⟩
    rw [bvs_append, List.length_append, hnl]
    exact h2
set_option maxRecDepth 100000 in
theorem wpList_append_rd_at (w : World) {ops : Array Oper} {rest : List Oper} {o : Oper} {a : Act} {Q : Exit → Act → World → Prop} (hgd : o.guard = none) (s x : Operand)
    (ho : o.op = .call { callee := .builtin .append, args := #[s, x], argTypes := #[28, 28] })
    (B B' : Nat) (v : Value) (l : List UInt8) (hs : a.eval s = v) (hown : w.ownsRow B 5 1 v l.length (bvs l)) (A : Option Addr) (m c : Nat) (news : List UInt8) (hx : a.eval x = .slice A m c)
    (hr : Rd w B' A m news) (hlen : l.length + m ≤ 33554432) (hbase : B ≤ w.heap.size)
    (h : ∀ A' c' w', w'.ownsRow B 5 1 (.slice A' (l ++ news).length c') (l ++ news).length (bvs (l ++ news)) → w.grownBy w' v.ownBlock → ((Value.slice A' (l ++ news).length c').ownBlock = v.ownBlock ∨ (Value.slice A' (l ++ news).length c').ownBlock = some w.heap.size) →
      wpList Tryz.prog ops Q rest (a.put o.dst (.slice A' (l ++ news).length c')) w') : wpList Tryz.prog ops Q (o :: rest) a w := by
  obtain ⟨v', w', hrun, h2, h3, h4⟩ := run_append_rd_at w o.type B B' v l hown A m c news hr hlen hbase
  obtain ⟨A', c', rfl⟩ : ∃ A' c', v' = .slice A' (l ++ news).length c' := by
    rcases h2.2 with ⟨e, e0⟩ | ⟨g, cap, cur, e, _⟩
    · exact ⟨none, 0, by rw [e, e0]⟩
    · exact ⟨_, _, e⟩
  exact Lib.wpList_append_run w hgd s x 28 28 ho v (.slice A m c) hs hx _ w' hrun (h A' c' w' h2 h3 h4)
end Go.Proofs.YtggejecmhfafoaaGreatDoor

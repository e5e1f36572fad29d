/-
  Bytes appended to bytes of the call's own (as Cat, for seats without slices.Grow, and for more bytes). No statement of the seat is proved here.
-/
import Derived.Test.YtefopgdmadgheaaDoorSl
import Derived.Lib.AppendZerosOnto
namespace Go.Proofs.YtefopgdmadgheaaDoor
open Go.RowKit

set_option maxRecDepth 100000 in
/-- Bytes of whatever slice, nil too, appended to bytes of the call's own. -/
theorem run_append_rd (w : World) (ty : TypeId) (B B' : Nat) (v : Value) (l : List UInt8) (hown : w.ownsRow B 5 1 v l.length (bvs l)) (A : Option Addr) (m c : Nat) (news : List UInt8)
    (hr : Rd w B' A m news) (hlen : l.length + m ≤ 16777216) (hbase : B ≤ w.heap.size) :
    ∃ v' w', (Builtin.append_ #[31, 31] ty #[v, .slice A m c]).run Tryd.prog w = .ok v' w' ∧ w'.ownsRow B 5 1 v' (l ++ news).length (bvs (l ++ news)) ∧ w.grownBy w' v.ownBlock := by
  obtain ⟨i0, hi, hz0, hz1, hz2⟩ := info_parts info_u8
  have hnl := hr.len
  rcases A with _ | ad
  · have hm : m = 0 := by
      rcases Nat.eq_zero_or_pos m with h0 | h0
      · exact h0
      · obtain ⟨b, o, h, _⟩ := hr.2 h0
        cases h
    subst hm
    have hn : news = [] := List.eq_nil_of_length_eq_zero hnl
    subst hn
    refine ⟨v, w, ?_, by simpa using hown, World.grownBy.refl w _⟩
    rcases hown.2 with ⟨rfl, _⟩ | ⟨g, cap, cur, rfl, _, _, hnc, _⟩
    · simp [Builtin.append_, run_underlying Tryd.underlying31, sizeOf, typeInfo, hi, Builtin.lenOf, Builtin.firstCells]
    · simp [Builtin.append_, run_underlying Tryd.underlying31, sizeOf, typeInfo, hi, Builtin.lenOf, Builtin.firstCells, hnc, storeCells]
  · have hcells : ∀ j u, (bvs news)[j]? = some u → w.cell? (ad.add j) = some u := by
      intro j u hu
      have hj : j < news.length := by
        have := (List.getElem?_eq_some_iff.1 hu).1
        simpa [bvs_length] using this
      obtain ⟨b, o, h, _, hc⟩ := hr.2 (by omega)
      injection h with h
      subst h
      rw [Addr.add_lit, hc j hj, ← bvs_at news j hj, hu]
    obtain ⟨v', w', hrun, h2, h3, _⟩ := run_append_own (P := Tryd.prog) w B 31 ty 5 i0 (.int .u8 0) 1 1 Tryd.underlying31 hi hz0 hz1 hz2 rfl (by decide) v l.length (bvs l) hown ad m c (bvs news)
      (by rw [bvs_length, hnl]; simp) hcells (bvs_oneCell news) (by unfold maxLen; omega) (by omega) hbase
    refine ⟨v', w', hrun, ?_, h3⟩
    rw [bvs_append, List.length_append, hnl]
    exact h2

set_option maxRecDepth 100000 in
theorem wpList_append_rd (w : World) {ops : Array Oper} {rest : List Oper} {o : Oper} {a : Act} {Q : Exit → Act → World → Prop} (hgd : o.guard = none) (s x : Operand)
    (ho : o.op = .call { callee := .builtin .append, args := #[s, x], argTypes := #[31, 31] })
    (B B' : Nat) (v : Value) (l : List UInt8) (hs : a.eval s = v) (hown : w.ownsRow B 5 1 v l.length (bvs l)) (A : Option Addr) (m c : Nat) (news : List UInt8) (hx : a.eval x = .slice A m c)
    (hr : Rd w B' A m news) (hlen : l.length + m ≤ 16777216) (hbase : B ≤ w.heap.size)
    (h : ∀ v' w', w'.ownsRow B 5 1 v' (l ++ news).length (bvs (l ++ news)) → w.grownBy w' v.ownBlock → wpList Tryd.prog ops Q rest (a.put o.dst v') w') : wpList Tryd.prog ops Q (o :: rest) a w := by
  obtain ⟨v', w', hrun, h2, h3⟩ := run_append_rd w o.type B B' v l hown A m c news hr hlen hbase
  exact Lib.wpList_append_run w hgd s x 31 31 ho v (.slice A m c) hs hx v' w' hrun (h v' w' h2 h3)
end Go.Proofs.YtefopgdmadgheaaDoor

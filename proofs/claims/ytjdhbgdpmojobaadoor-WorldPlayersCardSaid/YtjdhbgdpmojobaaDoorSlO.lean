/-
  Slots of the call's own; slots appended. No statement of the seat is proved here.
-/
import Derived.Test.YtjdhbgdpmojobaaDoorSlR
import Derived.Lib.AppendZerosOnto
namespace Go.Proofs.YtjdhbgdpmojobaaDoor
open Go.RowKit Go.Deep

/-! ### rows of slots of the call's own -/
set_option maxRecDepth 100000 in
theorem info_sl : (Tryd.prog.info? 112).map (fun i => (i.zero, i.size, i.bytes)) = some (some (.agg #[.int .u8 0, .int .i64 0]), 2, 16) := by kernel_rfl
/-- A slice of slots of the call's own, from block lo on. -/
def OwS (lo : Nat) (w : World) (v : Value) (l : List (Nat × Int)) : Prop := w.ownsRow lo 112 2 v l.length (slC l)
section
variable {lo : Nat} {w w' : World} {v : Value} {A : Option Addr} {n c : Nat} {l : List (Nat × Int)}
theorem OwS.nil (lo : Nat) (w : World) : OwS lo w (.slice none 0 0) [] := World.ownsRow_nil _ _ _ _
theorem OwS.sl (h : OwS lo w v l) : ∃ A c, v = .slice A l.length c ∧ l.length ≤ c := by
  rcases h.2 with ⟨rfl, e0⟩ | ⟨G, cap, cur, rfl, _, _, hc, _⟩
  · exact ⟨none, 0, by rw [e0], by omega⟩
  · exact ⟨_, _, rfl, hc⟩
theorem OwS.no (h : OwS lo w v l) (hf : Fr No w w') : OwS lo w' v l := own_keep h (fun k hk => hf.block k (h.lt k hk).2 (fun e => e))
theorem OwS.rd (h : OwS lo w (.slice A n c) l) : RdS w A n l := by
  rcases h.2 with ⟨hv, h0⟩ | ⟨g, cap, cur, hv, _, hh, hnc, _, hsz, htk⟩
  · injection hv with e1 e2
    subst e1 e2
    exact ⟨h0, fun hn => absurd hn (by omega)⟩
  · injection hv with e1 e2 e3
    subst e1 e2 e3
    refine ⟨rfl, fun hn => ⟨g, 0, rfl, (Array.getElem?_eq_some_iff.1 hh).1, fun j hj => ?_⟩⟩
    obtain ⟨h1, h2⟩ := slC_at l j hj
    have q : ∀ r u, r < l.length * 2 → (slC l)[r]? = some u → w.cell? ⟨g, r, none⟩ = some u := fun r u hr hu => by
      rw [blk_cell hh, ← Array.getElem?_toList]
      rw [← htk, List.getElem?_take] at hu
      simpa [hr] using hu
    rw [Nat.zero_add]
    exact ⟨q _ _ (by omega) h1, q _ _ (by omega) h2⟩
set_option maxRecDepth 100000 in
/-- Slots of whatever slice, nil too, appended to slots of the call's own. -/
theorem run_append_sl (w : World) (ty : TypeId) (hown : OwS lo w v l) (A : Option Addr) (m c : Nat) (news : List (Nat × Int)) (hr : RdS w A m news) (hlen : l.length + m ≤ 1000000) (hbase : lo ≤ w.heap.size) :
    ∃ v' w', (Builtin.append_ #[33, 33] ty #[v, .slice A m c]).run Tryd.prog w = .ok v' w' ∧ OwS lo w' v' (l ++ news) ∧ w.grownBy w' v.ownBlock := by
  obtain ⟨i0, hi, hz0, hz1, hz2⟩ := info_parts info_sl
  have hnl := hr.1
  rcases A with _ | ad
  · have hm : m = 0 := by
      rcases Nat.eq_zero_or_pos m with h0 | h0
      · exact h0
      · obtain ⟨b, o, h, _⟩ := hr.2 h0
        cases h
    subst hm
    have hn : news = [] := List.eq_nil_of_length_eq_zero hnl
    subst hn
    refine ⟨v, w, ?_, by simpa using hown, World.grownBy.refl w _⟩
    rcases hown.2 with ⟨rfl, _⟩ | ⟨g, cap, cur, rfl, _, _, hnc, _⟩
    · simp [Builtin.append_, run_underlying Tryd.underlying33, sizeOf, typeInfo, hi, Builtin.lenOf, Builtin.firstCells]
    · simp [Builtin.append_, run_underlying Tryd.underlying33, sizeOf, typeInfo, hi, Builtin.lenOf, Builtin.firstCells, hnc, storeCells]
  · have hcells : ∀ j u, (slC news)[j]? = some u → w.cell? (ad.add j) = some u := by
      intro j u hu
      have hj : j < news.length * 2 := by
        have := (List.getElem?_eq_some_iff.1 hu).1
        simpa [slC_len] using this
      obtain ⟨b, o, h, _, hc⟩ := hr.2 (by omega)
      injection h with h
      subst h
      obtain ⟨c0, c1⟩ := hc (j / 2) (by omega)
      obtain ⟨d0, d1⟩ := slC_at news (j / 2) (by omega)
      rw [Addr.add_lit]
      rcases Nat.mod_two_eq_zero_or_one j with e | e
      · rw [show o + j = o + j / 2 * 2 by omega, c0, ← hu, ← d0, show j / 2 * 2 = j by omega]
      · rw [show o + j = o + j / 2 * 2 + 1 by omega, c1, ← hu, ← d1, show j / 2 * 2 + 1 = j by omega]
    obtain ⟨v', w', hrun, h2, h3, _⟩ := run_append_own (P := Tryd.prog) w lo 33 ty 112 i0 _ 2 16 Tryd.underlying33 hi hz0 hz1 hz2 rfl (by decide) v l.length (slC l) hown ad m c (slC news)
      (by rw [slC_len, hnl]) hcells (slC_one news) (by unfold maxLen; omega) (by omega) hbase
    refine ⟨v', w', hrun, ?_, h3⟩
    unfold OwS
    rw [slC_append, List.length_append, hnl]
    exact h2
set_option maxRecDepth 100000 in
theorem wpList_append_sl (w : World) {ops : Array Oper} {rest : List Oper} {o : Oper} {a : Act} {Q : Exit → Act → World → Prop} (hgd : o.guard = none) (s x : Operand)
    (ho : o.op = .call { callee := .builtin .append, args := #[s, x], argTypes := #[33, 33] })
    (hs : a.eval s = v) (hown : OwS lo w v l) (A : Option Addr) (m c : Nat) (news : List (Nat × Int)) (hx : a.eval x = .slice A m c)
    (hr : RdS w A m news) (hlen : l.length + m ≤ 1000000) (hbase : lo ≤ w.heap.size)
    (h : ∀ v' w', OwS lo w' v' (l ++ news) → w.grownBy w' v.ownBlock → wpList Tryd.prog ops Q rest (a.put o.dst v') w') : wpList Tryd.prog ops Q (o :: rest) a w := by
  obtain ⟨v', w', hrun, h2, h3⟩ := run_append_sl w o.type hown A m c news hr hlen hbase
  exact Lib.wpList_append_run w hgd s x 33 33 ho v (.slice A m c) hs hx v' w' hrun (h v' w' h2 h3)
/-- A row of no slots that was built. -/
theorem OwS.made (w : World) (H : Nat) (hH : w.heap.size = H) : OwS H (w.alloc (.cells #[] 112)) (.slice (some ⟨H, 0, none⟩) 0 0) [] := by
  subst hH
  exact World.ownsRow_made w #[] 0 (Nat.le_refl _) (by unfold maxLen; omega) rfl
end
end Go.Proofs.YtjdhbgdpmojobaaDoor

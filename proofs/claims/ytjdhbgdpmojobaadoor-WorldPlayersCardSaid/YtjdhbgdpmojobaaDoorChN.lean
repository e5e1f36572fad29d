/-
  Boxes taken out of a row of the call's own, and put into it: slices.Delete, slices.Insert. No statement of the seat is proved here.
-/
import Derived.Test.YtjdhbgdpmojobaaDoorChI
import Derived.Laws.CopyRow
import Derived.Lib.Overlaps
import Derived.Deep.RegionLaw
import Derived.Shelf.RegionOpenPlain
namespace Go.Proofs.YtjdhbgdpmojobaaDoor
open Go.RowKit Go.Deep

/-! ### builtins of more cells, as steps -/
theorem run_copy_k {P : Program} (w : World) (dT sT ty elem : TypeId) (i : TypeInfo) (g o dLen dCap : Nat) (a : Addr) (sLen sCap m : Nat) (cur : Array Value) (t : TypeId) (cs : List Value)
    (hu : P.underlying dT = some (.slice elem)) (hi : P.info? elem = some i) (hm : Nat.min sLen dLen = m)
    (hg : w.heap[g]? = some (.cells cur t (0, 0))) (hn : cs.length = m * i.size)
    (hsrc : ∀ j v, cs[j]? = some v → w.cell? (a.add j) = some v) (hfit : o + cs.length ≤ cur.size) (h1 : ∀ v ∈ cs, v.oneCell' = true) :
    (Builtin.copy_ #[dT, sT] ty #[.slice (some ⟨g, o, none⟩) dLen dCap, .slice (some a) sLen sCap]).run P w =
      .ok (goInt m) (w.setRow g (cur.toList.take o ++ cs ++ cur.toList.drop (o + cs.length)).toArray) := by
  have hf := run_firstCells_some (P := P) w i.size m a sLen sCap cs hn hsrc
  have hst := run_storeCells_at P g o t cs 0 cur w hg (by simpa using hfit) h1
  simp only [Nat.add_zero] at hst
  simp [Builtin.copy_, run_underlying hu, Builtin.lenOf, sizeOf, typeInfo, hi, hm, hf, hst]
theorem step_copy {P : Program} {ops : Array Oper} {o : Oper} {a : Act} {w : World} {K : Act → World → Prop} {Q : Exit → Act → World → Prop} {E : Prop}
    (hg : o.guard = none) (d x : Operand) (dT sT : TypeId) (hop : o.op = Op.call { callee := Callee.builtin Builtin.copy, args := #[d, x], argTypes := #[dT, sT] })
    (v u : Value) (hd : a.eval d = v) (hx : a.eval x = u) {v' : Value} {w' : World} (hr : (Builtin.copy_ #[dT, sT] o.type #[v, u]).run P w = .ok v' w') (hK : K (a.put o.dst v') w') :
    if Region.wanted o (yielded ops a.tmps) = true then Oper.wp P o a w K Q else E := by
  rw [if_pos (show Region.wanted o (yielded ops a.tmps) = true by simp [Region.wanted, hg])]
  unfold Oper.wp
  simp [execOp, hop, resolve, invoke, builtin, hd, hx, hr, Result.andThen]
  exact hK
theorem step_append {P : Program} {ops : Array Oper} {o : Oper} {a : Act} {w : World} {K : Act → World → Prop} {Q : Exit → Act → World → Prop} {E : Prop}
    (hg : o.guard = none) (d x : Operand) (dT sT : TypeId) (hop : o.op = Op.call { callee := Callee.builtin Builtin.append, args := #[d, x], argTypes := #[dT, sT] })
    (v u : Value) (hd : a.eval d = v) (hx : a.eval x = u) {v' : Value} {w' : World} (hr : (Builtin.append_ #[dT, sT] o.type #[v, u]).run P w = .ok v' w') (hK : K (a.put o.dst v') w') :
    if Region.wanted o (yielded ops a.tmps) = true then Oper.wp P o a w K Q else E := by
  rw [if_pos (show Region.wanted o (yielded ops a.tmps) = true by simp [Region.wanted, hg])]
  unfold Oper.wp
  simp [execOp, hop, resolve, invoke, builtin, hd, hx, hr, Result.andThen]
  exact hK
theorem wpList_copy {P : Program} (w : World) {ops : Array Oper} {rest : List Oper} {o : Oper} {a : Act} {Q : Exit → Act → World → Prop} (hgd : o.guard = none) (d s : Operand) (t t' : TypeId)
    (ho : o.op = .call { callee := .builtin .copy, args := #[d, s], argTypes := #[t, t'] }) (v u : Value) (hd : a.eval d = v) (hs : a.eval s = u) {v' : Value} {w' : World}
    (hr : (Builtin.copy_ #[t, t'] o.type #[v, u]).run P w = .ok v' w') (h : wpList P ops Q rest (a.put o.dst v') w') : wpList P ops Q (o :: rest) a w := by
  refine wpList_plain hgd fun _ hK => ?_
  unfold Oper.wp execOp
  simp only [ho, resolve, invoke, builtin, Sem.run_bind, Sem.run_pure, Result.andThen_ok, List.map_toArray, List.map_cons, List.map_nil, hd, hs, hr]
  exact hK _ _ h
theorem wpList_clear {P : Program} (w : World) {ops : Array Oper} {rest : List Oper} {o : Oper} {a : Act} {Q : Exit → Act → World → Prop} (hgd : o.guard = none) (s : Operand) (t : TypeId)
    (ho : o.op = .call { callee := .builtin .clear, args := #[s], argTypes := #[t] }) (u : Value) (hs : a.eval s = u) {v' : Value} {w' : World}
    (hr : (Builtin.clear_ #[t] o.type #[u]).run P w = .ok v' w') (h : wpList P ops Q rest (a.put o.dst v') w') : wpList P ops Q (o :: rest) a w := by
  refine wpList_plain hgd fun _ hK => ?_
  unfold Oper.wp execOp
  simp only [ho, resolve, invoke, builtin, Sem.run_bind, Sem.run_pure, Result.andThen_ok, List.map_toArray, List.map_cons, List.map_nil, hs, hr]
  exact hK _ _ h
theorem Fr.setRow (w : World) (G : Nat) (cs : Array Value) : Fr (fun i => i = G) w (w.setRow G cs) := ⟨rfl, rfl, rfl, by simp [World.setRow], fun i _ hi => setRow_other w G i cs hi⟩
/-! ### lists -/
theorem ins_list {cur cells : List Value} {N p : Nat} (a b : Value) (hc : cur.take N = cells) (hp : p ≤ N) (hN : N + 2 ≤ cur.length) :
    let cur1 := cur.take (p + 2) ++ cells.drop p ++ cur.drop (p + 2 + (cells.drop p).length)
    let cur2 := cur1.take p ++ [a, b] ++ cur1.drop (p + 2)
    cur1.length = cur.length ∧ cur2.length = cur.length ∧ cur2.take (N + 2) = cells.take p ++ ([a, b] ++ cells.drop p) := by
  have hl : cells.length = N := by rw [← hc, List.length_take]; omega
  have hd : (cells.drop p).length = N - p := by rw [List.length_drop, hl]
  intro cur1 cur2
  have e1 : cur1.length = cur.length := by
    show (cur.take (p + 2) ++ cells.drop p ++ cur.drop (p + 2 + (cells.drop p).length)).length = _
    simp only [List.length_append, List.length_take, List.length_drop, hl]
    omega
  have t1 : cur1.take p = cells.take p := by
    show (cur.take (p + 2) ++ cells.drop p ++ cur.drop (p + 2 + (cells.drop p).length)).take p = _
    rw [List.append_assoc, List.take_append_of_le_length (by rw [List.length_take]; omega), List.take_take, Nat.min_eq_left (by omega), ← hc, List.take_take, Nat.min_eq_left hp]
  have d1 : cur1.drop (p + 2) = cells.drop p ++ cur.drop (N + 2) := by
    show (cur.take (p + 2) ++ cells.drop p ++ cur.drop (p + 2 + (cells.drop p).length)).drop (p + 2) = _
    rw [List.append_assoc, List.drop_append, List.length_take, List.drop_of_length_le (by rw [List.length_take]; omega), List.nil_append, show p + 2 - min (p + 2) cur.length = 0 by omega, List.drop_zero, hd, show p + 2 + (N - p) = N + 2 by omega]
  have e2 : cur2 = (cells.take p ++ ([a, b] ++ cells.drop p)) ++ cur.drop (N + 2) := by
    show cur1.take p ++ [a, b] ++ cur1.drop (p + 2) = _
    rw [t1, d1]
    simp
  have l2 : (cells.take p ++ ([a, b] ++ cells.drop p)).length = N + 2 := by
    simp only [List.length_append, List.length_take, List.length_drop, hl, List.length_cons, List.length_nil]
    omega
  refine ⟨e1, ?_, ?_⟩
  · rw [e2, List.length_append, l2, List.length_drop]; omega
  · rw [e2, List.take_append_of_le_length (by omega), List.take_of_length_le (by omega)]
theorem del_list {cur cells z : List Value} {N p : Nat} (hz : z.length = 2) (hc : cur.take N = cells) (hp : p + 2 ≤ N) (hN : N ≤ cur.length) :
    let cur1 := cur.take p ++ cells.drop (p + 2) ++ cur.drop (p + (cells.drop (p + 2)).length)
    let cur2 := cur1.take (N - 2) ++ z ++ cur1.drop (N - 2 + z.length)
    cur1.length = cur.length ∧ cur2.length = cur.length ∧ cur2.take (N - 2) = cells.take p ++ cells.drop (p + 2) := by
  have hl : cells.length = N := by rw [← hc, List.length_take]; omega
  have hd : (cells.drop (p + 2)).length = N - (p + 2) := by rw [List.length_drop, hl]
  intro cur1 cur2
  have l1 : (cur.take p ++ cells.drop (p + 2)).length = N - 2 := by simp only [List.length_append, List.length_take, List.length_drop, hl]; omega
  have e1 : cur1.length = cur.length := by
    show (cur.take p ++ cells.drop (p + 2) ++ cur.drop (p + (cells.drop (p + 2)).length)).length = _
    simp only [List.length_append, List.length_take, List.length_drop, hl]
    omega
  have t1 : cur1.take (N - 2) = cells.take p ++ cells.drop (p + 2) := by
    show (cur.take p ++ cells.drop (p + 2) ++ cur.drop (p + (cells.drop (p + 2)).length)).take (N - 2) = _
    rw [List.take_append_of_le_length (by omega), List.take_of_length_le (by omega), ← hc, List.take_take, Nat.min_eq_left (by omega)]
  refine ⟨e1, ?_, ?_⟩
  · show (cur1.take (N - 2) ++ z ++ cur1.drop (N - 2 + z.length)).length = _
    simp only [List.length_append, List.length_take, List.length_drop, hz]
    omega
  · show (cur1.take (N - 2) ++ z ++ cur1.drop (N - 2 + z.length)).take (N - 2) = _
    rw [List.append_assoc, List.take_append_of_le_length (by rw [List.length_take]; omega), List.take_take, Nat.min_self, t1]
end Go.Proofs.YtjdhbgdpmojobaaDoor

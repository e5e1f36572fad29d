/-
  A map of items of the law's own: those that are in it have 1. No statement of the seat is proved here.
-/
import Derived.Test.YtjaklhfcgcjmmaaDoorItF
import Derived.Maps.OwnOps
import Derived.Maps.Views
namespace Go.Proofs.YtjaklhfcgcjmmaaDoor
open Go.RowKit Go.Deep Go.Maps

theorem kI : Maps.Keyed Tryd.prog 22 := int_keyed Tryd.underlying22
/-- Block X of w is a map of at most n items to numbers, in which just those of S have 1, the others nothing. -/
def SetM (w : World) (X n : Nat) (S : Nat → Bool) : Prop :=
  ∃ D : DataW Unit, w.ownsMap Tryd.prog 22 (plainElem Tryd.prog 3) X n D ∧ IsMap D ∧ ∀ x : Nat, x < 256 → D.atKey (.int .u8 (x : Int)) (.lit (.int .i64 0)) = .lit (.int .i64 (if S x then 1 else 0))
section
variable {w w' : World} {X n : Nat} {S : Nat → Bool}
theorem SetM.lt (h : SetM w X n S) : X < w.heap.size := by
  obtain ⟨D, hD, _⟩ := h
  exact hD.lt
theorem SetM.keep (h : SetM w X n S) (e : w'.heap[X]? = w.heap[X]?) : SetM w' X n S := by
  obtain ⟨D, ⟨es, clock, hm, r⟩, q⟩ := h
  exact ⟨D, ⟨es, clock, e.trans hm, r⟩, q⟩
theorem SetM.no (h : SetM w X n S) (hf : Fr No w w') : SetM w' X n S := h.keep (hf.block X h.lt (fun e => e))
theorem SetM.ext (h : SetM w X n S) {S' : Nat → Bool} (e : ∀ x, x < 256 → S x = S' x) {n' : Nat} (hn : n ≤ n') : SetM w X n' S' := by
  obtain ⟨D, h1, h2, h3⟩ := h
  exact ⟨D, h1.mono hn, h2, fun x hx => by rw [h3 x hx, e x hx]⟩
set_option maxRecDepth 100000 in
theorem SetM.made (w : World) : SetM (w.alloc (.map #[] 0)) w.heap.size 0 (fun _ => false) :=
  ⟨.map [], World.ownsMap_made w _ _ _, ⟨[], rfl⟩, fun _ _ => rfl⟩
theorem key_u8 {x : Nat} (hx : x < 256) : keyOf Tryd.prog 22 (.int .u8 (x : Int)) = some (.int .u8 (x : Int)) := by
  have hw : (Lit.int .u8 (x : Int)).wf = true := WalkArith.wf_u8 (by omega)
  simp [keyOf, Tryd.underlying22, mapKey, hw]
set_option maxRecDepth 100000 in
/-- What is looked up. -/
theorem SetM.look (h : SetM w X n S) {x : Nat} (hx : x < 256) : (Instr.lookup 36 (.map (some X)) (.int .u8 (x : Int)) false).run Tryd.prog w = .ok (.int .i64 (if S x then 1 else 0)) w := by
  obtain ⟨D, h1, h2, h3⟩ := h
  obtain ⟨c, hrun, hat, _⟩ := h1.lookup_int kI Tryd.underlying36 Tryd.underlying3 (Tryd.zeroValue3 w) (key_u8 hx)
  rw [h3 x hx] at hat
  have e : (if S x then (1 : Int) else 0) = c := by injection hat with hat; injection hat
  rw [e]
  exact hrun
set_option maxRecDepth 100000 in
theorem SetM.put (h : SetM w X n S) (hn : n < 1000) {x : Nat} (hx : x < 256) : ∃ w', (Instr.mapUpdate 36 (.map (some X)) (.int .u8 (x : Int)) (.int .i64 1)).run Tryd.prog w = .ok () w' ∧ SetM w' X (n + 1) (fun y => S y || y == x) ∧ Fr (fun k => k = X) w w' := by
  obtain ⟨D, h1, h2, h3⟩ := h
  obtain ⟨w', hrun, ho, hg⟩ := h1.update kI Tryd.underlying36 (by unfold maxLen; omega) (key_u8 hx) (val := .int .i64 1) (d := .lit (.int .i64 1)) (ps := []) (plainElem_int Tryd.underlying3 (by decide))
  refine ⟨w', hrun, ⟨_, ho, h2.put _ _, fun y hy => ?_⟩, Fr.grown (F := fun k => k = X) hg (fun k e => by injection e with e; exact e.symm)⟩
  by_cases hyx : y = x
  · subst hyx
    rw [atKey_put_same h2 (by trivial)]
    simp
  · rw [atKey_put_other (by intro e; injection e with _ e; omega), h3 y hy]
    have : (y == x) = false := by rw [beq_eq_false_iff_ne]; exact hyx
    show DataW.lit (Lit.int IntKind.i64 (if S y = true then 1 else 0)) = DataW.lit (Lit.int IntKind.i64 (if (S y || y == x) = true then 1 else 0))
    rw [this, Bool.or_false]
set_option maxRecDepth 100000 in
/-- 'm[x] = 1'. -/
theorem wpList_putS {ops : Array Oper} {rest : List Oper} {o : Oper} {a : Act} {Q : Exit → Act → World → Prop} (hg : o.guard = none) (m x v : Operand) (hop : o.op = Op.mapUpdate 36 m x v)
    (h : SetM w X n S) (hn : n < 1000) (y : Nat) (hy : y < 256) (hm : a.eval m = .map (some X)) (hx : a.eval x = .int .u8 (y : Int)) (hv : a.eval v = .int .i64 1)
    (hK : ∀ w', SetM w' X (n + 1) (fun z => S z || z == y) → Fr (fun k => k = X) w w' → wpList Tryd.prog ops Q rest (a.put o.dst undef) w') : wpList Tryd.prog ops Q (o :: rest) a w := by
  refine wpList_plain hg fun K' hK' => ?_
  obtain ⟨w', hrun, r1, r2⟩ := h.put hn hy
  unfold Oper.wp
  simp [execOp, hop, hm, hx, hv, hrun, Result.andThen]
  exact hK' _ _ (hK w' r1 r2)
end
end Go.Proofs.YtjaklhfcgcjmmaaDoor

/-
  Bags: less, Take, Count. No statement of the seat is proved here.
-/
import Derived.Test.YtmallcjhccbgdaaDoorBgE
namespace Go.Proofs.YtmallcjhccbgdaaDoor
open Go.RowKit Go.Deep

/-- Three results, the second of which lies in a cell. -/
theorem results_tmp_cell_tmp_row {P : Program} {fn : Func} {p u v : Tmp} {ty : TypeId} (h : fn.results = #[.tmp u, .cell p ty, .tmp v]) (tmps : Array Value) (w : World) (g : Nat) (t : TypeId) (cs : Array Value) (fr : Nat × Nat) (d : TypeDesc)
    (hp : tmps.getD p undef = .pointer (some ⟨g, 0, none⟩)) (hg : w.heap[g]? = some (.cells cs t fr))
    (hu : P.underlying ty = some d) (hd : (match d with | .struct _ | .array _ _ => true | _ => false) = true) (hi : (P.info? ty).map (·.size) = some cs.size) :
    (results fn tmps).run P w = .ok (.tuple #[tmps.getD u undef, .agg cs, tmps.getD v undef]) w := by
  have e : (results fn tmps).run P w = ((asAddr (tmps.getD p undef)).run P w).andThen fun a w₁ => ((loadVar ty a).run P w₁).andThen fun x w₂ => .ok (.tuple #[tmps.getD u undef, x, tmps.getD v undef]) w₂ := by
    simp only [results, h]
    simp [Sem.run_bind, Result.andThen]
  rw [e, hp]
  simp [asAddr, run_loadVar_row w g t ty cs fr d hg hu hd hi]
theorem heap_push (w : World) (o : Obj) (k : Nat) : (w.alloc o).heap[k]? = if k = w.heap.size then some o else w.heap[k]? := by
  show (w.heap.push o)[k]? = _
  rw [Array.getElem?_push]
/-- A slot less n; empty, if nothing is left. -/
def lessS (s : Nat × Int) (n : Int) : Nat × Int := if s.2 = n then (0, 0) else (s.1, s.2 - n)
theorem al2 (w : World) (a b : Obj) : ((w.alloc a).alloc b).heap[w.heap.size + 1]? = some b := by
  have := heap_alloc_new (w.alloc a) b
  rwa [World.size_alloc] at this
section
variable {w : World} {A : Option Addr} {n c lo : Nat} {l : List (Nat × Int)}
set_option maxRecDepth 100000 in
set_option maxHeartbeats 1600000 in
theorem less_any (a : Nat) (b n : Int) (hb : 0 ≤ b ∧ b ≤ 16) (hn : 0 ≤ n ∧ n ≤ b) : Calls Tryd.prog 44 #[.agg #[.int .u8 (a : Int), .int .i64 b], .int .i64 n] w fun e w' => e = .returned (.agg #[.int .u8 ((lessS (a, b) n).1 : Int), .int .i64 (lessS (a, b) n).2]) ∧ Fr No w w' := by
  have hw : IntKind.i64.wrap (b - n) = b - n := IntWalk.i64_in _ (by omega)
  by_cases hbn : b = n
  · subst hbn
    have e1 : (b == b) = true := by simp
    have HE := Lib.hid (show lessS (a, b) b = (0, 0) by unfold lessS; rw [if_pos rfl])
    clear hw
    go_enter Tryd.func44, Tryd.ntmps44
    go_wp2_with fail
    refine bodyPost_ret (results_cell_row (p := 4) rfl _ _ (w.heap.size + 1) 34 #[.int .u8 0, .int .i64 0] (0, 0) _ rfl (al2 w _ _) Tryd.underlying34 rfl (by kernel_rfl)) rfl ?_
    exact ⟨by rw [HE.out]; rfl, (Fr.alloc No _ _).no_trans (Fr.alloc No _ _)⟩
  · have e1 : (b == n) = false := by rw [beq_eq_false_iff_ne]; exact hbn
    have HE := Lib.hid (show lessS (a, b) n = (a, b - n) by unfold lessS; rw [if_neg hbn])
    go_enter Tryd.func44, Tryd.ntmps44
    go_wp2_with fail
    refine bodyPost_ret (results_cell_row (p := 4) rfl _ _ (w.heap.size + 1) 34 #[.int .u8 (a : Int), .int .i64 (b - n)] (0, 0) _ rfl (al2 w _ _) Tryd.underlying34 rfl (by kernel_rfl)) rfl ?_
    exact ⟨by rw [HE.out], (Fr.alloc No _ _).no_trans (Fr.alloc No _ _)⟩
theorem hcells_no {w W : World} {b o n : Nat} {l : List (Nat × Int)} (hx : RdS w (some ⟨b, o, none⟩) n l) (k : Nat) (hk : k < l.length) (hW : Fr No w W) : W.cell? ⟨b, o + k * 2, none⟩ = some (.int .u8 (l[k].1 : Int)) ∧ W.cell? ⟨b, o + k * 2 + 1, none⟩ = some (.int .i64 l[k].2) := by
  obtain ⟨b', o', e, _, hc⟩ := (hx.no hW).2 (by have := hx.1; omega)
  injection e with e
  injection e with e1 e2
  subst e1 e2
  exact hc k hk
theorem OwS.mono {lo lo' : Nat} {w : World} {v : Value} {l : List (Nat × Int)} (hl : lo' ≤ lo) (ho : OwS lo w v l) : OwS lo' w v l := by
  refine ⟨ho.1, ?_⟩
  rcases ho.2 with h | ⟨g, cap, cur, e, h1, h2⟩
  · exact .inl h
  · exact .inr ⟨g, cap, cur, e, by omega, h2⟩
/-- What Take answers. -/
def TakeL (l : List (Nat × Int)) (x m : Int) : List (Nat × Int) × (Nat × Int) × Int :=
  if rgt l = false ∨ x < 0 ∨ (l.length : Int) ≤ x then (l, (0, 0), 103) else if m < 1 then (l, (0, 0), 111) else if (l.getD x.toNat (0, 0)).2 < m then (l, (0, 0), 105)
  else (l.set x.toNat (lessS (l.getD x.toNat (0, 0)) m), ((l.getD x.toNat (0, 0)).1, m), 0)
end
end Go.Proofs.YtmallcjhccbgdaaDoor

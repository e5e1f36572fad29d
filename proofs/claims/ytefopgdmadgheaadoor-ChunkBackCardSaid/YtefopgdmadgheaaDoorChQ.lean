/-
  Set: what it comes to; its rows. No statement of the seat is proved here.
-/
import Derived.Test.YtefopgdmadgheaaDoorChP
import Derived.Test.YtefopgdmadgheaaDoorChL
namespace Go.Proofs.YtefopgdmadgheaaDoor
open Go.RowKit Go.Deep

/-- Six empty slots. -/
def rep6 : List (Nat × Int) := List.replicate 6 (0, 0)
/-- What Set tells. -/
def setE (d : Ck) (cell : Int) (i : Nat) : Int := if plcC cell = false then 102 else if mayC i = false then 100 else if (hasB d.cs cell && (bagAt d.bs cell).any someC) = true then 104 else 0
def setL (d : Ck) (cell : Int) (i : Nat) : Ck := if setE d cell i = 0 then { d with cs := d.cs.set cell.toNat i, bs := boxes (d.cs.set cell.toNat i) (upB d.bs cell rep6) } else d
theorem boxes_put {d : Ck} (r : Rgt d) {a : Nat} (ha : a < d.cs.length) (i : Nat) {k : Nat} (h : AtB (chs 0 d.cs) (a : Int) k) :
    d.bs.take k ++ ((if i = 9 then [((a : Int), rep6)] else []) ++ d.bs.drop (k + if hasB d.cs (a : Int) then 1 else 0)) = boxes (d.cs.set a i) (upB d.bs (a : Int) rep6) := by
  obtain rfl := h.chs ha
  have hf := r.form
  have hc := chs_at ha
  generalize hP : chs 0 (d.cs.take a) = P at *
  generalize hQ : chs (a + 1) (d.cs.drop (a + 1)) = Q at *
  have hPl : ∀ x ∈ P, x < (a : Int) := by rw [← hP]; exact chs_low
  have hQl : ∀ x ∈ Q, (a : Int) < x := by rw [← hQ]; exact chs_high
  have hRHS : boxes (d.cs.set a i) (upB d.bs (a : Int) rep6) = P.map (fun c => (c, bagAt d.bs c)) ++ ((if i = 9 then [((a : Int), rep6)] else []) ++ Q.map (fun c => (c, bagAt d.bs c))) := by
    unfold boxes
    rw [chs_set ha, hP, hQ, List.map_append, List.map_append]
    congr 1
    · apply List.map_congr_left
      intro x hx
      have := hPl x hx
      unfold upB
      rw [if_neg (by omega)]
    · congr 1
      · split
        · show [((a : Int), upB d.bs (a : Int) rep6 (a : Int))] = _
          unfold upB
          rw [if_pos rfl]
        · rfl
      · apply List.map_congr_left
        intro x hx
        have := hQl x hx
        unfold upB
        rw [if_neg (by omega)]
  rw [hRHS]
  have hb : d.bs = P.map (fun c => (c, bagAt d.bs c)) ++ ((if d.cs[a] = 9 then [((a : Int), bagAt d.bs (a : Int))] else []) ++ Q.map (fun c => (c, bagAt d.bs c))) := by
    have h2 : boxes d.cs (bagAt d.bs) = P.map (fun c => (c, bagAt d.bs c)) ++ ((if d.cs[a] = 9 then [((a : Int), bagAt d.bs (a : Int))] else []) ++ Q.map (fun c => (c, bagAt d.bs c))) := by
      unfold boxes
      rw [hc, List.map_append, List.map_append]
      congr 2
      split <;> rfl
    rw [← h2]
    exact hf
  have hlP : (P.map (fun c => (c, bagAt d.bs c))).length = P.length := List.length_map _
  rw [hasB_nat ha]
  generalize P.map (fun c => (c, bagAt d.bs c)) = P' at *
  generalize Q.map (fun c => (c, bagAt d.bs c)) = Q' at *
  have ht : d.bs.take P.length = P' := by
    rw [hb, List.take_append_of_le_length (by omega), List.take_of_length_le (by omega)]
  have hd : d.bs.drop (P.length + if decide (d.cs[a] = 9) = true then 1 else 0) = Q' := by
    rw [hb, List.drop_append, List.drop_of_length_le (by omega), List.nil_append, hlP, show P.length + (if decide (d.cs[a] = 9) = true then 1 else 0) - P.length = (if decide (d.cs[a] = 9) = true then 1 else 0) by omega]
    by_cases h9 : d.cs[a] = 9
    · rw [if_pos (by simpa using h9), if_pos h9]; rfl
    · rw [if_neg (by simpa using h9), if_neg h9]; rfl
  rw [ht, hd]
theorem bxL_take (l : List Bx) : ∀ k, (bxL l).take (k * 2) = bxL (l.take k) := by
  induction l with
  | nil => intro k; simp [bxL]
  | cons x l ih =>
    intro k
    cases k with
    | zero => simp [bxL]
    | succ k =>
      rw [show (k + 1) * 2 = k * 2 + 2 by omega]
      show Value.int .i64 x.cell :: Value.slice x.A x.n x.c :: (bxL l).take (k * 2) = _
      rw [ih]
      rfl
theorem bxL_drop (l : List Bx) : ∀ k, (bxL l).drop (k * 2) = bxL (l.drop k) := by
  induction l with
  | nil => intro k; simp [bxL]
  | cons x l ih =>
    intro k
    cases k with
    | zero => simp [bxL]
    | succ k =>
      rw [show (k + 1) * 2 = k * 2 + 2 by omega]
      show (bxL l).drop (k * 2) = _
      rw [ih]
      rfl
section
variable {w w' : World} {lo : Nat} {C : Ch}
/-- One cell of a chunk written. -/
theorem OwC.setc (h : OwC lo w C) {a : Nat} (ha : a < C.n1) (hl : C.cs.length = C.n1) : ∃ g, C.A1 = some ⟨g, 0, none⟩ ∧ lo ≤ g ∧ w.frozen? ⟨g, a, none⟩ = false ∧ (∃ u, w.cell? ⟨g, a, none⟩ = some u) ∧ (∃ cur, w.heap[g]? = some (.cells cur 27 (0, 0))) ∧
    ∀ i : Nat, OwC lo (w.setCell ⟨g, a, none⟩ (.int .u8 (i : Int))) ⟨C.x, C.y, C.A1, C.n1, C.c1, C.cs.set a i, C.A2, C.n2, C.c2, C.hs, C.A3, C.n3, C.c3, C.bs⟩ ∧ Fr (fun k => k = g) w (w.setCell ⟨g, a, none⟩ (.int .u8 (i : Int))) := by
  obtain ⟨g, hg, hlo, _, hfz, hu, hset, hfr⟩ := own_setk h.o1 a (by omega)
  have hgb : (Value.slice C.A1 C.n1 C.c1).ownBlock = some g := by rw [hg]; rfl
  refine ⟨g, hg, hlo, hfz, hu, own_type h.o1 hgb, fun i => ?_⟩
  have hf := hfr (.int .u8 (i : Int))
  have ap : ∀ {e : TypeId} {size m lo' : Nat} {v : Value} {L : List Value}, e ≠ 27 → w.ownsRow lo' e size v m L → ∀ q, v.ownBlock = some q → ¬ q = g := fun hne h1 q hq e => own_apart h1 h.o1 hne q hq (by rw [e]; exact hgb)
  refine ⟨⟨?_, own_fr h.o2 hf (ap (by decide) h.o2), own_fr h.o3 hf (ap (by decide) h.o3), fun b hb => ⟨(h.o4 b hb).1, own_fr (h.o4 b hb).2 hf (ap (by decide) (h.o4 b hb).2)⟩⟩, hf⟩
  have := hset (.int .u8 (i : Int))
  rw [itL_set] at this
  exact this
/-- The boxes' row another one. -/
theorem OwC.bx3 (h : OwC lo w C) {A' : Option Addr} {n' c' : Nat} {bs' : List Bx} (hf : Fr (fun k => (Value.slice C.A3 C.n3 C.c3).ownBlock = some k) w w') (ho : w'.ownsRow lo 49 2 (.slice A' n' c') n' (bxL bs'))
    (hb : ∀ b ∈ bs', b ∈ C.bs ∨ (b.l.length = b.n ∧ OwS lo w (.slice b.A b.n b.c) b.l)) :
    OwC lo w' ⟨C.x, C.y, C.A1, C.n1, C.c1, C.cs, C.A2, C.n2, C.c2, C.hs, A', n', c', bs'⟩ := by
  have ap : ∀ {e : TypeId} {size m lo' : Nat} {v : Value} {L : List Value}, e ≠ 49 → w.ownsRow lo' e size v m L → ∀ q, v.ownBlock = some q → ¬ (Value.slice C.A3 C.n3 C.c3).ownBlock = some q := fun hne h' q hq => own_apart h' h.o3 hne q hq
  refine ⟨own_fr h.o1 hf (ap (by decide) h.o1), own_fr h.o2 hf (ap (by decide) h.o2), ho, fun b hbm => ?_⟩
  have h4 : b.l.length = b.n ∧ OwS lo w (.slice b.A b.n b.c) b.l := by
    rcases hb b hbm with h1 | h1
    · exact h.o4 b h1
    · exact h1
  exact ⟨h4.1, own_fr h4.2 hf (ap (by decide) h4.2)⟩
set_option maxRecDepth 100000 in
set_option maxHeartbeats 1600000 in
/-- New of six slots. -/
theorem new6_any : Calls Tryd.prog 36 #[.int .i64 6] w fun e w' => ∃ b, e = .returned (.slice (some ⟨b, 0, none⟩) 6 6) ∧ OwS w.heap.size w' (.slice (some ⟨b, 0, none⟩) 6 6) rep6 ∧ Fr No w w' := by
  have hmk : ∀ W : World, (Instr.makeSlice 30 (.int .i64 6) (.int .i64 6)).run Tryd.prog W = .ok (.slice (some ⟨W.heap.size, 0, none⟩) 6 6) (W.alloc (.cells (madeCells #[.int .u8 0, .int .i64 0] (6 * 2)) 29)) := fun W => (make_sl 6 (by omega) W).1
  have HO : Hid (OwS w.heap.size (w.alloc (.cells (madeCells #[.int .u8 0, .int .i64 0] (6 * 2)) 29)) (.slice (some ⟨w.heap.size, 0, none⟩) 6 6) rep6) := Lib.hid ⟨by decide +kernel, .inr ⟨w.heap.size, 6, _, rfl, Nat.le_refl _, heap_alloc_new w _, by decide, by unfold maxLen; decide, by decide +kernel, by kernel_rfl⟩⟩
  generalize madeCells #[.int .u8 0, .int .i64 0] (6 * 2) = cs at *
  go_enter Tryd.func36, Tryd.ntmps36
  go_wp2_with fail
  go_ret
  exact ⟨_, rfl, HO.out, Fr.alloc _ _ _⟩
/-- A chunk of the call's own, told out of the cell of a result. -/
theorem fin_c {W : World} {R : Nat} {Cf : Ch} {L : Ck} (ho : OwC w.heap.size W Cf) (hR : W.heap[R]? = some (.cells #[.int .i64 0, .int .i64 0, .slice none 0 0, .slice none 0 0, .slice none 0 0] 26 (0, 0))) (hf : Fr No w W) (hRw : w.heap.size ≤ R) (hL : Cf.ck = L) (x0 : Int) :
    CkE w L x0 (.returned (.tuple #[Cf.val, .int .i64 x0])) (set5 W R (.int .i64 Cf.x) (.int .i64 Cf.y) (.slice Cf.A1 Cf.n1 Cf.c1) (.slice Cf.A2 Cf.n2 Cf.c2) (.slice Cf.A3 Cf.n3 Cf.c3)) ∧
    (set5 W R (.int .i64 Cf.x) (.int .i64 Cf.y) (.slice Cf.A1 Cf.n1 Cf.c1) (.slice Cf.A2 Cf.n2 Cf.c2) (.slice Cf.A3 Cf.n3 Cf.c3)).heap[R]? = some (.cells #[.int .i64 Cf.x, .int .i64 Cf.y, .slice Cf.A1 Cf.n1 Cf.c1, .slice Cf.A2 Cf.n2 Cf.c2, .slice Cf.A3 Cf.n3 Cf.c3] 26 (0, 0)) :=
  ⟨⟨Cf, rfl, hL, ho.at_ hR (set5_fr _ _ _ _ _ _ _), hf.then_new (set5_fr _ _ _ _ _ _ _) (fun i hi => by have e : i = R := hi; rw [e]; exact hRw)⟩, set5_heap hR _ _ _ _ _⟩
end
end Go.Proofs.YtefopgdmadgheaaDoor

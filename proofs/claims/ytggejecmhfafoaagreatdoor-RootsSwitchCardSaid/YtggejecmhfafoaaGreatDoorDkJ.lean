/-
  A disk's steps; its map asked, stored into, and struck from. No statement of the seat is proved here.
-/
import Derived.Test.YtggejecmhfafoaaGreatDoorDkI
namespace Go.Proofs.YtggejecmhfafoaaGreatDoor
open Go.RowKit Go.Maps

def St.step (s : St) : St := if s.bd then (if s.lf = 0 then { s with fl := true, bd := false, lf := 0 } else { s with lf := s.lf - 1 }) else s
def St.fails (s : St) : Bool := s.bd && s.lf == 0

set_option maxRecDepth 100000 in
theorem Fr.setAt (w : World) (D k : Nat) (v : Value) : Fr (fun i => i = D) w (w.setCell ⟨D, k, none⟩ v) := Fr.setCell (F := fun i => i = D) w ⟨D, k, none⟩ v rfl
set_option maxRecDepth 100000 in
/-- A step at a disk whose power is there. -/
theorem step_any {w : World} {D M : Nat} {s : St} (h : Dsk w D M s) (hf : s.fl = false) :
    Calls Tryz.prog 33 #[.pointer (some ⟨D, 0, none⟩)] w fun e w' =>
      e = .returned (.int .i64 (if s.fails then 15 else 0)) ∧ Dsk w' D M s.step ∧ Fr (fun k => k = D) w w' := by
  obtain ⟨fl, bd, lf, mo, fs⟩ := s
  simp only at hf
  subst hf
  cases bd with
  | false =>
    refine (step_free D w h.c1).mono ?_
    rintro e w' ⟨rfl, rfl⟩
    exact ⟨rfl, h, Fr.refl _ _⟩
  | true =>
    cases lf with
    | zero =>
      refine (step_none D w h.c1 h.c2 h.c0 (h.unfrozen 0) (h.unfrozen 1) (h.unfrozen 2)).mono ?_
      rintro e w' ⟨rfl, rfl⟩
      have hfr : Fr (fun k => k = D) w (((w.setCell ⟨D, 0, none⟩ (.bool true)).setCell ⟨D, 1, none⟩ (.bool false)).setCell ⟨D, 2, none⟩ (.int .i64 0)) :=
        ((Fr.setAt _ D 0 _).trans (Fr.setAt _ D 1 _) (fun _ _ e => e)).trans (Fr.setAt _ D 2 _) (fun _ _ e => e)
      refine ⟨rfl, h.power hfr true false 0 (by omega) ?_, hfr⟩
      exact heap_cells_set _ D 2 _ _ _ (heap_cells_set _ D 1 _ _ _ (heap_cells_set _ D 0 _ _ _ h.blk))
    | succ n =>
      have hl : ((n : Int) + 1) ≤ 9223372036854775807 := by have := h.left; simpa using this
      refine (step_left D n w hl h.c1 (by have := h.c2; simpa using this) (h.unfrozen 2)).mono ?_
      rintro e w' ⟨rfl, rfl⟩
      have hfr : Fr (fun k => k = D) w (w.setCell ⟨D, 2, none⟩ (.int .i64 (n : Int))) := Fr.setAt _ D 2 _
      refine ⟨rfl, h.power hfr false true n (by omega) ?_, hfr⟩
      exact heap_cells_set _ D 2 _ _ _ h.blk

section
variable {w : World} {D M n : Nat} {fs : List Fl}
set_option maxRecDepth 100000 in
theorem look_run (hm : w.ownsMap Tryz.prog 9 flR M n (dat fs)) (nm : ByteArray) (hs : nm.size ≤ maxLen) :
    (Instr.lookup 46 (.map (some M)) (.string nm) false).run Tryz.prog w =
      .ok (match fnd nm.data.toList fs with | some f => f.val | none => .agg #[.slice none 0 0, .int .i64 0]) w := by
  obtain ⟨v, ps, hrun, hv⟩ := hm.lookup (t := 46) kS Tryz.underlying46 (Tryz.zeroValue60 w) (zd := .held (.agg #[.slice none 0 0, .int .i64 0])) (zp := []) rfl (WideMaps.keyOf_string_mk Tryz.underlying9 hs)
  rw [hrun]
  obtain ⟨_, e⟩ := flR_inv hv
  rw [dat_at] at e
  cases hf : fnd nm.data.toList fs with
  | none => rw [hf] at e; simp only [Prod.mk.injEq, DataW.held.injEq] at e; rw [← e.1]
  | some f => rw [hf] at e; simp only [Prod.mk.injEq, DataW.held.injEq] at e; rw [← e.1]
set_option maxRecDepth 100000 in
theorem look_ok_run (hm : w.ownsMap Tryz.prog 9 flR M n (dat fs)) (nm : ByteArray) (hs : nm.size ≤ maxLen) :
    (Instr.lookup 46 (.map (some M)) (.string nm) true).run Tryz.prog w =
      .ok (match fnd nm.data.toList fs with | some f => .tuple #[f.val, .bool true] | none => .tuple #[.agg #[.slice none 0 0, .int .i64 0], .bool false]) w := by
  obtain ⟨v, ps, hrun, hv⟩ := hm.look_ok (t := 46) kS Tryz.underlying46 (Tryz.zeroValue60 w) (zd := .held (.agg #[.slice none 0 0, .int .i64 0])) (zp := []) rfl (WideMaps.keyOf_string_mk Tryz.underlying9 hs)
  rw [hrun, dat_has]
  obtain ⟨_, e⟩ := flR_inv hv
  rw [dat_at] at e
  cases hf : fnd nm.data.toList fs with
  | none => rw [hf] at e; simp only [Prod.mk.injEq, DataW.held.injEq] at e; rw [← e.1]; rfl
  | some f => rw [hf] at e; simp only [Prod.mk.injEq, DataW.held.injEq] at e; rw [← e.1]; rfl
set_option maxRecDepth 100000 in
theorem own_size (hm : w.ownsMap Tryz.prog 9 flR M n (dat fs)) : w.ownsMap Tryz.prog 9 flR M fs.length (dat fs) := by
  obtain ⟨es, clock, hb, F, hs, hD⟩ := hm
  refine ⟨es, clock, hb, F, ?_, hD⟩
  have e := congrArg Maps.size hD
  rw [dat_size] at e
  have e2 : Maps.size (DataW.map ((es.toList.map (WideElems.rg Tryz.prog 9 flR)).foldr DataW.insert [])) = es.size := by simp [Maps.size, length_sorted]
  omega
set_option maxRecDepth 100000 in
theorem store_run (hm : w.ownsMap Tryz.prog 9 flR M fs.length (dat fs)) (hl : fs.length ≤ 200) (nm : ByteArray) (hs : nm.size ≤ maxLen) (f : Fl) (hf : f.nm = nm.data.toList) :
    ∃ w', (Instr.mapUpdate 46 (.map (some M)) (.string nm) f.val).run Tryz.prog w = .ok () w' ∧ w'.ownsMap Tryz.prog 9 flR M (put f fs).length (dat (put f fs)) ∧ Fr (fun k => k = M) w w' := by
  obtain ⟨w', hrun, h1, h2⟩ := hm.store (t := 46) kS Tryz.underlying46 (by unfold maxLen; omega) (key := .string nm) (val := f.val) (d := .held f.val) (ps := []) (WideMaps.keyOf_string_mk Tryz.underlying9 hs) rfl
  rw [← hf, dat_put] at h1
  exact ⟨w', hrun, own_size h1, Fr.grown h2.grown (fun k e => by injection e with e; exact e.symm)⟩
set_option maxRecDepth 100000 in
theorem drop_run (hm : w.ownsMap Tryz.prog 9 flR M n (dat fs)) (nm : ByteArray) (hs : nm.size ≤ maxLen) (ty : TypeId) :
    ∃ w', (Builtin.delete_ #[46, 9] ty #[.map (some M), .string nm]).run Tryz.prog w = .ok (.tuple #[]) w' ∧ w'.ownsMap Tryz.prog 9 flR M (del nm.data.toList fs).length (dat (del nm.data.toList fs)) ∧ Fr (fun k => k = M) w w' := by
  obtain ⟨w', hrun, h1, h2⟩ := hm.drop (t := 46) kS Tryz.underlying46 (key := .string nm) (WideMaps.keyOf_string_mk Tryz.underlying9 hs) ty
  rw [dat_del] at h1
  exact ⟨w', hrun, own_size h1, Fr.grown h2.grown (fun k e => by injection e with e; exact e.symm)⟩
end
section
variable {w : World} {ops : Array Oper} {rest : List Oper} {o : Oper} {a : Act} {Q : Exit → Act → World → Prop} {M n : Nat} {fs : List Fl}
set_option maxRecDepth 100000 in
theorem wpList_look (hg : o.guard = none) (m x : Operand) (hop : o.op = Op.lookup 46 m x false) (hown : w.ownsMap Tryz.prog 9 flR M n (dat fs)) (nm : ByteArray) (hs : nm.size ≤ maxLen)
    (hm : a.eval m = .map (some M)) (hx : a.eval x = .string nm)
    (hK : wpList Tryz.prog ops Q rest (a.put o.dst (match fnd nm.data.toList fs with | some f => f.val | none => .agg #[.slice none 0 0, .int .i64 0])) w) : wpList Tryz.prog ops Q (o :: rest) a w := by
  refine wpList_plain hg fun K' hK' => ?_
  unfold Oper.wp
  simp [execOp, hop, hm, hx, look_run hown nm hs, Result.andThen]
  exact hK' _ _ hK
set_option maxRecDepth 100000 in
theorem wpList_look_ok (hg : o.guard = none) (m x : Operand) (hop : o.op = Op.lookup 46 m x true) (hown : w.ownsMap Tryz.prog 9 flR M n (dat fs)) (nm : ByteArray) (hs : nm.size ≤ maxLen)
    (hm : a.eval m = .map (some M)) (hx : a.eval x = .string nm)
    (hK : wpList Tryz.prog ops Q rest (a.put o.dst (match fnd nm.data.toList fs with | some f => .tuple #[f.val, .bool true] | none => .tuple #[.agg #[.slice none 0 0, .int .i64 0], .bool false])) w) : wpList Tryz.prog ops Q (o :: rest) a w := by
  refine wpList_plain hg fun K' hK' => ?_
  unfold Oper.wp
  simp [execOp, hop, hm, hx, look_ok_run hown nm hs, Result.andThen]
  exact hK' _ _ hK
set_option maxRecDepth 100000 in
theorem wpList_store (hg : o.guard = none) (m x v : Operand) (hop : o.op = Op.mapUpdate 46 m x v) (hown : w.ownsMap Tryz.prog 9 flR M fs.length (dat fs)) (hl : fs.length ≤ 200) (nm : ByteArray) (hs : nm.size ≤ maxLen)
    (f : Fl) (hf : f.nm = nm.data.toList) (hm : a.eval m = .map (some M)) (hx : a.eval x = .string nm) (hv : a.eval v = f.val)
    (hK : ∀ w', w'.ownsMap Tryz.prog 9 flR M (put f fs).length (dat (put f fs)) → Fr (fun k => k = M) w w' → wpList Tryz.prog ops Q rest (a.put o.dst undef) w') : wpList Tryz.prog ops Q (o :: rest) a w := by
  refine wpList_plain hg fun K' hK' => ?_
  obtain ⟨w', hrun, h1, h2⟩ := store_run hown hl nm hs f hf
  unfold Oper.wp
  simp [execOp, hop, hm, hx, hv, hrun, Result.andThen]
  exact hK' _ _ (hK w' h1 h2)
set_option maxRecDepth 100000 in
theorem wpList_drop (hg : o.guard = none) (m x : Operand) (hop : o.op = Op.call { callee := Callee.builtin Builtin.delete, args := #[m, x], argTypes := #[46, 9] }) (hown : w.ownsMap Tryz.prog 9 flR M n (dat fs)) (nm : ByteArray) (hs : nm.size ≤ maxLen)
    (hm : a.eval m = .map (some M)) (hx : a.eval x = .string nm)
    (hK : ∀ w', w'.ownsMap Tryz.prog 9 flR M (del nm.data.toList fs).length (dat (del nm.data.toList fs)) → Fr (fun k => k = M) w w' → wpList Tryz.prog ops Q rest (a.put o.dst (.tuple #[])) w') : wpList Tryz.prog ops Q (o :: rest) a w := by
  refine wpList_plain hg fun K' hK' => ?_
  obtain ⟨w', hrun, h1, h2⟩ := drop_run hown nm hs o.type
  unfold Oper.wp
  simp [execOp, hop, resolve, invoke, builtin, hm, hx, hrun, Result.andThen]
  exact hK' _ _ (hK w' h1 h2)
end
end Go.Proofs.YtggejecmhfafoaaGreatDoor

/-
  Texts put behind bytes, a text at a place; worlds that have grown. No statement of the seat is proved here.
-/
import Derived.Test.YtgdcjealhbfnaaaDoorSl
import Derived.Test.YtgdcjealhbfnaaaDoorCat
import Derived.Test.YtgdcjealhbfnaaaDoorArr
import Derived.Lib.AppendStr
import Derived.Deep.QuietTactic
import Derived.BigQuiet
import Derived.Deep.AppendLies
namespace Go.Proofs.YtgdcjealhbfnaaaDoor
open Go.RowKit

set_option maxRecDepth 100000 in
theorem strCells_eq (s : ByteArray) : Lib.strCells s = bvs s.data.toList := by
  unfold Lib.strCells bvs
  simp
set_option maxRecDepth 100000 in
/-- A text appended to bytes of the call's own. -/
theorem wpList_append_text (w : World) {ops : Array Oper} {rest : List Oper} {o : Oper} {a : Act} {Q : Exit → Act → World → Prop} (hgd : o.guard = none) (sl x : Operand)
    (ho : o.op = .call { callee := .builtin .append, args := #[sl, x], argTypes := #[22, 9] })
    (B : Nat) (v : Value) (l : List UInt8) (hs : a.eval sl = v) (hown : w.ownsRow B 5 1 v l.length (bvs l)) (s : ByteArray) (hx : a.eval x = .string s) (hlen : l.length + s.size ≤ 1000000) (hbase : B ≤ w.heap.size)
    (h : ∀ v' w', w'.ownsRow B 5 1 v' (l ++ s.data.toList).length (bvs (l ++ s.data.toList)) → w.grownBy w' v.ownBlock → wpList Tryd.prog ops Q rest (a.put o.dst v') w') : wpList Tryd.prog ops Q (o :: rest) a w := by
  obtain ⟨i0, hi, hz0, hz1, hz2⟩ := info_parts info_u8
  refine Lib.wpList_append_own_string w hgd sl x 22 9 ho B 5 i0 Tryd.underlying22 Tryd.underlying9 hi hz0 hz1 hz2 v l.length (bvs l) hs hown s hx (by unfold maxLen; omega) (by omega) hbase ?_
  intro v' w' h1 h2 _
  refine h v' w' ?_ h2
  rw [bvs_append, ← strCells_eq, List.length_append, Array.length_toList]
  exact h1
set_option maxRecDepth 100000 in
theorem over_rule {w : World} {B n c hi : Nat} {A : Option Addr} {l : List UInt8} (z : Int) (hz : z = (hi : Int)) (h : Rd w B A hi l) (h2 : hi ≤ c) :
    ∃ A' c', (∀ W : World, (Instr.slice 22 (.slice A n c) none (some (.int .i64 z)) none).run Tryd.prog W = .ok (.slice A' hi c') W) ∧ Rd w B A' hi l ∧ hi ≤ c' := by
  obtain ⟨i0, hi0, hz0, hz1, hz2⟩ := info_parts info_u8
  have hcut := h.cut h2 (Nat.zero_le hi) (Nat.le_refl hi)
  have hl := h.len
  rw [List.drop_zero, Nat.sub_zero, List.take_of_length_le (by omega)] at hcut
  refine ⟨(if c = 0 then A else A.map (·.add 0)), c, fun W => ?_, hcut, by omega⟩
  subst hz
  rw [run_slice_h W 22 A n c Tryd.underlying22 .i64 (hi : Int) (by omega) (by omega)]
  have he : Tryd.prog.elem 22 = 5 := by simp [Program.elem, Tryd.underlying22]
  rw [he]
  simp [sizeOf, typeInfo, hi0, hz1, sliced]
set_option maxRecDepth 100000 in
theorem own_shape_pos {w : World} {B n : Nat} {e : TypeId} {v : Value} {xs : List Value} (h : w.ownsRow B e 1 v n xs) (hn : 0 < n) : ∃ g c, v = .slice (some ⟨g, 0, none⟩) n c ∧ n ≤ c ∧ c ≤ maxLen ∧ B ≤ g := by
  rcases h.2 with ⟨rfl, rfl⟩ | ⟨g, cap, cur, rfl, hg, _, h1, h2, _⟩
  · omega
  · exact ⟨g, cap, rfl, h1, h2, hg⟩
theorem bytes_append (l m : List UInt8) : (⟨l.toArray⟩ : ByteArray) ++ ⟨m.toArray⟩ = ⟨(l ++ m).toArray⟩ := by
  apply ByteArray.ext
  rw [ByteArray.data_append]
  simp
set_option maxRecDepth 100000 in
theorem run_index_text (W : World) (s : ByteArray) (i : Nat) (x : UInt8) (z : Int) (hz : z = (i : Int)) (h : s.data.toList[i]? = some x) :
    (Instr.index 9 (.string s) (.int .i64 z)).run Tryd.prog W = .ok (.int .u8 (x.toNat : Int)) W := by
  subst hz
  have hi : i < s.size := by
    have := (List.getElem?_eq_some_iff.1 h).1
    rwa [Array.length_toList] at this
  rw [run_index_string W 9 s .i64 (i : Int) Tryd.underlying9, dif_pos ⟨by omega, by omega⟩]
  have e : s[((i : Int)).toNat]'(by omega) = x := by
    have := (List.getElem?_eq_some_iff.1 h).2
    rw [← this]; rfl
  rw [e]
set_option maxRecDepth 100000 in
theorem Arr.grown {w w' : World} {b : Nat} {t : TypeId} {c : Array Value} {row : Option Nat} (h : Arr w b t c) (hg : w.grownBy w' row) (hne : some b ≠ row) : Arr w' b t c := (hg.block b h.lt hne).trans h
set_option maxRecDepth 100000 in
theorem grown_set (w : World) (g i : Nat) (v : Value) : w.grownBy (w.setCell ⟨g, i, none⟩ v) (some g) :=
  ⟨rfl, rfl, rfl, by simp, fun k _ hk => heap_setCell_other w ⟨g, i, none⟩ k v (fun e => hk (by rw [e]))⟩
set_option maxRecDepth 100000 in
theorem below_grown {w w' : World} (h : Below w.heap.size w w') (row : Option Nat) : w.grownBy w' row := ⟨h.os, h.tape, h.output, h.size, fun k hk _ => h.block k hk⟩
end Go.Proofs.YtgdcjealhbfnaaaDoor

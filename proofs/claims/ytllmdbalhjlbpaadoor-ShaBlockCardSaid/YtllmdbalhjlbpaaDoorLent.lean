/-
  The contracts of LentBytes and KeptBytes: bytes with a guard in the room behind them. No statement of the seat is proved here.
-/
import Derived.Test.YtllmdbalhjlbpaaDoorSl
import Derived.Test.YtllmdbalhjlbpaaDoorCat
import Derived.Lib.AppendStr
import Derived.Deep.QuietTactic
import Derived.BigQuiet
namespace Go.Proofs.YtllmdbalhjlbpaaDoor
open Go.RowKit

def guardB : List UInt8 := [77, 42, 99, 17]
set_option maxRecDepth 100000 in
theorem strCells_eq (s : ByteArray) : Lib.strCells s = bvs s.data.toList := by
  unfold Lib.strCells bvs
  simp
set_option maxRecDepth 100000 in
/-- A text appended to bytes of the call's own. -/
theorem wpList_append_text (w : World) {ops : Array Oper} {rest : List Oper} {o : Oper} {a : Act} {Q : Exit → Act → World → Prop} (hgd : o.guard = none) (sl x : Operand)
    (ho : o.op = .call { callee := .builtin .append, args := #[sl, x], argTypes := #[23, 9] })
    (B : Nat) (v : Value) (l : List UInt8) (hs : a.eval sl = v) (hown : w.ownsRow B 5 1 v l.length (bvs l)) (s : ByteArray) (hx : a.eval x = .string s) (hlen : l.length + s.size ≤ 1000000) (hbase : B ≤ w.heap.size)
    (h : ∀ v' w', w'.ownsRow B 5 1 v' (l ++ s.data.toList).length (bvs (l ++ s.data.toList)) → w.grownBy w' v.ownBlock → wpList Tryd.prog ops Q rest (a.put o.dst v') w') : wpList Tryd.prog ops Q (o :: rest) a w := by
  obtain ⟨i0, hi, hz0, hz1, hz2⟩ := info_parts info_u8
  refine Lib.wpList_append_own_string w hgd sl x 23 9 ho B 5 i0 Tryd.underlying23 Tryd.underlying9 hi hz0 hz1 hz2 v l.length (bvs l) hs hown s hx (by unfold maxLen; omega) (by omega) hbase ?_
  intro v' w' h1 h2 _
  refine h v' w' ?_ h2
  rw [bvs_append, ← strCells_eq, List.length_append, Array.length_toList]
  exact h1
set_option maxRecDepth 100000 in
theorem over_rule {w : World} {B n c hi : Nat} {A : Option Addr} {l : List UInt8} (z : Int) (hz : z = (hi : Int)) (h : Rd w B A hi l) (h2 : hi ≤ c) :
    ∃ A' c', (∀ W : World, (Instr.slice 23 (.slice A n c) none (some (.int .i64 z)) none).run Tryd.prog W = .ok (.slice A' hi c') W) ∧ Rd w B A' hi l ∧ hi ≤ c' := by
  obtain ⟨i0, hi0, hz0, hz1, hz2⟩ := info_parts info_u8
  have hcut := h.cut h2 (Nat.zero_le hi) (Nat.le_refl hi)
  have hl := h.len
  rw [List.drop_zero, Nat.sub_zero, List.take_of_length_le (by omega)] at hcut
  refine ⟨(if c = 0 then A else A.map (·.add 0)), c, fun W => ?_, hcut, by omega⟩
  subst hz
  rw [run_slice_h W 23 A n c Tryd.underlying23 .i64 (hi : Int) (by omega) (by omega)]
  have he : Tryd.prog.elem 23 = 5 := by simp [Program.elem, Tryd.underlying23]
  rw [he]
  simp [sizeOf, typeInfo, hi0, hz1, sliced]
set_option maxRecDepth 100000 in
theorem own_shape_pos {w : World} {B n : Nat} {e : TypeId} {v : Value} {xs : List Value} (h : w.ownsRow B e 1 v n xs) (hn : 0 < n) : ∃ g c, v = .slice (some ⟨g, 0, none⟩) n c ∧ n ≤ c ∧ c ≤ maxLen ∧ B ≤ g := by
  rcases h.2 with ⟨rfl, rfl⟩ | ⟨g, cap, cur, rfl, hg, _, h1, h2, _⟩
  · omega
  · exact ⟨g, cap, rfl, h1, h2, hg⟩

set_option maxHeartbeats 800000 in
set_option maxRecDepth 100000 in
theorem lent_any (A : Option Addr) (n c : Nat) (l : List UInt8) (w : World) (h : Rd w w.heap.size A n l) (hn : n ≤ 100000) :
    Calls Tryd.prog 46 #[.slice A n c] w fun e w' => ∃ g c', e = .returned (.slice (some ⟨g, 0, none⟩) n c') ∧ n + 4 ≤ c' ∧ Rd w' w'.heap.size (some ⟨g, 0, none⟩) (n + 4) (l ++ guardB) ∧ Below w.heap.size w w' := by
  have H := Lib.hid h
  have HL := Lib.hid h.len
  clear h
  obtain ⟨i0, hi0, hz0, hz1, hz2⟩ := info_parts info_u8
  have ho : (w.alloc (.cells #[] 5)).ownsRow w.heap.size 5 1 (.slice (some ⟨w.heap.size, 0, none⟩) 0 0) ([] : List UInt8).length (bvs []) :=
    World.ownsRow_made w #[] 0 (Nat.le_refl _) (by unfold maxLen; omega) rfl
  have HO := Lib.hid ho
  clear ho
  go_enter Tryd.func46, Tryd.ntmps46
  go_wp2_with (at_builtin; refine wpList_append_rd _ rfl (.tmp 4) (.tmp 5) rfl w.heap.size w.heap.size _ [] rfl HO.out _ _ _ l rfl (H.out.alloc (Nat.le_refl _) _) (by simp; omega) (by simp) ?_; intro v' w2 hown2 hgrow; (have hb2 : Below w.heap.size w w2 := ((Below.refl _ _).alloc (Nat.le_refl _) _).grown hgrow (by simp) (fun g hg => (HO.out.lt g hg).1)); refine wpList_append_text _ rfl (.tmp 6) (.const (.string ⟨#[77, 42, 99, 17]⟩)) rfl w.heap.size v' ([] ++ l) (by rfl) hown2 ⟨#[77, 42, 99, 17]⟩ rfl (by rw [List.nil_append, HL.out, show (⟨#[77, 42, 99, 17]⟩ : ByteArray).size = 4 from rfl]; omega) hb2.size ?_; intro v3 w3 hown3 hgrow3; (have hb3 : Below w.heap.size w w3 := hb2.grown hgrow3 hb2.size (fun g hg => (hown2.lt g hg).1)); (have hE : ([] ++ l ++ (⟨#[77, 42, 99, 17]⟩ : ByteArray).data.toList) = l ++ guardB := rfl); rw [hE] at hown3; (have hN : (l ++ guardB).length = n + 4 := by rw [List.length_append, HL.out]; rfl); (have hR := Lib.hid (show ∃ g c, v3 = .slice (some ⟨g, 0, none⟩) (n + 4) c ∧ n + 4 ≤ c ∧ c ≤ maxLen ∧ w.heap.size ≤ g ∧ Rd w3 w3.heap.size (some ⟨g, 0, none⟩) (n + 4) (l ++ guardB) by
      rw [hN] at hown3
      obtain ⟨g, c, hv, h1, h2, h3⟩ := own_shape_pos hown3 (by omega)
      rw [hv, ← hN] at hown3
      have := Rd.own hown3
      rw [hN] at this
      exact ⟨g, c, hv, h1, h2, h3, this⟩)); clear hown3 hgrow3 hown2 hgrow hE hN hb2; obtain ⟨g, c3, rfl, h1, h2, h3, HR⟩ := hR.out)
  go_ret
  exact ⟨g, c3, rfl, h1, HR, hb3⟩

theorem bytes_append (l m : List UInt8) : (⟨l.toArray⟩ : ByteArray) ++ ⟨m.toArray⟩ = ⟨(l ++ m).toArray⟩ := by
  apply ByteArray.ext
  rw [ByteArray.data_append]
  simp
set_option maxHeartbeats 800000 in
set_option maxRecDepth 100000 in
theorem kept_any (A A2 : Option Addr) (n c n2 c2 : Nat) (l : List UInt8) (w : World) (h : Rd w w.heap.size A (n + 4) (l ++ guardB)) (hc : n + 4 ≤ c) (h2 : Rd w w.heap.size A2 n2 l) (hn : n ≤ 100000) :
    Calls Tryd.prog 47 #[.slice A n c, .slice A2 n2 c2] w fun e w' => e = .returned (.bool true) ∧ ∃ q, w' = w.drewN q := by
  obtain ⟨A3, c3, hsl, hr3, hc3⟩ := over_rule (n := n) ((n : Int) + 4) (by omega) h hc
  have hcv1 : ∀ q, (convert 23 9 (.slice A3 (n + 4) c3)).run Tryd.prog (w.drewN q) = .ok (.string ⟨(l ++ guardB).toArray⟩) (w.drewN q) := fun q => str_rule c3 (hr3.keep (w' := w.drewN q) (fun p _ => rfl))
  have hcv2 : ∀ q, (convert 23 9 (.slice A2 n2 c2)).run Tryd.prog (w.drewN q) = .ok (.string ⟨l.toArray⟩) (w.drewN q) := fun q => str_rule c2 (h2.keep (w' := w.drewN q) (fun p _ => rfl))
  have hl := h.len
  rw [List.length_append, show guardB.length = 4 from rfl] at hl
  have hadd : ∀ W, (Op.stringOp .add ⟨l.toArray⟩ ⟨#[77, 42, 99, 17]⟩).run Tryd.prog W = .ok (.string ⟨(l ++ guardB).toArray⟩) W := fun W => by
    unfold Op.stringOp
    rw [if_neg (by
      show ¬ ((((l.toArray.size + 4 : Nat)) : Int) > IntKind.i64.max)
      rw [List.size_toArray, show l.length = n by omega]
      have : IntKind.i64.max = 9223372036854775807 := by decide
      rw [this]; omega)]
    rw [show (⟨#[77, 42, 99, 17]⟩ : ByteArray) = ⟨guardB.toArray⟩ from rfl, bytes_append]
    rfl
  obtain ⟨s, HS⟩ : ∃ s : ByteArray, Unit → (⟨(l ++ guardB).toArray⟩ : ByteArray) = s := ⟨_, fun _ => rfl⟩
  obtain ⟨t, HT⟩ : ∃ s : ByteArray, Unit → (⟨l.toArray⟩ : ByteArray) = s := ⟨_, fun _ => rfl⟩
  rw [HS ()] at hcv1
  rw [HT ()] at hcv2
  simp only [HS (), HT ()] at hadd
  have hs : (s.toList == s.toList) = true := by simp
  have e1 : IntKind.i64.wrap ((n : Int) + 4) = (n : Int) + 4 := IntWalk.i64_in _ (by omega)
  clear h h2 hl hr3
  go_enter Tryd.func47, Tryd.ntmps47
  go_wp2_with fail
  go_quiet (fail)
  go_wp2_with fail
  go_ret
  exact ⟨rfl, nq, rfl⟩
end Go.Proofs.YtllmdbalhjlbpaaDoor

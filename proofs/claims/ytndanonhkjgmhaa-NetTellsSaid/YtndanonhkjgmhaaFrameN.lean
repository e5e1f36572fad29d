/-
  What the rows of layer 3 share: arguments opened. No statement of the seat is proved here.
-/
import Derived.Test.YtndanonhkjgmhaaNtG
import Derived.Test.YtndanonhkjgmhaaRow
import Derived.ProofKit
import Derived.OpenShut
import Derived.ChangeOld
import Derived.Deep.Slices
import Derived.Deep.Fields
import Derived.ChangeSame
namespace Go.Proofs.Ytndanonhkjgmhaa
open Go.ChangeShapes Go.WideShapes Go.ChangeAt Go.RowKit Go.Deep

set_option maxRecDepth 100000 in
theorem own : ownKnob Try.prog.godebug = none := by kernel_rfl
set_option maxRecDepth 100000 in
theorem laidOut : laidOutB Try.prog = true := by kernel_rfl
set_option maxRecDepth 100000 in
theorem cells_u8 : Try.prog.cellsOf 5 = 1 := by kernel_rfl

set_option maxRecDepth 100000 in
/-- A slice of bytes that came in, opened: what it reads as, below the heap's end. -/
theorem open_bytes {H : Type} {enc : TypeId × Value → H} {W : World} {held : Bool} {A : Option Addr} {n c : Nat} {d : DataW H} {p : List MemPlace} {base : Nat}
    (h : DataW.Trod enc Try.prog W base (fun _ => true) held 28 (Value.slice A n c) d p) : n ≤ c ∧ c ≤ maxLen ∧ ∃ l, Rd W W.heap.size A n l := by
  obtain ⟨fuel, hf⟩ := h
  rcases open_ints Try.underlying28 Try.underlying5 cells_u8 hf with ⟨hcs, _⟩ | ⟨x, l, c', zs, hcs, _, hl, hm, hz, _, hcell, hwz⟩
  · simp [Value.cells] at hcs
    obtain ⟨rfl, rfl, rfl⟩ := hcs
    exact ⟨Nat.le_refl _, Nat.zero_le _, [], Rd.nil⟩
  · simp [Value.cells] at hcs
    obtain ⟨rfl, rfl, rfl⟩ := hcs
    have hzl : zs.length = c := by simpa using hz
    refine ⟨hl, hm, (zs.take n).map (fun z => UInt8.ofNat z.toNat), by simp; omega, fun hn => ?_⟩
    have h0 := hcell 0 (by omega)
    obtain ⟨b, o, spot⟩ := x
    have hspot : spot = none := by simpa [Addr.add] using World.cell?_spot h0
    subst hspot
    refine ⟨b, o, rfl, World.block_lt_of_cell? W _ (by simpa [Addr.add_lit] using h0), fun j hj => ?_⟩
    have hj2 : j < n := by simp at hj; omega
    have hc := hcell j (by omega)
    rw [Addr.add_lit] at hc
    rw [hc]
    have hw := hwz _ (List.getElem_mem (show j < zs.length by omega))
    have hb := bounds_u8 hw
    simp only [List.getElem_map, List.getElem_take, UInt8.toNat_ofNat']
    congr 2
    rw [List.getD_eq_getElem?_getD, List.getElem?_eq_getElem (show j < zs.length by omega)]
    simp only [Option.getD_some]
    omega
set_option maxRecDepth 100000 in
/-- A list out of an answer for each place. -/
theorem list_of {α : Type} (P : Nat → α → Prop) : ∀ n : Nat, (∀ i, i < n → ∃ x, P i x) → ∃ l : List α, l.length = n ∧ ∀ i (h : i < l.length), P i l[i]
  | 0, _ => ⟨[], rfl, fun i h => absurd h (by simp)⟩
  | n + 1, hx => by
    obtain ⟨l, hl, hp⟩ := list_of P n (fun i hi => hx i (by omega))
    obtain ⟨x, hxn⟩ := hx n (by omega)
    refine ⟨l ++ [x], by simp [hl], fun i hi => ?_⟩
    rcases Nat.lt_or_ge i l.length with h | h
    · rw [List.getElem_append_left h]
      exact hp i h
    · have e : i = n := by simp [hl] at hi; omega
      subst e
      have : (l ++ [x])[i] = x := by rw [List.getElem_append_right h]; simp
      rw [this]
      exact hxn
set_option maxRecDepth 100000 in
/-- A slice that came in, opened: what stands at each place. -/
theorem open_row {α H : Type} {enc : TypeId × Value → H} {W : World} {held : Bool} {A : Option Addr} {n c : Nat} {d : DataW H} {p : List MemPlace} {base : Nat} {t e : TypeId} (size : Nat) (At : Addr → α → Prop)
    (ht : Try.prog.underlying t = some (.slice e)) (hsz : Try.prog.cellsOf e = size)
    (each : ∀ (a : Addr) (cs : List Value) (fuel : Nat) (x : DataW H × List MemPlace), W.cells? base a size = some cs → DataW.trod enc Try.prog W base (fun _ => true) held fuel e cs = some x → ∃ y, At a y)
    (first : ∀ a y, At a y → ∃ v, W.cell? a = some v)
    (h : DataW.Trod enc Try.prog W base (fun _ => true) held t (Value.slice A n c) d p) : n ≤ c ∧ c ≤ maxLen ∧ ∃ xs, RowOf W size At A n xs := by
  obtain ⟨fuel, hf⟩ := h
  rcases open_slice ht hf with ⟨hcs, _⟩ | ⟨a, len, cap, m, k, D, Pl, hcs, _, hl, hmx, hm, _, hi⟩
  · simp [Value.cells] at hcs
    obtain ⟨rfl, rfl, rfl⟩ := hcs
    exact ⟨Nat.le_refl _, Nat.zero_le _, [], rfl, (fun h => absurd h (by omega))⟩
  · simp [Value.cells] at hcs
    obtain ⟨rfl, rfl, rfl⟩ := hcs
    have hmc : n ≤ m := by rw [hm]; simpa using hl
    rw [hsz] at hi
    obtain ⟨xs, hxl, hx⟩ := list_of (fun i y => At (a.add (i * size)) y) n (fun i hin => by
      obtain ⟨cs', hc, ht'⟩ := hi i (by omega)
      exact each _ _ _ _ hc ht')
    refine ⟨hl, hmx, xs, hxl, fun hn => ?_⟩
    obtain ⟨v, h0⟩ := first _ _ (hx 0 (by omega))
    obtain ⟨b, o, spot⟩ := a
    have hspot : spot = none := by simpa [Addr.add] using World.cell?_spot h0
    subst hspot
    refine ⟨b, o, rfl, World.block_lt_of_cell? W _ (by simpa [Addr.add_lit] using h0), fun j hj => ?_⟩
    have := hx j hj
    rw [Addr.add_lit] at this
    exact this
set_option maxRecDepth 100000 in
theorem one_cell {W : World} {base : Nat} {a : Addr} {cs : List Value} (h : W.cells? base a 1 = some cs) : ∃ v, cs = [v] ∧ W.cell? a = some v := by
  obtain ⟨_, hlen, hat⟩ := World.cells?_some h
  match cs, hlen with
  | [v], _ =>
    have c0 := hat 0 (by omega)
    have : a.add 0 = a := by simp [Addr.add]
    rw [this] at c0
    exact ⟨v, rfl, c0⟩
end Go.Proofs.Ytndanonhkjgmhaa

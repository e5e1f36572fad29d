/-
  Slots that came in, opened. No statement of the seat is proved here.
-/
import Derived.Test.YtjdhbgdpmojobaaDoorFrameI
import Derived.Test.YtjdhbgdpmojobaaDoorBgA
namespace Go.Proofs.YtjdhbgdpmojobaaDoor
open Go.ChangeShapes Go.WideShapes Go.ChangeAt Go.RowKit Go.Deep

theorem list_of {α : Type} (P : Nat → α → Prop) : ∀ n : Nat, (∀ i, i < n → ∃ x, P i x) → ∃ l : List α, l.length = n ∧ ∀ i (h : i < l.length), P i l[i]
  | 0, _ => ⟨[], rfl, fun i h => absurd h (by simp)⟩
  | n + 1, hx => by
    obtain ⟨l, hl, hp⟩ := list_of P n (fun i hi => hx i (by omega))
    obtain ⟨x, hxn⟩ := hx n (by omega)
    refine ⟨l ++ [x], by simp [hl], fun i hi => ?_⟩
    rcases Nat.lt_or_ge i l.length with h | h
    · rw [List.getElem_append_left h]
      exact hp i h
    · have e : i = n := by simp [hl] at hi; omega
      subst e
      have : (l ++ [x])[i] = x := by rw [List.getElem_append_right h]; simp
      rw [this]
      exact hxn
theorem cells_slot : Tryd.prog.cellsOf 112 = 2 := by kernel_rfl
set_option maxRecDepth 100000 in
theorem open_slot {H : Type} {enc : TypeId × Value → H} {W : World} {held : Bool} {base fuel : Nat} {a : Addr} {cs : List Value} {x : DataW H × List MemPlace}
    (hc : W.cells? base a 2 = some cs) (h : DataW.trod enc Tryd.prog W base (fun _ => true) held fuel 112 cs = some x) : ∃ s : Nat × Int, s.1 < 256 ∧ W.cell? a = some (.int .u8 (s.1 : Int)) ∧ W.cell? (a.add 1) = some (.int .i64 s.2) := by
  obtain ⟨_, hlen, hat⟩ := World.cells?_some hc
  obtain ⟨y0, y1, n, rfl, _, f0, f1⟩ := trod_struct2 Tryd.underlying112 h
  match cs, hlen with
  | [u0, u1], _ =>
    have c0 := hat 0 (by omega)
    have c1 := hat 1 (by omega)
    simp only [cells_item, cells_int] at f0 f1
    obtain ⟨k, e0, _, w0⟩ := DataW.trod_int Tryd.underlying50 f0
    obtain ⟨m, e1, _, _⟩ := DataW.trod_int Tryd.underlying3 f1
    have b0 := bounds_u8 w0
    have q0 : u0 = .int .u8 k := by simpa using e0
    have q1 : u1 = .int .i64 m := by simpa using e1
    subst q0 q1
    have : a.add 0 = a := by simp [Addr.add]
    rw [this] at c0
    refine ⟨(k.toNat, m), by show k.toNat < 256; omega, ?_, c1⟩
    rw [c0, show (((k.toNat : Nat) : Int)) = k by omega]
    rfl
set_option maxRecDepth 100000 in
theorem open_slots {H : Type} {enc : TypeId × Value → H} {W : World} {held : Bool} {A : Option Addr} {n c : Nat} {d : DataW H} {p : List MemPlace} {base : Nat}
    (h : DataW.Trod enc Tryd.prog W base (fun _ => true) held 33 (Value.slice A n c) d p) : n ≤ c ∧ c ≤ maxLen ∧ ∃ l, RdS W A n l ∧ By l := by
  obtain ⟨fuel, hf⟩ := h
  rcases open_slice Tryd.underlying33 hf with ⟨hcs, _⟩ | ⟨a, len, cap, m, k, D, Pl, hcs, _, hl, hmx, hm, _, hi⟩
  · simp [Value.cells] at hcs
    obtain ⟨rfl, rfl, rfl⟩ := hcs
    exact ⟨Nat.le_refl _, Nat.zero_le _, [], RdS.nil _ _, fun s hs => by cases hs⟩
  · simp [Value.cells] at hcs
    obtain ⟨rfl, rfl, rfl⟩ := hcs
    have hmc : n ≤ m := by rw [hm]; simpa using hl
    rw [cells_slot] at hi
    obtain ⟨xs, hxl, hx⟩ := list_of (fun i (s : Nat × Int) => s.1 < 256 ∧ W.cell? (a.add (i * 2)) = some (.int .u8 (s.1 : Int)) ∧ W.cell? ((a.add (i * 2)).add 1) = some (.int .i64 s.2)) n (fun i hin => by
      obtain ⟨cs', hc, ht'⟩ := hi i (by omega)
      exact open_slot hc ht')
    refine ⟨hl, hmx, xs, ⟨hxl, fun hn => ?_⟩, fun s hs => ?_⟩
    · obtain ⟨_, h0, _⟩ := hx 0 (by omega)
      obtain ⟨b, o, spot⟩ := a
      have hspot : spot = none := by simpa [Addr.add] using World.cell?_spot h0
      subst hspot
      refine ⟨b, o, rfl, World.block_lt_of_cell? W _ (by simpa [Addr.add_lit] using h0), fun j hj => ?_⟩
      obtain ⟨_, h1, h2⟩ := hx j hj
      rw [Addr.add_lit] at h1 h2
      rw [Addr.add_lit] at h2
      exact ⟨h1, h2⟩
    · obtain ⟨j, hj, rfl⟩ := List.getElem_of_mem hs
      exact (hx j hj).1
end Go.Proofs.YtjdhbgdpmojobaaDoor

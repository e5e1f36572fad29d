/-
  A list of things that came in, opened: what each of them reads as. No statement of the seat is proved here.
-/
import Derived.Test.YtbiglickijmmhaaDoorFrame
import Derived.Test.YtbiglickijmmhaaDoorThW
import Derived.Deep.Slices
import Derived.Deep.Fields
import Derived.ChangeSame
namespace Go.Proofs.YtbiglickijmmhaaDoor
open Go.ChangeShapes Go.WideShapes Go.ChangeAt Go.RowKit Go.Deep

theorem cells_th : Tryd.prog.cellsOf 45 = 3 := by kernel_rfl
theorem cells_u64' : Tryd.prog.cellsOf 22 = 1 := by kernel_rfl
theorem cells_bs' : Tryd.prog.cellsOf 23 = 1 := by kernel_rfl
/-- A list out of an answer for each place. -/
theorem list_of {α : Type} (P : Nat → α → Prop) : ∀ n : Nat, (∀ i, i < n → ∃ x, P i x) → ∃ l : List α, l.length = n ∧ ∀ i (h : i < l.length), P i l[i]
  | 0, _ => ⟨[], rfl, fun i h => absurd h (by simp)⟩
  | n + 1, hx => by
    obtain ⟨l, hl, hp⟩ := list_of P n (fun i hi => hx i (by omega))
    obtain ⟨x, hxn⟩ := hx n (by omega)
    refine ⟨l ++ [x], by simp [hl], fun i hi => ?_⟩
    rcases Nat.lt_or_ge i l.length with h | h
    · rw [List.getElem_append_left h]
      exact hp i h
    · have e : i = n := by simp [hl] at hi; omega
      subst e
      have : (l ++ [x])[i] = x := by rw [List.getElem_append_right h]; simp
      rw [this]
      exact hxn
/-- What three cells say of a thing. -/
def ThAt (W : World) (a : Addr) (t : Th) : Prop :=
  W.cell? a = some (.int .u8 (t.K : Int)) ∧ W.cell? (a.add 1) = some (.int .u64 (t.N : Int)) ∧ W.cell? (a.add 2) = some (.slice t.A t.n t.c) ∧ t.N < 2 ^ 64 ∧ Rd W W.heap.size t.A t.n t.l
theorem open_thing {H : Type} {enc : TypeId × Value → H} {W : World} {held : Bool} {base fuel : Nat} {a : Addr} {cs : List Value} {x : DataW H × List MemPlace}
    (hc : W.cells? base a 3 = some cs) (h : DataW.trod enc Tryd.prog W base (fun _ => true) held fuel 45 cs = some x) : ∃ t, ThAt W a t := by
  obtain ⟨_, hlen, hat⟩ := World.cells?_some hc
  obtain ⟨xs, n, _, _, _, hxl, hf⟩ := DataW.trod_struct Tryd.underlying45 h
  match cs, hlen with
  | [u0, u1, u2], _ =>
    have c0 := hat 0 (by omega)
    have c1 := hat 1 (by omega)
    have c2 := hat 2 (by omega)
    have f0 : DataW.trod enc Tryd.prog W base (fun _ => true) held n 5 (List.take (Tryd.prog.cellsOf 5) (List.drop 0 [u0, u1, u2])) = xs[0]? := hf 0 _ rfl
    have f1 : DataW.trod enc Tryd.prog W base (fun _ => true) held n 22 (List.take (Tryd.prog.cellsOf 22) (List.drop 1 [u0, u1, u2])) = xs[1]? := hf 1 _ rfl
    have f2 : DataW.trod enc Tryd.prog W base (fun _ => true) held n 23 (List.take (Tryd.prog.cellsOf 23) (List.drop 2 [u0, u1, u2])) = xs[2]? := hf 2 _ rfl
    clear hf
    rw [cells_u8] at f0
    rw [cells_u64'] at f1
    rw [cells_bs'] at f2
    have hx3 : xs.length = 3 := hxl
    rw [List.getElem?_eq_getElem (by omega)] at f0 f1 f2
    obtain ⟨k, e0, _, w0⟩ := DataW.trod_int Tryd.underlying5 f0
    obtain ⟨m, e1, _, w1⟩ := DataW.trod_int Tryd.underlying22 f1
    have b0 := bounds_u8 w0
    have b1 := bounds_u64 w1
    have q0 : u0 = .int .u8 k := by simpa using e0
    have q1 : u1 = .int .u64 m := by simpa using e1
    have hsl : ∃ A sn sc, u2 = .slice A sn sc := by
      rcases open_slice Tryd.underlying23 f2 with ⟨e2, _⟩ | ⟨b, sn, sc, _, _, _, _, e2, _⟩
      · exact ⟨none, 0, 0, by simpa using e2⟩
      · exact ⟨some b, sn, sc, by simpa using e2⟩
    obtain ⟨A, sn, sc, rfl⟩ := hsl
    obtain ⟨_, _, l, hl⟩ := open_bytes (A := A) (n := sn) (c := sc) (d := (xs[2]'(by omega)).1) (p := (xs[2]'(by omega)).2) (base := base) (enc := enc) (W := W) (held := held) ⟨n, f2⟩
    subst q0 q1
    refine ⟨⟨k.toNat, m.toNat, A, sn, sc, l⟩, ?_, ?_, ?_, ?_, hl⟩
    · have : a.add 0 = a := by simp [Addr.add]
      rw [this] at c0
      rw [c0, show ((k.toNat : Nat) : Int) = k by omega]
      rfl
    · rw [c1, show ((m.toNat : Nat) : Int) = m by omega]
      rfl
    · rw [c2]
      rfl
    · show m.toNat < 2 ^ 64
      omega
theorem open_things {H : Type} {enc : TypeId × Value → H} {W : World} {held : Bool} {A : Option Addr} {n c : Nat} {d : DataW H} {p : List MemPlace} {base : Nat}
    (h : DataW.Trod enc Tryd.prog W base (fun _ => true) held 41 (Value.slice A n c) d p) : ∃ Ts, RdT W W.heap.size A n Ts := by
  obtain ⟨fuel, hf⟩ := h
  rcases open_slice Tryd.underlying41 hf with ⟨hcs, _⟩ | ⟨a, len, cap, m, k, D, Pl, hcs, _, hl, _, hm, _, hi⟩
  · simp [Value.cells] at hcs
    obtain ⟨rfl, rfl, rfl⟩ := hcs
    exact ⟨[], rfl, (fun t ht => by cases ht), (fun h => absurd h (by omega))⟩
  · simp [Value.cells] at hcs
    obtain ⟨rfl, rfl, rfl⟩ := hcs
    have hmc : n ≤ m := by rw [hm]; simpa using hl
    rw [cells_th] at hi
    obtain ⟨Ts, hTl, hT⟩ := list_of (fun i t => ThAt W (a.add (i * 3)) t) n (fun i hin => by
      obtain ⟨cs', hc, ht⟩ := hi i (by omega)
      exact open_thing hc ht)
    refine ⟨Ts, hTl, fun t ht => ?_, fun hn => ?_⟩
    · obtain ⟨i, hil, rfl⟩ := List.getElem_of_mem ht
      exact ⟨(hT i hil).2.2.2.1, (hT i hil).2.2.2.2⟩
    · have h0 := (hT 0 (by omega)).1
      obtain ⟨b, o, spot⟩ := a
      have hspot : spot = none := by simpa [Addr.add] using World.cell?_spot h0
      subst hspot
      refine ⟨b, o, rfl, World.block_lt_of_cell? W _ (by simpa [Addr.add_lit] using h0), fun j hj => ?_⟩
      obtain ⟨d0, d1, d2, _⟩ := hT j hj
      rw [add_add] at d1 d2
      rw [Addr.add_lit] at d0 d1 d2
      exact ⟨d0, d1, d2⟩
end Go.Proofs.YtbiglickijmmhaaDoor

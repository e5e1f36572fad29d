/-
  Several texts in one: Row, FrameD, DmF, FrameC, FrameI, FrameK. No statement of the seat is proved here.
-/
import Derived.Test.YtnkgcafebmacjaaSl
import Derived.Test.YtnkgcafebmacjaaDkY
import Derived.ProofKit
import Derived.OpenShut
import Derived.ChangeOld
import Derived.Deep.Slices
import Derived.Deep.Fields
import Derived.ChangeSame
import Derived.Test.YtnkgcafebmacjaaDmA
namespace Go.Proofs.Ytnkgcafebmacjaa
open Go.RowKit

/-- A slice of n things of so many cells each: at each place what At says. -/
def RowOf {α : Type} (W : World) (size : Nat) (At : Addr → α → Prop) (A : Option Addr) (n : Nat) (xs : List α) : Prop :=
  xs.length = n ∧ (0 < n → ∃ b o, A = some ⟨b, o, none⟩ ∧ b < W.heap.size ∧ ∀ j (h : j < xs.length), At ⟨b, o + j * size, none⟩ xs[j])
/-- A slice of bytes, as it stands in a cell. -/
structure Sb where
  A : Option Addr
  n : Nat
  c : Nat
  l : List UInt8
def BsAt (W : World) (a : Addr) (x : Sb) : Prop := W.cell? a = some (.slice x.A x.n x.c) ∧ Rd W W.heap.size x.A x.n x.l
end Go.Proofs.Ytnkgcafebmacjaa
namespace Go.Proofs.Ytnkgcafebmacjaa
open Go.ChangeShapes Go.WideShapes Go.ChangeAt Go.RowKit Go.Deep

set_option maxRecDepth 100000 in
theorem own : ownKnob Try.prog.godebug = none := by kernel_rfl
set_option maxRecDepth 100000 in
theorem laidOut : laidOutB Try.prog = true := by kernel_rfl
set_option maxRecDepth 100000 in
theorem cells_u8 : Try.prog.cellsOf 5 = 1 := by kernel_rfl

set_option maxRecDepth 100000 in
/-- A slice of bytes that came in, opened: what it reads as, below the heap's end. -/
theorem open_bytes {H : Type} {enc : TypeId × Value → H} {W : World} {held : Bool} {A : Option Addr} {n c : Nat} {d : DataW H} {p : List MemPlace} {base : Nat}
    (h : DataW.Trod enc Try.prog W base (fun _ => true) held 33 (Value.slice A n c) d p) : n ≤ c ∧ c ≤ maxLen ∧ ∃ l, Rd W W.heap.size A n l := by
  obtain ⟨fuel, hf⟩ := h
  rcases open_ints Try.underlying33 Try.underlying5 cells_u8 hf with ⟨hcs, _⟩ | ⟨x, l, c', zs, hcs, _, hl, hm, hz, _, hcell, hwz⟩
  · simp [Value.cells] at hcs
    obtain ⟨rfl, rfl, rfl⟩ := hcs
    exact ⟨Nat.le_refl _, Nat.zero_le _, [], Rd.nil⟩
  · simp [Value.cells] at hcs
    obtain ⟨rfl, rfl, rfl⟩ := hcs
    have hzl : zs.length = c := by simpa using hz
    refine ⟨hl, hm, (zs.take n).map (fun z => UInt8.ofNat z.toNat), by simp; omega, fun hn => ?_⟩
    have h0 := hcell 0 (by omega)
    obtain ⟨b, o, spot⟩ := x
    have hspot : spot = none := by simpa [Addr.add] using World.cell?_spot h0
    subst hspot
    refine ⟨b, o, rfl, World.block_lt_of_cell? W _ (by simpa [Addr.add_lit] using h0), fun j hj => ?_⟩
    have hj2 : j < n := by simp at hj; omega
    have hc := hcell j (by omega)
    rw [Addr.add_lit] at hc
    rw [hc]
    have hw := hwz _ (List.getElem_mem (show j < zs.length by omega))
    have hb := bounds_u8 hw
    simp only [List.getElem_map, List.getElem_take, UInt8.toNat_ofNat']
    congr 2
    rw [List.getD_eq_getElem?_getD, List.getElem?_eq_getElem (show j < zs.length by omega)]
    simp only [Option.getD_some]
    omega
set_option maxRecDepth 100000 in
/-- A list out of an answer for each place. -/
theorem list_of {α : Type} (P : Nat → α → Prop) : ∀ n : Nat, (∀ i, i < n → ∃ x, P i x) → ∃ l : List α, l.length = n ∧ ∀ i (h : i < l.length), P i l[i]
  | 0, _ => ⟨[], rfl, fun i h => absurd h (by simp)⟩
  | n + 1, hx => by
    obtain ⟨l, hl, hp⟩ := list_of P n (fun i hi => hx i (by omega))
    obtain ⟨x, hxn⟩ := hx n (by omega)
    refine ⟨l ++ [x], by simp [hl], fun i hi => ?_⟩
    rcases Nat.lt_or_ge i l.length with h | h
    · rw [List.getElem_append_left h]
      exact hp i h
    · have e : i = n := by simp [hl] at hi; omega
      subst e
      have : (l ++ [x])[i] = x := by rw [List.getElem_append_right h]; simp
      rw [this]
      exact hxn
set_option maxRecDepth 100000 in
/-- A slice that came in, opened: what stands at each place. -/
theorem open_row {α H : Type} {enc : TypeId × Value → H} {W : World} {held : Bool} {A : Option Addr} {n c : Nat} {d : DataW H} {p : List MemPlace} {base : Nat} {t e : TypeId} (size : Nat) (At : Addr → α → Prop)
    (ht : Try.prog.underlying t = some (.slice e)) (hsz : Try.prog.cellsOf e = size)
    (each : ∀ (a : Addr) (cs : List Value) (fuel : Nat) (x : DataW H × List MemPlace), W.cells? base a size = some cs → DataW.trod enc Try.prog W base (fun _ => true) held fuel e cs = some x → ∃ y, At a y)
    (first : ∀ a y, At a y → ∃ v, W.cell? a = some v)
    (h : DataW.Trod enc Try.prog W base (fun _ => true) held t (Value.slice A n c) d p) : n ≤ c ∧ c ≤ maxLen ∧ ∃ xs, RowOf W size At A n xs := by
  obtain ⟨fuel, hf⟩ := h
  rcases open_slice ht hf with ⟨hcs, _⟩ | ⟨a, len, cap, m, k, D, Pl, hcs, _, hl, hmx, hm, _, hi⟩
  · simp [Value.cells] at hcs
    obtain ⟨rfl, rfl, rfl⟩ := hcs
    exact ⟨Nat.le_refl _, Nat.zero_le _, [], rfl, (fun h => absurd h (by omega))⟩
  · simp [Value.cells] at hcs
    obtain ⟨rfl, rfl, rfl⟩ := hcs
    have hmc : n ≤ m := by rw [hm]; simpa using hl
    rw [hsz] at hi
    obtain ⟨xs, hxl, hx⟩ := list_of (fun i y => At (a.add (i * size)) y) n (fun i hin => by
      obtain ⟨cs', hc, ht'⟩ := hi i (by omega)
      exact each _ _ _ _ hc ht')
    refine ⟨hl, hmx, xs, hxl, fun hn => ?_⟩
    obtain ⟨v, h0⟩ := first _ _ (hx 0 (by omega))
    obtain ⟨b, o, spot⟩ := a
    have hspot : spot = none := by simpa [Addr.add] using World.cell?_spot h0
    subst hspot
    refine ⟨b, o, rfl, World.block_lt_of_cell? W _ (by simpa [Addr.add_lit] using h0), fun j hj => ?_⟩
    have := hx j hj
    rw [Addr.add_lit] at this
    exact this
set_option maxRecDepth 100000 in
theorem one_cell {W : World} {base : Nat} {a : Addr} {cs : List Value} (h : W.cells? base a 1 = some cs) : ∃ v, cs = [v] ∧ W.cell? a = some v := by
  obtain ⟨_, hlen, hat⟩ := World.cells?_some h
  match cs, hlen with
  | [v], _ =>
    have c0 := hat 0 (by omega)
    have : a.add 0 = a := by simp [Addr.add]
    rw [this] at c0
    exact ⟨v, rfl, c0⟩
end Go.Proofs.Ytnkgcafebmacjaa
namespace Go.Proofs.Ytnkgcafebmacjaa
open Go.RowKit Go.Maps

/-- A call, as it stands in memory. -/
structure Cl where
  wh : Nat
  nm : ByteArray
  to : ByteArray
  B : Sb
  n : Int
  K : Option Addr
  kn : Nat
  kc : Nat
def Cl.val (c : Cl) : Value := .agg #[.int .u8 (c.wh : Int), .string c.nm, .string c.to, .slice c.B.A c.B.n c.B.c, .int .i64 c.n, .slice c.K c.kn c.kc]
def Cl.fits (c : Cl) : Bool := decide (c.nm.size < 90) && decide (c.to.size < 90) && decide (c.B.n ≤ 150) && decide (c.kn ≤ 250)
set_option maxRecDepth 100000 in
theorem fits_any (c : Cl) (w : World) :
    Calls Try.prog 7 #[.agg #[.int .u8 (c.wh : Int), .string c.nm, .string c.to, .slice c.B.A c.B.n c.B.c, .int .i64 c.n, .slice c.K c.kn c.kc]] w fun e w' => e = .returned (.bool c.fits) ∧ Fr No w w' := by
  obtain ⟨r, HR⟩ : ∃ r, Hid (c.fits = r) := ⟨_, rfl⟩
  rw [HR.out]
  have hr := HR.out
  unfold Cl.fits at hr
  by_cases h1 : c.nm.size < 90
  · by_cases h2 : c.to.size < 90
    · by_cases h3 : c.B.n ≤ 150
      · by_cases h4 : c.kn ≤ 250
        · have hd4 : decide ((c.kn : Int) ≤ 250) = true := by rw [decide_eq_true_eq]; omega
          have hr2 : Hid (r = true) := by show r = true; rw [← hr]; simp [h1, h2, h3, h4]
          clear hr
          go_enter Try.func7, Try.ntmps7
          go_wp2_with fail
          go_ret
          exact ⟨by rw [hr2.out]; rfl, Fr.alloc _ _ _⟩
        · have hd4 : decide ((c.kn : Int) ≤ 250) = false := by rw [decide_eq_false_iff_not]; omega
          have hr2 : Hid (r = false) := by show r = false; rw [← hr]; simp [h4]
          clear hr
          go_enter Try.func7, Try.ntmps7
          go_wp2_with fail
          go_ret
          exact ⟨by rw [hr2.out]; rfl, Fr.alloc _ _ _⟩
      · have hr2 : Hid (r = false) := by show r = false; rw [← hr]; simp [h3]
        clear hr
        go_enter Try.func7, Try.ntmps7
        go_wp2_with fail
        go_ret
        exact ⟨by rw [hr2.out]; rfl, Fr.alloc _ _ _⟩
    · have hr2 : Hid (r = false) := by show r = false; rw [← hr]; simp [h2]
      clear hr
      go_enter Try.func7, Try.ntmps7
      go_wp2_with fail
      go_ret
      exact ⟨by rw [hr2.out]; rfl, Fr.alloc _ _ _⟩
  · have hr2 : Hid (r = false) := by show r = false; rw [← hr]; simp [h1]
    clear hr
    go_enter Try.func7, Try.ntmps7
    go_wp2_with fail
    go_ret
    exact ⟨by rw [hr2.out]; rfl, Fr.alloc _ _ _⟩
/-- What six cells say of a call. -/
def ClAt (W : World) (a : Addr) (x : Cl) : Prop :=
  W.cell? a = some (.int .u8 (x.wh : Int)) ∧ W.cell? (a.add 1) = some (.string x.nm) ∧ W.cell? (a.add 2) = some (.string x.to) ∧ W.cell? (a.add 3) = some (.slice x.B.A x.B.n x.B.c) ∧
    W.cell? (a.add 4) = some (.int .i64 x.n) ∧ W.cell? (a.add 5) = some (.slice x.K x.kn x.kc) ∧ x.wh < 256 ∧ x.nm.size ≤ maxLen ∧ x.to.size ≤ maxLen ∧ Rd W W.heap.size x.B.A x.B.n x.B.l
set_option maxRecDepth 100000 in
theorem ClAt.below {W W' : World} {B : Nat} {b o : Nat} {x : Cl} (h : ClAt W ⟨b, o, none⟩ x) (hB : W.heap.size = B) (hb : b < B) (hw : Below B W W') : ClAt W' ⟨b, o, none⟩ x := by
  obtain ⟨h0, h1, h2, h3, h4, h5, h6, h7, h8, h9⟩ := h
  have hc : ∀ k, W'.cell? ((⟨b, o, none⟩ : Addr).add k) = W.cell? ((⟨b, o, none⟩ : Addr).add k) := fun k => by
    rw [Addr.add_lit]
    exact hw.cell (p := ⟨b, o + k, none⟩) hb
  exact ⟨(hw.cell (p := ⟨b, o, none⟩) hb).trans h0, (hc 1).trans h1, (hc 2).trans h2, (hc 3).trans h3, (hc 4).trans h4, (hc 5).trans h5, h6, h7, h8, ((h9.more (Nat.le_of_eq hB)).below hw).more (by rw [← hB]; exact hw.size)⟩
set_option maxRecDepth 100000 in
theorem ClAt.facts {W : World} {b o : Nat} {x : Cl} (h : ClAt W ⟨b, o, none⟩ x) :
    W.cell? ⟨b, o, none⟩ = some (.int .u8 (x.wh : Int)) ∧ W.cell? ⟨b, o + 1, none⟩ = some (.string x.nm) ∧ W.cell? ⟨b, o + 2, none⟩ = some (.string x.to) ∧ W.cell? ⟨b, o + 3, none⟩ = some (.slice x.B.A x.B.n x.B.c) ∧
      W.cell? ⟨b, o + 4, none⟩ = some (.int .i64 x.n) ∧ W.cell? ⟨b, o + 5, none⟩ = some (.slice x.K x.kn x.kc) := by
  obtain ⟨h0, h1, h2, h3, h4, h5, _⟩ := h
  simp only [Addr.add_lit] at h1 h2 h3 h4 h5
  exact ⟨h0, h1, h2, h3, h4, h5⟩
end Go.Proofs.Ytnkgcafebmacjaa
namespace Go.Proofs.Ytnkgcafebmacjaa
open Go.ChangeShapes Go.WideShapes Go.ChangeAt Go.RowKit Go.Deep

set_option maxRecDepth 100000 in
theorem cells_cl : Try.prog.cellsOf 36 = 6 := by kernel_rfl
set_option maxRecDepth 100000 in
theorem cells_str : Try.prog.cellsOf 9 = 1 := by kernel_rfl
set_option maxRecDepth 100000 in
theorem cells_bs1 : Try.prog.cellsOf 33 = 1 := by kernel_rfl
set_option maxRecDepth 100000 in
theorem cells_int1 : Try.prog.cellsOf 3 = 1 := by kernel_rfl
set_option maxRecDepth 100000 in
theorem cells_ints1 : Try.prog.cellsOf 34 = 1 := by kernel_rfl
set_option maxRecDepth 100000 in
theorem slice_shape {H : Type} {enc : TypeId × Value → H} {W : World} {held : Bool} {base fuel : Nat} {t e : TypeId} {v : Value} {x : DataW H × List MemPlace} (ht : Try.prog.underlying t = some (.slice e))
    (h : DataW.trod enc Try.prog W base (fun _ => true) held fuel t [v] = some x) : ∃ A sn sc, v = .slice A sn sc := by
  rcases open_slice ht h with ⟨e2, _⟩ | ⟨b, sn, sc, _, _, _, _, e2, _⟩
  · exact ⟨none, 0, 0, by simpa using e2⟩
  · exact ⟨some b, sn, sc, by simpa using e2⟩
set_option maxRecDepth 100000 in
theorem open_call {H : Type} {enc : TypeId × Value → H} {W : World} {held : Bool} {base fuel : Nat} {a : Addr} {cs : List Value} {x : DataW H × List MemPlace}
    (hc : W.cells? base a 6 = some cs) (h : DataW.trod enc Try.prog W base (fun _ => true) held fuel 36 cs = some x) : ∃ t, ClAt W a t := by
  obtain ⟨_, hlen, hat⟩ := World.cells?_some hc
  obtain ⟨xs, n, _, _, _, hxl, hf⟩ := DataW.trod_struct Try.underlying36 h
  match cs, hlen with
  | [u0, u1, u2, u3, u4, u5], _ =>
    have c0 := hat 0 (by omega)
    have c1 := hat 1 (by omega)
    have c2 := hat 2 (by omega)
    have c3 := hat 3 (by omega)
    have c4 := hat 4 (by omega)
    have c5 := hat 5 (by omega)
    have f0 : DataW.trod enc Try.prog W base (fun _ => true) held n 5 (List.take (Try.prog.cellsOf 5) (List.drop 0 [u0, u1, u2, u3, u4, u5])) = xs[0]? := hf 0 _ rfl
    have f1 : DataW.trod enc Try.prog W base (fun _ => true) held n 9 (List.take (Try.prog.cellsOf 9) (List.drop 1 [u0, u1, u2, u3, u4, u5])) = xs[1]? := hf 1 _ rfl
    have f2 : DataW.trod enc Try.prog W base (fun _ => true) held n 9 (List.take (Try.prog.cellsOf 9) (List.drop 2 [u0, u1, u2, u3, u4, u5])) = xs[2]? := hf 2 _ rfl
    have f3 : DataW.trod enc Try.prog W base (fun _ => true) held n 33 (List.take (Try.prog.cellsOf 33) (List.drop 3 [u0, u1, u2, u3, u4, u5])) = xs[3]? := hf 3 _ rfl
    have f4 : DataW.trod enc Try.prog W base (fun _ => true) held n 3 (List.take (Try.prog.cellsOf 3) (List.drop 4 [u0, u1, u2, u3, u4, u5])) = xs[4]? := hf 4 _ rfl
    have f5 : DataW.trod enc Try.prog W base (fun _ => true) held n 34 (List.take (Try.prog.cellsOf 34) (List.drop 5 [u0, u1, u2, u3, u4, u5])) = xs[5]? := hf 5 _ rfl
    clear hf
    rw [cells_u8] at f0
    rw [cells_str] at f1 f2
    rw [cells_bs1] at f3
    rw [cells_int1] at f4
    rw [cells_ints1] at f5
    have hx6 : xs.length = 6 := hxl
    rw [List.getElem?_eq_getElem (by omega)] at f0 f1 f2 f3 f4 f5
    obtain ⟨k, e0, _, w0⟩ := DataW.trod_int Try.underlying5 f0
    obtain ⟨s1, e1, _, w1⟩ := DataW.trod_string Try.underlying9 f1
    obtain ⟨s2, e2, _, w2⟩ := DataW.trod_string Try.underlying9 f2
    obtain ⟨m, e4, _, w4⟩ := DataW.trod_int Try.underlying3 f4
    have b0 := bounds_u8 w0
    have q0 : u0 = .int .u8 k := by simpa using e0
    have q1 : u1 = .string s1 := by simpa using e1
    have q2 : u2 = .string s2 := by simpa using e2
    have q4 : u4 = .int .i64 m := by simpa using e4
    obtain ⟨A, sn, sc, rfl⟩ := slice_shape Try.underlying33 f3
    obtain ⟨KA, kn, kc, rfl⟩ := slice_shape Try.underlying34 f5
    obtain ⟨_, _, l, hl⟩ := open_bytes (A := A) (n := sn) (c := sc) (d := (xs[3]'(by omega)).1) (p := (xs[3]'(by omega)).2) (base := base) (enc := enc) (W := W) (held := held) ⟨n, f3⟩
    subst q0 q1 q2 q4
    refine ⟨⟨k.toNat, s1, s2, ⟨A, sn, sc, l⟩, m, KA, kn, kc⟩, ?_, c1, c2, c3, c4, c5, ?_, w1, w2, hl⟩
    · have : a.add 0 = a := by simp [Addr.add]
      rw [this] at c0
      rw [c0, show ((k.toNat : Nat) : Int) = k by omega]
      rfl
    · show k.toNat < 256
      omega
set_option maxRecDepth 100000 in
theorem open_calls {H : Type} {enc : TypeId × Value → H} {W : World} {held : Bool} {A : Option Addr} {n c : Nat} {d : DataW H} {p : List MemPlace} {base : Nat}
    (h : DataW.Trod enc Try.prog W base (fun _ => true) held 22 (Value.slice A n c) d p) : n ≤ c ∧ c ≤ maxLen ∧ ∃ xs, RowOf W 6 (ClAt W) A n xs :=
  open_row 6 (ClAt W) Try.underlying22 cells_cl (fun _ _ _ _ hc hx => open_call hc hx) (fun _ _ hy => ⟨_, hy.1⟩) h
end Go.Proofs.Ytnkgcafebmacjaa
namespace Go.Proofs.Ytnkgcafebmacjaa
open Go.ChangeShapes Go.WideShapes Go.ChangeAt Go.RowKit Go.Deep

def InAt (W : World) (a : Addr) (k : Int) : Prop := W.cell? a = some (.int .i64 k) ∧ -9223372036854775808 ≤ k ∧ k ≤ 9223372036854775807
set_option maxRecDepth 100000 in
theorem open_intsD {H : Type} {enc : TypeId × Value → H} {W : World} {held : Bool} {A : Option Addr} {n c : Nat} {d : DataW H} {p : List MemPlace} {base : Nat}
    (h : DataW.Trod enc Try.prog W base (fun _ => true) held 34 (Value.slice A n c) d p) : n ≤ c ∧ c ≤ maxLen ∧ ∃ xs, RowOf W 1 (InAt W) A n xs := by
  refine open_row 1 (InAt W) Try.underlying34 cells_int1 (fun a cs fuel x hc hx => ?_) (fun a y hy => ⟨_, hy.1⟩) h
  obtain ⟨v, rfl, hv⟩ := one_cell hc
  obtain ⟨m, e, _, wm⟩ := DataW.trod_int Try.underlying3 hx
  have q : v = .int .i64 m := by simpa using e
  subst q
  have b := bounds_i64 wm
  exact ⟨m, hv, b.1, by omega⟩
end Go.Proofs.Ytnkgcafebmacjaa
namespace Go.Proofs.Ytnkgcafebmacjaa
open Go.ChangeShapes Go.WideShapes Go.ChangeAt Go.RowKit Go.Deep

/-- What six cells say of a call, and what its numbers are. -/
def ClAtK (W : World) (a : Addr) (x : Cl) : Prop := ClAt W a x ∧ (-9223372036854775808 ≤ x.n ∧ x.n ≤ 9223372036854775807) ∧ ∃ ks, RowOf W 1 (InAt W) x.K x.kn ks
set_option maxRecDepth 100000 in
theorem open_callK {H : Type} {enc : TypeId × Value → H} {W : World} {held : Bool} {base fuel : Nat} {a : Addr} {cs : List Value} {x : DataW H × List MemPlace}
    (hc : W.cells? base a 6 = some cs) (h : DataW.trod enc Try.prog W base (fun _ => true) held fuel 36 cs = some x) : ∃ t, ClAtK W a t := by
  obtain ⟨_, hlen, hat⟩ := World.cells?_some hc
  obtain ⟨xs, n, _, _, _, hxl, hf⟩ := DataW.trod_struct Try.underlying36 h
  match cs, hlen with
  | [u0, u1, u2, u3, u4, u5], _ =>
    have c0 := hat 0 (by omega)
    have c1 := hat 1 (by omega)
    have c2 := hat 2 (by omega)
    have c3 := hat 3 (by omega)
    have c4 := hat 4 (by omega)
    have c5 := hat 5 (by omega)
    have f0 : DataW.trod enc Try.prog W base (fun _ => true) held n 5 (List.take (Try.prog.cellsOf 5) (List.drop 0 [u0, u1, u2, u3, u4, u5])) = xs[0]? := hf 0 _ rfl
    have f1 : DataW.trod enc Try.prog W base (fun _ => true) held n 9 (List.take (Try.prog.cellsOf 9) (List.drop 1 [u0, u1, u2, u3, u4, u5])) = xs[1]? := hf 1 _ rfl
    have f2 : DataW.trod enc Try.prog W base (fun _ => true) held n 9 (List.take (Try.prog.cellsOf 9) (List.drop 2 [u0, u1, u2, u3, u4, u5])) = xs[2]? := hf 2 _ rfl
    have f3 : DataW.trod enc Try.prog W base (fun _ => true) held n 33 (List.take (Try.prog.cellsOf 33) (List.drop 3 [u0, u1, u2, u3, u4, u5])) = xs[3]? := hf 3 _ rfl
    have f4 : DataW.trod enc Try.prog W base (fun _ => true) held n 3 (List.take (Try.prog.cellsOf 3) (List.drop 4 [u0, u1, u2, u3, u4, u5])) = xs[4]? := hf 4 _ rfl
    have f5 : DataW.trod enc Try.prog W base (fun _ => true) held n 34 (List.take (Try.prog.cellsOf 34) (List.drop 5 [u0, u1, u2, u3, u4, u5])) = xs[5]? := hf 5 _ rfl
    clear hf
    rw [cells_u8] at f0
    rw [cells_str] at f1 f2
    rw [cells_bs1] at f3
    rw [cells_int1] at f4
    rw [cells_ints1] at f5
    have hx6 : xs.length = 6 := hxl
    rw [List.getElem?_eq_getElem (by omega)] at f0 f1 f2 f3 f4 f5
    obtain ⟨k, e0, _, w0⟩ := DataW.trod_int Try.underlying5 f0
    obtain ⟨s1, e1, _, w1⟩ := DataW.trod_string Try.underlying9 f1
    obtain ⟨s2, e2, _, w2⟩ := DataW.trod_string Try.underlying9 f2
    obtain ⟨m, e4, _, w4⟩ := DataW.trod_int Try.underlying3 f4
    have b0 := bounds_u8 w0
    have q0 : u0 = .int .u8 k := by simpa using e0
    have q1 : u1 = .string s1 := by simpa using e1
    have q2 : u2 = .string s2 := by simpa using e2
    have q4 : u4 = .int .i64 m := by simpa using e4
    obtain ⟨A, sn, sc, rfl⟩ := slice_shape Try.underlying33 f3
    obtain ⟨KA, kn, kc, rfl⟩ := slice_shape Try.underlying34 f5
    obtain ⟨_, _, l, hl⟩ := open_bytes (A := A) (n := sn) (c := sc) (d := (xs[3]'(by omega)).1) (p := (xs[3]'(by omega)).2) (base := base) (enc := enc) (W := W) (held := held) ⟨n, f3⟩
    obtain ⟨_, _, ks, hks⟩ := open_intsD (A := KA) (n := kn) (c := kc) (d := (xs[5]'(by omega)).1) (p := (xs[5]'(by omega)).2) (base := base) (enc := enc) (W := W) (held := held) ⟨n, f5⟩
    have b4 := bounds_i64 w4
    subst q0 q1 q2 q4
    refine ⟨⟨k.toNat, s1, s2, ⟨A, sn, sc, l⟩, m, KA, kn, kc⟩, ⟨?_, c1, c2, c3, c4, c5, ?_, w1, w2, hl⟩, ⟨b4.1, by show m ≤ _; omega⟩, ks, hks⟩
    · have : a.add 0 = a := by simp [Addr.add]
      rw [this] at c0
      rw [c0, show ((k.toNat : Nat) : Int) = k by omega]
      rfl
    · show k.toNat < 256
      omega
set_option maxRecDepth 100000 in
theorem open_callsK {H : Type} {enc : TypeId × Value → H} {W : World} {held : Bool} {A : Option Addr} {n c : Nat} {d : DataW H} {p : List MemPlace} {base : Nat}
    (h : DataW.Trod enc Try.prog W base (fun _ => true) held 22 (Value.slice A n c) d p) : n ≤ c ∧ c ≤ maxLen ∧ ∃ xs, RowOf W 6 (ClAtK W) A n xs :=
  open_row 6 (ClAtK W) Try.underlying22 cells_cl (fun _ _ _ _ hc hx => open_callK hc hx) (fun _ _ hy => ⟨_, hy.1.1⟩) h
end Go.Proofs.Ytnkgcafebmacjaa

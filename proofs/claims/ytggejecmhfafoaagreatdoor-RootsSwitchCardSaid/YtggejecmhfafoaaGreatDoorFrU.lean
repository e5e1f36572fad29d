/-
  Several texts in one: FrameR, FrameT, FrameU. No statement of the seat is proved here.
-/
import Derived.Test.YtggejecmhfafoaaGreatDoorRuA
import Derived.Test.YtggejecmhfafoaaGreatDoorCards
import Derived.Test.YtggejecmhfafoaaGreatDoorTie
import Derived.ProofKit
import Derived.OpenShut
import Derived.ChangeOld
import Derived.Deep.DeepHandedRow
import Derived.Lib.LaidTab
import Derived.Deep.Slices
import Derived.Deep.Fields
import Derived.ChangeSame
namespace Go.Proofs.YtggejecmhfafoaaGreatDoor
open Go.ChangeShapes Go.WideShapes Go.ChangeAt Go.RowKit Go.Deep

theorem own : ownKnob Tryz.prog.godebug = none := by kernel_rfl
theorem laidOut : laidOutB Tryz.prog = true := by kernel_rfl
theorem gTab : Tryz.prog.globalNamed "homestead/bytes.fourSteps" = some 0 := by kernel_rfl
theorem gTabType : (Tryz.prog.globals[0]?).map (·.type) = some 99 := by kernel_rfl
theorem cells_tab : Tryz.prog.cellsOf 99 = 16 := by kernel_rfl
theorem cells_u32 : Tryz.prog.cellsOf 89 = 1 := by kernel_rfl
theorem cells_u8 : Tryz.prog.cellsOf 5 = 1 := by kernel_rfl

def tabInt : List Int := [0, 498536548, 997073096, 651767980, 1994146192, 1802195444, 1303535960, 1342533948, 3988292384, 4027552580, 3604390888, 3412177804, 2607071920, 2262029012, 2685067896, 3183342108]
theorem laid_tail {P : Program} {w : World} {x : String × DataW Unit} {rest : List (String × DataW Unit)} (h : laidMet P (x :: rest) w) : laidMet P rest w := by
  obtain ⟨n, d⟩ := x
  obtain ⟨ps, ⟨g, t, cs, fuel, p, q, _, _, _, _, hq, rfl⟩, hn, hb⟩ := h
  exact ⟨q, hq, (List.nodup_append.1 hn).2.1, fun b off hm => hb b off (List.mem_append_right _ hm)⟩
/-- What the rows' list gives: the table's cells hold its sixteen numbers. -/
theorem table {W : World} (h4 : laidMetH Tryz.prog [("math/bits.deBruijn32tab", Rows.laid_math_bits_deBruijn32tab), ("math/bits.deBruijn64tab", Rows.laid_math_bits_deBruijn64tab), ("internal/strconv.uint64pow10", Rows.laid_internal_strconv_uint64pow10), ("homestead/bytes.fourSteps", Rows.laid_homestead_bytes_fourSteps)] W) : Tab W := by
  have h3 : laidMet Tryz.prog [("math/bits.deBruijn32tab", Rows.laid_math_bits_deBruijn32tab), ("math/bits.deBruijn64tab", Rows.laid_math_bits_deBruijn64tab), ("internal/strconv.uint64pow10", Rows.laid_internal_strconv_uint64pow10), ("homestead/bytes.fourSteps", Rows.laid_homestead_bytes_fourSteps)] W := h4
  have h := laid_tail (laid_tail (laid_tail h3))
  have ht : Lib.TabIs Tryz.prog W "homestead/bytes.fourSteps" .u32 tabInt :=
    Lib.tabIs_of_head (rest := []) gTab gTabType Tryz.underlying99 Tryz.underlying89 cells_u32 cells_tab h
  intro k hk
  have hc := ht.cell gTab k (by simpa [tabInt] using hk)
  rw [hc]
  have : ∀ j : Fin 16, tabInt.getD j.val 0 = (tabAt j.val : Int) := by decide
  have h2 := this ⟨k, hk⟩
  simp only at h2
  rw [← h2]

/-- A world for the witness: the settled one, the four tables holding what their initialisers lay. -/
def laying (cs : Array Value) : Obj → Obj
  | .cells _ t frozen => .cells cs t frozen
  | o => o
noncomputable def laidWorld (os : Os) : World :=
  { World.holding Tryz.prog os ⟨#[], #[], []⟩ with heap := (((((World.holding Tryz.prog os ⟨#[], #[], []⟩).heap).modify 2 (laying #[.int .u8 0, .int .u8 1, .int .u8 28, .int .u8 2, .int .u8 29, .int .u8 14, .int .u8 24, .int .u8 3, .int .u8 30, .int .u8 22, .int .u8 20, .int .u8 15, .int .u8 25, .int .u8 17, .int .u8 4, .int .u8 8, .int .u8 31, .int .u8 27, .int .u8 13, .int .u8 23, .int .u8 21, .int .u8 19, .int .u8 16, .int .u8 7, .int .u8 26, .int .u8 12, .int .u8 18, .int .u8 6, .int .u8 11, .int .u8 5, .int .u8 10, .int .u8 9])).modify 3 (laying #[.int .u8 0, .int .u8 1, .int .u8 56, .int .u8 2, .int .u8 57, .int .u8 49, .int .u8 28, .int .u8 3, .int .u8 61, .int .u8 58, .int .u8 42, .int .u8 50, .int .u8 38, .int .u8 29, .int .u8 17, .int .u8 4, .int .u8 62, .int .u8 47, .int .u8 59, .int .u8 36, .int .u8 45, .int .u8 43, .int .u8 51, .int .u8 22, .int .u8 53, .int .u8 39, .int .u8 33, .int .u8 30, .int .u8 24, .int .u8 18, .int .u8 12, .int .u8 5, .int .u8 63, .int .u8 55, .int .u8 48, .int .u8 27, .int .u8 60, .int .u8 41, .int .u8 37, .int .u8 16, .int .u8 46, .int .u8 35, .int .u8 44, .int .u8 21, .int .u8 52, .int .u8 32, .int .u8 23, .int .u8 11, .int .u8 54, .int .u8 26, .int .u8 40, .int .u8 15, .int .u8 34, .int .u8 20, .int .u8 31, .int .u8 10, .int .u8 25, .int .u8 14, .int .u8 19, .int .u8 9, .int .u8 13, .int .u8 8, .int .u8 7, .int .u8 6])).modify 1 (laying #[.int .u64 1, .int .u64 10, .int .u64 100, .int .u64 1000, .int .u64 10000, .int .u64 100000, .int .u64 1000000, .int .u64 10000000, .int .u64 100000000, .int .u64 1000000000, .int .u64 10000000000, .int .u64 100000000000, .int .u64 1000000000000, .int .u64 10000000000000, .int .u64 100000000000000, .int .u64 1000000000000000, .int .u64 10000000000000000, .int .u64 100000000000000000, .int .u64 1000000000000000000, .int .u64 10000000000000000000])).modify 0 (laying #[.int .u32 0, .int .u32 498536548, .int .u32 997073096, .int .u32 651767980, .int .u32 1994146192, .int .u32 1802195444, .int .u32 1303535960, .int .u32 1342533948, .int .u32 3988292384, .int .u32 4027552580, .int .u32 3604390888, .int .u32 3412177804, .int .u32 2607071920, .int .u32 2262029012, .int .u32 2685067896, .int .u32 3183342108]) }

/-- A slice of bytes that came in, opened: what it reads as, below the heap's end. -/
theorem open_bytes {H : Type} {enc : TypeId × Value → H} {W : World} {held : Bool} {A : Option Addr} {n c : Nat} {d : DataW H} {p : List MemPlace} {base : Nat}
    (h : DataW.Trod enc Tryz.prog W base (fun _ => true) held 28 (Value.slice A n c) d p) : n ≤ c ∧ c ≤ maxLen ∧ ∃ l, Rd W W.heap.size A n l := by
  obtain ⟨fuel, hf⟩ := h
  rcases open_ints Tryz.underlying28 Tryz.underlying5 cells_u8 hf with ⟨hcs, _⟩ | ⟨x, l, c', zs, hcs, _, hl, hm, hz, _, hcell, hwz⟩
  · simp [Value.cells] at hcs
    obtain ⟨rfl, rfl, rfl⟩ := hcs
    exact ⟨Nat.le_refl _, Nat.zero_le _, [], Rd.nil⟩
  · simp [Value.cells] at hcs
    obtain ⟨rfl, rfl, rfl⟩ := hcs
    have hzl : zs.length = c := by simpa using hz
    refine ⟨hl, hm, (zs.take n).map (fun z => UInt8.ofNat z.toNat), by simp; omega, fun hn => ?_⟩
    have h0 := hcell 0 (by omega)
    obtain ⟨b, o, spot⟩ := x
    have hspot : spot = none := by simpa [Addr.add] using World.cell?_spot h0
    subst hspot
    refine ⟨b, o, rfl, World.block_lt_of_cell? W _ (by simpa [Addr.add_lit] using h0), fun j hj => ?_⟩
    have hj2 : j < n := by simp at hj; omega
    have hc := hcell j (by omega)
    rw [Addr.add_lit] at hc
    rw [hc]
    have hw := hwz _ (List.getElem_mem (show j < zs.length by omega))
    have hb := bounds_u8 hw
    simp only [List.getElem_map, List.getElem_take, UInt8.toNat_ofNat']
    congr 2
    rw [List.getD_eq_getElem?_getD, List.getElem?_eq_getElem (show j < zs.length by omega)]
    simp only [Option.getD_some]
    omega
theorem cells_root : Tryz.prog.cellsOf 30 = 4 := by kernel_rfl
theorem cells_intR : Tryz.prog.cellsOf 3 = 1 := by kernel_rfl
theorem cells_bsR : Tryz.prog.cellsOf 28 = 1 := by kernel_rfl
set_option maxRecDepth 100000 in
/-- A root that came in by value: its numbers, its bytes. -/
theorem open_root {H : Type} {enc : TypeId × Value → H} {W : World} {held : Bool} {v : Value} {d : DataW H} {p : List MemPlace} {base : Nat} {r : Reach} {b0 : Nat}
    (hv : Value.okWide Tryz.prog W r b0 30 v) (h : DataW.Trod enc Tryz.prog W base (fun _ => true) held 30 v d p) : ∃ (a t c : Int) (A : Option Addr) (n k : Nat) (l : List UInt8), v = .agg #[.int .i64 a, .int .i64 t, .int .i64 c, .slice A n k] ∧ Rd W W.heap.size A n l := by
  have hs : ∃ cs, v = .agg cs ∧ cs.size = Tryz.prog.cellsOf 30 := by
    simp only [Value.okWide, Tryz.underlying30] at hv
    obtain ⟨cs, h1, h2, _⟩ := hv
    exact ⟨cs, h1, h2⟩
  obtain ⟨cs, rfl, hsz⟩ := hs
  rw [cells_root] at hsz
  obtain ⟨u0, u1, u2, u3, rfl⟩ : ∃ u0 u1 u2 u3, cs = #[u0, u1, u2, u3] := by
    obtain ⟨l⟩ := cs
    match l, hsz with
    | [u0, u1, u2, u3], _ => exact ⟨u0, u1, u2, u3, rfl⟩
  obtain ⟨fuel, hf⟩ := h
  obtain ⟨xs, n, _, _, _, hxl, hx⟩ := DataW.trod_struct Tryz.underlying30 hf
  have f0 : DataW.trod enc Tryz.prog W base (fun _ => true) held n 3 (List.take (Tryz.prog.cellsOf 3) (List.drop 0 [u0, u1, u2, u3])) = xs[0]? := hx 0 _ rfl
  have f1 : DataW.trod enc Tryz.prog W base (fun _ => true) held n 3 (List.take (Tryz.prog.cellsOf 3) (List.drop 1 [u0, u1, u2, u3])) = xs[1]? := hx 1 _ rfl
  have f2 : DataW.trod enc Tryz.prog W base (fun _ => true) held n 3 (List.take (Tryz.prog.cellsOf 3) (List.drop 2 [u0, u1, u2, u3])) = xs[2]? := hx 2 _ rfl
  have f3 : DataW.trod enc Tryz.prog W base (fun _ => true) held n 28 (List.take (Tryz.prog.cellsOf 28) (List.drop 3 [u0, u1, u2, u3])) = xs[3]? := hx 3 _ rfl
  clear hx
  rw [cells_intR] at f0 f1 f2
  rw [cells_bsR] at f3
  have hx4 : xs.length = 4 := hxl
  rw [List.getElem?_eq_getElem (by omega)] at f0 f1 f2 f3
  obtain ⟨a, e0, _, w0⟩ := DataW.trod_int Tryz.underlying3 f0
  obtain ⟨t, e1, _, w1⟩ := DataW.trod_int Tryz.underlying3 f1
  obtain ⟨c, e2, _, w2⟩ := DataW.trod_int Tryz.underlying3 f2
  have q0 : u0 = .int .i64 a := by simpa using e0
  have q1 : u1 = .int .i64 t := by simpa using e1
  have q2 : u2 = .int .i64 c := by simpa using e2
  have hsl : ∃ A sn sc, u3 = .slice A sn sc := by
    rcases open_slice Tryz.underlying28 f3 with ⟨e2, _⟩ | ⟨b, sn, sc, _, _, _, _, e2, _⟩
    · exact ⟨none, 0, 0, by simpa using e2⟩
    · exact ⟨some b, sn, sc, by simpa using e2⟩
  obtain ⟨A, sn, sc, rfl⟩ := hsl
  obtain ⟨_, _, l, hl⟩ := open_bytes (A := A) (n := sn) (c := sc) (d := (xs[3]'(by omega)).1) (p := (xs[3]'(by omega)).2) (base := base) (enc := enc) (W := W) (held := held) ⟨n, f3⟩
  subst q0 q1 q2
  exact ⟨a, t, c, A, sn, sc, l, rfl, hl⟩
end Go.Proofs.YtggejecmhfafoaaGreatDoor
namespace Go.Proofs.YtggejecmhfafoaaGreatDoor
open Go.ChangeShapes Go.WideShapes Go.ChangeAt Go.RowKit Go.Deep

theorem list_of {α : Type} (P : Nat → α → Prop) : ∀ n : Nat, (∀ i, i < n → ∃ x, P i x) → ∃ l : List α, l.length = n ∧ ∀ i (h : i < l.length), P i l[i]
  | 0, _ => ⟨[], rfl, fun i h => absurd h (by simp)⟩
  | n + 1, hx => by
    obtain ⟨l, hl, hp⟩ := list_of P n (fun i hi => hx i (by omega))
    obtain ⟨x, hxn⟩ := hx n (by omega)
    refine ⟨l ++ [x], by simp [hl], fun i hi => ?_⟩
    rcases Nat.lt_or_ge i l.length with h | h
    · rw [List.getElem_append_left h]
      exact hp i h
    · have e : i = n := by simp [hl] at hi; omega
      subst e
      have : (l ++ [x])[i] = x := by rw [List.getElem_append_right h]; simp
      rw [this]
      exact hxn
theorem open_row {α H : Type} {enc : TypeId × Value → H} {W : World} {held : Bool} {A : Option Addr} {n c : Nat} {d : DataW H} {p : List MemPlace} {base : Nat} {t e : TypeId} (size : Nat) (At : Addr → α → Prop)
    (ht : Tryz.prog.underlying t = some (.slice e)) (hsz : Tryz.prog.cellsOf e = size)
    (each : ∀ (a : Addr) (cs : List Value) (fuel : Nat) (x : DataW H × List MemPlace), W.cells? base a size = some cs → DataW.trod enc Tryz.prog W base (fun _ => true) held fuel e cs = some x → ∃ y, At a y)
    (first : ∀ a y, At a y → ∃ v, W.cell? a = some v)
    (h : DataW.Trod enc Tryz.prog W base (fun _ => true) held t (Value.slice A n c) d p) : n ≤ c ∧ c ≤ maxLen ∧ ∃ xs, RowOf W size At A n xs := by
  obtain ⟨fuel, hf⟩ := h
  rcases open_slice ht hf with ⟨hcs, _⟩ | ⟨a, len, cap, m, k, D, Pl, hcs, _, hl, hmx, hm, _, hi⟩
  · simp [Value.cells] at hcs
    obtain ⟨rfl, rfl, rfl⟩ := hcs
    exact ⟨Nat.le_refl _, Nat.zero_le _, [], rfl, (fun h => absurd h (by omega))⟩
  · simp [Value.cells] at hcs
    obtain ⟨rfl, rfl, rfl⟩ := hcs
    have hmc : n ≤ m := by rw [hm]; simpa using hl
    rw [hsz] at hi
    obtain ⟨xs, hxl, hx⟩ := list_of (fun i y => At (a.add (i * size)) y) n (fun i hin => by
      obtain ⟨cs', hc, ht'⟩ := hi i (by omega)
      exact each _ _ _ _ hc ht')
    refine ⟨hl, hmx, xs, hxl, fun hn => ?_⟩
    obtain ⟨v, h0⟩ := first _ _ (hx 0 (by omega))
    obtain ⟨b, o, spot⟩ := a
    have hspot : spot = none := by simpa [Addr.add] using World.cell?_spot h0
    subst hspot
    refine ⟨b, o, rfl, World.block_lt_of_cell? W _ (by simpa [Addr.add_lit] using h0), fun j hj => ?_⟩
    have := hx j hj
    rw [Addr.add_lit] at this
    exact this
set_option maxRecDepth 100000 in
theorem open_rootA {H : Type} {enc : TypeId × Value → H} {W : World} {held : Bool} {base fuel : Nat} {a : Addr} {cs : List Value} {x : DataW H × List MemPlace}
    (hc : W.cells? base a 4 = some cs) (h : DataW.trod enc Tryz.prog W base (fun _ => true) held fuel 30 cs = some x) : ∃ t, RtAt W a t := by
  obtain ⟨_, hlen, hat⟩ := World.cells?_some hc
  obtain ⟨xs, n, _, _, _, hxl, hx⟩ := DataW.trod_struct Tryz.underlying30 h
  match cs, hlen with
  | [u0, u1, u2, u3], _ =>
    have c0 := hat 0 (by omega)
    have c1 := hat 1 (by omega)
    have c2 := hat 2 (by omega)
    have c3 := hat 3 (by omega)
    have f0 : DataW.trod enc Tryz.prog W base (fun _ => true) held n 3 (List.take (Tryz.prog.cellsOf 3) (List.drop 0 [u0, u1, u2, u3])) = xs[0]? := hx 0 _ rfl
    have f1 : DataW.trod enc Tryz.prog W base (fun _ => true) held n 3 (List.take (Tryz.prog.cellsOf 3) (List.drop 1 [u0, u1, u2, u3])) = xs[1]? := hx 1 _ rfl
    have f2 : DataW.trod enc Tryz.prog W base (fun _ => true) held n 3 (List.take (Tryz.prog.cellsOf 3) (List.drop 2 [u0, u1, u2, u3])) = xs[2]? := hx 2 _ rfl
    have f3 : DataW.trod enc Tryz.prog W base (fun _ => true) held n 28 (List.take (Tryz.prog.cellsOf 28) (List.drop 3 [u0, u1, u2, u3])) = xs[3]? := hx 3 _ rfl
    clear hx
    rw [cells_intR] at f0 f1 f2
    rw [cells_bsR] at f3
    have hx4 : xs.length = 4 := hxl
    rw [List.getElem?_eq_getElem (by omega)] at f0 f1 f2 f3
    obtain ⟨a0, e0, _, w0⟩ := DataW.trod_int Tryz.underlying3 f0
    obtain ⟨t0, e1, _, w1⟩ := DataW.trod_int Tryz.underlying3 f1
    obtain ⟨m0, e2, _, w2⟩ := DataW.trod_int Tryz.underlying3 f2
    have q0 : u0 = .int .i64 a0 := by simpa using e0
    have q1 : u1 = .int .i64 t0 := by simpa using e1
    have q2 : u2 = .int .i64 m0 := by simpa using e2
    have hsl : ∃ A sn sc, u3 = .slice A sn sc := by
      rcases open_slice Tryz.underlying28 f3 with ⟨e2, _⟩ | ⟨b, sn, sc, _, _, _, _, e2, _⟩
      · exact ⟨none, 0, 0, by simpa using e2⟩
      · exact ⟨some b, sn, sc, by simpa using e2⟩
    obtain ⟨A, sn, sc, rfl⟩ := hsl
    obtain ⟨_, _, l, hl⟩ := open_bytes (A := A) (n := sn) (c := sc) (d := (xs[3]'(by omega)).1) (p := (xs[3]'(by omega)).2) (base := base) (enc := enc) (W := W) (held := held) ⟨n, f3⟩
    subst q0 q1 q2
    refine ⟨⟨a0, t0, m0, A, sn, sc, l⟩, ?_, c1, c2, c3, hl⟩
    have : a.add 0 = a := by simp [Addr.add]
    rw [this] at c0
    exact c0
set_option maxRecDepth 100000 in
theorem open_roots {H : Type} {enc : TypeId × Value → H} {W : World} {held : Bool} {A : Option Addr} {n c : Nat} {d : DataW H} {p : List MemPlace} {base : Nat}
    (h : DataW.Trod enc Tryz.prog W base (fun _ => true) held 22 (Value.slice A n c) d p) : n ≤ c ∧ c ≤ maxLen ∧ ∃ xs, RowOf W 4 (RtAt W) A n xs :=
  open_row 4 (RtAt W) Tryz.underlying22 cells_root (fun _ _ _ _ hc hx => open_rootA hc hx) (fun _ _ hy => ⟨_, hy.1⟩) h
end Go.Proofs.YtggejecmhfafoaaGreatDoor
namespace Go.Proofs.YtggejecmhfafoaaGreatDoor
open Go.ChangeShapes Go.WideShapes Go.ChangeAt Go.RowKit Go.Deep

theorem cells_intU : Tryz.prog.cellsOf 3 = 1 := by kernel_rfl
set_option maxRecDepth 100000 in
theorem open_rowi {H : Type} {enc : TypeId × Value → H} {W : World} {held : Bool} {A : Option Addr} {n c : Nat} {d : DataW H} {p : List MemPlace} {base : Nat}
    (h : DataW.Trod enc Tryz.prog W base (fun _ => true) held 23 (Value.slice A n c) d p) : n ≤ c ∧ c ≤ maxLen ∧ ∃ l, RdI W No A n l := by
  obtain ⟨fuel, hf⟩ := h
  rcases open_ints Tryz.underlying23 Tryz.underlying3 cells_intU hf with ⟨hcs, _⟩ | ⟨x, l, c', zs, hcs, _, hl, hm, hz, _, hcell, hwz⟩
  · simp [Value.cells] at hcs
    obtain ⟨rfl, rfl, rfl⟩ := hcs
    exact ⟨Nat.le_refl _, Nat.zero_le _, [], rfl, fun h => absurd h (by omega)⟩
  · simp [Value.cells] at hcs
    obtain ⟨rfl, rfl, rfl⟩ := hcs
    have hzl : zs.length = c := by simpa using hz
    refine ⟨hl, hm, zs.take n, by simp; omega, fun hn => ?_⟩
    have h0 := hcell 0 (by omega)
    obtain ⟨b, o, spot⟩ := x
    have hspot : spot = none := by simpa [Addr.add] using World.cell?_spot h0
    subst hspot
    refine ⟨b, o, rfl, World.block_lt_of_cell? W _ (by simpa [Addr.add_lit] using h0), fun e => e, fun j hj => ?_⟩
    have hj2 : j < n := by simp at hj; omega
    have hc := hcell j (by omega)
    rw [Addr.add_lit] at hc
    rw [hc]
    simp only [List.getElem_take]
    congr 2
    rw [List.getD_eq_getElem?_getD, List.getElem?_eq_getElem (by omega)]
    rfl
end Go.Proofs.YtggejecmhfafoaaGreatDoor

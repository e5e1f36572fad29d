/-
  Chunks: what one is, how it stands in a world, which are right. No statement of the seat is proved here.
-/
import Derived.Test.YtjdhbgdpmojobaaDoorSlO
import Derived.Test.YtjdhbgdpmojobaaDoorBgB
import Derived.Test.YtjdhbgdpmojobaaDoorSlN
import Derived.Deep.RegionHeld3
namespace Go.Proofs.YtjdhbgdpmojobaaDoor
open Go.RowKit Go.Deep

/-! ### chunks -/
/-- A heap: its cell, its item, how many. -/
abbrev Hp := Int × Nat × Int
/-- A box: its cell, its bag. -/
abbrev Bp := Int × List (Nat × Int)
/-- A chunk. -/
structure Ck where
  x : Int
  y : Int
  cs : List Nat
  hs : List Hp
  bs : List Bp
/-- One of a chunk's cells. -/
def plcC (c : Int) : Bool := decide (0 ≤ c) && decide (c < 64)
/-- A cell may be so. -/
def mayC (i : Nat) : Bool := i == 0 || blI i
/-- Some of an item. -/
def someC (s : Nat × Int) : Bool := decide (1 ≤ s.2) && decide (s.2 ≤ stI s.1)
def hpC (h : Hp) : Bool := plcC h.1 && someC h.2
/-- Boxes of the chests among the cells from the k-th on. -/
def bxC : Nat → List Nat → List Bp → Bool
  | _, [], r => r.isEmpty
  | k, i :: cs, r => if i = 9 then (match r with
      | [] => false
      | b :: r => (b.1 == (k : Int)) && ((b.2.length == 6) && rgt b.2) && bxC (k + 1) cs r) else bxC (k + 1) cs r
/-- A right chunk. -/
def rgtC (d : Ck) : Bool := (decide (0 ≤ d.x) && decide (d.x < 16)) && (decide (0 ≤ d.y) && decide (d.y < 16)) && (decide (d.cs.length = 64) && d.cs.all mayC) && (decide (d.hs.length ≤ 32) && d.hs.all hpC) && bxC 0 d.cs d.bs

/-! ### how it stands in a world -/
/-- A slice of n things of so many cells each. -/
def RwK {α : Type} (W : World) (size : Nat) (At : Addr → α → Prop) (A : Option Addr) (n : Nat) (xs : List α) : Prop :=
  xs.length = n ∧ (0 < n → ∃ b o, A = some ⟨b, o, none⟩ ∧ b < W.heap.size ∧ ∀ j (h : j < xs.length), At ⟨b, o + j * size, none⟩ xs[j])
def ItAt (W : World) (a : Addr) (i : Nat) : Prop := W.cell? a = some (.int .u8 (i : Int))
def HpAt (W : World) (a : Addr) (h : Hp) : Prop := W.cell? a = some (.int .i64 h.1) ∧ W.cell? (a.add 1) = some (.int .u8 (h.2.1 : Int)) ∧ W.cell? (a.add 2) = some (.int .i64 h.2.2)
/-- A box as it stands there. -/
structure Bx where
  cell : Int
  A : Option Addr
  n : Nat
  c : Nat
  l : List (Nat × Int)
def Bx.bp (b : Bx) : Bp := (b.cell, b.l)
def BxAt (W : World) (a : Addr) (x : Bx) : Prop := W.cell? a = some (.int .i64 x.cell) ∧ W.cell? (a.add 1) = some (.slice x.A x.n x.c) ∧ RdS W x.A x.n x.l
theorem RwK.nil {α : Type} (W : World) (size : Nat) (At : Addr → α → Prop) (A : Option Addr) : RwK W size At A 0 [] := ⟨rfl, fun h => absurd h (by omega)⟩
theorem RwK.no {α : Type} {W W' : World} {size : Nat} {At : World → Addr → α → Prop} {A : Option Addr} {n : Nat} {xs : List α} (hA : ∀ b o x, b < W.heap.size → At W ⟨b, o, none⟩ x → At W' ⟨b, o, none⟩ x) (hs : W.heap.size ≤ W'.heap.size) (h : RwK W size (At W) A n xs) : RwK W' size (At W') A n xs := by
  refine ⟨h.1, fun hn => ?_⟩
  obtain ⟨b, o, e, hb, hc⟩ := h.2 hn
  exact ⟨b, o, e, by omega, fun j hj => hA _ _ _ hb (hc j hj)⟩
theorem cell_no {W W' : World} (hf : Fr No W W') {b : Nat} (hb : b < W.heap.size) (o : Nat) : W'.cell? ⟨b, o, none⟩ = W.cell? ⟨b, o, none⟩ := hf.cell (p := ⟨b, o, none⟩) hb (fun e => e)
theorem ItAt.no {W W' : World} (hf : Fr No W W') (b o : Nat) (x : Nat) (hb : b < W.heap.size) (h : ItAt W ⟨b, o, none⟩ x) : ItAt W' ⟨b, o, none⟩ x := (cell_no hf hb o).trans h
theorem HpAt.no {W W' : World} (hf : Fr No W W') (b o : Nat) (x : Hp) (hb : b < W.heap.size) (h : HpAt W ⟨b, o, none⟩ x) : HpAt W' ⟨b, o, none⟩ x := by
  obtain ⟨h0, h1, h2⟩ := h
  rw [Addr.add_lit] at h1 h2
  refine ⟨(cell_no hf hb o).trans h0, ?_, ?_⟩
  · rw [Addr.add_lit]; exact (cell_no hf hb _).trans h1
  · rw [Addr.add_lit]; exact (cell_no hf hb _).trans h2
theorem BxAt.no {W W' : World} (hf : Fr No W W') (b o : Nat) (x : Bx) (hb : b < W.heap.size) (h : BxAt W ⟨b, o, none⟩ x) : BxAt W' ⟨b, o, none⟩ x := by
  obtain ⟨h0, h1, h2⟩ := h
  rw [Addr.add_lit] at h1
  refine ⟨(cell_no hf hb o).trans h0, ?_, h2.no hf⟩
  rw [Addr.add_lit]; exact (cell_no hf hb _).trans h1
/-- A chunk as it stands in a world. -/
structure Ch where
  x : Int
  y : Int
  A1 : Option Addr
  n1 : Nat
  c1 : Nat
  cs : List Nat
  A2 : Option Addr
  n2 : Nat
  c2 : Nat
  hs : List Hp
  A3 : Option Addr
  n3 : Nat
  c3 : Nat
  bs : List Bx
def Ch.val (C : Ch) : Value := .agg #[.int .i64 C.x, .int .i64 C.y, .slice C.A1 C.n1 C.c1, .slice C.A2 C.n2 C.c2, .slice C.A3 C.n3 C.c3]
def Ch.ck (C : Ch) : Ck := ⟨C.x, C.y, C.cs, C.hs, C.bs.map Bx.bp⟩
/-- It is read so. -/
structure RdC (W : World) (C : Ch) : Prop where
  r1 : RwK W 1 (ItAt W) C.A1 C.n1 C.cs
  r2 : RwK W 3 (HpAt W) C.A2 C.n2 C.hs
  r3 : RwK W 2 (BxAt W) C.A3 C.n3 C.bs
/-- Items are numbers of one byte. -/
structure ByC (d : Ck) : Prop where
  b1 : ∀ i ∈ d.cs, i < 256
  b2 : ∀ h ∈ d.hs, h.2.1 < 256
  b3 : ∀ b ∈ d.bs, By b.2
/-- Lengths are numbers. -/
structure SmC (C : Ch) : Prop where
  s1 : C.n1 ≤ 9223372036854775807
  s2 : C.n2 ≤ 9223372036854775807
  s3 : C.n3 ≤ 9223372036854775807
  s4 : ∀ b ∈ C.bs, b.n ≤ 9223372036854775807
theorem RdC.no {W W' : World} {C : Ch} (h : RdC W C) (hf : Fr No W W') : RdC W' C :=
  ⟨RwK.no (At := ItAt) (fun _ _ _ hb => ItAt.no hf _ _ _ hb) hf.size h.r1, RwK.no (At := HpAt) (fun _ _ _ hb => HpAt.no hf _ _ _ hb) hf.size h.r2, RwK.no (At := BxAt) (fun _ _ _ hb => BxAt.no hf _ _ _ hb) hf.size h.r3⟩
end Go.Proofs.YtjdhbgdpmojobaaDoor

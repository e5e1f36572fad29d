/-
  Worlds: what one is, how it stands in a memory, which are right. No statement of the seat is proved here.
-/
import Derived.Test.YtjdhbgdpmojobaaDoorChI
import Derived.Test.YtjdhbgdpmojobaaDoorGnE
namespace Go.Proofs.YtjdhbgdpmojobaaDoor
open Go.RowKit Go.Deep

/-! ### players and worlds -/
/-- A player. -/
structure Py where
  id : Int
  x : Int
  y : Int
  bag : List (Nat × Int)
  wi : Int
  off : List (Nat × Int)
  ag : Bool
/-- A player as it stands in a memory. -/
structure Pl where
  id : Int
  x : Int
  y : Int
  A1 : Option Addr
  n1 : Nat
  c1 : Nat
  l1 : List (Nat × Int)
  wi : Int
  A2 : Option Addr
  n2 : Nat
  c2 : Nat
  l2 : List (Nat × Int)
  ag : Bool
def Pl.py (P : Pl) : Py := ⟨P.id, P.x, P.y, P.l1, P.wi, P.l2, P.ag⟩
def Pl.cells (P : Pl) : List Value := [.int .i64 P.id, .int .i64 P.x, .int .i64 P.y, .slice P.A1 P.n1 P.c1, .int .i64 P.wi, .slice P.A2 P.n2 P.c2, .bool P.ag]
def Pl.val (P : Pl) : Value := .agg #[.int .i64 P.id, .int .i64 P.x, .int .i64 P.y, .slice P.A1 P.n1 P.c1, .int .i64 P.wi, .slice P.A2 P.n2 P.c2, .bool P.ag]
def Ch.cells (C : Ch) : List Value := [.int .i64 C.x, .int .i64 C.y, .slice C.A1 C.n1 C.c1, .slice C.A2 C.n2 C.c2, .slice C.A3 C.n3 C.c3]
structure RdP (W : World) (P : Pl) : Prop where
  r1 : RdS W P.A1 P.n1 P.l1
  r2 : RdS W P.A2 P.n2 P.l2
theorem RdP.no {W W' : World} {P : Pl} (h : RdP W P) (hf : Fr No W W') : RdP W' P := ⟨h.r1.no hf, h.r2.no hf⟩
def chL (l : List Ch) : List Value := l.flatMap Ch.cells
def plL (l : List Pl) : List Value := l.flatMap Pl.cells
/-- A world. -/
structure Wv where
  size : Int
  sd : W64
  tick : Int
  cs : List Ck
  ps : List Py
/-- A world as it stands in a memory. -/
structure Wd where
  size : Int
  sd : W64
  tick : Int
  A3 : Option Addr
  n3 : Nat
  c3 : Nat
  cs : List Ch
  A4 : Option Addr
  n4 : Nat
  c4 : Nat
  ps : List Pl
def Wd.v (d : Wd) : Wv := ⟨d.size, d.sd, d.tick, d.cs.map Ch.ck, d.ps.map Pl.py⟩
def Wd.val (d : Wd) : Value := .agg #[.int .i64 d.size, u64v d.sd, .int .i64 d.tick, .slice d.A3 d.n3 d.c3, .slice d.A4 d.n4 d.c4]
/-- Chunks that a slice reads as. -/
def RdCs (W : World) (A : Option Addr) (n : Nat) (l : List Ch) : Prop := Rc W 5 A n (chL l) ∧ l.length = n ∧ ∀ C ∈ l, RdC W C
def RdPs (W : World) (A : Option Addr) (n : Nat) (l : List Pl) : Prop := Rc W 7 A n (plL l) ∧ l.length = n ∧ ∀ P ∈ l, RdP W P
section
variable {W W' : World} {A : Option Addr} {n : Nat} {l : List Ch} {q : List Pl}
theorem RdCs.no (h : RdCs W A n l) (hf : Fr No W W') : RdCs W' A n l := ⟨h.1.no hf, h.2.1, fun C hC => (h.2.2 C hC).no hf⟩
theorem RdPs.no (h : RdPs W A n q) (hf : Fr No W W') : RdPs W' A n q := ⟨h.1.no hf, h.2.1, fun C hC => (h.2.2 C hC).no hf⟩
theorem chL_len (l : List Ch) : (chL l).length = l.length * 5 := by
  induction l with
  | nil => rfl
  | cons x l ih => show (chL l).length + 5 = (l.length + 1) * 5; omega
theorem plL_len (l : List Pl) : (plL l).length = l.length * 7 := by
  induction l with
  | nil => rfl
  | cons x l ih => show (plL l).length + 7 = (l.length + 1) * 7; omega
theorem chL_one (l : List Ch) : ∀ u ∈ chL l, u.oneCell' = true := by
  intro u hu
  simp only [chL, List.mem_flatMap, Ch.cells, List.mem_cons, List.not_mem_nil, or_false] at hu
  obtain ⟨_, _, rfl | rfl | rfl | rfl | rfl⟩ := hu <;> rfl
theorem plL_one (l : List Pl) : ∀ u ∈ plL l, u.oneCell' = true := by
  intro u hu
  simp only [plL, List.mem_flatMap, Pl.cells, List.mem_cons, List.not_mem_nil, or_false] at hu
  obtain ⟨_, _, rfl | rfl | rfl | rfl | rfl | rfl | rfl⟩ := hu <;> rfl
theorem chL_append (l m : List Ch) : chL (l ++ m) = chL l ++ chL m := by simp [chL]
theorem plL_append (l m : List Pl) : plL (l ++ m) = plL l ++ plL m := by simp [plL]
theorem chL_at (l : List Ch) (j : Nat) (h : j < l.length) : (chL l)[j * 5]? = some (.int .i64 l[j].x) ∧ (chL l)[j * 5 + 1]? = some (.int .i64 l[j].y) ∧ (chL l)[j * 5 + 2]? = some (.slice l[j].A1 l[j].n1 l[j].c1) ∧ (chL l)[j * 5 + 3]? = some (.slice l[j].A2 l[j].n2 l[j].c2) ∧ (chL l)[j * 5 + 4]? = some (.slice l[j].A3 l[j].n3 l[j].c3) := by
  induction l generalizing j with
  | nil => simp at h
  | cons x l ih =>
    cases j with
    | zero => exact ⟨rfl, rfl, rfl, rfl, rfl⟩
    | succ j =>
      have := ih j (by simpa using h)
      rw [show (j + 1) * 5 = j * 5 + 5 by omega]
      exact this
theorem plL_at (l : List Pl) (j : Nat) (h : j < l.length) : (plL l)[j * 7]? = some (.int .i64 l[j].id) ∧ (plL l)[j * 7 + 1]? = some (.int .i64 l[j].x) ∧ (plL l)[j * 7 + 2]? = some (.int .i64 l[j].y) ∧ (plL l)[j * 7 + 3]? = some (.slice l[j].A1 l[j].n1 l[j].c1) ∧ (plL l)[j * 7 + 4]? = some (.int .i64 l[j].wi) ∧ (plL l)[j * 7 + 5]? = some (.slice l[j].A2 l[j].n2 l[j].c2) ∧ (plL l)[j * 7 + 6]? = some (.bool l[j].ag) := by
  induction l generalizing j with
  | nil => simp at h
  | cons x l ih =>
    cases j with
    | zero => exact ⟨rfl, rfl, rfl, rfl, rfl, rfl, rfl⟩
    | succ j =>
      have := ih j (by simpa using h)
      rw [show (j + 1) * 7 = j * 7 + 7 by omega]
      exact this
/-- The cells of one chunk of a row. -/
theorem RdCs.at (h : RdCs W A n l) (j : Nat) (hj : j < l.length) : ∃ b o, A = some ⟨b, o, none⟩ ∧ b < W.heap.size ∧
    W.cell? ⟨b, o + j * 5, none⟩ = some (.int .i64 l[j].x) ∧ W.cell? ⟨b, o + j * 5 + 1, none⟩ = some (.int .i64 l[j].y) ∧ W.cell? ⟨b, o + j * 5 + 2, none⟩ = some (.slice l[j].A1 l[j].n1 l[j].c1) ∧ W.cell? ⟨b, o + j * 5 + 3, none⟩ = some (.slice l[j].A2 l[j].n2 l[j].c2) ∧ W.cell? ⟨b, o + j * 5 + 4, none⟩ = some (.slice l[j].A3 l[j].n3 l[j].c3) := by
  obtain ⟨b, o, e, hb, hc⟩ := h.1.2 (by have := h.2.1; omega)
  obtain ⟨q0, q1, q2, q3, q4⟩ := chL_at l j hj
  exact ⟨b, o, e, hb, hc _ _ q0, by rw [Nat.add_assoc]; exact hc _ _ q1, by rw [Nat.add_assoc]; exact hc _ _ q2, by rw [Nat.add_assoc]; exact hc _ _ q3, by rw [Nat.add_assoc]; exact hc _ _ q4⟩
theorem RdPs.at (h : RdPs W A n q) (j : Nat) (hj : j < q.length) : ∃ b o, A = some ⟨b, o, none⟩ ∧ b < W.heap.size ∧
    W.cell? ⟨b, o + j * 7, none⟩ = some (.int .i64 q[j].id) ∧ W.cell? ⟨b, o + j * 7 + 1, none⟩ = some (.int .i64 q[j].x) ∧ W.cell? ⟨b, o + j * 7 + 2, none⟩ = some (.int .i64 q[j].y) ∧ W.cell? ⟨b, o + j * 7 + 3, none⟩ = some (.slice q[j].A1 q[j].n1 q[j].c1) ∧ W.cell? ⟨b, o + j * 7 + 4, none⟩ = some (.int .i64 q[j].wi) ∧ W.cell? ⟨b, o + j * 7 + 5, none⟩ = some (.slice q[j].A2 q[j].n2 q[j].c2) ∧ W.cell? ⟨b, o + j * 7 + 6, none⟩ = some (.bool q[j].ag) := by
  obtain ⟨b, o, e, hb, hc⟩ := h.1.2 (by have := h.2.1; omega)
  obtain ⟨q0, q1, q2, q3, q4, q5, q6⟩ := plL_at q j hj
  exact ⟨b, o, e, hb, hc _ _ q0, by rw [Nat.add_assoc]; exact hc _ _ q1, by rw [Nat.add_assoc]; exact hc _ _ q2, by rw [Nat.add_assoc]; exact hc _ _ q3, by rw [Nat.add_assoc]; exact hc _ _ q4, by rw [Nat.add_assoc]; exact hc _ _ q5, by rw [Nat.add_assoc]; exact hc _ _ q6⟩
/-- One chunk of a row is another one. -/
theorem chL_set (l : List Ch) (j : Nat) (h : j < l.length) (C : Ch) : (chL l).take (j * 5) ++ (C.cells ++ (chL l).drop (j * 5 + 5)) = chL (l.set j C) := by
  induction l generalizing j with
  | nil => simp at h
  | cons x l ih =>
    cases j with
    | zero => rfl
    | succ j =>
      have := ih j (by simpa using h)
      rw [show (j + 1) * 5 = j * 5 + 5 by omega]
      show x.cells ++ ((chL l).take (j * 5) ++ (C.cells ++ (chL l).drop (j * 5 + 5))) = x.cells ++ chL (l.set j C)
      rw [this]
theorem chL_take (l : List Ch) (j : Nat) : (chL l).take (j * 5) = chL (l.take j) := by
  induction l generalizing j with
  | nil => simp [chL]
  | cons x l ih =>
    cases j with
    | zero => simp [chL]
    | succ j =>
      rw [show (j + 1) * 5 = j * 5 + 5 by omega]
      show x.cells ++ (chL l).take (j * 5) = x.cells ++ chL (l.take j)
      rw [ih]
theorem chL_drop (l : List Ch) (j : Nat) : (chL l).drop (j * 5) = chL (l.drop j) := by
  induction l generalizing j with
  | nil => simp [chL]
  | cons x l ih =>
    cases j with
    | zero => simp [chL]
    | succ j =>
      rw [show (j + 1) * 5 = j * 5 + 5 by omega]
      show (chL l).drop (j * 5) = chL (l.drop j)
      rw [ih]
theorem plL_take (l : List Pl) (j : Nat) : (plL l).take (j * 7) = plL (l.take j) := by
  induction l generalizing j with
  | nil => simp [plL]
  | cons x l ih =>
    cases j with
    | zero => simp [plL]
    | succ j =>
      rw [show (j + 1) * 7 = j * 7 + 7 by omega]
      show x.cells ++ (plL l).take (j * 7) = x.cells ++ plL (l.take j)
      rw [ih]
theorem plL_drop (l : List Pl) (j : Nat) : (plL l).drop (j * 7) = plL (l.drop j) := by
  induction l generalizing j with
  | nil => simp [plL]
  | cons x l ih =>
    cases j with
    | zero => simp [plL]
    | succ j =>
      rw [show (j + 1) * 7 = j * 7 + 7 by omega]
      show (plL l).drop (j * 7) = plL (l.drop j)
      rw [ih]
end
/-! ### what is handed in -/
structure InP (W : World) (P : Pl) : Prop where
  rd : RdP W P
  s1 : P.n1 ≤ 9223372036854775807
  s2 : P.n2 ≤ 9223372036854775807
  b1 : By P.l1
  b2 : By P.l2
theorem InP.no {W W' : World} {P : Pl} (h : InP W P) (hf : Fr No W W') : InP W' P := ⟨h.rd.no hf, h.s1, h.s2, h.b1, h.b2⟩
structure InW (W : World) (d : Wd) : Prop where
  r3 : RdCs W d.A3 d.n3 d.cs
  r4 : RdPs W d.A4 d.n4 d.ps
  s3 : d.n3 ≤ 9223372036854775807
  s4 : d.n4 ≤ 9223372036854775807
  ch : ∀ C ∈ d.cs, InC W C
  pl : ∀ P ∈ d.ps, InP W P
theorem InW.no {W W' : World} {d : Wd} (h : InW W d) (hf : Fr No W W') : InW W' d :=
  ⟨h.r3.no hf, h.r4.no hf, h.s3, h.s4, fun C hC => (h.ch C hC).no hf, fun P hP => (h.pl P hP).no hf⟩
/-- Nothing of it is great. -/
structure SzC (C : Ch) : Prop where
  z1 : C.n1 ≤ 100000
  z2 : C.n2 ≤ 100000
  z3 : C.n3 ≤ 100000
  z4 : ∀ b ∈ C.bs, b.n ≤ 100000
structure SzW (d : Wd) : Prop where
  z3 : d.n3 ≤ 100000
  z4 : d.n4 ≤ 100000
  zc : ∀ C ∈ d.cs, SzC C
  zp : ∀ P ∈ d.ps, P.n1 ≤ 100000 ∧ P.n2 ≤ 100000
/-! ### which are right -/
/-- Numbers rise, none twice. -/
def Rise (l : List Int) : Prop := ∀ j (h : j + 1 < l.length), l[j] < l[j + 1]
instance (l : List Int) : Decidable (Rise l) := decidable_of_iff (∀ j (h : j < l.length - 1), l[j]'(by omega) < l[j + 1]'(by omega)) ⟨fun h j hj => h j (by omega), fun h j hj => h j (by omega)⟩
def plcK (d : Ck) : Int := d.y * 16 + d.x
def rgtCW (size : Int) (d : Ck) : Bool := rgtC d && decide (d.x < size) && decide (d.y < size)
def idB (n : Int) : Bool := decide (0 ≤ n) && decide (n ≤ 1073741824)
def winB (n m : Int) : Bool := decide (0 ≤ n) && decide (n < m)
def rgt8 (l : List (Nat × Int)) : Bool := decide (((l.length : Nat) : Int) = 8) && rgt l
def dealB (p : Py) : Bool := if p.wi = -1 then decide (((p.off.length : Nat) : Int) = 0) && !p.ag else idB p.wi && !decide (p.wi = p.id) && rgt8 p.off
def rgtP (size : Int) (p : Py) : Bool := idB p.id && winB p.x (size * 8) && winB p.y (size * 8) && rgt8 p.bag && dealB p
def sizB (n : Int) : Bool := decide (1 ≤ n) && decide (n ≤ 16)
def rgtCs (size : Int) (l : List Ck) : Bool := l.all (rgtCW size) && decide (Rise (l.map plcK))
def rgtPs (size : Int) (l : List Py) : Bool := decide (((l.length : Nat) : Int) ≤ 32) && l.all (rgtP size) && decide (Rise (l.map Py.id))
def rgtW (v : Wv) : Bool := sizB v.size && decide (0 ≤ v.tick) && decide (v.tick ≤ 1099511627776) && rgtCs v.size v.cs && rgtPs v.size v.ps
theorem Rise.lt {l : List Int} (h : Rise l) : ∀ i j (hj : j < l.length) (hij : i < j), l[i] < l[j] := by
  intro i j hj hij
  induction j with
  | zero => omega
  | succ j ih =>
    rcases Nat.lt_or_ge i j with e | e
    · exact Int.lt_trans (ih (by omega) e) (h j hj)
    · obtain rfl : i = j := by omega
      exact h i hj
/-- Numbers that rise and lie below a limit are no more than it. -/
theorem Rise.le {l : List Int} (h : Rise l) {m : Nat} (h0 : ∀ x ∈ l, 0 ≤ x ∧ x < (m : Int)) : l.length ≤ m := by
  rcases Nat.eq_zero_or_pos l.length with e | e
  · omega
  have : ∀ j (hj : j < l.length), (j : Int) ≤ l[j] := by
    intro j
    induction j with
    | zero => intro hj; exact (h0 _ (List.getElem_mem hj)).1
    | succ j ih =>
      intro hj
      have h1 := ih (by omega)
      have h2 := h j hj
      omega
  have h1 := this (l.length - 1) (by omega)
  have h2 := (h0 _ (List.getElem_mem (show l.length - 1 < l.length by omega))).2
  omega
structure RgtW (v : Wv) : Prop where
  s : 1 ≤ v.size ∧ v.size ≤ 16
  t : 0 ≤ v.tick ∧ v.tick ≤ 1099511627776
  c : ∀ d ∈ v.cs, Rgt d ∧ d.x < v.size ∧ d.y < v.size
  cr : Rise (v.cs.map plcK)
  pn : v.ps.length ≤ 32
  p : ∀ p ∈ v.ps, rgtP v.size p = true
  pr : Rise (v.ps.map Py.id)
theorem rgtCW_iff {size : Int} {d : Ck} : rgtCW size d = true ↔ Rgt d ∧ d.x < size ∧ d.y < size := by
  unfold rgtCW
  rw [Bool.and_eq_true, Bool.and_eq_true, rgt_iff, decide_eq_true_iff, decide_eq_true_iff, and_assoc]
theorem rgtW_iff {v : Wv} : rgtW v = true ↔ RgtW v := by
  unfold rgtW rgtCs rgtPs sizB
  simp only [Bool.and_eq_true, decide_eq_true_iff, List.all_eq_true, rgtCW_iff]
  constructor
  · rintro ⟨⟨⟨⟨h1, h2⟩, h3⟩, h4, h5⟩, ⟨h6, h7⟩, h8⟩
    exact ⟨h1, ⟨h2, h3⟩, h4, h5, by omega, h7, h8⟩
  · rintro ⟨h1, h2, h4, h5, h6, h7, h8⟩
    exact ⟨⟨⟨⟨h1, h2.1⟩, h2.2⟩, h4, h5⟩, ⟨by omega, h7⟩, h8⟩
end Go.Proofs.YtjdhbgdpmojobaaDoor

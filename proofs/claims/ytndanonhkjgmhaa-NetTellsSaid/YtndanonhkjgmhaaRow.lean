/-
  Rows of whatever came in: what stands at each place. No statement of the seat is proved here.
-/
import Derived.Test.YtndanonhkjgmhaaSl
namespace Go.Proofs.Ytndanonhkjgmhaa
open Go.RowKit

/-- A slice of n things of so many cells each: at each place what At says. -/
def RowOf {α : Type} (W : World) (size : Nat) (At : Addr → α → Prop) (A : Option Addr) (n : Nat) (xs : List α) : Prop :=
  xs.length = n ∧ (0 < n → ∃ b o, A = some ⟨b, o, none⟩ ∧ b < W.heap.size ∧ ∀ j (h : j < xs.length), At ⟨b, o + j * size, none⟩ xs[j])
/-- A slice of bytes, as it stands in a cell. -/
structure Sb where
  A : Option Addr
  n : Nat
  c : Nat
  l : List UInt8
def BsAt (W : World) (a : Addr) (x : Sb) : Prop := W.cell? a = some (.slice x.A x.n x.c) ∧ Rd W W.heap.size x.A x.n x.l
end Go.Proofs.Ytndanonhkjgmhaa

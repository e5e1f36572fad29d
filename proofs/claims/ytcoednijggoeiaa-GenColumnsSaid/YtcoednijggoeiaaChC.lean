/-
  Right of any chunk. No statement of the seat is proved here.
-/
import Derived.Test.YtcoednijggoeiaaChB
namespace Go.Proofs.Ytcoednijggoeiaa
open Go.RowKit Go.Deep

set_option maxRecDepth 100000 in
theorem info_bx : (Try.prog.info? 52).map (fun i => (i.zero, i.size, i.bytes)) = some (some (.agg #[.int .i64 0, .slice none 0 0]), 2, 32) := by kernel_rfl
theorem RwK.cut {α : Type} {W : World} {size n c p : Nat} {At : Addr → α → Prop} {A : Option Addr} {xs : List α} (h : RwK W size At A n xs) (hc : n ≤ c) (h1 : p ≤ n) :
    RwK W size At (if c = p then A else A.map (·.add (p * size))) (n - p) (xs.drop p) := by
  have hl := h.1
  refine ⟨by rw [List.length_drop]; omega, fun hn => ?_⟩
  obtain ⟨b, o, rfl, hb, hcell⟩ := h.2 (by omega)
  rw [if_neg (by omega)]
  refine ⟨b, o + p * size, by simp [Addr.add_lit], hb, fun j hj => ?_⟩
  have hj' : p + j < xs.length := by rw [List.length_drop] at hj; omega
  have := hcell (p + j) hj'
  rw [List.getElem_drop, show o + p * size + j * size = o + (p + j) * size by rw [Nat.add_mul]; omega]
  exact this
set_option maxRecDepth 100000 in
/-- The boxes behind the first one. -/
theorem post_bx {w : World} {n c : Nat} {A : Option Addr} {At : Addr → Bx → Prop} {l : List Bx} (h : RwK w 2 At A n l) (hc : n ≤ c) (h1 : 1 ≤ n) :
    ∃ A' c', (∀ W : World, (Instr.slice 30 (.slice A n c) (some (.int .i64 1)) none none).run Try.prog W = .ok (.slice A' (n - 1) c') W) ∧ RwK w 2 At A' (n - 1) (l.drop 1) ∧ n - 1 ≤ c' := by
  obtain ⟨i0, hi0, hz0, hz1, hz2⟩ := info_parts info_bx
  refine ⟨_, c - 1, fun W => ?_, h.cut hc h1, by omega⟩
  rw [run_slice_l W 30 A n c Try.underlying30 .i64 1 (by omega) (by omega)]
  have he : Try.prog.elem 30 = 52 := by simp [Program.elem, Try.underlying30]
  rw [he]
  simp [sizeOf, typeInfo, hi0, hz1, sliced]
section
variable {w w' : World} {A : Option Addr} {n c lo : Nat}
theorem any_not {α : Type} (l : List α) (p : α → Bool) : (!(l.any fun x => !p x)) = l.all p := by
  induction l with
  | nil => rfl
  | cons x l ih => simp only [List.any_cons, List.all_cons, Bool.not_or, ih, Bool.not_not]
theorem bxC_end {k : Nat} {r : List Bp} : bxC k [] r = r.isEmpty := rfl
theorem bxC_other {k i : Nat} {cs : List Nat} {r : List Bp} (h : i ≠ 9) : bxC k (i :: cs) r = bxC (k + 1) cs r := by
  simp [bxC, h]
theorem bxC_none {k : Nat} {cs : List Nat} : bxC k (9 :: cs) [] = false := by
  simp [bxC]
theorem bxC_some {k : Nat} {cs : List Nat} {b : Bp} {r : List Bp} : bxC k (9 :: cs) (b :: r) = ((b.1 == (k : Int)) && ((b.2.length == 6) && rgt b.2) && bxC (k + 1) cs r) := by
  simp [bxC]
end
end Go.Proofs.Ytcoednijggoeiaa

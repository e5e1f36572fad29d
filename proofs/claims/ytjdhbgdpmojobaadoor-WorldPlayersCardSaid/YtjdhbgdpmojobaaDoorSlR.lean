/-
  Slots, rows of them; two rows held against one another. No statement of the seat is proved here.
-/
import Derived.Test.YtjdhbgdpmojobaaDoorItA
import Derived.BigRegion
import Derived.BigQuiet
import Derived.Deep.QuietTactic
namespace Go.Proofs.YtjdhbgdpmojobaaDoor
open Go.RowKit Go.Deep

/-- Slots as cells. -/
def slC (l : List (Nat × Int)) : List Value := l.flatMap fun s => [.int .u8 (s.1 : Int), .int .i64 s.2]
theorem slC_len (l : List (Nat × Int)) : (slC l).length = l.length * 2 := by
  induction l with
  | nil => rfl
  | cons x l ih =>
    show (slC l).length + 2 = (l.length + 1) * 2
    omega
theorem slC_append (l m : List (Nat × Int)) : slC (l ++ m) = slC l ++ slC m := by simp [slC]
theorem slC_at (l : List (Nat × Int)) (j : Nat) (h : j < l.length) : (slC l)[j * 2]? = some (.int .u8 (l[j].1 : Int)) ∧ (slC l)[j * 2 + 1]? = some (.int .i64 l[j].2) := by
  induction l generalizing j with
  | nil => simp at h
  | cons x l ih =>
    have e : slC (x :: l) = .int .u8 (x.1 : Int) :: .int .i64 x.2 :: slC l := rfl
    rw [e]
    cases j with
    | zero => exact ⟨rfl, rfl⟩
    | succ j =>
      have := ih j (by simpa using h)
      rw [show (j + 1) * 2 = j * 2 + 2 by omega]
      exact this
theorem slC_one (l : List (Nat × Int)) : ∀ u ∈ slC l, u.oneCell' = true := by
  intro u hu
  simp only [slC, List.mem_flatMap, List.mem_cons, List.not_mem_nil, or_false] at hu
  obtain ⟨_, _, rfl | rfl⟩ := hu <;> rfl
/-- What a slice of slots reads as. -/
def RdS (W : World) (A : Option Addr) (n : Nat) (l : List (Nat × Int)) : Prop :=
  l.length = n ∧ (0 < n → ∃ b o, A = some ⟨b, o, none⟩ ∧ b < W.heap.size ∧ ∀ j (h : j < l.length), W.cell? ⟨b, o + j * 2, none⟩ = some (.int .u8 (l[j].1 : Int)) ∧ W.cell? ⟨b, o + j * 2 + 1, none⟩ = some (.int .i64 l[j].2))
section
variable {w w' : World} {A A' : Option Addr} {n b : Nat} {l : List (Nat × Int)}
theorem RdS.nil (w : World) (A : Option Addr) : RdS w A 0 [] := ⟨rfl, fun h => absurd h (by omega)⟩
theorem RdS.no (h : RdS w A n l) (hf : Fr No w w') : RdS w' A n l := by
  refine ⟨h.1, fun hn => ?_⟩
  obtain ⟨b, o, e, hb, hc⟩ := h.2 hn
  refine ⟨b, o, e, Nat.lt_of_lt_of_le hb hf.size, fun j hj => ?_⟩
  have q : ∀ k, w'.cell? ⟨b, k, none⟩ = w.cell? ⟨b, k, none⟩ := fun k => hf.cell (p := ⟨b, k, none⟩) hb (fun e => e)
  rw [q, q]
  exact hc j hj
theorem RdS.blk {t : TypeId} {fr : Nat × Nat} (h : w.heap[b]? = some (.cells (slC l).toArray t fr)) : RdS w (some ⟨b, 0, none⟩) l.length l := by
  refine ⟨rfl, fun _ => ⟨b, 0, rfl, (Array.getElem?_eq_some_iff.1 h).1, fun j hj => ?_⟩⟩
  obtain ⟨h1, h2⟩ := slC_at l j hj
  rw [Nat.zero_add, blk_cell h, blk_cell h, List.getElem?_toArray, List.getElem?_toArray]
  exact ⟨h1, h2⟩
set_option maxHeartbeats 1600000 in
set_option maxRecDepth 100000 in
/-- Two rows that read the same. -/
theorem same_yes (hx : RdS w A n l) (hy : RdS w A' n l) (c c' : Nat) (hn : n ≤ 100000) :
    Calls Tryd.prog 49 #[.slice A n c, .slice A' n c'] w fun e w' => e = .returned (.bool true) ∧ Fr No w w' := by
  have HX := Lib.hid (fun W (hW : Fr No w W) => hx.no hW)
  have HY := Lib.hid (fun W (hW : Fr No w W) => hy.no hW)
  have HLX := Lib.hid hx.1
  clear hx hy
  go_enter Tryd.func49, Tryd.ntmps49
  go_wp2_with fail
  go_loopw [13] (fun v13 wr => ∃ i : Nat, i ≤ n ∧ v13 = .int .i64 (i : Int) ∧ Fr No w wr) (fun v13 _ => n - (intOf v13).toNat)
  case atStart => exact ⟨0, by omega, rfl, Fr.refl _ _⟩
  case round =>
    obtain ⟨i, hi, rfl, hf⟩ := hrel
    have HF := Lib.hid hf
    clear hf
    by_cases hlt : i < n
    · have hxi : i < l.length := by rw [HLX.out]; exact hlt
      obtain ⟨b, o, rfl, _, hcx⟩ := (HX.out wr HF.out).2 (by omega)
      obtain ⟨b', o', rfl, _, hcy⟩ := (HY.out wr HF.out).2 (by omega)
      obtain ⟨x0, x1⟩ := hcx i hxi
      obtain ⟨y0, y1⟩ := hcy i hxi
      clear hcx hcy
      generalize (l[i].1 : Int) = p at *
      generalize l[i].2 = q at *
      have hwi : IntKind.i64.wrap ((i : Int) + 1) = ((i + 1 : Nat) : Int) := by
        rw [show ((i : Int) + 1) = ((i + 1 : Nat) : Int) by omega]
        exact IntWalk.i64_in _ (by omega)
      go_wp2_with fail
      go_quiet (fail)
      go_wp2_with fail
      go_roundw
      case rel => exact ⟨i + 1, by omega, by go_num, HF.out.no_trans (Fr.drewN No _ _)⟩
      case measure => simp [intOf]; omega
    · have hin : i = n := by omega
      subst hin
      go_wp2_with fail
      go_ret
      exact ⟨rfl, HF.out⟩
end
end Go.Proofs.YtjdhbgdpmojobaaDoor

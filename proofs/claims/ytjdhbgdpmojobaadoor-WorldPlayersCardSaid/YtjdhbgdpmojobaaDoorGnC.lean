/-
  The world at first: one cell. No statement of the seat is proved here.
-/
import Derived.Test.YtjdhbgdpmojobaaDoorGnB
namespace Go.Proofs.YtjdhbgdpmojobaaDoor
open Go.RowKit Go.Deep

section
variable {w w' : World} {s : W64}
theorem cellZ_out {x y : Int} (h : ¬ (0 ≤ x ∧ x < 128 ∧ 0 ≤ y ∧ y < 128)) : cellZ s x y = 0 := by unfold cellZ; rw [if_neg h]
theorem cellZ_in {x y : Nat} (hx : x < 128) (hy : y < 128) : cellZ s (x : Int) (y : Int) = cellN s x y := by unfold cellZ; rw [if_pos ⟨by omega, by omega, by omega, by omega⟩]; rfl
set_option maxRecDepth 100000 in
theorem gcell_any (s : W64) (x y : Int) (w : World) : Calls Tryd.prog 17 #[u64v s, .int .i64 x, .int .i64 y] w fun e w' => e = .returned (.int .u8 (cellZ s x y : Int)) ∧ Fr No w w' := by
  have HW1 := Lib.hid (fun W => gwithin_any x 128 W)
  have HW2 := Lib.hid (fun W => gwithin_any y 128 W)
  by_cases hx : 0 ≤ x ∧ x < 128
  · have e1 : decide (0 ≤ x ∧ x < 128) = true := decide_eq_true hx
    by_cases hy : 0 ≤ y ∧ y < 128
    · have e2 : decide (0 ≤ y ∧ y < 128) = true := decide_eq_true hy
      rw [e1] at HW1
      rw [e2] at HW2
      clear e1 e2
      obtain ⟨X, rfl⟩ : ∃ X : Nat, x = (X : Int) := ⟨x.toNat, by omega⟩
      obtain ⟨Y, rfl⟩ : ∃ Y : Nat, y = (Y : Int) := ⟨y.toNat, by omega⟩
      have hX : X < 128 := by omega
      have hY : Y < 128 := by omega
      rw [cellZ_in hX hY]
      have HC := Lib.hid (gcells_any w s (X / 8) (by omega))
      have HF := Lib.hid (fun W G H (hg : Gcl W G H s (hgtN s (X / 8))) => cellf_any hg (hgt_in s _) X Y hX hY)
      have hq : ((X / 8 : Nat) : Int) = wrap64 ((X : Int) / 8) := by rw [IntWalk.wrap64_in _ (by omega)]; omega
      rw [hq] at HC
      clear hx hy hX hY hq
      unfold u64v at *
      unfold cellN
      obtain ⟨D, hD⟩ : ∃ D, w.heap.size = D := ⟨_, rfl⟩
      rw [hD] at HC
      clear hD
      go_enter Tryd.func17, Tryd.ntmps17
      go_wp2_with fail
      refine (HW1.out _).mono ?_
      rintro e w1 ⟨rfl, rfl⟩
      go_wp2_with fail
      refine (HW2.out _).mono ?_
      rintro e w1 ⟨rfl, rfl⟩
      go_wp2_with fail
      refine HC.out.mono ?_
      rintro e w2 ⟨rfl, hg, hf⟩
      have HG := Lib.hid hg
      have HFR := Lib.hid hf
      clear hg hf
      go_wp2_with fail
      refine (HF.out _ _ _ HG.out).mono ?_
      rintro e w3 ⟨rfl, rfl⟩
      go_wp2_with fail
      go_ret
      exact ⟨rfl, HFR.out⟩
    · have e2 : decide (0 ≤ y ∧ y < 128) = false := decide_eq_false hy
      rw [e1] at HW1
      rw [e2] at HW2
      rw [cellZ_out (fun h => hy ⟨h.2.2.1, h.2.2.2⟩)]
      clear e1 e2 hx hy
      unfold u64v
      go_enter Tryd.func17, Tryd.ntmps17
      go_wp2_with fail
      refine (HW1.out _).mono ?_
      rintro e w1 ⟨rfl, rfl⟩
      go_wp2_with fail
      refine (HW2.out _).mono ?_
      rintro e w1 ⟨rfl, rfl⟩
      go_wp2_with fail
      go_ret
      exact ⟨rfl, Fr.refl _ _⟩
  · have e1 : decide (0 ≤ x ∧ x < 128) = false := decide_eq_false hx
    rw [e1] at HW1
    rw [cellZ_out (fun h => hx ⟨h.1, h.2.1⟩)]
    clear e1 hx
    unfold u64v
    go_enter Tryd.func17, Tryd.ntmps17
    go_wp2_with (refine (HW1.out _).mono ?_; rintro e w1 ⟨rfl, rfl⟩)
    go_ret
    exact ⟨rfl, Fr.refl _ _⟩
end
end Go.Proofs.YtjdhbgdpmojobaaDoor

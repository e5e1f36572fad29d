/-
  Great, isEmpty; where a box stands, or would stand. No statement of the seat is proved here.
-/
import Derived.Test.YtjdhbgdpmojobaaDoorChD
namespace Go.Proofs.YtjdhbgdpmojobaaDoor
open Go.RowKit Go.Deep

section
variable {w w' : World} {A : Option Addr} {n c lo : Nat}
set_option maxRecDepth 100000 in
set_option maxHeartbeats 1600000 in
/-- Great, of any chunk: it is told. -/
theorem great_any {C : Ch} (hx : RdC w C) (hs : SmC C) : Calls Tryd.prog 22 #[C.val] w fun e w' => ∃ g, e = .returned (.bool g) ∧ Fr No w w' := by
  obtain ⟨x, y, A1, n1, c1, cs, A2, n2, c2, hps, A3, n3, c3, bs⟩ := C
  have HX3 := Lib.hid (fun W (hW : Fr No w W) => (hx.no hW).r3)
  have HL3 := Lib.hid hx.r3.1
  have hn3 := hs.s3
  dsimp only [Ch.val] at *
  clear hx hs
  have hb0 := heap_alloc_new w (.cells #[.int .i64 x, .int .i64 y, .slice A1 n1 c1, .slice A2 n2 c2, .slice A3 n3 c3] 31)
  have HF0 := Lib.hid (Fr.alloc No w (.cells #[.int .i64 x, .int .i64 y, .slice A1 n1 c1, .slice A2 n2 c2, .slice A3 n3 c3] 31))
  go_enter Tryd.func22, Tryd.ntmps22
  go_wp2_with fail
  obtain ⟨D, hD⟩ : ∃ D, w.heap.size = D := ⟨_, rfl⟩
  rw [hD] at hb0 ⊢
  clear hD
  generalize w.alloc (.cells #[.int .i64 x, .int .i64 y, .slice A1 n1 c1, .slice A2 n2 c2, .slice A3 n3 c3] 31) = wx at *
  have hW : Hid (∀ W, Fr No wx W → W.cell? ⟨D, 4, none⟩ = some (.slice A3 n3 c3)) := fun W hW => (blk_cell (blk_no hW hb0) 4).trans (by simp)
  clear hb0
  go_loopw [3, 19] (fun v3 v19 wr => ∃ (k : Nat) (z : Int), k ≤ n3 ∧ v3 = .int .i64 z ∧ v19 = .int .i64 (k : Int) ∧ Fr No wx wr) (fun _ v19 _ => n3 - (intOf v19).toNat)
  case atStart => exact ⟨0, _, by omega, rfl, rfl, Fr.refl _ _⟩
  case round =>
    obtain ⟨k, z, hk, rfl, rfl, hf⟩ := hrel
    have HF := Lib.hid hf
    have g4 := hW.out _ hf
    clear hf
    by_cases hlt : k < n3
    · have hkl : k < bs.length := by rw [HL3.out]; exact hlt
      obtain ⟨b, o, rfl, _, hc⟩ := (HX3.out wr (HF0.out.no_trans HF.out)).2 (by omega)
      obtain ⟨y0, y1, y2⟩ := hc k hkl
      rw [Addr.add_lit] at y1
      clear hc y0 y2
      have hwk : IntKind.i64.wrap ((k : Int) + 1) = ((k + 1 : Nat) : Int) := by
        rw [show ((k : Int) + 1) = ((k + 1 : Nat) : Int) by omega]
        exact IntWalk.i64_in _ (by omega)
      generalize bs[k].A = bA at *
      generalize bs[k].n = bn at *
      generalize bs[k].c = bcp at *
      go_wp2_with fail
      go_roundw
      case rel => exact ⟨k + 1, _, by omega, rfl, by go_num, HF.out⟩
      case measure => simp [intOf]; omega
    · go_wp2_with fail
      go_ret
      exact ⟨_, rfl, HF0.out.no_trans HF.out⟩
/-- How two numbers compare. -/
def cmpZ (a b : Int) : Int := if a < b then -1 else if b < a then 1 else 0
set_option maxRecDepth 100000 in
theorem cmp_int (a b : Int) : Calls Tryd.prog 62 #[.int .i64 a, .int .i64 b] w fun e w' => e = .returned (.int .i64 (cmpZ a b)) ∧ w' = w := by
  rcases Int.lt_trichotomy a b with h | h | h
  · have e : cmpZ a b = -1 := by unfold cmpZ; rw [if_pos h]
    have HE := Lib.hid e
    have h2 : ¬ b < a := by omega
    clear e
    go_enter Tryd.func62, Tryd.ntmps62
    go_wp2
    go_ret
    exact ⟨by rw [HE.out]; rfl, rfl⟩
  · subst h
    have e : cmpZ a a = 0 := by unfold cmpZ; rw [if_neg (by omega), if_neg (by omega)]
    have HE := Lib.hid e
    have h2 : ¬ a < a := by omega
    clear e
    go_enter Tryd.func62, Tryd.ntmps62
    go_wp2
    go_ret
    exact ⟨by rw [HE.out]; rfl, rfl⟩
  · have e : cmpZ a b = 1 := by unfold cmpZ; rw [if_neg (by omega), if_pos h]
    have HE := Lib.hid e
    have h2 : ¬ a < b := by omega
    clear e
    go_enter Tryd.func62, Tryd.ntmps62
    go_wp2
    go_ret
    exact ⟨by rw [HE.out]; rfl, rfl⟩
end
end Go.Proofs.YtjdhbgdpmojobaaDoor

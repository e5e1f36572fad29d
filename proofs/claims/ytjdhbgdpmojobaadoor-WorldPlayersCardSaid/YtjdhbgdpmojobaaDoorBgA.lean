/-
  Bags: which slots are wrong, Right, a bag in memory of its own. No statement of the seat is proved here.
-/
import Derived.Test.YtjdhbgdpmojobaaDoorSlO
import Derived.Deep.RegionHeld3
namespace Go.Proofs.YtjdhbgdpmojobaaDoor
open Go.RowKit Go.Deep

/-- A slot that no right bag has. -/
def wrg (s : Nat × Int) : Bool := !(s.1 == 0 && s.2 == 0) && (decide (s.2 < 1) || decide (stI s.1 < s.2))
/-- A right bag. -/
def rgt (l : List (Nat × Int)) : Bool := l.all (fun s => !wrg s)
/-- Items are numbers of one byte. -/
def By (l : List (Nat × Int)) : Prop := ∀ s ∈ l, s.1 < 256
theorem By.at {l : List (Nat × Int)} (h : By l) (j : Nat) (hj : j < l.length) : l[j].1 < 256 := h _ (List.getElem_mem hj)
section
variable {w : World}
theorem stack_w (ht : ItT w) {i : Nat} (hi : i < 256) {s : Int} (hs : stI i = s) : ∀ W, Fr No w W → Calls Tryd.prog 105 #[.int .u8 (i : Int)] W fun e w' => e = .returned (.int .i64 s) ∧ Fr No w w' ∧ Fr No W w' :=
  fun _ hW => (stack_any (ht.no hW) hi).mono (fun _ _ ⟨h1, h2⟩ => ⟨by rw [h1, hs], hW.no_trans h2, h2⟩)
set_option maxRecDepth 100000 in
set_option maxHeartbeats 1600000 in
theorem wrong_any (ht : ItT w) {a : Nat} (ha : a < 256) (b : Int) : Calls Tryd.prog 93 #[.agg #[.int .u8 (a : Int), .int .i64 b]] w fun e w' => e = .returned (.bool (wrg (a, b))) ∧ Fr No w w' := by
  have hf := Fr.alloc No w (.cells #[.int .u8 (a : Int), .int .i64 b] 112)
  have hb := heap_alloc_new w (.cells #[.int .u8 (a : Int), .int .i64 b] 112)
  have HT := Lib.hid (ht.no hf)
  have HF := Lib.hid hf
  clear ht hf
  go_enter Tryd.func93, Tryd.ntmps93
  go_wp2_with fail
  obtain ⟨D, hD⟩ : ∃ D, w.heap.size = D := ⟨_, rfl⟩
  rw [hD] at hb ⊢
  clear hD
  generalize w.alloc (.cells #[.int .u8 (a : Int), .int .i64 b] 112) = x at *
  have hW : Hid (∀ W, Fr No x W → W.cell? ⟨D, 0, none⟩ = some (.int .u8 (a : Int)) ∧ W.cell? ⟨D, 1, none⟩ = some (.int .i64 b)) := fun W hW => ⟨(blk_cell (blk_no hW hb) 0).trans (by simp), (blk_cell (blk_no hW hb) 1).trans (by simp)⟩
  have d := hW.out x (Fr.refl No x)
  have d0 := d.1
  have d1 := d.2
  clear hb d
  by_cases h0 : a = 0 ∧ b = 0
  · obtain ⟨rfl, rfl⟩ := h0
    go_quiet (fail)
    go_wp2_with fail
    go_ret
    exact ⟨rfl, HF.out.no_trans (Fr.drewN No _ _)⟩
  · have HE : Hid (wrg (a, b) = (decide (b < 1) || decide (stI a < b))) := by
      show _ = _
      have : (a == 0 && b == 0) = false := by
        rw [Bool.eq_false_iff]
        intro h
        simp at h
        exact h0 h
      unfold wrg
      dsimp only
      rw [this]
      rfl
    have hc : ((a : Int) == 0) = false ∨ (((a : Int) == 0) = true ∧ (b == 0) = false) := by
      by_cases h : a = 0
      · exact .inr ⟨by simp [h], by rw [beq_eq_false_iff_ne]; exact fun e => h0 ⟨h, e⟩⟩
      · exact .inl (by rw [beq_eq_false_iff_ne]; omega)
    clear h0
    by_cases h1 : b < 1
    · have b1 : decide (b < 1) = true := decide_eq_true h1
      rw [b1] at HE
      rcases hc with e0 | ⟨e0, e1⟩
      all_goals
        go_quiet (fail)
        go_wp2_with fail
        go_ret
        exact ⟨by rw [HE.out]; rfl, HF.out.no_trans (Fr.drewN No _ _)⟩
    · have b1 : decide (b < 1) = false := decide_eq_false h1
      rw [b1] at HE
      obtain ⟨st, hs⟩ : ∃ s, stI a = s := ⟨_, rfl⟩
      have HS := Lib.hid (stack_w HT.out ha hs)
      rw [hs] at HE
      have dd := hW.out x.drew (Fr.drew No x)
      clear hs
      rcases hc with e0 | ⟨e0, e1⟩
      all_goals
        go_region_held3 (fun W => W.cell? ⟨D, 0, none⟩ = some (.int .u8 (a : Int)) ∧ W.cell? ⟨D, 1, none⟩ = some (.int .i64 b))
          (first | exact d5 | exact dd | exact ⟨d0, d1⟩)
          (first
            | (go_at_call 105; refine (HS.out _ (Fr.drew No x)).mono ?_; rintro e w5 ⟨rfl, _, hf⟩; have HF5 := Lib.hid ((Fr.drew No x).no_trans hf); have d5 := hW.out w5 HF5.out; clear hf))
        go_wp2_with fail
        go_ret
        exact ⟨by rw [HE.out]; rfl, HF.out.no_trans HF5.out⟩
end
end Go.Proofs.YtjdhbgdpmojobaaDoor

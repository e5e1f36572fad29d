/-
  Where a box stands among boxes in order. No statement of the seat is proved here.
-/
import Derived.Test.YtefopgdmadgheaaDoorChE
namespace Go.Proofs.YtefopgdmadgheaaDoor
open Go.RowKit Go.Deep

theorem cmpZ_lt {a b : Int} : cmpZ a b < 0 ↔ a < b := by unfold cmpZ; split <;> (try split) <;> omega
theorem cmpZ_eq {a b : Int} : (cmpZ a b == 0) = decide (a = b) := by
  unfold cmpZ
  rcases Int.lt_trichotomy a b with h | h | h
  · rw [if_pos h, decide_eq_false (by omega)]; rfl
  · subst h; rw [if_neg (by omega), if_neg (by omega), decide_eq_true rfl]; rfl
  · rw [if_neg (by omega), if_pos h, decide_eq_false (by omega)]; rfl
/-- k is where t stands, or would stand, in the row. -/
def AtB (l : List Int) (t : Int) (k : Nat) : Prop := k ≤ l.length ∧ (∀ j (h : j < l.length), j < k → l[j] < t) ∧ (∀ j (h : j < l.length), k ≤ j → t ≤ l[j])
section
variable {w w' : World} {A : Option Addr} {n c lo : Nat}
set_option maxRecDepth 100000 in
set_option maxHeartbeats 3200000 in
theorem bsearch_any {bs : List Bx} (hx : RwK w 2 (BxAt w) A n bs) (hn : n ≤ 100000) (c : Nat) (t : Int) (hs : ∀ i j (h : j < bs.length) (hij : i < j), bs[i].cell < bs[j].cell) :
    Calls Tryd.prog 54 #[.slice A n c, .int .i64 t, .func (.func 55) #[] #[]] w fun e w' =>
      ∃ k : Nat, e = .returned (.tuple #[.int .i64 (k : Int), .bool (if h : k < bs.length then decide (bs[k].cell = t) else false)]) ∧ AtB (bs.map Bx.cell) t k ∧ Fr No w w' := by
  have HX := Lib.hid (fun W (hW : Fr No w W) => RwK.no (At := BxAt) (fun _ _ _ hb => BxAt.no hW _ _ _ hb) hW.size hx)
  have HL := Lib.hid hx.1
  have HS := Lib.hid hs
  clear hx hs
  go_enter Tryd.func54, Tryd.ntmps54
  go_wp2_with fail
  go_loopw [9, 10] (fun v9 v10 wr => ∃ i j : Nat, i ≤ j ∧ j ≤ n ∧ v9 = .int .i64 (i : Int) ∧ v10 = .int .i64 (j : Int) ∧ (∀ l (h : l < bs.length), l < i → bs[l].cell < t) ∧ (∀ l (h : l < bs.length), j ≤ l → t ≤ bs[l].cell) ∧ Fr No w wr) (fun v9 v10 _ => (intOf v10).toNat - (intOf v9).toNat)
  case atStart => exact ⟨0, n, by omega, by omega, rfl, rfl, fun l _ h => absurd h (by omega), fun l h1 h2 => absurd h1 (by have := HL.out; omega), Fr.refl _ _⟩
  case round =>
    obtain ⟨i, j, hij, hj, rfl, rfl, h1, h2, hf⟩ := hrel
    have HF := Lib.hid hf
    have H1 := Lib.hid h1
    have H2 := Lib.hid h2
    clear hf h1 h2
    by_cases hlt : i < j
    · obtain ⟨h, hh⟩ : ∃ h, (i + j) / 2 = h := ⟨_, rfl⟩
      have hhn : h < n := by omega
      have hhl : h < bs.length := by rw [HL.out]; exact hhn
      obtain ⟨b, o, rfl, _, hc⟩ := (HX.out wr HF.out).2 (by omega)
      obtain ⟨y0, y1, y2⟩ := hc h hhl
      rw [Addr.add_lit] at y1
      clear hc y2
      have hw1 : IntKind.i64.wrap ((i : Int) + (j : Int)) = ((i + j : Nat) : Int) := by
        rw [show ((i : Int) + (j : Int)) = ((i + j : Nat) : Int) by omega]
        exact IntWalk.i64_in _ (by omega)
      have hw2 : IntKind.u64.wrap ((i + j : Nat) : Int) = ((i + j : Nat) : Int) := by
        exact IntWalk.u64_in _ (by omega)
      have HC := Lib.hid (fun W => boxat1_any (w := W) bs[h].cell (.slice bs[h].A bs[h].n bs[h].c) t)
      obtain ⟨z, hz⟩ : ∃ z, cmpZ bs[h].cell t = z := ⟨_, rfl⟩
      have HZ := Lib.hid (cmpZ_lt (a := bs[h].cell) (b := t))
      rw [hz] at HC HZ
      have hi2 : ((i : Int) + (j : Int)) / 2 = (h : Int) := by omega
      by_cases hz0 : z < 0
      · have hbt := HZ.out.1 hz0
        go_wp2_with (refine (HC.out _).mono ?_; rintro e w5 ⟨rfl, hf⟩; have HF5 := Lib.hid hf; clear hf)
        go_roundw
        case rel =>
          refine ⟨h + 1, j, by omega, hj, by first | rfl | go_num, rfl, fun l hl hlh => ?_, H2.out, HF.out.no_trans HF5.out⟩
          rcases Nat.lt_or_ge l h with e | e
          · exact Int.lt_trans (HS.out l h hhl e) hbt
          · obtain rfl : l = h := by omega
            exact hbt
        case measure => simp [intOf]; omega
      · have hbt : t ≤ bs[h].cell := by
          have := mt HZ.out.2 hz0
          omega
        go_wp2_with (refine (HC.out _).mono ?_; rintro e w5 ⟨rfl, hf⟩; have HF5 := Lib.hid hf; clear hf)
        go_roundw
        case rel =>
          refine ⟨i, h, by omega, by omega, rfl, rfl, H1.out, fun l hl hlh => ?_, HF.out.no_trans HF5.out⟩
          rcases Nat.lt_or_ge h l with e | e
          · exact Int.le_of_lt (Int.lt_of_le_of_lt hbt (HS.out h l hl e))
          · obtain rfl : l = h := by omega
            exact hbt
        case measure => simp [intOf]; omega
    · have hije : i = j := by omega
      subst hije
      have HA : Hid (AtB (bs.map Bx.cell) t i) := Lib.hid ⟨by rw [List.length_map, HL.out]; exact hj, fun l hl hli => by rw [List.getElem_map]; exact H1.out l (by simpa using hl) hli, fun l hl hli => by rw [List.getElem_map]; exact H2.out l (by simpa using hl) hli⟩
      by_cases hin : i < n
      · have hil : i < bs.length := by rw [HL.out]; exact hin
        obtain ⟨b, o, rfl, _, hc⟩ := (HX.out wr HF.out).2 (by omega)
        obtain ⟨y0, y1, y2⟩ := hc i hil
        rw [Addr.add_lit] at y1
        clear hc y2
        have HC := Lib.hid (fun W => boxat1_any (w := W) bs[i].cell (.slice bs[i].A bs[i].n bs[i].c) t)
        obtain ⟨z, hz⟩ : ∃ z, cmpZ bs[i].cell t = z := ⟨_, rfl⟩
        have HZ := Lib.hid (cmpZ_eq (a := bs[i].cell) (b := t))
        rw [hz] at HC HZ
        clear hz
        have hlt' : (i : Int) < (n : Int) := by omega
        go_wp2_with (refine (HC.out _).mono ?_; rintro e w5 ⟨rfl, hf⟩; have HF5 := Lib.hid hf; clear hf)
        refine bodyPost_ret (results_tmp2 rfl _ _ _) rfl ?_
        refine ⟨i, ?_, HA.out, HF.out.no_trans HF5.out⟩
        rw [dif_pos hil, ← HZ.out]
        rfl
      · have hil : ¬ i < bs.length := by rw [HL.out]; exact hin
        have hlt' : ¬ (i : Int) < (n : Int) := by omega
        go_wp2_with fail
        refine bodyPost_ret (results_tmp2 rfl _ _ _) rfl ?_
        refine ⟨i, ?_, HA.out, HF.out⟩
        rw [dif_neg hil]
        rfl
end
end Go.Proofs.YtefopgdmadgheaaDoor

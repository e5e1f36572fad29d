/-
  The document's disk: which bytes and texts are names. No statement of the seat is proved here.
-/
import Derived.Test.YtnkgcafebmacjaaDmA
namespace Go.Proofs.Ytnkgcafebmacjaa
open Go.RowKit Go.Maps

set_option maxRecDepth 100000 in
theorem letter_any (x : Nat) (w : World) (hx : x < 256) :
    Calls Try.prog 59 #[.int .u8 (x : Int)] w fun e w' => e = .returned (.bool (nameB x)) ∧ w = w' := by
  have hall : (48 ≤ x ∧ x ≤ 57) ∨ (97 ≤ x ∧ x ≤ 122) ∨ (x = 45) ∨ (x = 46) ∨ (x < 48 ∧ x ≠ 45 ∧ x ≠ 46) ∨ (57 < x ∧ x < 97) ∨ (122 < x) := by omega
  rcases hall with h | h | h | h | h | h | h
  · have nb : nameB x = true := by
      unfold nameB
      simp
      omega
    have q0 : decide ((48 : Int) ≤ (x : Int)) = true := by rw [decide_eq_true_eq]; omega
    have q1 : decide ((x : Int) ≤ 57) = true := by rw [decide_eq_true_eq]; omega
    rw [nb]
    clear nb h hx
    go_enter Try.func59, Try.ntmps59
    go_wp2_with fail
    go_ret
    exact ⟨rfl, rfl⟩
  · have nb : nameB x = true := by
      unfold nameB
      simp
      omega
    have q0 : decide ((48 : Int) ≤ (x : Int)) = true := by rw [decide_eq_true_eq]; omega
    have q1 : decide ((x : Int) ≤ 57) = false := by rw [decide_eq_false_iff_not]; omega
    have q2 : decide ((97 : Int) ≤ (x : Int)) = true := by rw [decide_eq_true_eq]; omega
    have q3 : decide ((x : Int) ≤ 122) = true := by rw [decide_eq_true_eq]; omega
    rw [nb]
    clear nb h hx
    go_enter Try.func59, Try.ntmps59
    go_wp2_with fail
    go_ret
    exact ⟨rfl, rfl⟩
  · have nb : nameB x = true := by
      unfold nameB
      rw [h]
      rfl
    have q0 : decide ((48 : Int) ≤ (x : Int)) = false := by rw [decide_eq_false_iff_not]; omega
    have q2 : decide ((97 : Int) ≤ (x : Int)) = false := by rw [decide_eq_false_iff_not]; omega
    have q4 : ((x : Int) == 45) = true := by rw [h]; rfl
    rw [nb]
    clear nb h hx
    go_enter Try.func59, Try.ntmps59
    go_wp2_with fail
    go_ret
    exact ⟨rfl, rfl⟩
  · have nb : nameB x = true := by
      unfold nameB
      rw [h]
      rfl
    have q0 : decide ((48 : Int) ≤ (x : Int)) = false := by rw [decide_eq_false_iff_not]; omega
    have q2 : decide ((97 : Int) ≤ (x : Int)) = false := by rw [decide_eq_false_iff_not]; omega
    have q4 : ((x : Int) == 45) = false := by rw [beq_eq_false_iff_ne]; omega
    have q5 : ((x : Int) == 46) = true := by rw [h]; rfl
    rw [nb]
    clear nb h hx
    go_enter Try.func59, Try.ntmps59
    go_wp2_with fail
    go_ret
    exact ⟨rfl, rfl⟩
  · have nb : nameB x = false := by
      unfold nameB
      simp
      omega
    have q0 : decide ((48 : Int) ≤ (x : Int)) = false := by rw [decide_eq_false_iff_not]; omega
    have q2 : decide ((97 : Int) ≤ (x : Int)) = false := by rw [decide_eq_false_iff_not]; omega
    have q4 : ((x : Int) == 45) = false := by rw [beq_eq_false_iff_ne]; omega
    have q5 : ((x : Int) == 46) = false := by rw [beq_eq_false_iff_ne]; omega
    rw [nb]
    clear nb h hx
    go_enter Try.func59, Try.ntmps59
    go_wp2_with fail
    go_ret
    exact ⟨rfl, rfl⟩
  · have nb : nameB x = false := by
      unfold nameB
      simp
      omega
    have q0 : decide ((48 : Int) ≤ (x : Int)) = true := by rw [decide_eq_true_eq]; omega
    have q1 : decide ((x : Int) ≤ 57) = false := by rw [decide_eq_false_iff_not]; omega
    have q2 : decide ((97 : Int) ≤ (x : Int)) = false := by rw [decide_eq_false_iff_not]; omega
    have q4 : ((x : Int) == 45) = false := by rw [beq_eq_false_iff_ne]; omega
    have q5 : ((x : Int) == 46) = false := by rw [beq_eq_false_iff_ne]; omega
    rw [nb]
    clear nb h hx
    go_enter Try.func59, Try.ntmps59
    go_wp2_with fail
    go_ret
    exact ⟨rfl, rfl⟩
  · have nb : nameB x = false := by
      unfold nameB
      simp
      omega
    have q0 : decide ((48 : Int) ≤ (x : Int)) = true := by rw [decide_eq_true_eq]; omega
    have q1 : decide ((x : Int) ≤ 57) = false := by rw [decide_eq_false_iff_not]; omega
    have q2 : decide ((97 : Int) ≤ (x : Int)) = true := by rw [decide_eq_true_eq]; omega
    have q3 : decide ((x : Int) ≤ 122) = false := by rw [decide_eq_false_iff_not]; omega
    have q4 : ((x : Int) == 45) = false := by rw [beq_eq_false_iff_ne]; omega
    have q5 : ((x : Int) == 46) = false := by rw [beq_eq_false_iff_ne]; omega
    rw [nb]
    clear nb h hx
    go_enter Try.func59, Try.ntmps59
    go_wp2_with fail
    go_ret
    exact ⟨rfl, rfl⟩
set_option maxRecDepth 100000 in
theorem right_any (s : ByteArray) (w : World) (hs : s.size ≤ 9223372036854775000) :
    Calls Try.prog 39 #[.string s] w fun e w' => e = .returned (.bool (isNm s.data.toList)) ∧ w = w' := by
  have hl : s.data.toList.length = s.size := by rw [Array.length_toList]; rfl
  obtain ⟨l, HL⟩ : ∃ l, Hid (s.data.toList = l) := ⟨_, rfl⟩
  rw [HL.out] at hl ⊢
  obtain ⟨r, HR⟩ : ∃ r, Hid (isNm l = r) := ⟨_, rfl⟩
  rw [HR.out]
  go_enter Try.func39, Try.ntmps39
  go_wp2_with fail
  go_loop [3] (fun u => ∃ i : Nat, i ≤ s.size ∧ i ≤ 41 ∧ u = .int .i64 (i : Int) ∧ Hid (∀ j x, j < i → l[j]? = some x → nameB x.toNat = true)) (fun u => s.size - (intOf u).toNat)
  case atStart => exact ⟨0, by omega, by omega, rfl, fun j x hj => by omega⟩
  case round =>
    obtain ⟨i, hi, hi41, rfl, hall⟩ := hrel
    by_cases hlt : i < s.size
    · by_cases h40 : i ≤ 40
      · obtain ⟨x, hx⟩ : ∃ x, l[i]? = some x := ⟨_, List.getElem?_eq_getElem (by omega)⟩
        have hix := run_index_text (s := s) (i := i) (x := x) (z := (i : Int)) (W := w) rfl (by rw [HL.out]; exact hx)
        have HLE := Lib.hid (letter_any x.toNat w x.toNat_lt)
        have HX := Lib.hid hx
        have hd40 : decide ((i : Int) ≤ 40) = true := by rw [decide_eq_true_eq]; omega
        have hwi : IntKind.i64.wrap ((i : Int) + 1) = ((i + 1 : Nat) : Int) := by
          rw [show ((i : Int) + 1) = ((i + 1 : Nat) : Int) by omega]
          exact IntWalk.i64_in _ (by omega)
        clear hx
        cases hnb : nameB x.toNat with
        | true =>
          rw [hnb] at HLE
          go_wp2_with fail
          refine HLE.out.mono ?_
          rintro e w' ⟨rfl, rfl⟩
          go_wp2_with fail
          go_round
          case rel => exact ⟨i + 1, by omega, by omega, by go_num, fun j y hj hy => by
            by_cases hji : j = i
            · subst hji
              rw [HX.out] at hy
              injection hy with hy
              rw [← hy]
              exact hnb
            · exact hall.out j y (by omega) hy⟩
          case measure => simp [intOf]; omega
        | false =>
          rw [hnb] at HLE
          have hrf : r = false := by
            rw [← HR.out]
            cases hq : isNm l with
            | false => rfl
            | true =>
              unfold isNm at hq
              simp only [Bool.and_eq_true, List.all_eq_true] at hq
              have := hq.2 x (List.mem_of_getElem? HX.out)
              rw [hnb] at this
              cases this
          have hne : ((i : Int) == (s.size : Int)) = false := by rw [beq_eq_false_iff_ne]; omega
          subst hrf
          clear HR
          go_wp2_with fail
          refine HLE.out.mono ?_
          rintro e w' ⟨rfl, rfl⟩
          go_wp2_with fail
          go_ret
          exact ⟨rfl, rfl⟩
      · have hrf : r = false := by
          rw [← HR.out]
          exact isNm_no l (by omega)
        have hd40 : decide ((i : Int) ≤ 40) = false := by rw [decide_eq_false_iff_not]; omega
        have hne : ((i : Int) == (s.size : Int)) = false := by rw [beq_eq_false_iff_ne]; omega
        subst hrf
        clear HR
        go_wp2_with fail
        go_ret
        exact ⟨rfl, rfl⟩
    · have hie : i = s.size := by omega
      have hrt : r = (decide (0 < i) && decide (i ≤ 40)) := by
        rw [← HR.out]
        by_cases h1 : 0 < i ∧ i ≤ 40
        · rw [isNm_in l (by omega) (by omega), decide_eq_true h1.1, decide_eq_true h1.2]
          show _ = true
          rw [List.all_eq_true]
          intro x hx
          obtain ⟨j, hj, e⟩ := List.getElem_of_mem hx
          exact hall.out j x (by omega) (by rw [List.getElem?_eq_getElem hj, e])
        · rw [isNm_no l (by omega)]
          by_cases h2 : 0 < i
          · have h3 : ¬ i ≤ 40 := fun h => h1 ⟨h2, h⟩
            simp [h3]
          · simp [h2]
      by_cases h0 : 0 < i
      · by_cases h40 : i ≤ 40
        · have hd0 : decide ((0 : Int) < (i : Int)) = true := by rw [decide_eq_true_eq]; omega
          have hd40 : decide ((i : Int) ≤ 40) = true := by rw [decide_eq_true_eq]; omega
          have hrf : r = true := by rw [hrt]; simp [h0, h40]
          subst hrf hie
          clear HR hrt
          go_wp2_with fail
          go_ret
          exact ⟨rfl, rfl⟩
        · have hd0 : decide ((0 : Int) < (i : Int)) = true := by rw [decide_eq_true_eq]; omega
          have hd40 : decide ((i : Int) ≤ 40) = false := by rw [decide_eq_false_iff_not]; omega
          have hrf : r = false := by rw [hrt]; simp [h40]
          subst hrf hie
          clear HR hrt
          go_wp2_with fail
          go_ret
          exact ⟨rfl, rfl⟩
      · have hd0 : decide ((0 : Int) < (i : Int)) = false := by rw [decide_eq_false_iff_not]; omega
        have hrf : r = false := by rw [hrt]; simp [h0]
        subst hrf hie
        clear HR hrt
        go_wp2_with fail
        go_ret
        exact ⟨rfl, rfl⟩
end Go.Proofs.Ytnkgcafebmacjaa

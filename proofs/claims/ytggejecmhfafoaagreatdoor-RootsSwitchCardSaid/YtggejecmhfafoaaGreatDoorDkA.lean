/-
  The contracts of the small functions of layer 3: which bytes, and which texts, are names. No statement of the seat is proved here.
-/
import Derived.Test.YtggejecmhfafoaaGreatDoorBase
import Derived.Deep.QuietTactic
import Derived.BigQuiet
namespace Go.Proofs.YtggejecmhfafoaaGreatDoor
open Go.RowKit

set_option maxRecDepth 100000 in
theorem run_index_text (W : World) (s : ByteArray) (i : Nat) (x : UInt8) (z : Int) (hz : z = (i : Int)) (h : s.data.toList[i]? = some x) :
    (Instr.index 9 (.string s) (.int .i64 z)).run Tryz.prog W = .ok (.int .u8 (x.toNat : Int)) W := by
  subst hz
  have hi : i < s.size := by
    have := (List.getElem?_eq_some_iff.1 h).1
    rwa [Array.length_toList] at this
  rw [run_index_string W 9 s .i64 (i : Int) Tryz.underlying9, dif_pos ⟨by omega, by omega⟩]
  have e : s[((i : Int)).toNat]'(by omega) = x := by
    have := (List.getElem?_eq_some_iff.1 h).2
    rw [← this]; rfl
  rw [e]
/-- May a name have a byte? -/
def nameB (x : Nat) : Bool := (decide (97 ≤ x) && decide (x ≤ 122)) || (decide (48 ≤ x) && decide (x ≤ 57)) || x == 46 || x == 45
/-- Is it a name? -/
def isNm (l : List UInt8) : Bool := decide (1 ≤ l.length) && decide (l.length ≤ 40) && l.all fun x => nameB x.toNat
set_option maxRecDepth 100000 in
theorem namebyte_any (x : Nat) (w : World) (hx : x < 256) :
    Calls Tryz.prog 66 #[.int .u8 (x : Int)] w fun e w' => e = .returned (.bool (nameB x)) ∧ w = w' := by
  have H : Unit → nameB x = ((decide (97 ≤ x) && decide (x ≤ 122)) || (decide (48 ≤ x) && decide (x ≤ 57)) || x == 46 || x == 45) := fun _ => rfl
  rw [H ()]
  by_cases h1 : 97 ≤ x ∧ x ≤ 122
  · go_enter Tryz.func66, Tryz.ntmps66
    obtain ⟨a, b⟩ := h1
    go_wp2
    go_ret
    exact ⟨by simp, rfl⟩
  · have e1 : (decide (97 ≤ x) && decide (x ≤ 122)) = false := by simp; omega
    by_cases h2 : 48 ≤ x ∧ x ≤ 57
    · obtain ⟨a, b⟩ := h2
      have c : ¬ 97 ≤ x := by omega
      go_enter Tryz.func66, Tryz.ntmps66
      go_wp2
      go_ret
      exact ⟨by simp, rfl⟩
    · have e2 : (decide (48 ≤ x) && decide (x ≤ 57)) = false := by simp; omega
      rw [e1, e2]
      clear H e1 e2 hx
      by_cases a : 97 ≤ x
      · have b : decide ((x : Int) ≤ 122) = false := by simp; omega
        have c : 48 ≤ x := by omega
        have d : decide ((x : Int) ≤ 57) = false := by simp; omega
        have e : ((x : Int) == 46) = false := by rw [beq_eq_false_iff_ne]; omega
        have f : ((x : Int) == 45) = false := by rw [beq_eq_false_iff_ne]; omega
        have e' : (x == 46) = false := by rw [beq_eq_false_iff_ne]; omega
        have f' : (x == 45) = false := by rw [beq_eq_false_iff_ne]; omega
        rw [e', f']
        clear e' f' h1 h2
        go_enter Tryz.func66, Tryz.ntmps66
        go_wp2
        go_ret
        exact ⟨rfl, rfl⟩
      · by_cases c : 48 ≤ x
        · have d : decide ((x : Int) ≤ 57) = false := by simp; omega
          have e : ((x : Int) == 46) = false := by rw [beq_eq_false_iff_ne]; omega
          have f : ((x : Int) == 45) = false := by rw [beq_eq_false_iff_ne]; omega
          have e' : (x == 46) = false := by rw [beq_eq_false_iff_ne]; omega
          have f' : (x == 45) = false := by rw [beq_eq_false_iff_ne]; omega
          rw [e', f']
          clear e' f' h1 h2
          go_enter Tryz.func66, Tryz.ntmps66
          go_wp2
          go_ret
          exact ⟨rfl, rfl⟩
        · by_cases g : x = 46
          · subst g
            go_enter Tryz.func66, Tryz.ntmps66
            go_wp2
            go_ret
            exact ⟨rfl, rfl⟩
          · by_cases k : x = 45
            · subst k
              go_enter Tryz.func66, Tryz.ntmps66
              go_wp2
              go_ret
              exact ⟨rfl, rfl⟩
            · have e : ((x : Int) == 46) = false := by rw [beq_eq_false_iff_ne]; omega
              have f : ((x : Int) == 45) = false := by rw [beq_eq_false_iff_ne]; omega
              have e' : (x == 46) = false := by rw [beq_eq_false_iff_ne]; exact g
              have f' : (x == 45) = false := by rw [beq_eq_false_iff_ne]; exact k
              rw [e', f']
              clear e' f' h1 h2 g k
              go_enter Tryz.func66, Tryz.ntmps66
              go_wp2
              go_ret
              exact ⟨rfl, rfl⟩

theorem isNm_no (l : List UInt8) (h : ¬ (1 ≤ l.length ∧ l.length ≤ 40)) : isNm l = false := by
  unfold isNm
  by_cases a : 1 ≤ l.length
  · have b : ¬ l.length ≤ 40 := fun b => h ⟨a, b⟩
    simp [b]
  · simp [a]
theorem isNm_in (l : List UInt8) (h1 : 1 ≤ l.length) (h2 : l.length ≤ 40) : isNm l = l.all fun x => nameB x.toNat := by
  unfold isNm
  simp [h1, h2]
set_option maxHeartbeats 800000 in
set_option maxRecDepth 100000 in
theorem isname_any (s : ByteArray) (w : World) (hs : s.size ≤ 9223372036854775807) :
    Calls Tryz.prog 53 #[.string s] w fun e w' => e = .returned (.bool (isNm s.data.toList)) ∧ w = w' := by
  have hl : s.data.toList.length = s.size := by rw [Array.length_toList]; rfl
  obtain ⟨R, HR⟩ : ∃ R : Bool, Hid (isNm s.data.toList = R) := ⟨_, rfl⟩
  rw [HR.out]
  by_cases h1 : 1 ≤ s.size
  · by_cases h2 : s.size ≤ 40
    · have HE := Lib.hid (isNm_in s.data.toList (by omega) (by omega))
      have HL := Lib.hid hl
      clear hl
      go_enter Tryz.func53, Tryz.ntmps53
      go_wp2
      go_loop [14] (fun u => ∃ k : Nat, k ≤ s.size ∧ u = .int .i64 (k : Int) ∧ Hid (((s.data.toList.take k).all fun x => nameB x.toNat) = true)) (fun u => s.size - (intOf u).toNat)
      case atStart => exact ⟨0, Nat.zero_le _, rfl, rfl⟩
      case round =>
        obtain ⟨k, hk, rfl, HK⟩ := hrel
        by_cases hlt : k < s.size
        · obtain ⟨x, hx⟩ : ∃ x, s.data.toList[k]? = some x := ⟨_, List.getElem?_eq_getElem (by rw [HL.out]; exact hlt)⟩
          have hix := fun W => run_index_text W s k x (k : Int) rfl hx
          have hx8 : x.toNat < 256 := x.toNat_lt
          have HT : Hid (s.data.toList.take (k + 1) = s.data.toList.take k ++ [x]) := by
            show _ = _
            rw [List.take_add_one, hx]
            rfl
          have HX := Lib.hid hx
          clear hx
          have C := namebyte_any x.toNat w hx8
          cases hb : nameB x.toNat
          · have HF : Hid ((s.data.toList.all fun x => nameB x.toNat) = false) := by
              show _ = _
              rw [List.all_eq_false]
              exact ⟨x, List.mem_of_getElem? HX.out, by simp [hb]⟩
            rw [hb] at C
            have HC := Lib.hid C
            clear C hb
            generalize x.toNat = xn at *
            go_wp2_with fail
            refine HC.out.mono ?_
            rintro e w' ⟨rfl, rfl⟩
            go_wp2_with fail
            go_ret
            exact ⟨by rw [← HR.out, HE.out, HF.out]; rfl, rfl⟩
          · have HN : Hid (((s.data.toList.take (k + 1)).all fun x => nameB x.toNat) = true) := by
              show _ = _
              rw [HT.out, List.all_append, HK.out]
              simp [hb]
            rw [hb] at C
            have HC := Lib.hid C
            clear C hb
            generalize x.toNat = xn at *
            go_wp2_with fail
            refine HC.out.mono ?_
            rintro e w' ⟨rfl, rfl⟩
            go_wp2_with fail
            go_round
            case rel => exact ⟨k + 1, by omega, by go_num, HN⟩
            case measure => simp [intOf]; omega
        · have hke : k = s.size := by omega
          have HF : Hid ((s.data.toList.all fun x => nameB x.toNat) = true) := by
            have := HK.out
            rw [List.take_of_length_le (by rw [HL.out]; omega)] at this
            exact this
          subst hke
          go_wp2_with fail
          go_ret
          exact ⟨by rw [← HR.out, HE.out, HF.out]; rfl, rfl⟩
    · have HE := Lib.hid (isNm_no s.data.toList (by omega))
      clear hl
      have a : decide ((40 : Int) < (s.size : Int)) = true := by simp; omega
      go_enter Tryz.func53, Tryz.ntmps53
      go_wp2
      go_ret
      exact ⟨by rw [← HR.out, HE.out]; rfl, rfl⟩
  · have HE := Lib.hid (isNm_no s.data.toList (by omega))
    have h0 : s.size = 0 := by omega
    clear hl h1
    go_enter Tryz.func53, Tryz.ntmps53
    go_wp2
    go_ret
    exact ⟨by rw [← HR.out, HE.out]; rfl, rfl⟩
end Go.Proofs.YtggejecmhfafoaaGreatDoor

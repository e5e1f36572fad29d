/-
  Several texts in one: DkA, DkB, DkC, DkD, DkE. No statement of the seat is proved here.
-/
import Derived.Test.YtdkgcgamiochnaaGreatDoorBase
import Derived.Deep.QuietTactic
import Derived.BigQuiet
import Derived.LaidEqlPtr
import Derived.Carry
namespace Go.Proofs.YtdkgcgamiochnaaGreatDoor
open Go.RowKit

set_option maxRecDepth 100000 in
theorem run_index_text (W : World) (s : ByteArray) (i : Nat) (x : UInt8) (z : Int) (hz : z = (i : Int)) (h : s.data.toList[i]? = some x) :
    (Instr.index 9 (.string s) (.int .i64 z)).run Tryz.prog W = .ok (.int .u8 (x.toNat : Int)) W := by
  subst hz
  have hi : i < s.size := by
    have := (List.getElem?_eq_some_iff.1 h).1
    rwa [Array.length_toList] at this
  rw [run_index_string W 9 s .i64 (i : Int) Tryz.underlying9, dif_pos ⟨by omega, by omega⟩]
  have e : s[((i : Int)).toNat]'(by omega) = x := by
    have := (List.getElem?_eq_some_iff.1 h).2
    rw [← this]; rfl
  rw [e]
/-- May a name have a byte? -/
def nameB (x : Nat) : Bool := (decide (97 ≤ x) && decide (x ≤ 122)) || (decide (48 ≤ x) && decide (x ≤ 57)) || x == 46 || x == 45
/-- Is it a name? -/
def isNm (l : List UInt8) : Bool := decide (1 ≤ l.length) && decide (l.length ≤ 40) && l.all fun x => nameB x.toNat
set_option maxRecDepth 100000 in
theorem namebyte_any (x : Nat) (w : World) (hx : x < 256) :
    Calls Tryz.prog 58 #[.int .u8 (x : Int)] w fun e w' => e = .returned (.bool (nameB x)) ∧ w = w' := by
  have H : Unit → nameB x = ((decide (97 ≤ x) && decide (x ≤ 122)) || (decide (48 ≤ x) && decide (x ≤ 57)) || x == 46 || x == 45) := fun _ => rfl
  rw [H ()]
  by_cases h1 : 97 ≤ x ∧ x ≤ 122
  · go_enter Tryz.func58, Tryz.ntmps58
    obtain ⟨a, b⟩ := h1
    go_wp2
    go_ret
    exact ⟨by simp, rfl⟩
  · have e1 : (decide (97 ≤ x) && decide (x ≤ 122)) = false := by simp; omega
    by_cases h2 : 48 ≤ x ∧ x ≤ 57
    · obtain ⟨a, b⟩ := h2
      have c : ¬ 97 ≤ x := by omega
      go_enter Tryz.func58, Tryz.ntmps58
      go_wp2
      go_ret
      exact ⟨by simp, rfl⟩
    · have e2 : (decide (48 ≤ x) && decide (x ≤ 57)) = false := by simp; omega
      rw [e1, e2]
      clear H e1 e2 hx
      by_cases a : 97 ≤ x
      · have b : decide ((x : Int) ≤ 122) = false := by simp; omega
        have c : 48 ≤ x := by omega
        have d : decide ((x : Int) ≤ 57) = false := by simp; omega
        have e : ((x : Int) == 46) = false := by rw [beq_eq_false_iff_ne]; omega
        have f : ((x : Int) == 45) = false := by rw [beq_eq_false_iff_ne]; omega
        have e' : (x == 46) = false := by rw [beq_eq_false_iff_ne]; omega
        have f' : (x == 45) = false := by rw [beq_eq_false_iff_ne]; omega
        rw [e', f']
        clear e' f' h1 h2
        go_enter Tryz.func58, Tryz.ntmps58
        go_wp2
        go_ret
        exact ⟨rfl, rfl⟩
      · by_cases c : 48 ≤ x
        · have d : decide ((x : Int) ≤ 57) = false := by simp; omega
          have e : ((x : Int) == 46) = false := by rw [beq_eq_false_iff_ne]; omega
          have f : ((x : Int) == 45) = false := by rw [beq_eq_false_iff_ne]; omega
          have e' : (x == 46) = false := by rw [beq_eq_false_iff_ne]; omega
          have f' : (x == 45) = false := by rw [beq_eq_false_iff_ne]; omega
          rw [e', f']
          clear e' f' h1 h2
          go_enter Tryz.func58, Tryz.ntmps58
          go_wp2
          go_ret
          exact ⟨rfl, rfl⟩
        · by_cases g : x = 46
          · subst g
            go_enter Tryz.func58, Tryz.ntmps58
            go_wp2
            go_ret
            exact ⟨rfl, rfl⟩
          · by_cases k : x = 45
            · subst k
              go_enter Tryz.func58, Tryz.ntmps58
              go_wp2
              go_ret
              exact ⟨rfl, rfl⟩
            · have e : ((x : Int) == 46) = false := by rw [beq_eq_false_iff_ne]; omega
              have f : ((x : Int) == 45) = false := by rw [beq_eq_false_iff_ne]; omega
              have e' : (x == 46) = false := by rw [beq_eq_false_iff_ne]; exact g
              have f' : (x == 45) = false := by rw [beq_eq_false_iff_ne]; exact k
              rw [e', f']
              clear e' f' h1 h2 g k
              go_enter Tryz.func58, Tryz.ntmps58
              go_wp2
              go_ret
              exact ⟨rfl, rfl⟩

theorem isNm_no (l : List UInt8) (h : ¬ (1 ≤ l.length ∧ l.length ≤ 40)) : isNm l = false := by
  unfold isNm
  by_cases a : 1 ≤ l.length
  · have b : ¬ l.length ≤ 40 := fun b => h ⟨a, b⟩
    simp [b]
  · simp [a]
theorem isNm_in (l : List UInt8) (h1 : 1 ≤ l.length) (h2 : l.length ≤ 40) : isNm l = l.all fun x => nameB x.toNat := by
  unfold isNm
  simp [h1, h2]
set_option maxHeartbeats 800000 in
set_option maxRecDepth 100000 in
theorem isname_any (s : ByteArray) (w : World) (hs : s.size ≤ 9223372036854775807) :
    Calls Tryz.prog 39 #[.string s] w fun e w' => e = .returned (.bool (isNm s.data.toList)) ∧ w = w' := by
  have hl : s.data.toList.length = s.size := by rw [Array.length_toList]; rfl
  obtain ⟨R, HR⟩ : ∃ R : Bool, Hid (isNm s.data.toList = R) := ⟨_, rfl⟩
  rw [HR.out]
  by_cases h1 : 1 ≤ s.size
  · by_cases h2 : s.size ≤ 40
    · have HE := Lib.hid (isNm_in s.data.toList (by omega) (by omega))
      have HL := Lib.hid hl
      clear hl
      go_enter Tryz.func39, Tryz.ntmps39
      go_wp2
      go_loop [14] (fun u => ∃ k : Nat, k ≤ s.size ∧ u = .int .i64 (k : Int) ∧ Hid (((s.data.toList.take k).all fun x => nameB x.toNat) = true)) (fun u => s.size - (intOf u).toNat)
      case atStart => exact ⟨0, Nat.zero_le _, rfl, rfl⟩
      case round =>
        obtain ⟨k, hk, rfl, HK⟩ := hrel
        by_cases hlt : k < s.size
        · obtain ⟨x, hx⟩ : ∃ x, s.data.toList[k]? = some x := ⟨_, List.getElem?_eq_getElem (by rw [HL.out]; exact hlt)⟩
          have hix := fun W => run_index_text W s k x (k : Int) rfl hx
          have hx8 : x.toNat < 256 := x.toNat_lt
          have HT : Hid (s.data.toList.take (k + 1) = s.data.toList.take k ++ [x]) := by
            show _ = _
            rw [List.take_add_one, hx]
            rfl
          have HX := Lib.hid hx
          clear hx
          have C := namebyte_any x.toNat w hx8
          cases hb : nameB x.toNat
          · have HF : Hid ((s.data.toList.all fun x => nameB x.toNat) = false) := by
              show _ = _
              rw [List.all_eq_false]
              exact ⟨x, List.mem_of_getElem? HX.out, by simp [hb]⟩
            rw [hb] at C
            have HC := Lib.hid C
            clear C hb
            generalize x.toNat = xn at *
            go_wp2_with fail
            refine HC.out.mono ?_
            rintro e w' ⟨rfl, rfl⟩
            go_wp2_with fail
            go_ret
            exact ⟨by rw [← HR.out, HE.out, HF.out]; rfl, rfl⟩
          · have HN : Hid (((s.data.toList.take (k + 1)).all fun x => nameB x.toNat) = true) := by
              show _ = _
              rw [HT.out, List.all_append, HK.out]
              simp [hb]
            rw [hb] at C
            have HC := Lib.hid C
            clear C hb
            generalize x.toNat = xn at *
            go_wp2_with fail
            refine HC.out.mono ?_
            rintro e w' ⟨rfl, rfl⟩
            go_wp2_with fail
            go_round
            case rel => exact ⟨k + 1, by omega, by go_num, HN⟩
            case measure => simp [intOf]; omega
        · have hke : k = s.size := by omega
          have HF : Hid ((s.data.toList.all fun x => nameB x.toNat) = true) := by
            have := HK.out
            rw [List.take_of_length_le (by rw [HL.out]; omega)] at this
            exact this
          subst hke
          go_wp2_with fail
          go_ret
          exact ⟨by rw [← HR.out, HE.out, HF.out]; rfl, rfl⟩
    · have HE := Lib.hid (isNm_no s.data.toList (by omega))
      clear hl
      have a : decide ((40 : Int) < (s.size : Int)) = true := by simp; omega
      go_enter Tryz.func39, Tryz.ntmps39
      go_wp2
      go_ret
      exact ⟨by rw [← HR.out, HE.out]; rfl, rfl⟩
  · have HE := Lib.hid (isNm_no s.data.toList (by omega))
    have h0 : s.size = 0 := by omega
    clear hl h1
    go_enter Tryz.func39, Tryz.ntmps39
    go_wp2
    go_ret
    exact ⟨by rw [← HR.out, HE.out]; rfl, rfl⟩
end Go.Proofs.YtdkgcgamiochnaaGreatDoor
namespace Go.Proofs.YtdkgcgamiochnaaGreatDoor
open Go.RowKit

set_option maxRecDepth 100000 in
theorem made_nil (w : World) :
    Calls Tryz.prog 35 #[.pointer none] w fun e w' => e = .returned (.bool false) ∧ w = w' := by
  go_enter Tryz.func35, Tryz.ntmps35
  go_wp2
  go_ret
  exact ⟨rfl, rfl⟩

set_option maxRecDepth 100000 in
theorem ready_nil (w : World) :
    Calls Tryz.prog 38 #[.pointer none] w fun e w' => e = .returned (.int .i64 1) ∧ w = w' := by
  go_enter Tryz.func38, Tryz.ntmps38
  go_wp2_with fail
  refine (made_nil _).mono ?_
  rintro e w' ⟨rfl, rfl⟩
  go_wp2_with fail
  go_ret
  exact ⟨rfl, rfl⟩

set_option maxRecDepth 100000 in
theorem dappend_nil (s : ByteArray) (b : Value) (w : World) :
    Calls Tryz.prog 18 #[.pointer none, .string s, b] w fun e w' => e = .returned (.int .i64 1) ∧ w = w' := by
  go_enter Tryz.func18, Tryz.ntmps18
  go_wp2_with fail
  refine (ready_nil _).mono ?_
  rintro e w' ⟨rfl, rfl⟩
  go_wp2_with fail
  go_ret
  exact ⟨rfl, rfl⟩

set_option maxRecDepth 100000 in
theorem used_nil (w : World) :
    Calls Tryz.prog 59 #[.pointer none] w fun e w' => e = .returned (.int .i64 0) ∧ w = w' := by
  go_enter Tryz.func59, Tryz.ntmps59
  go_wp2_with fail
  refine (made_nil _).mono ?_
  rintro e w' ⟨rfl, rfl⟩
  go_wp2_with fail
  go_ret
  exact ⟨rfl, rfl⟩

set_option maxRecDepth 100000 in
theorem list_nil (w : World) :
    Calls Tryz.prog 17 #[.pointer none] w fun e w' => e = .returned (.slice none 0 0) ∧ w = w' := by
  go_enter Tryz.func17, Tryz.ntmps17
  go_wp2_with fail
  refine (made_nil _).mono ?_
  rintro e w' ⟨rfl, rfl⟩
  go_wp2_with fail
  go_ret
  exact ⟨rfl, rfl⟩

end Go.Proofs.YtdkgcgamiochnaaGreatDoor
namespace Go.Proofs.YtdkgcgamiochnaaGreatDoor
open Go.RowKit

set_option maxRecDepth 100000 in
theorem eql_self (a : Addr) (W : World) :
    (binOp .eql 35 (.pointer (some a)) (.pointer (some a))).run Tryz.prog W = .ok (.bool true) W := by
  have := run_eql_ptr_same (P := Tryz.prog) (w := W) (tp := 35) (te := 62) a (by kernel_rfl) rfl
  exact this
set_option maxRecDepth 100000 in
theorem made_any (D : Nat) (w : World) (h : w.cell? ⟨D, 3, none⟩ = some (.pointer (some ⟨D, 0, none⟩))) :
    Calls Tryz.prog 35 #[.pointer (some ⟨D, 0, none⟩)] w fun e w' => e = .returned (.bool true) ∧ w = w' := by
  have he := fun W => eql_self ⟨D, 0, none⟩ W
  go_enter Tryz.func35, Tryz.ntmps35
  go_wp2_with fail
  go_ret
  exact ⟨rfl, rfl⟩
set_option maxRecDepth 100000 in
theorem ready_up (D : Nat) (w : World) (h : w.cell? ⟨D, 3, none⟩ = some (.pointer (some ⟨D, 0, none⟩))) (hf : w.cell? ⟨D, 0, none⟩ = some (.bool false)) :
    Calls Tryz.prog 38 #[.pointer (some ⟨D, 0, none⟩)] w fun e w' => e = .returned (.int .i64 0) ∧ w = w' := by
  have HC := Lib.hid (made_any D w h)
  clear h
  go_enter Tryz.func38, Tryz.ntmps38
  go_wp2_with fail
  refine HC.out.mono ?_
  rintro e w' ⟨rfl, rfl⟩
  go_wp2_with fail
  go_ret
  exact ⟨rfl, rfl⟩
set_option maxRecDepth 100000 in
theorem ready_down (D : Nat) (w : World) (h : w.cell? ⟨D, 3, none⟩ = some (.pointer (some ⟨D, 0, none⟩))) (hf : w.cell? ⟨D, 0, none⟩ = some (.bool true)) :
    Calls Tryz.prog 38 #[.pointer (some ⟨D, 0, none⟩)] w fun e w' => e = .returned (.int .i64 15) ∧ w = w' := by
  have HC := Lib.hid (made_any D w h)
  clear h
  go_enter Tryz.func38, Tryz.ntmps38
  go_wp2_with fail
  refine HC.out.mono ?_
  rintro e w' ⟨rfl, rfl⟩
  go_wp2_with fail
  go_ret
  exact ⟨rfl, rfl⟩
/-- A power that is bound to nothing takes its step. -/
theorem step_free (D : Nat) (w : World) (h : w.cell? ⟨D, 1, none⟩ = some (.bool false)) :
    Calls Tryz.prog 41 #[.pointer (some ⟨D, 0, none⟩)] w fun e w' => e = .returned (.int .i64 0) ∧ w = w' := by
  go_enter Tryz.func41, Tryz.ntmps41
  go_wp2_with fail
  go_ret
  exact ⟨rfl, rfl⟩
set_option maxRecDepth 100000 in
/-- A power that has steps left takes one. -/
theorem step_left (D : Nat) (n : Nat) (w : World) (hn : (n : Int) + 1 ≤ 9223372036854775807) (h : w.cell? ⟨D, 1, none⟩ = some (.bool true)) (hl : w.cell? ⟨D, 2, none⟩ = some (.int .i64 ((n : Int) + 1)))
    (hf : w.frozen? ⟨D, 2, none⟩ = false) :
    Calls Tryz.prog 41 #[.pointer (some ⟨D, 0, none⟩)] w fun e w' => e = .returned (.int .i64 0) ∧ w' = w.setCell ⟨D, 2, none⟩ (.int .i64 (n : Int)) := by
  have hz : ((n : Int) + 1 == 0) = false := by rw [beq_eq_false_iff_ne]; omega
  have hw : IntKind.i64.wrap ((n : Int) + 1 - 1) = (n : Int) := by rw [Int.add_sub_cancel]; exact IntWalk.i64_in _ (by omega)
  go_enter Tryz.func41, Tryz.ntmps41
  go_wp2_with fail
  go_ret
  exact ⟨rfl, by simp⟩
end Go.Proofs.YtdkgcgamiochnaaGreatDoor
namespace Go.Proofs.YtdkgcgamiochnaaGreatDoor
open Go.RowKit

set_option maxRecDepth 100000 in
/-- A power that has no step left fails. -/
theorem step_none (D : Nat) (w : World) (h : w.cell? ⟨D, 1, none⟩ = some (.bool true)) (hl : w.cell? ⟨D, 2, none⟩ = some (.int .i64 0)) (h0 : w.cell? ⟨D, 0, none⟩ = some (.bool false))
    (f0 : w.frozen? ⟨D, 0, none⟩ = false) (f1 : w.frozen? ⟨D, 1, none⟩ = false) (f2 : w.frozen? ⟨D, 2, none⟩ = false) :
    Calls Tryz.prog 41 #[.pointer (some ⟨D, 0, none⟩)] w fun e w' => e = .returned (.int .i64 15) ∧
      w' = ((w.setCell ⟨D, 0, none⟩ (.bool true)).setCell ⟨D, 1, none⟩ (.bool false)).setCell ⟨D, 2, none⟩ (.int .i64 0) := by
  go_enter Tryz.func41, Tryz.ntmps41
  go_wp2_with fail
  go_ret
  exact ⟨rfl, rfl⟩
end Go.Proofs.YtdkgcgamiochnaaGreatDoor
namespace Go.Proofs.YtdkgcgamiochnaaGreatDoor
open Go.RowKit

set_option maxRecDepth 100000 in
theorem new_refuses (n : Int) (w : World) (hn : n < 0 ∨ 16777216 < n) :
    Calls Tryz.prog 13 #[.int .i64 n] w fun e w' => e = .returned (.tuple #[.pointer none, .int .i64 2]) ∧ w = w' := by
  go_enter Tryz.func13, Tryz.ntmps13
  by_cases h : n < 0
  · go_wp2_with fail
    go_ret2
    exact ⟨rfl, rfl⟩
  · have h2 : 16777216 < n := by omega
    go_wp2_with fail
    go_ret2
    exact ⟨rfl, rfl⟩
set_option maxRecDepth 100000 in
theorem new_any (n : Int) (w : World) (h1 : 0 ≤ n) (h2 : n ≤ 16777216) :
    Calls Tryz.prog 13 #[.int .i64 n] w fun e w' => e = .returned (.tuple #[.pointer (some ⟨w.heap.size + 1, 0, none⟩), .int .i64 0]) ∧
      w' = (w.alloc (.map #[] 0)).alloc (.cells #[.bool false, .bool false, .int .i64 0, .pointer (some ⟨w.heap.size + 1, 0, none⟩), .int .i64 n, .map (some w.heap.size)] 62) := by
  have hm := fun W => run_makeMap (P := Tryz.prog) 58 W
  go_enter Tryz.func13, Tryz.ntmps13
  go_wp2_with fail
  go_ret2
  exact ⟨rfl, rfl⟩
end Go.Proofs.YtdkgcgamiochnaaGreatDoor

/-
  The contracts of placed and GetInt. No statement of the seat is proved here.
-/
import Derived.Test.YtbiglickijmmhaaDoorGetU
namespace Go.Proofs.YtbiglickijmmhaaDoor
open Go.RowKit

theorem getU_lt (l : List UInt8) (p : Int) : (getU l p).1 < 2 ^ 64 := by
  unfold getU
  split
  · simp
  · split
    · split <;> simp
    · split
      · exact valMod_lt _
      · simp
theorem getU_err (l : List UInt8) (p : Int) : (getU l p).2.2 < 20 := by
  unfold getU
  split
  · simp
  · split
    · split <;> simp
    · split <;> simp

theorem placed_any (m : Nat) (w : World) (hm : m < 2 ^ 64) :
    Calls Tryd.prog 37 #[.int .u64 (m : Int)] w fun e w' => e = .returned (.int .i64 (unplc m)) ∧ w = w' := by
  have hq : (m : Int) / 2 ≤ 9223372036854775807 := by omega
  have HM := Lib.hid hm
  clear hm
  by_cases h2 : m % 2 = 1
  · have H : Hid (unplc m = -1 - (m : Int) / 2) := by show _ = _; unfold unplc; rw [if_pos h2]; omega
    have hb : ((m : Int) % 2 == 1) = true := by rw [beq_iff_eq]; omega
    clear h2
    go_enter Tryd.func37, Tryd.ntmps37
    go_wp2
    go_ret
    refine ⟨?_, rfl⟩
    rw [H.out]
    rfl
  · have H : Hid (unplc m = (m : Int) / 2) := by show _ = _; unfold unplc; rw [if_neg h2]; omega
    have hb : ((m : Int) % 2 == 1) = false := by rw [beq_eq_false_iff_ne]; omega
    clear h2
    go_enter Tryd.func37, Tryd.ntmps37
    go_wp2
    go_ret
    refine ⟨?_, rfl⟩
    rw [H.out]
    rfl

/-- What GetInt answers. -/
def getI (l : List UInt8) (p : Int) : Int × Nat × Nat := if (getU l p).2.2 = 0 then (unplc (getU l p).1, (getU l p).2.1, 0) else (0, 0, (getU l p).2.2)
def tupI (r : Int × Nat × Nat) : Value := .tuple #[.int .i64 r.1, .int .i64 (r.2.1 : Int), .int .i64 (r.2.2 : Int)]

set_option maxHeartbeats 800000 in
set_option maxRecDepth 100000 in
theorem getint_any (l : List UInt8) (A : Option Addr) (n c B : Nat) (p : Int) (w : World) (hr : Rd w B A n l) (hn : n ≤ 500000) (hc : n ≤ c) :
    Calls Tryd.prog 19 #[.slice A n c, .int .i64 p] w fun e w' => e = .returned (tupI (getI l p)) ∧ w = w' := by
  have C1 := getuint_any l A n c B p w hr hn hc
  have hlt := getU_lt l p
  have herr := getU_err l p
  unfold tup at C1
  have HI : Hid (getI l p = if (getU l p).2.2 = 0 then (unplc (getU l p).1, (getU l p).2.1, 0) else (0, 0, (getU l p).2.2)) := rfl
  generalize getU l p = r at *
  obtain ⟨v, q, x⟩ := r
  simp only at C1 hlt herr HI
  have HC1 := Lib.hid C1
  have C2 := Lib.hid (placed_any v w hlt)
  clear C1 hr hlt
  by_cases hx : x = 0
  · subst hx
    have HI2 : Hid (getI l p = (unplc v, q, 0)) := HI.out
    clear HI
    go_enter Tryd.func19, Tryd.ntmps19
    go_wp2_with fail
    refine HC1.out.mono ?_
    rintro e w1 ⟨rfl, rfl⟩
    go_wp2_with fail
    refine C2.out.mono ?_
    rintro e w1 ⟨rfl, rfl⟩
    go_wp2_with fail
    go_ret3
    exact ⟨by rw [HI2.out]; rfl, rfl⟩
  · have HI2 : Hid (getI l p = (0, 0, x)) := by show _ = _; rw [HI.out, if_neg hx]
    have hb : ((x : Int) != 0) = true := by rw [bne_iff_ne]; omega
    clear HI
    go_enter Tryd.func19, Tryd.ntmps19
    go_wp2_with fail
    refine HC1.out.mono ?_
    rintro e w1 ⟨rfl, rfl⟩
    go_wp2_with fail
    go_ret3
    exact ⟨by rw [HI2.out]; rfl, rfl⟩
end Go.Proofs.YtbiglickijmmhaaDoor

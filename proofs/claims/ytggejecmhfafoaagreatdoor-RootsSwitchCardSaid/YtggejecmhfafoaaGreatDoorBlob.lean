/-
  The contract of GetBlob. No statement of the seat is proved here.
-/
import Derived.Test.YtggejecmhfafoaaGreatDoorUns
namespace Go.Proofs.YtggejecmhfafoaaGreatDoor
open Go.RowKit

theorem getU_next (l : List UInt8) (p : Int) : (getU l p).2.1 ≤ l.length := by
  unfold getU
  split
  · simp
  · rename_i hp
    split
    · split <;> simp
    · rename_i i hf
      split
      · obtain ⟨hi, _⟩ := List.findIdx?_eq_some_iff_getElem.1 hf
        rw [List.length_take, List.length_drop] at hi
        simp only
        omega
      · simp
/-- What GetBlob answers: the bytes, the place behind them, the error's number. -/
def getB (l : List UInt8) (p most : Int) : List UInt8 × Nat × Nat :=
  if (getU l p).2.2 ≠ 0 then ([], 0, (getU l p).2.2)
  else if most < 0 ∨ most < ((getU l p).1 : Int) then ([], 0, 3)
  else if l.length - (getU l p).2.1 < (getU l p).1 then ([], 0, 11)
  else ((l.drop (getU l p).2.1).take (getU l p).1, (getU l p).2.1 + (getU l p).1, 0)

set_option maxHeartbeats 800000 in
set_option maxRecDepth 100000 in
theorem getblob_err (l : List UInt8) (A : Option Addr) (n c B : Nat) (p most : Int) (w : World) (hr : Rd w B A n l) (hn : n ≤ 500000) (hc : n ≤ c) (hm : most ≤ 9223372036854775807) (he : (getB l p most).2.2 ≠ 0) :
    Calls Tryz.prog 76 #[.slice A n c, .int .i64 p, .int .i64 most] w fun e w' => e = .returned (.tuple #[.slice none 0 0, .int .i64 0, .int .i64 ((getB l p most).2.2 : Int)]) ∧ w = w' := by
  have C1 := getuint_any l A n c B p w hr hn hc
  have hlt := getU_lt l p
  have hnx := getU_next l p
  have herr := getU_err l p
  rw [hr.len] at hnx
  unfold tup at C1
  have HB : Hid (getB l p most = if (getU l p).2.2 ≠ 0 then ([], 0, (getU l p).2.2) else if most < 0 ∨ most < ((getU l p).1 : Int) then ([], 0, 3) else if n - (getU l p).2.1 < (getU l p).1 then ([], 0, 11) else ((l.drop (getU l p).2.1).take (getU l p).1, (getU l p).2.1 + (getU l p).1, 0)) := by
    show _ = _
    unfold getB
    rw [hr.len]
  generalize getU l p = r at *
  obtain ⟨v, q, x⟩ := r
  simp only at C1 hlt hnx HB herr
  have HC1 := Lib.hid C1
  have HLT := Lib.hid hlt
  have HE := Lib.hid he
  clear C1 hlt he hr
  by_cases hx : x = 0
  · subst hx
    by_cases hmo : most < 0
    · have E : Hid (getB l p most = ([], 0, 3)) := by show _ = _; rw [HB.out, if_neg (by simp), if_pos (.inl hmo)]
      clear HB
      go_enter Tryz.func76, Tryz.ntmps76
      go_wp2_with fail
      refine HC1.out.mono ?_
      rintro e w1 ⟨rfl, rfl⟩
      go_wp2_with fail
      go_ret3
      exact ⟨by rw [E.out]; rfl, rfl⟩
    · obtain ⟨mo, rfl⟩ : ∃ mo : Nat, most = (mo : Int) := ⟨most.toNat, by omega⟩
      by_cases hmv : mo < v
      · have E : Hid (getB l p mo = ([], 0, 3)) := by show _ = _; rw [HB.out, if_neg (by simp), if_pos (.inr (by omega))]
        have hd : decide (mo < v) = true := by simpa using hmv
        clear HB
        go_enter Tryz.func76, Tryz.ntmps76
        go_wp2_with fail
        refine HC1.out.mono ?_
        rintro e w1 ⟨rfl, rfl⟩
        go_wp2_with fail
        go_ret3
        exact ⟨by rw [E.out]; rfl, rfl⟩
      · have hv : n - q < v := by
          rcases Nat.lt_or_ge (n - q) v with h | h
          · exact h
          · exfalso
            apply HE.out
            rw [HB.out, if_neg (by simp), if_neg (by omega), if_neg (by omega)]
        have E : Hid (getB l p mo = ([], 0, 11)) := by show _ = _; rw [HB.out, if_neg (by simp), if_neg (by omega), if_pos hv]
        have hv2 : (n : Int) - (q : Int) < (v : Int) := by omega
        have hd : decide (mo < v) = false := by simpa using hmv
        have hd2 : decide ((n : Int) - (q : Int) < (v : Int)) = true := by simpa using hv2
        clear HB
        go_enter Tryz.func76, Tryz.ntmps76
        go_wp2_with fail
        refine HC1.out.mono ?_
        rintro e w1 ⟨rfl, rfl⟩
        go_wp2_with fail
        go_ret3
        exact ⟨by rw [E.out]; rfl, rfl⟩
  · have E : Hid (getB l p most = ([], 0, x)) := by show _ = _; rw [HB.out, if_pos hx]
    have hb : ((x : Int) != 0) = true := by rw [bne_iff_ne]; omega
    clear HB
    go_enter Tryz.func76, Tryz.ntmps76
    go_wp2_with fail
    refine HC1.out.mono ?_
    rintro e w1 ⟨rfl, rfl⟩
    go_wp2_with fail
    go_ret3
    exact ⟨by rw [E.out]; rfl, rfl⟩

set_option maxHeartbeats 800000 in
set_option maxRecDepth 100000 in
theorem getblob_ok (l : List UInt8) (A : Option Addr) (n c : Nat) (p most : Int) (w : World) (hr : Rd w w.heap.size A n l) (hn : n ≤ 500000) (hc : n ≤ c) (hm : most ≤ 9223372036854775807) (he : (getB l p most).2.2 = 0) :
    Calls Tryz.prog 76 #[.slice A n c, .int .i64 p, .int .i64 most] w fun e w' => ∃ v, e = .returned (.tuple #[v, .int .i64 ((getB l p most).2.1 : Int), .int .i64 0]) ∧ Put w.heap.size w (getB l p most).1 (.returned v) w' := by
  have C1 := getuint_any l A n c _ p w hr hn hc
  have hnx := getU_next l p
  rw [hr.len] at hnx
  unfold tup at C1
  have HB : getB l p most = if (getU l p).2.2 ≠ 0 then ([], 0, (getU l p).2.2) else if most < 0 ∨ most < ((getU l p).1 : Int) then ([], 0, 3) else if n - (getU l p).2.1 < (getU l p).1 then ([], 0, 11) else ((l.drop (getU l p).2.1).take (getU l p).1, (getU l p).2.1 + (getU l p).1, 0) := by
    unfold getB
    rw [hr.len]
  generalize getU l p = r at *
  obtain ⟨v, q, x⟩ := r
  simp only at C1 hnx HB
  have hx : x = 0 := by
    rcases Nat.eq_zero_or_pos x with h | h
    · exact h
    · rw [HB, if_pos (by omega)] at he; exact he
  subst hx
  rw [if_neg (by simp)] at HB
  have hmv : ¬ (most < 0 ∨ most < (v : Int)) := by
    intro h
    rw [HB, if_pos h] at he
    simp at he
  rw [if_neg hmv] at HB
  have hvn : ¬ n - q < v := by
    intro h
    rw [HB, if_pos h] at he
    simp at he
  rw [if_neg hvn] at HB
  obtain ⟨mo, rfl⟩ : ∃ mo : Nat, most = (mo : Int) := ⟨most.toNat, by omega⟩
  obtain ⟨A2, c2, s2, d2, _⟩ := cut_rule ((q : Int) + (v : Int)) (p := q) (hi := q + v) (by omega) hr hc (by omega) (by omega)
  rw [show q + v - q = v by omega] at d2 s2
  have C2 := Lib.hid (fresh_any A2 v c2 _ w d2 (by omega))
  have HC1 := Lib.hid C1
  have E := Lib.hid HB
  have hd : decide (mo < v) = false := by simp; omega
  have hv2 : ¬ (n : Int) - (q : Int) < (v : Int) := by omega
  have hd2 : decide ((n : Int) - (q : Int) < (v : Int)) = false := by simpa using hv2
  have hv5 : v ≤ 500000 := by omega
  have hq5 : q ≤ 500000 := by omega
  clear C1 he hr HB d2 hmv hvn
  go_enter Tryz.func76, Tryz.ntmps76
  go_wp2_with fail
  refine HC1.out.mono ?_
  rintro e w1 ⟨rfl, rfl⟩
  go_wp2_with fail
  refine C2.out.mono ?_
  rintro e w1 ⟨u, rfl, ho, hb1⟩
  go_wp2_with fail
  go_ret3
  exact ⟨_, by rw [E.out]; rfl, _, rfl, by rw [E.out]; exact ho, hb1⟩
end Go.Proofs.YtggejecmhfafoaaGreatDoor

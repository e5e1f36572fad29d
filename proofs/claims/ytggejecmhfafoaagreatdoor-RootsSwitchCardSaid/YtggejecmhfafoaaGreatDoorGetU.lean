/-
  The contract of GetUint. No statement of the seat is proved here.
-/
import Derived.Test.YtggejecmhfafoaaGreatDoorGet
namespace Go.Proofs.YtggejecmhfafoaaGreatDoor
open Go.RowKit

def low (x : UInt8) : Bool := decide (x.toNat < 128)
/-- What GetUint answers: the number, the place behind it, the error's number. -/
def getU (l : List UInt8) (p : Int) : Nat × Nat × Nat :=
  if p < 0 ∨ (l.length : Int) < p then (0, 0, 2) else
  match ((l.drop p.toNat).take 10).findIdx? low with
  | none => if ((l.drop p.toNat).take 10).length < 10 then (0, 0, 11) else (0, 0, 10)
  | some i => if shB (i + 1) (((l.drop p.toNat).take 10).getD i 0).toNat then (valMod (((l.drop p.toNat).take 10).take (i + 1)), p.toNat + i + 1, 0) else (0, 0, 10)
def tup (r : Nat × Nat × Nat) : Value := .tuple #[.int .u64 (r.1 : Int), .int .i64 (r.2.1 : Int), .int .i64 (r.2.2 : Int)]

set_option maxHeartbeats 800000 in
set_option maxRecDepth 100000 in
theorem getuint_off (l : List UInt8) (A : Option Addr) (n c B : Nat) (p : Int) (w : World) (hr : Rd w B A n l) (hn : n ≤ 500000) (hp : p < 0 ∨ (n : Int) < p) :
    Calls Tryz.prog 75 #[.slice A n c, .int .i64 p] w fun e w' => e = .returned (tup (getU l p)) ∧ w = w' := by
  have E : Hid (getU l p = (0, 0, 2)) := by show _ = _; unfold getU; rw [hr.len, if_pos hp]
  clear hr
  rcases hp with hp | hp
  · go_enter Tryz.func75, Tryz.ntmps75
    go_wp2
    go_ret3
    exact ⟨by rw [E.out]; rfl, rfl⟩
  · go_enter Tryz.func75, Tryz.ntmps75
    go_wp2
    go_ret3
    exact ⟨by rw [E.out]; rfl, rfl⟩


set_option maxHeartbeats 800000 in
set_option maxRecDepth 100000 in
theorem getuint_in (l : List UInt8) (A : Option Addr) (n c B : Nat) (p : Nat) (w : World) (hr : Rd w B A n l) (hn : n ≤ 500000) (hc : n ≤ c) (hp : p ≤ n) :
    Calls Tryz.prog 75 #[.slice A n c, .int .i64 (p : Int)] w fun e w' => e = .returned (tup (getU l p)) ∧ w = w' := by
  obtain ⟨z, hmin⟩ : ∃ z : Int, (if (p : Int) + 10 < (n : Int) then (p : Int) + 10 else (n : Int)) = z := ⟨_, rfl⟩
  obtain ⟨h, hz, hh1, hh2, hh3⟩ : ∃ h : Nat, z = (h : Int) ∧ p ≤ h ∧ h ≤ n ∧ (h = n ∨ h = p + 10) := by
    by_cases h10 : (p : Int) + 10 < (n : Int)
    · rw [if_pos h10] at hmin
      exact ⟨p + 10, by omega, by omega, by omega, .inr rfl⟩
    · rw [if_neg h10] at hmin
      exact ⟨n, by omega, by omega, by omega, .inl rfl⟩
  obtain ⟨A', c', hsl, hrd, hc'⟩ := cut_rule z hz hr hc hh1 hh2
  have hlen := hr.len
  have hm10 : h - p ≤ 10 := by
    rcases hh3 with e | e
    · by_cases h10 : (p : Int) + 10 < (n : Int)
      · rw [if_pos h10] at hmin; omega
      · omega
    · omega
  have E : Hid ((l.drop p).take (h - p) = (l.drop p).take 10) := by
    show _ = _
    rcases hh3 with e | e
    · rw [List.take_of_length_le (by rw [List.length_drop]; omega), List.take_of_length_le (by rw [List.length_drop]; omega)]
    · rw [e]; congr 1; omega
  rw [E.out] at hrd
  have HR := Lib.hid hrd
  have HG : Hid (getU l p = match ((l.drop p).take 10).findIdx? low with
      | none => if ((l.drop p).take 10).length < 10 then (0, 0, 11) else (0, 0, 10)
      | some i => if shB (i + 1) (((l.drop p).take 10).getD i 0).toNat then (valMod (((l.drop p).take 10).take (i + 1)), p + i + 1, 0) else (0, 0, 10)) := by
    show _ = _
    unfold getU
    rw [if_neg (by omega)]
    rfl
  clear hz hh1 hh2 hh3 hrd E hlen hr
  generalize h - p = m at *
  generalize (l.drop p).take 10 = r at *
  have C1 := index_any r A' m c' B w HR.out (by omega)
  have hrl := HR.out.len
  rcases hf : r.findIdx? low with _ | i
  · have hidx : idx r = -1 := by unfold idx; rw [show r.findIdx? (fun x => decide (x.toNat < 128)) = none from hf]
    rw [hidx] at C1
    have HC1 := Lib.hid C1
    rw [hf] at HG
    clear C1 hidx hf
    by_cases hm : m < 10
    · have HG2 : Hid (getU l p = (0, 0, 11)) := by show _ = _; rw [HG.out]; simp [hrl, hm]
      clear HG hrl
      go_enter Tryz.func75, Tryz.ntmps75
      go_wp2_with fail
      refine HC1.out.mono ?_
      rintro e w1 ⟨rfl, rfl⟩
      go_wp2_with fail
      go_ret3
      exact ⟨by rw [HG2.out]; rfl, rfl⟩
    · have HG2 : Hid (getU l p = (0, 0, 10)) := by show _ = _; rw [HG.out]; simp [hrl, hm]
      have hmd : decide (m < 10) = false := by simpa using hm
      clear HG hrl
      go_enter Tryz.func75, Tryz.ntmps75
      go_wp2_with fail
      refine HC1.out.mono ?_
      rintro e w1 ⟨rfl, rfl⟩
      go_wp2_with fail
      go_ret3
      exact ⟨by rw [HG2.out]; rfl, rfl⟩
  · have hidx : idx r = (i : Int) := by unfold idx; rw [show r.findIdx? (fun x => decide (x.toNat < 128)) = some i from hf]
    obtain ⟨him, _⟩ := List.findIdx?_eq_some_iff_getElem.1 hf
    rw [hidx] at C1
    have HC1 := Lib.hid C1
    rw [hf] at HG
    obtain ⟨A2, c2, hsl2, hrd2, hc2⟩ := pre_rule ((i : Int) + 1) (hi := i + 1) (by omega) HR.out hc' (by omega)
    have C2 := shortest_any (r.take (i + 1)) A2 (i + 1) c2 B ((r.getD i 0).toNat) w hrd2 (by omega) (by omega) (fun hq => by simp [List.getElem?_eq_getElem him])
    have C3 := Lib.hid (value_any (r.take (i + 1)) A2 (i + 1) c2 B w hrd2 (by omega))
    rw [hrl] at him
    clear C1 hidx hf hrl hrd2
    cases hb : shB (i + 1) (r.getD i 0).toNat
    · have HG2 : Hid (getU l p = (0, 0, 10)) := by show _ = _; rw [HG.out]; simp only [hb]; simp
      rw [hb] at C2
      have HC2 := Lib.hid C2
      clear HG C2 hb C3
      go_enter Tryz.func75, Tryz.ntmps75
      go_wp2_with fail
      refine HC1.out.mono ?_
      rintro e w1 ⟨rfl, rfl⟩
      go_wp2_with fail
      refine HC2.out.mono ?_
      rintro e w1 ⟨rfl, rfl⟩
      go_wp2_with fail
      go_ret3
      exact ⟨by rw [HG2.out]; rfl, rfl⟩
    · have HG2 : Hid (getU l p = (valMod (r.take (i + 1)), p + i + 1, 0)) := by show _ = _; rw [HG.out]; simp only [hb]; simp
      rw [hb] at C2
      have HC2 := Lib.hid C2
      clear HG C2 hb
      generalize valMod (r.take (i + 1)) = val at *
      go_enter Tryz.func75, Tryz.ntmps75
      go_wp2_with fail
      refine HC1.out.mono ?_
      rintro e w1 ⟨rfl, rfl⟩
      go_wp2_with fail
      refine HC2.out.mono ?_
      rintro e w1 ⟨rfl, rfl⟩
      go_wp2_with fail
      refine C3.out.mono ?_
      rintro e w1 ⟨rfl, rfl⟩
      go_wp2_with fail
      go_ret3
      exact ⟨by rw [HG2.out]; rfl, rfl⟩

theorem getuint_any (l : List UInt8) (A : Option Addr) (n c B : Nat) (p : Int) (w : World) (hr : Rd w B A n l) (hn : n ≤ 500000) (hc : n ≤ c) :
    Calls Tryz.prog 75 #[.slice A n c, .int .i64 p] w fun e w' => e = .returned (tup (getU l p)) ∧ w = w' := by
  by_cases hp : p < 0 ∨ (n : Int) < p
  · exact getuint_off l A n c B p w hr hn hp
  · obtain ⟨q, rfl⟩ : ∃ q : Nat, p = (q : Int) := ⟨p.toNat, by omega⟩
    exact getuint_in l A n c B q w hr hn hc (by omega)
theorem getU_lt (l : List UInt8) (p : Int) : (getU l p).1 < 2 ^ 64 := by
  unfold getU
  split
  · simp
  · split
    · split <;> simp
    · split
      · exact valMod_lt _
      · simp
theorem getU_err (l : List UInt8) (p : Int) : (getU l p).2.2 < 20 := by
  unfold getU
  split
  · simp
  · split
    · split <;> simp
    · split <;> simp
end Go.Proofs.YtggejecmhfafoaaGreatDoor

/-
  Bags: Right of any slots, a bag in memory of its own, one slot of it written, less. No statement of the seat is proved here.
-/
import Derived.Test.YtjdhbgdpmojobaaDoorBgA
namespace Go.Proofs.YtjdhbgdpmojobaaDoor
open Go.RowKit Go.Deep

section
variable {w w' : World} {A : Option Addr} {n c lo : Nat} {l : List (Nat × Int)}
set_option maxRecDepth 100000 in
set_option maxHeartbeats 1600000 in
theorem index_big (ht : ItT w) (hx : RdS w A n l) (hb : By l) (c : Nat) (hn : n ≤ 9223372036854775807) : Calls Tryd.prog 104 #[.slice A n c, .func (.func 93) #[] #[]] w fun e w' => ∃ z : Int, e = .returned (.int .i64 z) ∧ decide (0 ≤ z) = l.any wrg ∧ Fr No w w' := by
  have HX := Lib.hid (fun W (hW : Fr No w W) => hx.no hW)
  have HT := Lib.hid (fun W (hW : Fr No w W) => ht.no hW)
  have HLX := Lib.hid hx.1
  have HBY := Lib.hid hb
  clear hx ht hb
  go_enter Tryd.func104, Tryd.ntmps104
  go_wp2_with fail
  go_loopw [8] (fun v8 wr => ∃ k : Nat, k ≤ n ∧ v8 = .int .i64 (k : Int) ∧ (∀ j (h : j < l.length), j < k → wrg l[j] = false) ∧ Fr No w wr) (fun v8 _ => n - (intOf v8).toNat)
  case atStart => exact ⟨0, by omega, rfl, (fun j _ h => absurd h (by omega)), Fr.refl _ _⟩
  case round =>
    obtain ⟨k, hk, rfl, ha, hf⟩ := hrel
    have HF := Lib.hid hf
    have HA := Lib.hid ha
    clear hf ha
    by_cases hlt : k < n
    · have hkl : k < l.length := by rw [HLX.out]; exact hlt
      obtain ⟨b, o, rfl, _, hc⟩ := (HX.out wr HF.out).2 (by omega)
      obtain ⟨x0, x1⟩ := hc k hkl
      have HW := Lib.hid (fun W (hW : Fr No w W) => wrong_any (HT.out W hW) (HBY.out.at k hkl) l[k].2)
      have HAK := HA.out
      have hwk : IntKind.i64.wrap ((k : Int) + 1) = ((k + 1 : Nat) : Int) := by
        rw [show ((k : Int) + 1) = ((k + 1 : Nat) : Int) by omega]
        exact IntWalk.i64_in _ (by omega)
      obtain ⟨q, HQ⟩ : ∃ q, Hid (wrg l[k] = q) := ⟨_, Lib.hid rfl⟩
      have HW2 : Hid (∀ W, Fr No w W → Calls Tryd.prog 93 #[.agg #[.int .u8 (l[k].1 : Int), .int .i64 l[k].2]] W fun e w' => e = .returned (.bool q) ∧ Fr No W w') := fun W hW => (HW.out W hW).mono (fun _ _ ⟨h1, h2⟩ => ⟨by rw [h1, ← HQ.out], h2⟩)
      clear hc HW
      have HAQ : Hid (q = false → ∀ j (h : j < l.length), j < k + 1 → wrg l[j] = false) := fun hq j h hj => by
        by_cases e : j = k
        · subst e; rw [HQ.out]; exact hq
        · exact HAK j h (by omega)
      have HAT : Hid (q = true → l.any wrg = true) := fun hq => by
        rw [List.any_eq_true]
        exact ⟨l[k], List.getElem_mem hkl, by rw [HQ.out]; exact hq⟩
      clear HAK HA HQ
      generalize (l[k].1 : Int) = x at *
      generalize l[k].2 = y at *
      cases q
      · go_wp2_with (refine (HW2.out _ HF.out).mono ?_; rintro e w5 ⟨rfl, hf⟩; have HF5 := Lib.hid hf; clear hf)
        go_roundw
        case rel => exact ⟨k + 1, by omega, by go_num, HAQ.out (by first | rfl | trivial), HF.out.no_trans HF5.out⟩
        case measure => simp [intOf]; omega
      · go_wp2_with (refine (HW2.out _ HF.out).mono ?_; rintro e w5 ⟨rfl, hf⟩; have HF5 := Lib.hid hf; clear hf)
        go_ret
        exact ⟨_, rfl, by rw [HAT.out (by first | rfl | trivial)]; exact decide_eq_true (by omega), HF.out.no_trans HF5.out⟩
    · have hkn : k = n := by omega
      subst hkn
      go_wp2_with fail
      go_ret
      refine ⟨_, rfl, ?_, HF.out⟩
      have : l.any wrg = false := by
        rw [List.any_eq_false]
        intro s hs
        obtain ⟨j, hj, rfl⟩ := List.getElem_of_mem hs
        have := HA.out j hj (by have := HLX.out; omega)
        rw [this]
        exact Bool.false_ne_true
      rw [this]
      rfl
theorem rgt_any (l : List (Nat × Int)) : rgt l = !(l.any wrg) := by
  unfold rgt
  rw [List.not_any_eq_all_not]
set_option maxRecDepth 100000 in
set_option maxHeartbeats 1600000 in
/-- Right, of any slots. -/
theorem right_big (ht : ItT w) (hx : RdS w A n l) (hb : By l) (c : Nat) (hn : n ≤ 9223372036854775807) (m : Int) : Calls Tryd.prog 73 #[.slice A n c, .int .i64 m] w fun e w' => e = .returned (.bool (decide ((n : Int) = m) && rgt l)) ∧ Fr No w w' := by
  have HI := Lib.hid (index_big ht hx hb c hn)
  have HR := Lib.hid (rgt_any l)
  clear ht hx hb
  by_cases hm : (n : Int) = m
  · subst hm
    have e1 : ((n : Int) == (n : Int)) = true := by simp
    go_enter Tryd.func73, Tryd.ntmps73
    go_wp2_with (first
      | (go_at_call 104; refine HI.out.mono ?_; rintro e w1 ⟨z, rfl, hz, hf⟩; have HZ := Lib.hid hz; have HF := Lib.hid hf; clear hz hf)
      | go_in)
    go_ret
    refine ⟨?_, HF.out⟩
    rw [HR.out, ← HZ.out]
    simp
  · have e1 : ((n : Int) == m) = false := by rw [beq_eq_false_iff_ne]; exact hm
    go_enter Tryd.func73, Tryd.ntmps73
    go_wp2_with fail
    go_ret
    exact ⟨by rw [decide_eq_false hm]; rfl, Fr.refl _ _⟩
theorem right_any (ht : ItT w) (hx : RdS w A n l) (hb : By l) (c : Nat) (hn : n ≤ 100000) (m : Int) : Calls Tryd.prog 73 #[.slice A n c, .int .i64 m] w fun e w' => e = .returned (.bool (decide ((n : Int) = m) && rgt l)) ∧ Fr No w w' := right_big ht hx hb c (by omega) m
end
end Go.Proofs.YtjdhbgdpmojobaaDoor

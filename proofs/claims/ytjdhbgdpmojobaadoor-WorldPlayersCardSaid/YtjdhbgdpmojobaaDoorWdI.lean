/-
  Whether a world is right. No statement of the seat is proved here.
-/
import Derived.Test.YtjdhbgdpmojobaaDoorWdH
namespace Go.Proofs.YtjdhbgdpmojobaaDoor
open Go.RowKit Go.Deep

/-- What IndexFunc tells. -/
def IdxP {α : Type} (p : α → Bool) (l : List α) (z : Int) : Prop := (z = -1 ∧ ∀ x ∈ l, p x = false) ∨ ∃ k, ∃ h : k < l.length, z = (k : Int) ∧ p l[k] = true ∧ ∀ j (hj : j < l.length), j < k → p l[j] = false
theorem IdxP.any {α : Type} {p : α → Bool} {l : List α} {z : Int} (h : IdxP p l z) : decide (0 ≤ z) = l.any p := by
  rcases h with ⟨rfl, h⟩ | ⟨k, hk, rfl, hp, _⟩
  · rw [List.any_eq_false.2 (fun x hx => by rw [h x hx]; exact Bool.false_ne_true)]
    rfl
  · rw [List.any_eq_true.2 ⟨l[k], List.getElem_mem hk, hp⟩]
    exact decide_eq_true (by omega)
section
variable {w w' : World} {A : Option Addr} {n c lo : Nat}
set_option maxRecDepth 100000 in
set_option maxHeartbeats 1600000 in
theorem idx_ck {l : List Ch} (p : Ch → Bool) (hx : RdCs w A n l) (c : Nat) (hn : n ≤ 9223372036854775807) (S : Nat)
    (hp : ∀ j (h : j < l.length) W, Fr No w W → Calls Tryd.prog 51 #[.agg #[.int .i64 l[j].x, .int .i64 l[j].y, .slice l[j].A1 l[j].n1 l[j].c1, .slice l[j].A2 l[j].n2 l[j].c2, .slice l[j].A3 l[j].n3 l[j].c3], .pointer (some ⟨S, 0, none⟩)] W fun e w' => e = .returned (.bool (p l[j])) ∧ Fr No W w') :
    Calls Tryd.prog 85 #[.slice A n c, .func (.func 51) #[] #[.pointer (some ⟨S, 0, none⟩)]] w fun e w' => ∃ z : Int, e = .returned (.int .i64 z) ∧ IdxP p l z ∧ Fr No w w' := by
  have HL := Lib.hid hx.2.1
  have HX := Lib.hid (fun W (hW : Fr No w W) => hx.no hW)
  have HP := Lib.hid hp
  clear hx hp
  go_enter Tryd.func85, Tryd.ntmps85
  go_wp2_with fail
  go_loopw [8] (fun v8 wr => ∃ k : Nat, k ≤ n ∧ v8 = .int .i64 (k : Int) ∧ (∀ j (h : j < l.length), j < k → p l[j] = false) ∧ Fr No w wr) (fun v8 _ => n - (intOf v8).toNat)
  case atStart => exact ⟨0, by omega, rfl, (fun j _ h => absurd h (by omega)), Fr.refl _ _⟩
  case round =>
    obtain ⟨k, hk, rfl, ha, hf⟩ := hrel
    have HF := Lib.hid hf
    have HA := Lib.hid ha
    clear hf ha
    by_cases hlt : k < n
    · have hkl : k < l.length := by rw [HL.out]; exact hlt
      obtain ⟨b, o, rfl, _, x0, x1, x2, x3, x4⟩ := (HX.out wr HF.out).at k hkl
      have HW := Lib.hid (HP.out k hkl)
      have HAK := HA.out
      have hwk : IntKind.i64.wrap ((k : Int) + 1) = ((k + 1 : Nat) : Int) := by
        rw [show ((k : Int) + 1) = ((k + 1 : Nat) : Int) by omega]
        exact IntWalk.i64_in _ (by omega)
      obtain ⟨q, HQ⟩ : ∃ q, Hid (p l[k] = q) := ⟨_, Lib.hid rfl⟩
      have HW2 : Hid (∀ W, Fr No w W → Calls Tryd.prog 51 #[.agg #[.int .i64 l[k].x, .int .i64 l[k].y, .slice l[k].A1 l[k].n1 l[k].c1, .slice l[k].A2 l[k].n2 l[k].c2, .slice l[k].A3 l[k].n3 l[k].c3], .pointer (some ⟨S, 0, none⟩)] W fun e w' => e = .returned (.bool q) ∧ Fr No W w') := Lib.hid (fun W hW => (HW.out W hW).mono (fun _ _ ⟨h1, h2⟩ => ⟨by rw [h1, ← HQ.out], h2⟩))
      clear HW
      have HAQ : Hid (q = false → ∀ j (h : j < l.length), j < k + 1 → p l[j] = false) := Lib.hid (fun hq j h hj => by
        by_cases e : j = k
        · subst e; rw [HQ.out]; exact hq
        · exact HAK j h (by omega))
      have HAT : Hid (q = true → IdxP p l (k : Int)) := Lib.hid (fun hq => .inr ⟨k, hkl, rfl, by rw [HQ.out]; exact hq, HAK⟩)
      clear HAK HA HQ
      generalize l[k].x = ax at *
      generalize l[k].y = ay at *
      generalize l[k].A1 = aA1 at *
      generalize l[k].n1 = an1 at *
      generalize l[k].c1 = ac1 at *
      generalize l[k].A2 = aA2 at *
      generalize l[k].n2 = an2 at *
      generalize l[k].c2 = ac2 at *
      generalize l[k].A3 = aA3 at *
      generalize l[k].n3 = an3 at *
      generalize l[k].c3 = ac3 at *
      cases q
      · go_wp2_with (refine (HW2.out _ HF.out).mono ?_; rintro e w5 ⟨rfl, hf⟩; have HF5 := Lib.hid hf; clear hf)
        go_roundw
        case rel => exact ⟨k + 1, by omega, by go_num, HAQ.out (by first | rfl | trivial), HF.out.no_trans HF5.out⟩
        case measure => simp [intOf]; omega
      · go_wp2_with (refine (HW2.out _ HF.out).mono ?_; rintro e w5 ⟨rfl, hf⟩; have HF5 := Lib.hid hf; clear hf)
        go_ret
        exact ⟨_, rfl, HAT.out (by first | rfl | trivial), HF.out.no_trans HF5.out⟩
    · have hkn : k = n := by omega
      subst hkn
      go_wp2_with fail
      go_ret
      refine ⟨_, rfl, .inl ⟨rfl, fun x hx => ?_⟩, HF.out⟩
      obtain ⟨j, hj, rfl⟩ := List.getElem_of_mem hx
      exact HA.out j hj (by have := HL.out; omega)
set_option maxRecDepth 100000 in
theorem has_ck {l : List Ch} (p : Ch → Bool) (hx : RdCs w A n l) (c : Nat) (hn : n ≤ 9223372036854775807) (S : Nat)
    (hp : ∀ j (h : j < l.length) W, Fr No w W → Calls Tryd.prog 51 #[.agg #[.int .i64 l[j].x, .int .i64 l[j].y, .slice l[j].A1 l[j].n1 l[j].c1, .slice l[j].A2 l[j].n2 l[j].c2, .slice l[j].A3 l[j].n3 l[j].c3], .pointer (some ⟨S, 0, none⟩)] W fun e w' => e = .returned (.bool (p l[j])) ∧ Fr No W w') :
    Calls Tryd.prog 52 #[.slice A n c, .func (.func 51) #[] #[.pointer (some ⟨S, 0, none⟩)]] w fun e w' => e = .returned (.bool (l.any p)) ∧ Fr No w w' := by
  have HI := Lib.hid (idx_ck p hx c hn S hp)
  clear hx hp
  go_enter Tryd.func52, Tryd.ntmps52
  go_wp2_with (refine HI.out.mono ?_; rintro e w1 ⟨z, rfl, hz, hf⟩; have HZ := Lib.hid hz.any; have HF := Lib.hid hf; clear hz hf)
  go_ret
  exact ⟨by rw [← HZ.out]; rfl, HF.out⟩
set_option maxRecDepth 100000 in
set_option maxHeartbeats 1600000 in
theorem idx_py {l : List Pl} (p : Pl → Bool) (hx : RdPs w A n l) (c : Nat) (hn : n ≤ 9223372036854775807) (S : Nat)
    (hp : ∀ j (h : j < l.length) W, Fr No w W → Calls Tryd.prog 54 #[.agg #[.int .i64 l[j].id, .int .i64 l[j].x, .int .i64 l[j].y, .slice l[j].A1 l[j].n1 l[j].c1, .int .i64 l[j].wi, .slice l[j].A2 l[j].n2 l[j].c2, .bool l[j].ag], .pointer (some ⟨S, 0, none⟩)] W fun e w' => e = .returned (.bool (p l[j])) ∧ Fr No W w') :
    Calls Tryd.prog 47 #[.slice A n c, .func (.func 54) #[] #[.pointer (some ⟨S, 0, none⟩)]] w fun e w' => ∃ z : Int, e = .returned (.int .i64 z) ∧ IdxP p l z ∧ Fr No w w' := by
  have HL := Lib.hid hx.2.1
  have HX := Lib.hid (fun W (hW : Fr No w W) => hx.no hW)
  have HP := Lib.hid hp
  clear hx hp
  go_enter Tryd.func47, Tryd.ntmps47
  go_wp2_with fail
  go_loopw [8] (fun v8 wr => ∃ k : Nat, k ≤ n ∧ v8 = .int .i64 (k : Int) ∧ (∀ j (h : j < l.length), j < k → p l[j] = false) ∧ Fr No w wr) (fun v8 _ => n - (intOf v8).toNat)
  case atStart => exact ⟨0, by omega, rfl, (fun j _ h => absurd h (by omega)), Fr.refl _ _⟩
  case round =>
    obtain ⟨k, hk, rfl, ha, hf⟩ := hrel
    have HF := Lib.hid hf
    have HA := Lib.hid ha
    clear hf ha
    by_cases hlt : k < n
    · have hkl : k < l.length := by rw [HL.out]; exact hlt
      obtain ⟨b, o, rfl, _, x0, x1, x2, x3, x4, x5, x6⟩ := (HX.out wr HF.out).at k hkl
      have HW := Lib.hid (HP.out k hkl)
      have HAK := HA.out
      have hwk : IntKind.i64.wrap ((k : Int) + 1) = ((k + 1 : Nat) : Int) := by
        rw [show ((k : Int) + 1) = ((k + 1 : Nat) : Int) by omega]
        exact IntWalk.i64_in _ (by omega)
      obtain ⟨q, HQ⟩ : ∃ q, Hid (p l[k] = q) := ⟨_, Lib.hid rfl⟩
      have HW2 : Hid (∀ W, Fr No w W → Calls Tryd.prog 54 #[.agg #[.int .i64 l[k].id, .int .i64 l[k].x, .int .i64 l[k].y, .slice l[k].A1 l[k].n1 l[k].c1, .int .i64 l[k].wi, .slice l[k].A2 l[k].n2 l[k].c2, .bool l[k].ag], .pointer (some ⟨S, 0, none⟩)] W fun e w' => e = .returned (.bool q) ∧ Fr No W w') := Lib.hid (fun W hW => (HW.out W hW).mono (fun _ _ ⟨h1, h2⟩ => ⟨by rw [h1, ← HQ.out], h2⟩))
      clear HW
      have HAQ : Hid (q = false → ∀ j (h : j < l.length), j < k + 1 → p l[j] = false) := Lib.hid (fun hq j h hj => by
        by_cases e : j = k
        · subst e; rw [HQ.out]; exact hq
        · exact HAK j h (by omega))
      have HAT : Hid (q = true → IdxP p l (k : Int)) := Lib.hid (fun hq => .inr ⟨k, hkl, rfl, by rw [HQ.out]; exact hq, HAK⟩)
      clear HAK HA HQ
      generalize l[k].id = aid at *
      generalize l[k].x = ax at *
      generalize l[k].y = ay at *
      generalize l[k].A1 = aA1 at *
      generalize l[k].n1 = an1 at *
      generalize l[k].c1 = ac1 at *
      generalize l[k].wi = awi at *
      generalize l[k].A2 = aA2 at *
      generalize l[k].n2 = an2 at *
      generalize l[k].c2 = ac2 at *
      generalize l[k].ag = aag at *
      cases q
      · go_wp2_with (refine (HW2.out _ HF.out).mono ?_; rintro e w5 ⟨rfl, hf⟩; have HF5 := Lib.hid hf; clear hf)
        go_roundw
        case rel => exact ⟨k + 1, by omega, by go_num, HAQ.out (by first | rfl | trivial), HF.out.no_trans HF5.out⟩
        case measure => simp [intOf]; omega
      · go_wp2_with (refine (HW2.out _ HF.out).mono ?_; rintro e w5 ⟨rfl, hf⟩; have HF5 := Lib.hid hf; clear hf)
        go_ret
        exact ⟨_, rfl, HAT.out (by first | rfl | trivial), HF.out.no_trans HF5.out⟩
    · have hkn : k = n := by omega
      subst hkn
      go_wp2_with fail
      go_ret
      refine ⟨_, rfl, .inl ⟨rfl, fun x hx => ?_⟩, HF.out⟩
      obtain ⟨j, hj, rfl⟩ := List.getElem_of_mem hx
      exact HA.out j hj (by have := HL.out; omega)
set_option maxRecDepth 100000 in
theorem has_py {l : List Pl} (p : Pl → Bool) (hx : RdPs w A n l) (c : Nat) (hn : n ≤ 9223372036854775807) (S : Nat)
    (hp : ∀ j (h : j < l.length) W, Fr No w W → Calls Tryd.prog 54 #[.agg #[.int .i64 l[j].id, .int .i64 l[j].x, .int .i64 l[j].y, .slice l[j].A1 l[j].n1 l[j].c1, .int .i64 l[j].wi, .slice l[j].A2 l[j].n2 l[j].c2, .bool l[j].ag], .pointer (some ⟨S, 0, none⟩)] W fun e w' => e = .returned (.bool (p l[j])) ∧ Fr No W w') :
    Calls Tryd.prog 55 #[.slice A n c, .func (.func 54) #[] #[.pointer (some ⟨S, 0, none⟩)]] w fun e w' => e = .returned (.bool (l.any p)) ∧ Fr No w w' := by
  have HI := Lib.hid (idx_py p hx c hn S hp)
  clear hx hp
  go_enter Tryd.func55, Tryd.ntmps55
  go_wp2_with (refine HI.out.mono ?_; rintro e w1 ⟨z, rfl, hz, hf⟩; have HZ := Lib.hid hz.any; have HF := Lib.hid hf; clear hz hf)
  go_ret
  exact ⟨by rw [← HZ.out]; rfl, HF.out⟩
set_option maxRecDepth 100000 in
set_option maxHeartbeats 1600000 in
theorem idx_pid {l : List Pl} (p : Pl → Bool) (hx : RdPs w A n l) (c : Nat) (hn : n ≤ 9223372036854775807) (S : Nat)
    (hp : ∀ j (h : j < l.length) W, Fr No w W → Calls Tryd.prog 48 #[.agg #[.int .i64 l[j].id, .int .i64 l[j].x, .int .i64 l[j].y, .slice l[j].A1 l[j].n1 l[j].c1, .int .i64 l[j].wi, .slice l[j].A2 l[j].n2 l[j].c2, .bool l[j].ag], .pointer (some ⟨S, 0, none⟩)] W fun e w' => e = .returned (.bool (p l[j])) ∧ Fr No W w') :
    Calls Tryd.prog 47 #[.slice A n c, .func (.func 48) #[] #[.pointer (some ⟨S, 0, none⟩)]] w fun e w' => ∃ z : Int, e = .returned (.int .i64 z) ∧ IdxP p l z ∧ Fr No w w' := by
  have HL := Lib.hid hx.2.1
  have HX := Lib.hid (fun W (hW : Fr No w W) => hx.no hW)
  have HP := Lib.hid hp
  clear hx hp
  go_enter Tryd.func47, Tryd.ntmps47
  go_wp2_with fail
  go_loopw [8] (fun v8 wr => ∃ k : Nat, k ≤ n ∧ v8 = .int .i64 (k : Int) ∧ (∀ j (h : j < l.length), j < k → p l[j] = false) ∧ Fr No w wr) (fun v8 _ => n - (intOf v8).toNat)
  case atStart => exact ⟨0, by omega, rfl, (fun j _ h => absurd h (by omega)), Fr.refl _ _⟩
  case round =>
    obtain ⟨k, hk, rfl, ha, hf⟩ := hrel
    have HF := Lib.hid hf
    have HA := Lib.hid ha
    clear hf ha
    by_cases hlt : k < n
    · have hkl : k < l.length := by rw [HL.out]; exact hlt
      obtain ⟨b, o, rfl, _, x0, x1, x2, x3, x4, x5, x6⟩ := (HX.out wr HF.out).at k hkl
      have HW := Lib.hid (HP.out k hkl)
      have HAK := HA.out
      have hwk : IntKind.i64.wrap ((k : Int) + 1) = ((k + 1 : Nat) : Int) := by
        rw [show ((k : Int) + 1) = ((k + 1 : Nat) : Int) by omega]
        exact IntWalk.i64_in _ (by omega)
      obtain ⟨q, HQ⟩ : ∃ q, Hid (p l[k] = q) := ⟨_, Lib.hid rfl⟩
      have HW2 : Hid (∀ W, Fr No w W → Calls Tryd.prog 48 #[.agg #[.int .i64 l[k].id, .int .i64 l[k].x, .int .i64 l[k].y, .slice l[k].A1 l[k].n1 l[k].c1, .int .i64 l[k].wi, .slice l[k].A2 l[k].n2 l[k].c2, .bool l[k].ag], .pointer (some ⟨S, 0, none⟩)] W fun e w' => e = .returned (.bool q) ∧ Fr No W w') := Lib.hid (fun W hW => (HW.out W hW).mono (fun _ _ ⟨h1, h2⟩ => ⟨by rw [h1, ← HQ.out], h2⟩))
      clear HW
      have HAQ : Hid (q = false → ∀ j (h : j < l.length), j < k + 1 → p l[j] = false) := Lib.hid (fun hq j h hj => by
        by_cases e : j = k
        · subst e; rw [HQ.out]; exact hq
        · exact HAK j h (by omega))
      have HAT : Hid (q = true → IdxP p l (k : Int)) := Lib.hid (fun hq => .inr ⟨k, hkl, rfl, by rw [HQ.out]; exact hq, HAK⟩)
      clear HAK HA HQ
      generalize l[k].id = aid at *
      generalize l[k].x = ax at *
      generalize l[k].y = ay at *
      generalize l[k].A1 = aA1 at *
      generalize l[k].n1 = an1 at *
      generalize l[k].c1 = ac1 at *
      generalize l[k].wi = awi at *
      generalize l[k].A2 = aA2 at *
      generalize l[k].n2 = an2 at *
      generalize l[k].c2 = ac2 at *
      generalize l[k].ag = aag at *
      cases q
      · go_wp2_with (refine (HW2.out _ HF.out).mono ?_; rintro e w5 ⟨rfl, hf⟩; have HF5 := Lib.hid hf; clear hf)
        go_roundw
        case rel => exact ⟨k + 1, by omega, by go_num, HAQ.out (by first | rfl | trivial), HF.out.no_trans HF5.out⟩
        case measure => simp [intOf]; omega
      · go_wp2_with (refine (HW2.out _ HF.out).mono ?_; rintro e w5 ⟨rfl, hf⟩; have HF5 := Lib.hid hf; clear hf)
        go_ret
        exact ⟨_, rfl, HAT.out (by first | rfl | trivial), HF.out.no_trans HF5.out⟩
    · have hkn : k = n := by omega
      subst hkn
      go_wp2_with fail
      go_ret
      refine ⟨_, rfl, .inl ⟨rfl, fun x hx => ?_⟩, HF.out⟩
      obtain ⟨j, hj, rfl⟩ := List.getElem_of_mem hx
      exact HA.out j hj (by have := HL.out; omega)
end
end Go.Proofs.YtjdhbgdpmojobaaDoor

/-
  The document's own bag: one of an item put. No statement of the seat is proved here.
-/
import Derived.Test.YtmallcjhccbgdaaDoorRbA
namespace Go.Proofs.YtmallcjhccbgdaaDoor
open Go.RowKit Go.Deep

theorem slC_setN (l : List (Nat × Int)) (j : Nat) (hj : j < l.length) (y : Int) : slC (l.set j (l[j].1, y)) = (slC l).set (j * 2 + 1) (.int .i64 y) := by
  rw [slC_set l j hj]
  congr 1
  obtain ⟨h1, _⟩ := slC_at l j hj
  obtain ⟨hlt, h2⟩ := List.getElem?_eq_some_iff.1 h1
  rw [← h2, List.set_getElem_self]
/-- What one leaves. -/
def OneP (lo : Nat) (A : Option Addr) (n c i : Nat) (st : Int) (l : List (Nat × Int)) (w : World) (e : Ending) (w' : World) : Prop :=
  ∃ (b : Bool) (L : List (Nat × Int)), e = .returned (.bool b) ∧ OwS lo w' (.slice A n c) L ∧ ((b = true ∧ oneL i st l = some L) ∨ (b = false ∧ oneL i st l = none ∧ L = l)) ∧ Fr (Bk A) w w'
section
variable {w : World} {A : Option Addr} {n c lo : Nat} {l : List (Nat × Int)}
/-- The count of a slot of a row of the call's own, written. -/
theorem OwS.setN (h : OwS lo w (.slice A n c) l) (j : Nat) (hj : j < l.length) {b : Nat} (hA : A = some ⟨b, 0, none⟩) (y : Int) : OwS lo (w.setCell ⟨b, j * 2 + 1, none⟩ (.int .i64 y)) (.slice A n c) (l.set j (l[j].1, y)) := by
  rcases h.2 with ⟨hv, h0⟩ | ⟨g, cap, cur, hv, hlo, hh, hnc, hcm, hsz, htk⟩
  · omega
  · injection hv with e1 e2 e3
    subst e1 e2 e3
    injection hA with hA
    injection hA with hA _
    subst hA
    refine ⟨by rw [slC_len, List.length_set], .inr ⟨g, c, _, (by rw [List.length_set]), hlo, heap_cells_set w g (j * 2 + 1) _ _ (.int .i64 y) hh, by rw [List.length_set]; exact hnc, hcm, by simpa using hsz, ?_⟩⟩
    rw [Array.toList_setIfInBounds, List.length_set, List.take_set, htk, slC_setN l j hj]
set_option maxRecDepth 100000 in
set_option maxHeartbeats 1600000 in
theorem rone_any (ho : OwS lo w (.slice A n c) l) (hr : rgt l = true) {i : Nat} (hi : i < 256) {st : Int} (hst : stI i = st) (hn : n ≤ 100000) : Calls Tryd.prog 35 #[.slice A n c, .int .u8 (i : Int)] w fun e w' => OneP lo A n c i st l w e w' := by
  have HOW := Lib.hid (fun W (hW : Fr No w W) => ho.no hW)
  have HL := Lib.hid (ho.rd).1
  have HRR := Lib.hid (fun s (hs : s ∈ l) => rgt_at hr hs)
  have HS := Lib.hid (fun W => (rstack_any (w := W) hi).mono (fun _ _ ⟨h1, h2⟩ => (⟨h1, h2.symm⟩ : _ ∧ _)))
  rw [hst] at HS
  have hsl := stI_le i
  rw [hst] at hsl
  have HSL := Lib.hid hsl
  clear ho hr hst hsl
  go_enter Tryd.func35, Tryd.ntmps35
  go_wp2_with fail
  go_loopw [5] (fun v5 wr => ∃ k : Nat, k ≤ n ∧ v5 = .int .i64 (k : Int) ∧ (∀ j (h : j < l.length), j < k → notFull i st l[j] = false) ∧ Fr No w wr) (fun v5 _ => n - (intOf v5).toNat)
  case atStart => exact ⟨0, by omega, rfl, (fun j _ h => absurd h (by omega)), Fr.refl _ _⟩
  case round =>
    obtain ⟨k, hk, rfl, ha, hf⟩ := hrel
    have HF := Lib.hid hf
    have HAK := Lib.hid ha
    clear hf ha
    by_cases hlt : k < n
    · have hkl : k < l.length := by rw [HL.out]; exact hlt
      have hki : (k : Int) < (n : Int) := by omega
      have hk0 : (0 : Int) ≤ (k : Int) := by omega
      have hwk : IntKind.i64.wrap ((k : Int) + 1) = ((k + 1 : Nat) : Int) := by
        rw [show ((k : Int) + 1) = ((k + 1 : Nat) : Int) by omega]
        exact IntWalk.i64_in _ (by omega)
      have HST : Hid (∀ W, Fr No w W → ∃ b, A = some ⟨b, 0, none⟩ ∧ b < W.heap.size ∧ W.frozen? ⟨b, k * 2, none⟩ = false ∧ W.frozen? ⟨b, k * 2 + 1, none⟩ = false ∧ W.cell? ⟨b, k * 2, none⟩ = some (.int .u8 (l[k].1 : Int)) ∧ W.cell? ⟨b, k * 2 + 1, none⟩ = some (.int .i64 l[k].2) ∧ OwS lo (W.setCell ⟨b, k * 2 + 1, none⟩ (.int .i64 (l[k].2 + 1))) (.slice A n c) (l.set k (l[k].1, l[k].2 + 1))) := Lib.hid fun W hW => by
        obtain ⟨b, h1, h2, h3, h4, h5, h6, h7, h8⟩ := (HOW.out W hW).set k hkl
        exact ⟨b, h1, h3, h4, h5, h6, h7, (HOW.out W hW).setN k hkl h1 _⟩
      have hy := HRR.out l[k] (List.getElem_mem hkl)
      have HNF : Hid (notFull i st (l[k].1, l[k].2) = notFull i st l[k]) := Lib.hid rfl
      have HAQ : Hid (notFull i st l[k] = false → ∀ j (h : j < l.length), j < k + 1 → notFull i st l[j] = false) := Lib.hid fun hq j h hj => by
        by_cases e : j = k
        · subst e; exact hq
        · exact HAK.out j h (by omega)
      have HAT : Hid (notFull i st l[k] = true → oneL i st l = some (l.set k (l[k].1, l[k].2 + 1))) := Lib.hid fun hq => by
        unfold oneL
        rw [firstF_at k hkl HAK.out hq]
      rw [← HNF.out] at HAQ HAT
      obtain ⟨L, hL⟩ : ∃ L, l.set k (l[k].1, l[k].2 + 1) = L := ⟨_, rfl⟩
      rw [hL] at HST HAT
      obtain ⟨b, rfl, _, _, _, x0, x1, _⟩ := HST.out wr HF.out
      clear hL HAK HNF
      generalize l[k].1 = x at *
      generalize l[k].2 = y at *
      by_cases hxi : x = i
      · have e1 : ((x : Int) == (i : Int)) = true := by simp [hxi]
        by_cases hys : y < st
        · have e2 : decide (y < st) = true := decide_eq_true hys
          have HT := Lib.hid (HAT.out (by unfold notFull; simp [hxi, hys]))
          have hwy : IntKind.i64.wrap (y + 1) = y + 1 := IntWalk.i64_in _ (by have := HSL.out; omega)
          clear hxi hys hy HAQ HAT
          go_wp2_with fail
          go_quiet ((go_at_call 34; exact Calls.quiet_of_same (HS.out _)))
          obtain ⟨b', e, hbz, f0, f1, x0, x1, ho⟩ := HST.out _ (HF.out.no_trans (Fr.drewN No wr nq))
          injection e with e
          injection e with e
          subst e
          have HO := Lib.hid ho
          have HFD := Lib.hid (HF.out.no_trans (Fr.drewN No wr nq))
          clear ho HST
          generalize wr.drewN nq = wd at *
          go_wp2_with fail
          go_ret
          exact ⟨true, L, rfl, HO.out, .inl ⟨rfl, HT.out⟩, (Fr.any HFD.out).trans (Fr.setCell (F := Bk (some ⟨b, 0, none⟩)) wd ⟨b, k * 2 + 1, none⟩ (.int .i64 (y + 1)) ⟨_, rfl, rfl⟩) (fun _ _ e => e)⟩
        · have e2 : decide (y < st) = false := decide_eq_false hys
          have HQ := Lib.hid (HAQ.out (by unfold notFull; simp [hys]))
          clear hxi hys hy HAQ HAT
          go_wp2_with fail
          go_quiet ((go_at_call 34; exact Calls.quiet_of_same (HS.out _)))
          go_wp2_with fail
          go_roundw
          case rel => exact ⟨k + 1, by omega, by go_num, HQ.out, HF.out.no_trans (Fr.drewN No _ _)⟩
          case measure => simp [intOf]; omega
      · have e1 : ((x : Int) == (i : Int)) = false := by rw [beq_eq_false_iff_ne]; omega
        have HQ := Lib.hid (HAQ.out (by unfold notFull; simp [hxi]))
        clear hxi hy HAQ HAT
        go_wp2_with fail
        go_quiet (fail)
        go_wp2_with fail
        go_roundw
        case rel => exact ⟨k + 1, by omega, by go_num, HQ.out, HF.out.no_trans (Fr.drewN No _ _)⟩
        case measure => simp [intOf]; omega
    · have hkn : k = n := by omega
      subst hkn
      have HN1 : Hid (firstF (notFull i st) (fun s => (s.1, s.2 + 1)) l = none) := Lib.hid (firstF_none (fun j hj => HAK.out j hj (by have := HL.out; omega)))
      clear HAK hlt hk
      go_wp2_with fail
      go_loopw [6] (fun v6 wr => ∃ q : Nat, q ≤ k ∧ v6 = .int .i64 (q : Int) ∧ (∀ j (h : j < l.length), j < q → (l[j].2 == 0) = false) ∧ Fr No w wr) (fun v6 _ => k - (intOf v6).toNat)
      case atStart => exact ⟨0, by omega, rfl, (fun j _ h => absurd h (by omega)), HF.out⟩
      case round =>
        obtain ⟨q, hq, rfl, ha, hf⟩ := hrel
        have HF := Lib.hid hf
        have HAK := Lib.hid ha
        clear hf ha
        by_cases hlt : q < k
        · have hkl : q < l.length := by rw [HL.out]; exact hlt
          have hki : (q : Int) < (k : Int) := by omega
          have hk0 : (0 : Int) ≤ (q : Int) := by omega
          have hwk : IntKind.i64.wrap ((q : Int) + 1) = ((q + 1 : Nat) : Int) := by
            rw [show ((q : Int) + 1) = ((q + 1 : Nat) : Int) by omega]
            exact IntWalk.i64_in _ (by omega)
          obtain ⟨b, rfl, hlo, hbz, f0, f1, x0, x1, hset⟩ := (HOW.out wr HF.out).set q hkl
          have HSET := Lib.hid (hset i 1)
          have HAQ : Hid ((l[q].2 == 0) = false → ∀ j (h : j < l.length), j < q + 1 → (l[j].2 == 0) = false) := Lib.hid fun hq j h hj => by
            by_cases e : j = q
            · subst e; exact hq
            · exact HAK.out j h (by omega)
          have HAT : Hid ((l[q].2 == 0) = true → oneL i st l = some (l.set q (i, 1))) := Lib.hid fun hq => by
            unfold oneL
            rw [HN1.out]
            dsimp only
            rw [firstF_at (p := fun s => s.2 == 0) q hkl HAK.out hq]
          obtain ⟨L, hL⟩ : ∃ L, l.set q (i, 1) = L := ⟨_, rfl⟩
          rw [hL] at HSET HAT
          clear hL HAK hset
          generalize l[q].1 = x at *
          generalize l[q].2 = y at *
          by_cases hy0 : y = 0
          · have e1 : (y == 0) = true := by simp [hy0]
            have HT := Lib.hid (HAT.out e1)
            clear hy0 HAQ HAT
            go_wp2_with fail
            go_ret
            exact ⟨true, L, rfl, HSET.out, .inl ⟨rfl, HT.out⟩, (Fr.any HF.out).trans ((Fr.setCell (F := Bk (some ⟨b, 0, none⟩)) wr ⟨b, q * 2, none⟩ (.int .u8 (i : Int)) ⟨_, rfl, rfl⟩).trans (Fr.setCell (F := Bk (some ⟨b, 0, none⟩)) _ ⟨b, q * 2 + 1, none⟩ (.int .i64 1) ⟨_, rfl, rfl⟩) (fun _ _ e => e)) (fun _ _ e => e)⟩
          · have e1 : (y == 0) = false := by rw [beq_eq_false_iff_ne]; exact hy0
            have HQ := Lib.hid (HAQ.out e1)
            clear hy0 HAQ HAT HSET
            go_wp2_with fail
            go_roundw
            case rel => exact ⟨q + 1, by omega, by go_num, HQ.out, HF.out⟩
            case measure => simp [intOf]; omega
        · have hkn : q = k := by omega
          subst hkn
          have HT : Hid (oneL i st l = none) := Lib.hid (by
            unfold oneL
            rw [HN1.out]
            dsimp only
            exact firstF_none (p := fun s => s.2 == 0) (fun j hj => HAK.out j hj (by have := HL.out; omega)))
          clear HAK
          go_wp2_with fail
          go_ret
          exact ⟨false, l, rfl, HOW.out _ HF.out, .inr ⟨rfl, HT.out, rfl⟩, Fr.any HF.out⟩
end
end Go.Proofs.YtmallcjhccbgdaaDoor

/-
  The document's own bag: Put, Spend. No statement of the seat is proved here.
-/
import Derived.Test.YtmallcjhccbgdaaDoorRbB
namespace Go.Proofs.YtmallcjhccbgdaaDoor
open Go.RowKit Go.Deep

theorem mid_get {T X : List (Nat × Int)} {s : Nat × Int} {j : Nat} (hj : T.length = j) (h : j < (T ++ s :: X).length) : (T ++ s :: X)[j] = s := by
  subst hj
  rw [List.getElem_append_right (Nat.le_refl _)]
  simp
theorem mid_set {T X : List (Nat × Int)} {s t : Nat × Int} {j : Nat} (hj : T.length = j) : (T ++ s :: X).set j t = T ++ t :: X := by
  subst hj
  rw [List.set_append_right _ _ (Nat.le_refl _), Nat.sub_self]
  rfl
theorem spS_foldr2 (i : Nat) (l t : List (Nat × Int)) (n : Int) : l.foldr (spS i) (t, n) = ((l.foldr (spS i) ([], n)).1 ++ t, (l.foldr (spS i) ([], n)).2) := by
  induction l with
  | nil => rfl
  | cons s l ih =>
    rw [List.foldr_cons, List.foldr_cons, ih]
    unfold spS
    dsimp only
    split <;> rfl
theorem rgt_take {l : List (Nat × Int)} (h : rgt l = true) (k : Nat) : rgt (l.take k) = true := by
  unfold rgt at h ⊢
  rw [List.all_eq_true] at h ⊢
  exact fun s hs => h s (List.mem_of_mem_take hs)
/-- Where nothing is left to be spent, the slots ahead stay. -/
theorem spF_stop {i : Nat} {l : List (Nat × Int)} (hr : rgt l = true) {m : Int} (k : Nat) (h : (spF i (l.drop k) m).2 = 0) : l.take k ++ (spF i (l.drop k) m).1 = (spF i l m).1 := by
  have e : spF i l m = (l.take k).foldr (spS i) (spF i (l.drop k) m) := by
    unfold spF
    rw [← List.foldr_append, List.take_append_drop]
  rw [e]
  generalize spF i (l.drop k) m = r at *
  obtain ⟨X, q⟩ := r
  dsimp only at h ⊢
  subst h
  rw [spS_foldr2]
  have := spF_done (i := i) (rgt_take hr k)
  unfold spF at this
  rw [this]
section
variable {w : World} {A : Option Addr} {n c lo : Nat} {l : List (Nat × Int)}
theorem OwS.bk (h : OwS lo w (.slice A n c) l) (i : Nat) (hi : Bk A i) : lo ≤ i ∧ i < w.heap.size := by
  obtain ⟨b, rfl, rfl⟩ := hi
  rcases h.2 with ⟨hv, _⟩ | ⟨g, cap, cur, hv, hlo, hh, _⟩
  · cases hv
  · injection hv with e1 e2 e3
    injection e1 with e1
    subst e1
    exact ⟨hlo, (Array.getElem?_eq_some_iff.1 hh).1⟩
set_option maxRecDepth 100000 in
set_option maxHeartbeats 1600000 in
theorem rput_any (hx : RdS w A n l) (hb : By l) (c : Nat) {i : Nat} (hi : i < 256) (hn : n ≤ 100000) {m : Int} (hm : m ≤ 9223372036854775807) :
    Calls Tryd.prog 23 #[.slice A n c, .int .u8 (i : Int), .int .i64 m] w fun e w' => ∃ A' c', e = .returned (.tuple #[.slice A' n c', .int .i64 (PutL i l m).2]) ∧ OwS w.heap.size w' (.slice A' n c') (PutL i l m).1 ∧ Fr No w w' := by
  have HX := Lib.hid (fun W (hW : Fr No w W) => hx.no hW)
  have HL := Lib.hid hx.1
  have HR := Lib.hid (fun W (hW : Fr No w W) => rright_any (hx.no hW) hb c hn n)
  rw [show (decide ((n : Int) = (n : Int)) && rgt l) = rgt l by simp] at HR
  have HS := Lib.hid (fun W => (rstack_any (w := W) hi).mono (fun _ _ ⟨h1, h2⟩ => (⟨h1, h2.symm⟩ : _ ∧ _)))
  obtain ⟨st, hst⟩ : ∃ s, stI i = s := ⟨_, rfl⟩
  rw [hst] at HS
  obtain ⟨P, hP⟩ : ∃ P, PutL i l m = P := ⟨_, rfl⟩
  have HP := Lib.hid hP
  have HST := Lib.hid hst
  have HI := Lib.hid hi
  have HM := Lib.hid hm
  rw [hP]
  have hPb : (m < 1 → P = (l, 0)) ∧ (1 ≤ m → rgt l = false ∨ st = 0 → P = (l, m)) := by
    rw [← hP, ← hst]
    refine ⟨fun h => by unfold PutL; rw [if_pos h], fun h h2 => by unfold PutL; rw [if_neg (by omega), if_pos h2]⟩
  have HPB := Lib.hid hPb
  have hso : 0 ≤ st := by
    rw [← hst]
    by_cases h : i < 13
    · have : ∀ j : Fin 13, 0 ≤ stI j.val := by decide
      exact this ⟨i, h⟩
    · unfold stI
      rw [List.getD_eq_getElem?_getD, List.getElem?_eq_none (by simp; omega)]
      decide
  clear hx hb hP hst hPb hi hm
  go_enter Tryd.func23, Tryd.ntmps23
  go_wp2_with (at_builtin; refine wpList_append_sl _ rfl (.tmp 9) (.tmp 10) rfl (lo := w.heap.size) (l := []) rfl (OwS.made w _ rfl) A n c l rfl (HX.out _ (Fr.alloc No _ _)) (by simp; omega) (by rw [World.size_alloc]; omega) ?_; intro v1 w1 ho hg; have HO1 := Lib.hid ho; have HF1 := Lib.hid ((Fr.alloc No w (.cells #[] 34)).then_new (Fr.grown (F := fun i => w.heap.size ≤ i) hg (fun k hk => ((OwS.made w _ rfl).lt k hk).1)) (fun i h => h)); clear ho hg)
  obtain ⟨A1, c1, hv⟩ : ∃ A1 c1, v1 = .slice A1 n c1 := by
    obtain ⟨a, b, h, _⟩ := HO1.out.sl
    exact ⟨a, b, by rw [h, List.nil_append, HL.out]⟩
  subst hv
  rw [List.nil_append] at HO1
  refine (HR.out _ HF1.out).mono ?_
  rintro e w2 ⟨rfl, hf⟩
  have HF2 := Lib.hid (HF1.out.no_trans hf)
  have HO2 := Lib.hid (HO1.out.no hf)
  clear hf HR HO1 HF1
  cases hr : rgt l with
  | false =>
    by_cases h1 : m < 1
    · have hp := HPB.out.1 h1
      have hmx : max m 0 = 0 := by omega
      subst hp
      clear hr
      go_wp2_with fail
      all_goals
        go_ret2
        exact ⟨A1, c1, by first | rfl | (exfalso; omega) | (obtain rfl : m = 0 := (by omega); rfl), HO2.out, HF2.out⟩
    · have hp := HPB.out.2 (by omega) (.inl hr)
      have hmx : max m 0 = m := by omega
      subst hp
      clear hr
      go_wp2_with fail
      all_goals
        go_ret2
        exact ⟨A1, c1, by first | rfl | (exfalso; omega) | (obtain rfl : m = 0 := (by omega); rfl), HO2.out, HF2.out⟩
  | true =>
  by_cases hs0 : st = 0
  · have e1 : (st == 0) = true := by simp [hs0]
    by_cases h1 : m < 1
    · have hp := HPB.out.1 h1
      subst hp
      clear hr
      go_wp2_with (go_at_call 34; refine (HS.out _).mono ?_; rintro e w3 ⟨rfl, rfl⟩)
      all_goals
        go_ret2
        exact ⟨A1, c1, by first | rfl | (exfalso; omega) | (obtain rfl : m = 0 := (by omega); rfl), HO2.out, HF2.out⟩
    · have hp := HPB.out.2 (by omega) (.inr hs0)
      subst hp
      clear hr
      go_wp2_with (go_at_call 34; refine (HS.out _).mono ?_; rintro e w3 ⟨rfl, rfl⟩)
      all_goals
        go_ret2
        exact ⟨A1, c1, by first | rfl | (exfalso; omega) | (obtain rfl : m = 0 := (by omega); rfl), HO2.out, HF2.out⟩
  · have e1 : (st == 0) = false := by rw [beq_eq_false_iff_ne]; exact hs0
    by_cases h1 : m < 1
    · have hp := HPB.out.1 h1
      subst hp
      clear hr
      go_wp2_with (go_at_call 34; refine (HS.out _).mono ?_; rintro e w3 ⟨rfl, rfl⟩)
      all_goals
        go_ret2
        exact ⟨A1, c1, by first | rfl | (exfalso; omega) | (obtain rfl : m = 0 := (by omega); rfl), HO2.out, HF2.out⟩
    · have HR := Lib.hid hr
      have HS0 := Lib.hid (show 0 < st by omega)
      have H1 := Lib.hid (show 1 ≤ m by omega)
      clear hr hs0 HPB hso
      go_wp2_with (go_at_call 34; refine (HS.out _).mono ?_; rintro e w3 ⟨rfl, rfl⟩)
      clear h1 e1
      go_loopw [2] (fun v2 wr => ∃ (r : Int) (L : List (Nat × Int)), v2 = .int .i64 r ∧ 0 ≤ r ∧ r ≤ m ∧ OwS w.heap.size wr (.slice A1 n c1) L ∧ rgt L = true ∧ PutL i L r = P ∧ Fr No w wr) (fun v2 _ => (intOf v2).toNat)
      case atStart => exact ⟨m, l, rfl, by have := H1.out; omega, Int.le_refl _, HO2.out, HR.out, HP.out, HF2.out⟩
      case round =>
        obtain ⟨r, L, rfl, hr0, hrm, ho, hrL, hpL, hf⟩ := hrel
        have HF := Lib.hid hf
        have HO := Lib.hid ho
        have HPL := Lib.hid hpL
        have HRL := Lib.hid hrL
        clear hf ho hpL hrL
        by_cases hpos : 0 < r
        · have C1 := Lib.hid (rone_any HO.out HRL.out HI.out HST.out hn)
          have hwr : IntKind.i64.wrap (r - 1) = r - 1 := IntWalk.i64_in _ (by have := HM.out; omega)
          go_wp2_with fail
          refine C1.out.mono ?_
          rintro e w4 ⟨b, L', rfl, ho, hc, hf⟩
          have HF4 := Lib.hid (HF.out.then_new hf (fun i h => (HO.out.bk i h).1))
          have HO4 := Lib.hid ho
          clear ho hf C1
          rcases hc with ⟨rfl, hone⟩ | ⟨rfl, hone, rfl⟩
          · have HST4 := Lib.hid (PutL_step HST.out HS0.out HRL.out (n := r) (by omega) hone)
            clear hone
            go_wp2_with fail
            go_roundw
            case rel => exact ⟨r - 1, L', rfl, by omega, by omega, HO4.out, HST4.out.1, by rw [← HST4.out.2.2]; exact HPL.out, HF4.out⟩
            case measure => simp [intOf]; omega
          · have HST4 := Lib.hid (PutL_stuck HST.out HS0.out HRL.out (n := r) (by omega) hone)
            have hp := HST4.out.symm.trans HPL.out
            subst hp
            clear hone
            go_wp2_with fail
            go_ret2
            exact ⟨A1, c1, rfl, HO4.out, HF4.out⟩
        · have h0 : r = 0 := by omega
          subst h0
          have hp : (L, (0 : Int)) = P := by
            rw [← HPL.out]
            unfold PutL
            rw [if_pos (by omega)]
          subst hp
          go_wp2_with fail
          go_ret2
          exact ⟨A1, c1, rfl, HO.out, HF.out⟩
end
end Go.Proofs.YtmallcjhccbgdaaDoor

/-
  Craft: the chapter's examples; the walk of CraftCan. No statement of the seat is proved here.
-/
import Derived.Test.YtloimopcecbkbaaDoorCrC
namespace Go.Proofs.YtloimopcecbkbaaDoor
open Go.RowKit Go.Deep

theorem mk_ex1 : MakeE [(3, 3), (0, 0)] 0 = 0 ∧ MakeL [(3, 3), (0, 0)] 0 = [(3, 2), (5, 4)] := by decide +kernel
theorem mk_ex2 : MakeE [(3, 16)] 0 = 104 := by decide +kernel
theorem can_ex : canL [(3, 1), (0, 0)] = [0] := by decide +kernel
theorem lit_sl (W : World) (l : List (Nat × Int)) (cs : Array Value) (h : cs = (slC l).toArray) : RdS (W.alloc (.cells cs 31)) (some ⟨W.heap.size, 0, none⟩) l.length l := RdS.blk (by rw [← h]; exact heap_alloc_new W _)
theorem lit_i (W : World) (l : List Int) (cs : Array Value) (h : cs = (ivI l).toArray) : RdI (W.alloc (.cells cs 3)) (some ⟨W.heap.size, 0, none⟩) l.length l := RdI.blk (by rw [← h]; exact heap_alloc_new W _)
section
variable {w : World} {A : Option Addr} {n c lo : Nat} {l : List (Nat × Int)}
set_option maxRecDepth 100000 in
set_option maxHeartbeats 1600000 in
/-- The chapter's examples. -/
theorem cawake_any (ht : ItT w) : Calls Tryd.prog 9 #[] w fun e w' => e = .returned (.bool true) ∧ Fr No w w' := by
  have hby1 : By [(3, 3), (0, 0)] := fun s hs => by simp at hs; rcases hs with rfl | rfl <;> decide
  have hby2 : By [(3, 16)] := fun s hs => by simp at hs; subst hs; decide
  have hby3 : By [(3, 1), (0, 0)] := fun s hs => by simp at hs; rcases hs with rfl | rfl <;> decide
  have HM1 : Hid (∀ W A c, Fr No w W → RdS W A 2 [(3, 3), (0, 0)] → Calls Tryd.prog 10 #[.slice A 2 c, .int .i64 0] W fun e w' => ∃ A' c', e = .returned (.tuple #[.slice A' 2 c', .int .i64 0]) ∧ RdS w' A' 2 [(3, 2), (5, 4)] ∧ Fr No W w') :=
    Lib.hid fun W A c hW hx => (Make_any (ht.no hW) hx hby1 c (by decide) 0).mono (fun _ _ ⟨A', c', h1, h2, h3⟩ => by rw [mk_ex1.1] at h1; rw [mk_ex1.2] at h2; exact ⟨A', c', h1, h2.rd, h3⟩)
  have HM2 : Hid (∀ W A c, Fr No w W → RdS W A 1 [(3, 16)] → Calls Tryd.prog 10 #[.slice A 1 c, .int .i64 0] W fun e w' => ∃ A' c', e = .returned (.tuple #[.slice A' 1 c', .int .i64 104]) ∧ Fr No W w') :=
    Lib.hid fun W A c hW hx => (Make_any (ht.no hW) hx hby2 c (by decide) 0).mono (fun _ _ ⟨A', c', h1, h2, h3⟩ => by rw [mk_ex2] at h1; exact ⟨A', c', h1, h3⟩)
  have HC : Hid (∀ W A c, Fr No w W → RdS W A 2 [(3, 1), (0, 0)] → Calls Tryd.prog 16 #[.slice A 2 c] W fun e w' => ∃ A' c', e = .returned (.slice A' 1 c') ∧ RdI w' A' 1 [0] ∧ Fr No W w') :=
    Lib.hid fun W A c hW hx => (Can_any (ht.no hW) hx hby3 c (by decide)).mono (fun _ _ ⟨A', c', h1, h2, h3⟩ => by rw [can_ex] at h1 h2; exact ⟨A', c', h1, h2.rd, h3⟩)
  clear ht hby1 hby2 hby3
  go_enter Tryd.func9, Tryd.ntmps9
  go_wp2_with fail
  refine (HM1.out _ _ _ (Fr.alloc No _ _) (lit_sl w [(3, 3), (0, 0)] _ rfl)).mono ?_
  rintro e w1 ⟨A1, c1, rfl, hr, hf⟩
  have HF1 := Lib.hid ((Fr.alloc No w _).no_trans hf)
  have HR1 := Lib.hid hr
  clear hr hf HM1
  go_wp2_with fail
  refine (HM2.out _ _ _ (HF1.out.no_trans (Fr.alloc No _ _)) (lit_sl w1 [(3, 16)] _ rfl)).mono ?_
  rintro e w2 ⟨A2, c2, rfl, hf⟩
  have HF2 := Lib.hid (HF1.out.no_trans ((Fr.alloc No w1 _).no_trans hf))
  have HR1 := Lib.hid (HR1.out.no ((Fr.alloc No w1 _).no_trans hf))
  clear hf HM2 HF1
  go_wp2_with fail
  refine (same_yes (HR1.out.no (Fr.alloc No _ _)) (lit_sl w2 [(3, 2), (5, 4)] _ rfl) c1 2 (by decide)).mono ?_
  rintro e w3 ⟨rfl, hf⟩
  have HF3 := Lib.hid (HF2.out.no_trans ((Fr.alloc No w2 _).no_trans hf))
  clear hf HF2 HR1
  go_wp2_with fail
  refine (HC.out _ _ _ (HF3.out.no_trans (Fr.alloc No _ _)) (lit_sl w3 [(3, 1), (0, 0)] _ rfl)).mono ?_
  rintro e w4 ⟨A4, c4, rfl, hr, hf⟩
  have HF4 := Lib.hid (HF3.out.no_trans ((Fr.alloc No w3 _).no_trans hf))
  have HR4 := Lib.hid hr
  clear hr hf HC HF3
  go_wp2_with fail
  refine (same_ints (HR4.out.no (Fr.alloc No _ _)) (lit_i w4 [0] _ rfl) c4 1 (by decide)).mono ?_
  rintro e w5 ⟨rfl, hf⟩
  have HF5 := Lib.hid (HF4.out.no_trans ((Fr.alloc No w4 _).no_trans hf))
  clear hf HF4 HR4
  go_wp2_with fail
  go_ret
  exact ⟨rfl, HF5.out⟩
theorem cawake_w (ht : ItT w) : ∀ W, Fr No w W → Calls Tryd.prog 9 #[] W fun e w' => e = .returned (.bool true) ∧ Fr No w w' :=
  fun _ hW => (cawake_any (ht.no hW)).mono (fun _ _ ⟨h1, h2⟩ => ⟨h1, hW.no_trans h2⟩)
set_option maxRecDepth 100000 in
set_option maxHeartbeats 1600000 in
theorem can_walk (ht : ItT w) (hx : RdS w A n l) (hb : By l) (c : Nat) : Calls Tryd.prog 6 #[.slice A n c] w fun e w' => e = .returned (.bool true) ∧ Below w.heap.size w w' := by
  have HA := Lib.hid (cawake_w ht)
  by_cases hn : 300 < n
  · have h3 : (300 : Int) < (n : Int) := by omega
    clear ht hx hb
    go_enter Tryd.func6, Tryd.ntmps6
    go_wp2_with fail
    refine (HA.out _ (Fr.refl No w)).mono ?_
    rintro e w1 ⟨rfl, hf⟩
    go_wp2_with fail
    go_ret
    exact ⟨rfl, hf.noBelow⟩
  have h3 : ¬ (300 : Int) < (n : Int) := by omega
  have HC := Lib.hid (Can_any ht hx hb c (by omega))
  have HM := Lib.hid (fun W (hW : Fr No w W) => Make_any (ht.no hW) (hx.no hW) hb c (by omega))
  have HRC : Hid (∀ W, Calls Tryd.prog 17 #[] W fun e w' => e = .returned (.int .i64 7) ∧ Fr No W w') := fun _ => recipes_any
  obtain ⟨p, hp⟩ : ∃ p, (fun k : Nat => MakeE l k == 0) = p := ⟨_, rfl⟩
  have HP : Hid (∀ k : Nat, p k = (MakeE l k == 0)) := Lib.hid fun k => by rw [← hp]
  have hcl : canL l = canF p 7 := by unfold canL; rw [hp]
  rw [hcl] at HC
  clear ht hx hb hp hcl hn
  go_enter Tryd.func6, Tryd.ntmps6
  go_wp2_with fail
  refine HC.out.mono ?_
  rintro e w1 ⟨A1, c1, rfl, ho, hf⟩
  have HF1 := Lib.hid hf
  have hlen := canF_len p 7
  obtain ⟨N, hN⟩ : ∃ N, (canF p 7).length = N := ⟨_, rfl⟩
  rw [hN] at ho hlen ⊢
  have HR1 := Lib.hid (fun W (hW : Fr No w1 W) => (ho.rd).no hW)
  have HNN := Lib.hid (And.intro hN hlen)
  clear hf ho HC hN hlen
  go_wp2_with fail
  refine (HRC.out _).mono ?_
  rintro e w2 ⟨rfl, hf⟩
  have HF2 := Lib.hid hf
  clear hf HRC
  go_wp2_with fail
  go_loopw [4, 16] (fun v4 v16 wr => ∃ k : Nat, k ≤ 7 ∧ v16 = .int .i64 (k : Int) ∧ v4 = .int .i64 ((canF p k).length : Int) ∧ Fr No w1 wr) (fun _ v16 _ => 7 - (intOf v16).toNat)
  case atStart => exact ⟨0, by omega, rfl, rfl, HF2.out⟩
  case round =>
    obtain ⟨k, hk, rfl, rfl, hf⟩ := hrel
    have HF := Lib.hid hf
    clear hf
    by_cases hlt : k < 7
    · have hwk : IntKind.i64.wrap ((k : Int) + 1) = ((k + 1 : Nat) : Int) := by
        rw [show ((k : Int) + 1) = ((k + 1 : Nat) : Int) by omega]
        exact IntWalk.i64_in _ (by omega)
      have C1 := Lib.hid (HM.out _ (HF1.out.no_trans HF.out) (k : Int))
      obtain ⟨E, hE⟩ : ∃ E, MakeE l (k : Int) = E := ⟨_, rfl⟩
      have hpk := HP.out k
      rw [hE] at C1 hpk
      have hat := canF_at p k 7 hlt
      have hl1 := canF_len p k
      obtain ⟨L1, hL1⟩ : ∃ L1, (canF p (k + 1)).length = L1 := ⟨_, rfl⟩
      rw [hL1] at hat
      have HL1 := Lib.hid hL1
      obtain ⟨q, hq⟩ : ∃ q, (canF p k).length = q := ⟨_, rfl⟩
      rw [hq] at hat hl1 ⊢
      clear hL1 hq hE
      go_wp2_with fail
      refine C1.out.mono ?_
      rintro e w3 ⟨A', c', rfl, _, hf⟩
      have HF3 := Lib.hid (HF.out.no_trans hf)
      clear hf C1
      obtain ⟨hrl, hrc⟩ := HR1.out w3 HF3.out
      have hN := HNN.out
      by_cases h0 : E = 0
      · have e1 : (E == 0) = true := by simp [h0]
        rw [e1] at hpk
        obtain ⟨h1, h2⟩ := hat.1 hpk
        obtain ⟨hqN, h1⟩ := List.getElem?_eq_some_iff.1 h1
        have hqN2 : q < N := by omega
        obtain ⟨b, o, rfl, _, hc⟩ := hrc (by omega)
        have x0 := hc q hqN
        rw [h1] at x0
        have hqi : (q : Int) < (N : Int) := by omega
        have e2 : ((k : Int) == (k : Int)) = true := by simp
        have hwq : IntKind.i64.wrap ((q : Int) + 1) = (L1 : Int) := by
          rw [show ((q : Int) + 1) = (L1 : Int) by omega]
          exact IntWalk.i64_in _ (by omega)
        clear hc hat h1 h2 hpk hN hrl hrc hqN hqN2
        go_wp2_with fail
        go_roundw
        case rel => exact ⟨k + 1, by omega, by go_num, by rw [HL1.out], HF3.out⟩
        case measure => simp [intOf]; omega
      · have e1 : (E == 0) = false := by rw [beq_eq_false_iff_ne]; exact h0
        rw [e1] at hpk
        obtain ⟨h1, h2⟩ := hat.2 hpk
        by_cases hqN : q < N
        · obtain ⟨b, o, rfl, _, hc⟩ := hrc (by omega)
          have hqN' : q < (canF p 7).length := by omega
          have x0 := hc q hqN'
          rw [List.getElem?_eq_getElem hqN'] at h1
          obtain ⟨z, hz⟩ : ∃ z, (canF p 7)[q] = z := ⟨_, rfl⟩
          rw [hz] at x0 h1
          have hzk : ¬ z = (k : Int) := fun e => h1 (by rw [e])
          have e2 : (z == (k : Int)) = false := by rw [beq_eq_false_iff_ne]; exact hzk
          have hqi : (q : Int) < (N : Int) := by omega
          subst h2
          clear hc hat h1 hpk hN hrl hrc hqN hqN' hz
          go_wp2_with fail
          go_roundw
          case rel => exact ⟨k + 1, by omega, by go_num, by rw [HL1.out], HF3.out⟩
          case measure => simp [intOf]; omega
        · have hqi : ¬ (q : Int) < (N : Int) := by omega
          subst h2
          clear hat h1 hpk hN hrl hrc hqN
          go_wp2_with fail
          go_roundw
          case rel => exact ⟨k + 1, by omega, by go_num, by rw [HL1.out], HF3.out⟩
          case measure => simp [intOf]; omega
    · have hkn : k = 7 := by omega
      subst hkn
      rw [HNN.out.1]
      have e1 : ((N : Int) == (N : Int)) = true := by simp
      go_wp2_with fail
      refine (HA.out _ (HF1.out.no_trans HF.out)).mono ?_
      rintro e w3 ⟨rfl, hf⟩
      go_wp2_with fail
      go_ret
      exact ⟨rfl, hf.noBelow⟩
end
end Go.Proofs.YtloimopcecbkbaaDoor

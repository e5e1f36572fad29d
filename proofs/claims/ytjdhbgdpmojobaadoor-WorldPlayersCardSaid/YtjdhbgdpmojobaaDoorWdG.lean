/-
  Questions of a world's parts: sizes, Ids, deals, players. No statement of the seat is proved here.
-/
import Derived.Test.YtjdhbgdpmojobaaDoorWdD
namespace Go.Proofs.YtjdhbgdpmojobaaDoor
open Go.RowKit Go.Deep

section
variable {w w' : World} {lo : Nat}
set_option maxRecDepth 100000 in
theorem issize_any (n : Int) (w : World) : Calls Tryd.prog 23 #[.int .i64 n] w fun e w' => e = .returned (.bool (sizB n)) ∧ w' = w := by
  by_cases h0 : 1 ≤ n
  · have h0' : n ≥ 1 := h0
    by_cases h1 : n ≤ 16
    · have e : sizB n = true := by first | (unfold sizB; rw [decide_eq_true h0, decide_eq_true h1]; rfl) | (unfold idB; rw [decide_eq_true h0, decide_eq_true h1]; rfl) | (unfold winB; rw [decide_eq_true h0, decide_eq_true h1]; rfl)
      rw [e]
      clear e
      go_enter Tryd.func23, Tryd.ntmps23
      go_wp2_with fail
      go_ret
      exact ⟨rfl, rfl⟩
    · have e : sizB n = false := by first | (unfold sizB; rw [decide_eq_true h0, decide_eq_false h1]; rfl) | (unfold idB; rw [decide_eq_true h0, decide_eq_false h1]; rfl) | (unfold winB; rw [decide_eq_true h0, decide_eq_false h1]; rfl)
      rw [e]
      clear e
      go_enter Tryd.func23, Tryd.ntmps23
      go_wp2_with fail
      go_ret
      exact ⟨rfl, rfl⟩
  · have e : sizB n = false := by first | (unfold sizB; rw [decide_eq_false h0]; rfl) | (unfold idB; rw [decide_eq_false h0]; rfl) | (unfold winB; rw [decide_eq_false h0]; rfl)
    rw [e]
    clear e
    have h0' : ¬ n ≥ 1 := h0
    go_enter Tryd.func23, Tryd.ntmps23
    go_wp2_with fail
    go_ret
    exact ⟨rfl, rfl⟩
set_option maxRecDepth 100000 in
theorem isid_any (n : Int) (w : World) : Calls Tryd.prog 72 #[.int .i64 n] w fun e w' => e = .returned (.bool (idB n)) ∧ w' = w := by
  by_cases h0 : 0 ≤ n
  · have h0' : n ≥ 0 := h0
    by_cases h1 : n ≤ 1073741824
    · have e : idB n = true := by first | (unfold sizB; rw [decide_eq_true h0, decide_eq_true h1]; rfl) | (unfold idB; rw [decide_eq_true h0, decide_eq_true h1]; rfl) | (unfold winB; rw [decide_eq_true h0, decide_eq_true h1]; rfl)
      rw [e]
      clear e
      go_enter Tryd.func72, Tryd.ntmps72
      go_wp2_with fail
      go_ret
      exact ⟨rfl, rfl⟩
    · have e : idB n = false := by first | (unfold sizB; rw [decide_eq_true h0, decide_eq_false h1]; rfl) | (unfold idB; rw [decide_eq_true h0, decide_eq_false h1]; rfl) | (unfold winB; rw [decide_eq_true h0, decide_eq_false h1]; rfl)
      rw [e]
      clear e
      go_enter Tryd.func72, Tryd.ntmps72
      go_wp2_with fail
      go_ret
      exact ⟨rfl, rfl⟩
  · have e : idB n = false := by first | (unfold sizB; rw [decide_eq_false h0]; rfl) | (unfold idB; rw [decide_eq_false h0]; rfl) | (unfold winB; rw [decide_eq_false h0]; rfl)
    rw [e]
    clear e
    have h0' : ¬ n ≥ 0 := h0
    go_enter Tryd.func72, Tryd.ntmps72
    go_wp2_with fail
    go_ret
    exact ⟨rfl, rfl⟩
set_option maxRecDepth 100000 in
theorem wwithin_any (n m : Int) (w : World) : Calls Tryd.prog 50 #[.int .i64 n, .int .i64 m] w fun e w' => e = .returned (.bool (winB n m)) ∧ w' = w := by
  by_cases h0 : 0 ≤ n
  · have h0' : n ≥ 0 := h0
    by_cases h1 : n < m
    · have e : winB n m = true := by first | (unfold sizB; rw [decide_eq_true h0, decide_eq_true h1]; rfl) | (unfold idB; rw [decide_eq_true h0, decide_eq_true h1]; rfl) | (unfold winB; rw [decide_eq_true h0, decide_eq_true h1]; rfl)
      rw [e]
      clear e
      go_enter Tryd.func50, Tryd.ntmps50
      go_wp2_with fail
      go_ret
      exact ⟨rfl, rfl⟩
    · have e : winB n m = false := by first | (unfold sizB; rw [decide_eq_true h0, decide_eq_false h1]; rfl) | (unfold idB; rw [decide_eq_true h0, decide_eq_false h1]; rfl) | (unfold winB; rw [decide_eq_true h0, decide_eq_false h1]; rfl)
      rw [e]
      clear e
      go_enter Tryd.func50, Tryd.ntmps50
      go_wp2_with fail
      go_ret
      exact ⟨rfl, rfl⟩
  · have e : winB n m = false := by first | (unfold sizB; rw [decide_eq_false h0]; rfl) | (unfold idB; rw [decide_eq_false h0]; rfl) | (unfold winB; rw [decide_eq_false h0]; rfl)
    rw [e]
    clear e
    have h0' : ¬ n ≥ 0 := h0
    go_enter Tryd.func50, Tryd.ntmps50
    go_wp2_with fail
    go_ret
    exact ⟨rfl, rfl⟩
set_option maxRecDepth 100000 in
set_option maxHeartbeats 1600000 in
theorem deal_any {P : Pl} (ht : ItT w) (h : InP w P) : Calls Tryd.prog 74 #[P.val] w fun e w' => e = .returned (.bool (dealB P.py)) ∧ Fr No w w' := by
  have HB := Lib.hid (fun W (hW : Fr No w W) => right_big (ht.no hW) (h.rd.no hW).r2 h.b2 P.c2 h.s2 8)
  have HL : Hid (P.l2.length = P.n2) := Lib.hid h.rd.r2.1
  have HI := Lib.hid (fun W => isid_any P.wi W)
  clear ht h
  obtain ⟨id, x, y, A1, n1, c1, l1, wi, A2, n2, c2, l2, ag⟩ := P
  dsimp only [Pl.val, Pl.py] at *
  have HR : Hid (rgt8 l2 = (decide ((n2 : Int) = 8) && rgt l2)) := Lib.hid (by unfold rgt8; rw [HL.out])
  have HE1 : Hid (wi = -1 → dealB ⟨id, x, y, l1, wi, l2, ag⟩ = (decide ((n2 : Int) = 0) && !ag)) := Lib.hid (fun h => by unfold dealB; dsimp only; rw [if_pos h, HL.out])
  have HE2 : Hid (¬ wi = -1 → dealB ⟨id, x, y, l1, wi, l2, ag⟩ = (idB wi && !decide (wi = id) && (decide ((n2 : Int) = 8) && rgt l2))) := Lib.hid (fun h => by unfold dealB; dsimp only; rw [if_neg h, HR.out])
  obtain ⟨R, hR⟩ : ∃ R, dealB ⟨id, x, y, l1, wi, l2, ag⟩ = R := ⟨_, rfl⟩
  rw [hR] at HE1 HE2 ⊢
  clear hR HR HL
  have hb0 := heap_alloc_new w (.cells #[.int .i64 id, .int .i64 x, .int .i64 y, .slice A1 n1 c1, .int .i64 wi, .slice A2 n2 c2, .bool ag] 35)
  have HF0 := Lib.hid (Fr.alloc No w (.cells #[.int .i64 id, .int .i64 x, .int .i64 y, .slice A1 n1 c1, .int .i64 wi, .slice A2 n2 c2, .bool ag] 35))
  go_enter Tryd.func74, Tryd.ntmps74
  go_upto_region 1 with fail
  obtain ⟨D, hD⟩ : ∃ D, w.heap.size = D := ⟨_, rfl⟩
  rw [hD] at hb0 ⊢
  clear hD
  generalize w.alloc (.cells #[.int .i64 id, .int .i64 x, .int .i64 y, .slice A1 n1 c1, .int .i64 wi, .slice A2 n2 c2, .bool ag] 35) = wx at *
  have hW : Hid (∀ W, Fr No wx W → W.cell? ⟨D, 0, none⟩ = some (.int .i64 id) ∧ W.cell? ⟨D, 1, none⟩ = some (.int .i64 x) ∧ W.cell? ⟨D, 2, none⟩ = some (.int .i64 y) ∧ W.cell? ⟨D, 3, none⟩ = some (.slice A1 n1 c1) ∧ W.cell? ⟨D, 4, none⟩ = some (.int .i64 wi) ∧ W.cell? ⟨D, 5, none⟩ = some (.slice A2 n2 c2) ∧ W.cell? ⟨D, 6, none⟩ = some (.bool ag)) := Lib.hid (fun W hW => cells7 (blk_no hW hb0))
  obtain ⟨g0, g1, g2, g3, g4, g5, g6⟩ := hW.out wx (Fr.refl No wx)
  clear hb0
  by_cases hw : wi = -1
  · have HE := Lib.hid (HE1.out hw)
    clear HE1 HE2
    subst hw
    clear HB HI
    by_cases hn : n2 = 0
    · subst hn
      cases ag <;> (go_wp2_with fail; go_ret; exact ⟨by rw [HE.out]; rfl, HF0.out⟩)
    · have hn' : ¬ ((n2 : Int) = 0) := by omega
      go_wp2_with fail
      go_ret
      exact ⟨by rw [HE.out, decide_eq_false hn']; rfl, HF0.out⟩
  · have HE := Lib.hid (HE2.out hw)
    clear HE1 HE2
    obtain ⟨p1, h1⟩ : ∃ p, idB wi = p := ⟨_, rfl⟩
    obtain ⟨p3, h3⟩ : ∃ p, (decide ((n2 : Int) = 8) && rgt l2) = p := ⟨_, rfl⟩
    rw [h1] at HI HE
    rw [h3] at HB HE
    clear h1 h3
    have HF := Lib.hid (Fr.refl No wx)
    cases p1 with
    | false =>
      go_wp2_with (go_at_call 72; refine (HI.out _).mono ?_; rintro e w1 ⟨rfl, rfl⟩)
      go_ret
      exact ⟨by rw [HE.out]; rfl, HF0.out⟩
    | true =>
      by_cases hi : wi = id
      · rw [decide_eq_true hi] at HE
        subst hi
        go_wp2_with (go_at_call 72; refine (HI.out _).mono ?_; rintro e w1 ⟨rfl, rfl⟩)
        go_ret
        exact ⟨by rw [HE.out]; rfl, HF0.out⟩
      · rw [decide_eq_false hi] at HE
        go_wp2_with (first
          | (go_at_call 72; refine (HI.out _).mono ?_; rintro e w1 ⟨rfl, rfl⟩)
          | (go_at_call 73; refine (HB.out _ HF0.out).mono ?_; rintro e w1 ⟨rfl, hf⟩; have HF1 := Lib.hid hf; clear hf))
        go_ret
        have e : (wi != id) = true := by simp [hi]
        exact ⟨by show Ending.returned (.bool (wi != id && p3)) = _; rw [e, HE.out]; rfl, HF0.out.no_trans HF1.out⟩
set_option maxRecDepth 100000 in
set_option maxHeartbeats 1600000 in
theorem rplayer_any {P : Pl} (ht : ItT w) (h : InP w P) {size : Int} (hs0 : 1 ≤ size) (hs1 : size ≤ 16) : Calls Tryd.prog 38 #[P.val, .int .i64 size] w fun e w' => e = .returned (.bool (rgtP size P.py)) ∧ Fr No w w' := by
  have HB := Lib.hid (fun W (hW : Fr No w W) => right_big (ht.no hW) (h.rd.no hW).r1 h.b1 P.c1 h.s1 8)
  have HL : Hid (P.l1.length = P.n1) := Lib.hid h.rd.r1.1
  have HI := Lib.hid (fun W => isid_any P.id W)
  have HX := Lib.hid (fun W => wwithin_any P.x (size * 8) W)
  have HY := Lib.hid (fun W => wwithin_any P.y (size * 8) W)
  have HD := Lib.hid (fun W (hW : Fr No w W) => deal_any (ht.no hW) (h.no hW))
  have HE : Hid (∀ p1 p2 p3 p4 p5, idB P.id = p1 → winB P.x (size * 8) = p2 → winB P.y (size * 8) = p3 → (decide ((P.n1 : Int) = 8) && rgt P.l1) = p4 → dealB P.py = p5 → rgtP size P.py = (p1 && p2 && p3 && p4 && p5)) := Lib.hid (fun p1 p2 p3 p4 p5 h1 h2 h3 h4 h5 => by
    unfold rgtP
    have e1 : rgt8 P.py.bag = p4 := by
      show rgt8 P.l1 = p4
      unfold rgt8
      rw [HL.out, h4]
    have q1 : idB P.py.id = p1 := h1
    have q2 : winB P.py.x (size * 8) = p2 := h2
    have q3 : winB P.py.y (size * 8) = p3 := h3
    rw [e1, q1, q2, q3, h5])
  obtain ⟨p5, h5⟩ : ∃ p, dealB P.py = p := ⟨_, rfl⟩
  obtain ⟨p4, h4⟩ : ∃ p, (decide ((P.n1 : Int) = 8) && rgt P.l1) = p := ⟨_, rfl⟩
  obtain ⟨p1, h1⟩ : ∃ p, idB P.id = p := ⟨_, rfl⟩
  obtain ⟨p2, h2⟩ : ∃ p, winB P.x (size * 8) = p := ⟨_, rfl⟩
  obtain ⟨p3, h3⟩ : ∃ p, winB P.y (size * 8) = p := ⟨_, rfl⟩
  have HE2 := Lib.hid (HE.out p1 p2 p3 p4 p5 h1 h2 h3 h4 h5)
  rw [h5] at HD
  rw [h4] at HB
  rw [h1] at HI
  rw [h2] at HX
  rw [h3] at HY
  clear HE h1 h2 h3 h4 h5 HL ht h
  obtain ⟨id, x, y, A1, n1, c1, l1, wi, A2, n2, c2, l2, ag⟩ := P
  dsimp only [Pl.val] at *
  obtain ⟨R, hR⟩ : ∃ R, rgtP size (Pl.py ⟨id, x, y, A1, n1, c1, l1, wi, A2, n2, c2, l2, ag⟩) = R := ⟨_, rfl⟩
  rw [hR] at HE2 ⊢
  clear hR
  have hmul : IntKind.i64.wrap (size * 8) = size * 8 := by rw [IntKind.wrap_i64]; omega
  have hb0 := heap_alloc_new w (.cells #[.int .i64 id, .int .i64 x, .int .i64 y, .slice A1 n1 c1, .int .i64 wi, .slice A2 n2 c2, .bool ag] 35)
  have HF0 := Lib.hid (Fr.alloc No w (.cells #[.int .i64 id, .int .i64 x, .int .i64 y, .slice A1 n1 c1, .int .i64 wi, .slice A2 n2 c2, .bool ag] 35))
  go_enter Tryd.func38, Tryd.ntmps38
  go_upto_region 1 with fail
  obtain ⟨D, hD⟩ : ∃ D, w.heap.size = D := ⟨_, rfl⟩
  rw [hD] at hb0 ⊢
  clear hD
  generalize w.alloc (.cells #[.int .i64 id, .int .i64 x, .int .i64 y, .slice A1 n1 c1, .int .i64 wi, .slice A2 n2 c2, .bool ag] 35) = wx at *
  have hW : Hid (∀ W, Fr No wx W → W.cell? ⟨D, 0, none⟩ = some (.int .i64 id) ∧ W.cell? ⟨D, 1, none⟩ = some (.int .i64 x) ∧ W.cell? ⟨D, 2, none⟩ = some (.int .i64 y) ∧ W.cell? ⟨D, 3, none⟩ = some (.slice A1 n1 c1) ∧ W.cell? ⟨D, 4, none⟩ = some (.int .i64 wi) ∧ W.cell? ⟨D, 5, none⟩ = some (.slice A2 n2 c2) ∧ W.cell? ⟨D, 6, none⟩ = some (.bool ag)) := Lib.hid (fun W hW => cells7 (blk_no hW hb0))
  obtain ⟨g0, g1, g2, g3, g4, g5, g6⟩ := hW.out wx (Fr.refl No wx)
  clear hb0
  have HF := Lib.hid (Fr.refl No wx)
  cases p1 with
  | false =>
    go_wp2_with (first
      | (go_at_call 72; refine (HI.out _).mono ?_; rintro e w1 ⟨rfl, rfl⟩))
    go_ret
    exact ⟨by rw [HE2.out]; rfl, HF0.out.no_trans HF.out⟩
  | true =>
  cases p2 with
  | false =>
    go_wp2_with (first
      | (go_at_call 72; refine (HI.out _).mono ?_; rintro e w1 ⟨rfl, rfl⟩)
      | (go_at_call_of 50 (Value.int .i64 x); refine (HX.out _).mono ?_; rintro e w1 ⟨rfl, rfl⟩))
    go_ret
    exact ⟨by rw [HE2.out]; rfl, HF0.out.no_trans HF.out⟩
  | true =>
  cases p3 with
  | false =>
    go_wp2_with (first
      | (go_at_call 72; refine (HI.out _).mono ?_; rintro e w1 ⟨rfl, rfl⟩)
      | (go_at_call_of 50 (Value.int .i64 x); refine (HX.out _).mono ?_; rintro e w1 ⟨rfl, rfl⟩)
      | (go_at_call_of 50 (Value.int .i64 y); refine (HY.out _).mono ?_; rintro e w1 ⟨rfl, rfl⟩))
    go_ret
    exact ⟨by rw [HE2.out]; rfl, HF0.out.no_trans HF.out⟩
  | true =>
  cases p4 with
  | false =>
    go_wp2_with (first
      | (go_at_call 72; refine (HI.out _).mono ?_; rintro e w1 ⟨rfl, rfl⟩)
      | (go_at_call_of 50 (Value.int .i64 x); refine (HX.out _).mono ?_; rintro e w1 ⟨rfl, rfl⟩)
      | (go_at_call_of 50 (Value.int .i64 y); refine (HY.out _).mono ?_; rintro e w1 ⟨rfl, rfl⟩)
      | (go_at_call 73; refine (HB.out _ (HF0.out.no_trans HF.out)).mono ?_; rintro e w1 ⟨rfl, hf⟩; clear g0 g1 g2 g3 g4 g5 g6; have HF := Lib.hid (HF.out.no_trans hf); obtain ⟨g0, g1, g2, g3, g4, g5, g6⟩ := hW.out _ HF.out; clear hf))
    go_ret
    exact ⟨by rw [HE2.out]; rfl, HF0.out.no_trans HF.out⟩
  | true =>
  go_wp2_with (first
    | (go_at_call 72; refine (HI.out _).mono ?_; rintro e w1 ⟨rfl, rfl⟩)
    | (go_at_call_of 50 (Value.int .i64 x); refine (HX.out _).mono ?_; rintro e w1 ⟨rfl, rfl⟩)
    | (go_at_call_of 50 (Value.int .i64 y); refine (HY.out _).mono ?_; rintro e w1 ⟨rfl, rfl⟩)
    | (go_at_call 73; refine (HB.out _ (HF0.out.no_trans HF.out)).mono ?_; rintro e w1 ⟨rfl, hf⟩; clear g0 g1 g2 g3 g4 g5 g6; have HF := Lib.hid (HF.out.no_trans hf); obtain ⟨g0, g1, g2, g3, g4, g5, g6⟩ := hW.out _ HF.out; clear hf)
    | (go_at_call 74; refine (HD.out _ (HF0.out.no_trans HF.out)).mono ?_; rintro e w1 ⟨rfl, hf⟩; have HF := Lib.hid (HF.out.no_trans hf); clear hf))
  go_ret
  exact ⟨by rw [HE2.out]; rfl, HF0.out.no_trans HF.out⟩
end
end Go.Proofs.YtjdhbgdpmojobaaDoor

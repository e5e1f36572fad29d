/-
  Whether a chunk is the one at first; a new world; a player of a world. No statement of the seat is proved here.
-/
import Derived.Test.YtjdhbgdpmojobaaDoorWdJ
import Derived.Test.YtjdhbgdpmojobaaDoorWdF
namespace Go.Proofs.YtjdhbgdpmojobaaDoor
open Go.RowKit Go.Deep

section
variable {w w' : World} {A B : Option Addr} {n m c e' lo : Nat}
set_option maxRecDepth 100000 in
set_option maxHeartbeats 1600000 in
theorem eqI_any {l k : List Nat} (hx : RwK w 1 (ItAt w) A n l) (hy : RwK w 1 (ItAt w) B m k) (c c' : Nat) (hn : n ≤ 9223372036854775807) : Calls Tryd.prog 63 #[.slice A n c, .slice B m c'] w fun e w' => e = .returned (.bool (decide (l = k))) ∧ Fr No w w' := by
  have HX := Lib.hid (fun W (hW : Fr No w W) => RwK.no (At := ItAt) (fun _ _ _ hb => ItAt.no hW _ _ _ hb) hW.size hx)
  have HY := Lib.hid (fun W (hW : Fr No w W) => RwK.no (At := ItAt) (fun _ _ _ hb => ItAt.no hW _ _ _ hb) hW.size hy)
  have HL := Lib.hid hx.1
  have HM := Lib.hid hy.1
  clear hx hy
  by_cases hnm : n = m
  · subst hnm
    have HT : Hid ((∀ j (h : j < l.length) (h' : j < k.length), l[j] = k[j]) → decide (l = k) = true) := Lib.hid (fun h => decide_eq_true (List.ext_getElem (by rw [HL.out, HM.out]) h))
    have HN : Hid (∀ j (h : j < l.length) (h' : j < k.length), ¬ l[j] = k[j] → decide (l = k) = false) := Lib.hid (fun j h h' hne => decide_eq_false (fun e => hne (by subst e; rfl)))
    obtain ⟨R, hR⟩ : ∃ R, decide (l = k) = R := ⟨_, rfl⟩
    rw [hR] at HT HN ⊢
    clear hR
    go_enter Tryd.func63, Tryd.ntmps63
    go_wp2_with fail
    go_loopw [13] (fun v13 wr => ∃ i : Nat, i ≤ n ∧ v13 = .int .i64 (i : Int) ∧ (∀ j (h : j < l.length) (h' : j < k.length), j < i → l[j] = k[j]) ∧ Fr No w wr) (fun v13 _ => n - (intOf v13).toNat)
    case atStart => exact ⟨0, by omega, rfl, fun _ _ _ h => absurd h (by omega), Fr.refl _ _⟩
    case round =>
      obtain ⟨i, hi, rfl, ha, hf⟩ := hrel
      have HF := Lib.hid hf
      have HA := Lib.hid ha
      clear ha hf
      by_cases hlt : i < n
      · have hil : i < l.length := by rw [HL.out]; exact hlt
        have hik : i < k.length := by rw [HM.out]; exact hlt
        obtain ⟨b, o, rfl, _, hc⟩ := (HX.out wr HF.out).2 (by omega)
        obtain ⟨b', o', rfl, _, hc'⟩ := (HY.out wr HF.out).2 (by omega)
        have y0 : wr.cell? ⟨b, o + i, none⟩ = some (.int .u8 (l[i] : Int)) := by have := hc i hil; rw [Nat.mul_one] at this; exact this
        have y1 : wr.cell? ⟨b', o' + i, none⟩ = some (.int .u8 (k[i] : Int)) := by have := hc' i hik; rw [Nat.mul_one] at this; exact this
        clear hc hc'
        have hwi : IntKind.i64.wrap ((i : Int) + 1) = ((i + 1 : Nat) : Int) := by
          rw [show ((i : Int) + 1) = ((i + 1 : Nat) : Int) by omega]
          exact IntWalk.i64_in _ (by omega)
        have e0 : (i : Int) < (n : Int) := by omega
        have e1 : (0 : Int) ≤ (i : Int) := by omega
        have HG : Hid (l[i] = k[i] → ∀ j (h : j < l.length) (h' : j < k.length), j < i + 1 → l[j] = k[j]) := Lib.hid (fun hq j h h' hj => by
          by_cases e : j = i
          · subst e; exact hq
          · exact HA.out j h h' (by omega))
        have HB := Lib.hid (HN.out i hil hik)
        obtain ⟨p, hp⟩ : ∃ p, l[i] = p := ⟨_, rfl⟩
        obtain ⟨q, hq⟩ : ∃ q, k[i] = q := ⟨_, rfl⟩
        rw [hp] at y0 HG HB
        rw [hq] at y1 HG HB
        clear hp hq HA
        by_cases e : p = q
        · subst e
          have HG2 := Lib.hid (HG.out rfl)
          clear HG HB
          generalize (p : Int) = z at *
          go_wp2_with fail
          go_quiet (fail)
          go_wp2_with fail
          go_roundw
          case rel => exact ⟨i + 1, by omega, by go_num, HG2.out, HF.out.no_trans (Fr.drewN No _ _)⟩
          case measure => simp [intOf]; omega
        · have HB2 := Lib.hid (HB.out e)
          have e2 : ((p : Int) != (q : Int)) = true := by simp; omega
          clear HG HB
          go_wp2_with fail
          go_quiet (fail)
          go_wp2_with fail
          go_ret
          exact ⟨by rw [HB2.out]; rfl, HF.out.no_trans (Fr.drewN No _ _)⟩
      · have hin : i = n := by omega
        subst hin
        go_wp2_with fail
        go_ret
        exact ⟨by rw [HT.out (fun j h h' => HA.out j h h' (by have := HL.out; omega))]; rfl, HF.out⟩
  · have e0 : decide (l = k) = false := decide_eq_false (fun e => hnm (by rw [← HL.out, ← HM.out, e]))
    have e1 : ((n : Int) != (m : Int)) = true := by simp; omega
    rw [e0]
    clear e0
    go_enter Tryd.func63, Tryd.ntmps63
    go_wp2_with fail
    go_ret
    exact ⟨rfl, Fr.refl _ _⟩
/-- Is a chunk (of heaps, cells) the one at first? -/
def firstB (sd : W64) (d : Ck) : Bool := d.hs.isEmpty && decide (d.cs = cellsL sd d.x.toNat d.y.toNat)
set_option maxRecDepth 100000 in
set_option maxHeartbeats 1600000 in
theorem isfirst_any {C : Ch} (h : RdC w C) (hn1 : C.n1 ≤ 9223372036854775807) (hx0 : 0 ≤ C.x) (hx1 : C.x < 16) (hy0 : 0 ≤ C.y) (hy1 : C.y < 16) (sd : W64) : Calls Tryd.prog 32 #[C.val, u64v sd] w fun e w' => e = .returned (.bool (firstB sd C.ck)) ∧ Fr No w w' := by
  have HG : Hid (∀ W, Calls Tryd.prog 26 #[u64v sd, .int .i64 C.x, .int .i64 C.y] W fun e w' => ∃ A c, e = .returned (.agg #[.int .i64 C.x, .int .i64 C.y, .slice A 64 c, .slice none 0 0, .slice none 0 0]) ∧ RwK w' 1 (ItAt w') A 64 (cellsL sd C.x.toNat C.y.toNat) ∧ Fr No W w') := Lib.hid (fun W => by
    have := gchunk_in W sd C.x.toNat C.y.toNat (by omega) (by omega)
    rw [Int.toNat_of_nonneg hx0, Int.toNat_of_nonneg hy0] at this
    exact this.mono (fun e w' ⟨A, c, h1, h2, h3⟩ => ⟨A, c, h1, rc_it (own_rc h2), h3⟩))
  have HEQ : Hid (∀ W B c', Fr No w W → RwK W 1 (ItAt W) B 64 (cellsL sd C.x.toNat C.y.toNat) → Calls Tryd.prog 63 #[.slice C.A1 C.n1 C.c1, .slice B 64 c'] W fun e w' => e = .returned (.bool (decide (C.cs = cellsL sd C.x.toNat C.y.toNat))) ∧ Fr No W w') := Lib.hid (fun W B c' hW hB => eqI_any (h.no hW).r1 hB C.c1 c' hn1)
  have HE1 : Hid (C.n2 = 0 → firstB sd C.ck = decide (C.cs = cellsL sd C.x.toNat C.y.toNat)) := Lib.hid (fun h2 => by
    have := h.r2.1
    have e : C.hs = [] := List.eq_nil_of_length_eq_zero (by omega)
    show (C.hs.isEmpty && _) = _
    rw [e]; rfl)
  have HE2 : Hid (¬ C.n2 = 0 → firstB sd C.ck = false) := Lib.hid (fun h2 => by
    have := h.r2.1
    show (C.hs.isEmpty && _) = _
    cases hh : C.hs with
    | nil => rw [hh] at this; exact absurd this.symm h2
    | cons x l => rfl)
  obtain ⟨p, hp⟩ : ∃ p, decide (C.cs = cellsL sd C.x.toNat C.y.toNat) = p := ⟨_, rfl⟩
  rw [hp] at HEQ HE1
  obtain ⟨L, hL⟩ : ∃ L, cellsL sd C.x.toNat C.y.toNat = L := ⟨_, rfl⟩
  rw [hL] at HG HEQ
  obtain ⟨R, hR⟩ : ∃ R, firstB sd C.ck = R := ⟨_, rfl⟩
  rw [hR] at HE1 HE2 ⊢
  obtain ⟨sv, hsv⟩ : ∃ sv, (sd.toNat : Int) = sv := ⟨_, rfl⟩
  unfold u64v at *
  rw [hsv] at HG ⊢
  clear hp hL hR hsv h hn1
  obtain ⟨x, y, A1, n1, c1, cs, A2, n2, c2, hps, A3, n3, c3, bs⟩ := C
  dsimp only [Ch.val] at *
  have hb0 := heap_alloc_new w (.cells #[.int .i64 x, .int .i64 y, .slice A1 n1 c1, .slice A2 n2 c2, .slice A3 n3 c3] 31)
  have HF0 := Lib.hid (Fr.alloc No w (.cells #[.int .i64 x, .int .i64 y, .slice A1 n1 c1, .slice A2 n2 c2, .slice A3 n3 c3] 31))
  go_enter Tryd.func32, Tryd.ntmps32
  go_upto_region 1 with fail
  obtain ⟨D, hD⟩ : ∃ D, w.heap.size = D := ⟨_, rfl⟩
  rw [hD] at hb0 ⊢
  clear hD
  generalize w.alloc (.cells #[.int .i64 x, .int .i64 y, .slice A1 n1 c1, .slice A2 n2 c2, .slice A3 n3 c3] 31) = wx at *
  have hW : Hid (∀ W, Fr No wx W → W.cell? ⟨D, 0, none⟩ = some (.int .i64 x) ∧ W.cell? ⟨D, 1, none⟩ = some (.int .i64 y) ∧ W.cell? ⟨D, 2, none⟩ = some (.slice A1 n1 c1) ∧ W.cell? ⟨D, 3, none⟩ = some (.slice A2 n2 c2)) := Lib.hid (fun W hW => ⟨(cells5 (blk_no hW hb0)).1, (cells5 (blk_no hW hb0)).2.1, (cells5 (blk_no hW hb0)).2.2.1, (cells5 (blk_no hW hb0)).2.2.2.1⟩)
  have d0 := hW.out wx (Fr.refl No wx)
  have dd := hW.out wx.drew (Fr.drew No wx)
  obtain ⟨g0, g1, g2, g3⟩ := d0
  have d0 := hW.out wx (Fr.refl No wx)
  clear hb0
  by_cases hn2 : n2 = 0
  · subst hn2
    have HE := Lib.hid (HE1.out rfl)
    clear HE1 HE2
    go_region_held3 (fun W => W.cell? ⟨D, 0, none⟩ = some (.int .i64 x) ∧ W.cell? ⟨D, 1, none⟩ = some (.int .i64 y) ∧ W.cell? ⟨D, 2, none⟩ = some (.slice A1 n1 c1) ∧ W.cell? ⟨D, 3, none⟩ = some (.slice A2 0 c2))
      (first | exact d6 | exact d5 | exact dd | exact d0)
      (first
        | (go_at_call 26; refine (HG.out _).mono ?_; rintro e w5 ⟨B, c', rfl, hB, hf⟩; have HB := Lib.hid hB; have HF5 := Lib.hid ((Fr.drew No wx).no_trans hf); have d5 := hW.out w5 HF5.out; have hfd := fun W => gfld (.int .i64 x) (.int .i64 y) (.slice B 64 c') (.slice none 0 0) (.slice none 0 0) W; clear hf hB)
        | (go_at_call 63; refine (HEQ.out _ _ _ (HF0.out.no_trans HF5.out) HB.out).mono ?_; rintro e w6 ⟨rfl, hf⟩; have HF6 := Lib.hid (HF5.out.no_trans hf); have d6 := hW.out w6 HF6.out; clear hf))
    go_wp2_with fail
    go_ret
    exact ⟨by rw [HE.out]; rfl, HF0.out.no_trans HF6.out⟩
  · have HE := Lib.hid (HE2.out hn2)
    have e0 : decide ((n2 : Int) = 0) = false := decide_eq_false (by omega)
    have e1 : ((n2 : Int) == 0) = false := by rw [beq_eq_false_iff_ne]; omega
    clear HE1 HE2 HG HEQ
    go_quiet (fail)
    go_wp2_with fail
    go_ret
    exact ⟨by rw [HE.out]; rfl, HF0.out.no_trans (Fr.drewN No _ _)⟩
end
end Go.Proofs.YtjdhbgdpmojobaaDoor

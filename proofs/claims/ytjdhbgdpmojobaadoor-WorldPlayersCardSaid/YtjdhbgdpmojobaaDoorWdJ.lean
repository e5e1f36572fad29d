/-
  Whether a world is right: the walks. No statement of the seat is proved here.
-/
import Derived.Test.YtjdhbgdpmojobaaDoorWdI
namespace Go.Proofs.YtjdhbgdpmojobaaDoor
open Go.RowKit Go.Deep

section
variable {w w' : World} {A : Option Addr} {n c lo : Nat}
set_option maxRecDepth 100000 in
set_option maxHeartbeats 1600000 in
theorem rchunk_any {C : Ch} (ht : ItT w) (h : InC w C) (size : Int) : Calls Tryd.prog 28 #[C.val, .int .i64 size] w fun e w' => e = .returned (.bool (rgtCW size C.ck)) ∧ Fr No w w' := by
  have HC := Lib.hid (fun W (hW : Fr No w W) => cright_any (ht.no hW) (h.rd.no hW) h.bt h.sm h.cap)
  have HE : Hid (∀ p1 p2 p3, rgtC C.ck = p1 → decide (C.x < size) = p2 → decide (C.y < size) = p3 → rgtCW size C.ck = (p1 && p2 && p3)) := Lib.hid (fun p1 p2 p3 h1 h2 h3 => by subst h1 h2 h3; rfl)
  obtain ⟨p1, h1⟩ : ∃ p, rgtC C.ck = p := ⟨_, rfl⟩
  have HE2 := Lib.hid (fun p2 p3 h2 h3 => HE.out p1 p2 p3 h1 h2 h3)
  rw [h1] at HC
  clear HE h1 ht h
  obtain ⟨x, y, A1, n1, c1, cs, A2, n2, c2, hps, A3, n3, c3, bs⟩ := C
  dsimp only [Ch.val] at *
  obtain ⟨R, hR⟩ : ∃ R, rgtCW size (Ch.ck ⟨x, y, A1, n1, c1, cs, A2, n2, c2, hps, A3, n3, c3, bs⟩) = R := ⟨_, rfl⟩
  rw [hR] at HE2 ⊢
  clear hR
  have hb0 := heap_alloc_new w (.cells #[.int .i64 x, .int .i64 y, .slice A1 n1 c1, .slice A2 n2 c2, .slice A3 n3 c3] 31)
  have HF0 := Lib.hid (Fr.alloc No w (.cells #[.int .i64 x, .int .i64 y, .slice A1 n1 c1, .slice A2 n2 c2, .slice A3 n3 c3] 31))
  go_enter Tryd.func28, Tryd.ntmps28
  go_upto_region 1 with fail
  obtain ⟨D, hD⟩ : ∃ D, w.heap.size = D := ⟨_, rfl⟩
  rw [hD] at hb0 ⊢
  clear hD
  generalize w.alloc (.cells #[.int .i64 x, .int .i64 y, .slice A1 n1 c1, .slice A2 n2 c2, .slice A3 n3 c3] 31) = wx at *
  have hW : Hid (∀ W, Fr No wx W → W.cell? ⟨D, 0, none⟩ = some (.int .i64 x) ∧ W.cell? ⟨D, 1, none⟩ = some (.int .i64 y) ∧ W.cell? ⟨D, 2, none⟩ = some (.slice A1 n1 c1) ∧ W.cell? ⟨D, 3, none⟩ = some (.slice A2 n2 c2) ∧ W.cell? ⟨D, 4, none⟩ = some (.slice A3 n3 c3)) := Lib.hid (fun W hW => cells5 (blk_no hW hb0))
  obtain ⟨g0, g1, g2, g3, g4⟩ := hW.out wx (Fr.refl No wx)
  clear hb0
  cases p1 with
  | false =>
    go_wp2_with (go_at_call 59; refine (HC.out _ HF0.out).mono ?_; rintro e w3 ⟨rfl, hf⟩; have HF := Lib.hid hf; clear hf)
    go_ret
    exact ⟨by rw [HE2.out _ _ rfl rfl]; rfl, HF0.out.no_trans HF.out⟩
  | true =>
    by_cases hx : x < size
    · by_cases hy : y < size
      · have HE := Lib.hid (HE2.out _ _ (decide_eq_true hx) (decide_eq_true hy))
        clear HE2
        go_wp2_with (go_at_call 59; refine (HC.out _ HF0.out).mono ?_; rintro e w3 ⟨rfl, hf⟩; have HF := Lib.hid hf; obtain ⟨k0, k1, k2, k3, k4⟩ := hW.out _ hf; clear hf)
        go_ret
        exact ⟨by rw [HE.out]; rfl, HF0.out.no_trans HF.out⟩
      · have HE := Lib.hid (HE2.out _ _ (decide_eq_true hx) rfl)
        clear HE2
        go_wp2_with (go_at_call 59; refine (HC.out _ HF0.out).mono ?_; rintro e w3 ⟨rfl, hf⟩; have HF := Lib.hid hf; obtain ⟨k0, k1, k2, k3, k4⟩ := hW.out _ hf; clear hf)
        go_ret
        exact ⟨by rw [HE.out]; rfl, HF0.out.no_trans HF.out⟩
    · have HE := Lib.hid (HE2.out _ _ (decide_eq_false hx) rfl)
      clear HE2
      go_wp2_with (go_at_call 59; refine (HC.out _ HF0.out).mono ?_; rintro e w3 ⟨rfl, hf⟩; have HF := Lib.hid hf; obtain ⟨k0, k1, k2, k3, k4⟩ := hW.out _ hf; clear hf)
      go_ret
      exact ⟨by rw [HE.out]; rfl, HF0.out.no_trans HF.out⟩
set_option maxRecDepth 100000 in
theorem rc1w_any {C : Ch} (ht : ItT w) (h : InC w C) {S : Nat} {size : Int} (hS : w.heap[S]? = some (.cells #[.int .i64 size] 3 (0, 0))) : Calls Tryd.prog 51 #[.agg #[.int .i64 C.x, .int .i64 C.y, .slice C.A1 C.n1 C.c1, .slice C.A2 C.n2 C.c2, .slice C.A3 C.n3 C.c3], .pointer (some ⟨S, 0, none⟩)] w fun e w' => e = .returned (.bool (!rgtCW size C.ck)) ∧ Fr No w w' := by
  have HC : Hid (∀ W, Fr No w W → Calls Tryd.prog 28 #[.agg #[.int .i64 C.x, .int .i64 C.y, .slice C.A1 C.n1 C.c1, .slice C.A2 C.n2 C.c2, .slice C.A3 C.n3 C.c3], .int .i64 size] W fun e w' => e = .returned (.bool (rgtCW size C.ck)) ∧ Fr No W w') := Lib.hid (fun W hW => rchunk_any (ht.no hW) (h.no hW) size)
  have hb0 := heap_alloc_new w (.cells #[.int .i64 C.x, .int .i64 C.y, .slice C.A1 C.n1 C.c1, .slice C.A2 C.n2 C.c2, .slice C.A3 C.n3 C.c3] 31)
  have HF0 := Lib.hid (Fr.alloc No w (.cells #[.int .i64 C.x, .int .i64 C.y, .slice C.A1 C.n1 C.c1, .slice C.A2 C.n2 C.c2, .slice C.A3 C.n3 C.c3] 31))
  have s0 := (blk_cell (blk_no HF0.out hS) 0).trans (by simp : _ = some (Value.int .i64 size))
  obtain ⟨g0, g1, g2, g3, g4⟩ := cells5 hb0
  obtain ⟨p, hp⟩ : ∃ p, rgtCW size C.ck = p := ⟨_, rfl⟩
  rw [hp] at HC ⊢
  clear hb0 hp hS ht h
  generalize C.x = x at *
  generalize C.y = y at *
  generalize C.A1 = A1 at *
  generalize C.n1 = n1 at *
  generalize C.c1 = c1 at *
  generalize C.A2 = A2 at *
  generalize C.n2 = n2 at *
  generalize C.c2 = c2 at *
  generalize C.A3 = A3 at *
  generalize C.n3 = n3 at *
  generalize C.c3 = c3 at *
  go_enter Tryd.func51, Tryd.ntmps51
  go_wp2_with (refine (HC.out _ HF0.out).mono ?_; rintro e w3 ⟨rfl, hf⟩; have HF := Lib.hid hf; clear hf)
  go_ret
  exact ⟨rfl, HF0.out.no_trans HF.out⟩
set_option maxRecDepth 100000 in
theorem rp1w_any {C : Pl} (ht : ItT w) (h : InP w C) {S : Nat} {size : Int} (hs0 : 1 ≤ size) (hs1 : size ≤ 16) (hS : w.heap[S]? = some (.cells #[.int .i64 size] 3 (0, 0))) : Calls Tryd.prog 54 #[.agg #[.int .i64 C.id, .int .i64 C.x, .int .i64 C.y, .slice C.A1 C.n1 C.c1, .int .i64 C.wi, .slice C.A2 C.n2 C.c2, .bool C.ag], .pointer (some ⟨S, 0, none⟩)] w fun e w' => e = .returned (.bool (!rgtP size C.py)) ∧ Fr No w w' := by
  have HC : Hid (∀ W, Fr No w W → Calls Tryd.prog 38 #[.agg #[.int .i64 C.id, .int .i64 C.x, .int .i64 C.y, .slice C.A1 C.n1 C.c1, .int .i64 C.wi, .slice C.A2 C.n2 C.c2, .bool C.ag], .int .i64 size] W fun e w' => e = .returned (.bool (rgtP size C.py)) ∧ Fr No W w') := Lib.hid (fun W hW => rplayer_any (ht.no hW) (h.no hW) hs0 hs1)
  have hb0 := heap_alloc_new w (.cells #[.int .i64 C.id, .int .i64 C.x, .int .i64 C.y, .slice C.A1 C.n1 C.c1, .int .i64 C.wi, .slice C.A2 C.n2 C.c2, .bool C.ag] 35)
  have HF0 := Lib.hid (Fr.alloc No w (.cells #[.int .i64 C.id, .int .i64 C.x, .int .i64 C.y, .slice C.A1 C.n1 C.c1, .int .i64 C.wi, .slice C.A2 C.n2 C.c2, .bool C.ag] 35))
  have s0 := (blk_cell (blk_no HF0.out hS) 0).trans (by simp : _ = some (Value.int .i64 size))
  obtain ⟨g0, g1, g2, g3, g4, g5, g6⟩ := cells7 hb0
  obtain ⟨p, hp⟩ : ∃ p, rgtP size C.py = p := ⟨_, rfl⟩
  rw [hp] at HC ⊢
  clear hb0 hp hS ht h
  generalize C.id = id at *
  generalize C.x = x at *
  generalize C.y = y at *
  generalize C.wi = wi at *
  generalize C.ag = ag at *
  generalize C.A1 = A1 at *
  generalize C.n1 = n1 at *
  generalize C.c1 = c1 at *
  generalize C.A2 = A2 at *
  generalize C.n2 = n2 at *
  generalize C.c2 = c2 at *
  go_enter Tryd.func54, Tryd.ntmps54
  go_wp2_with (refine (HC.out _ HF0.out).mono ?_; rintro e w3 ⟨rfl, hf⟩; have HF := Lib.hid hf; clear hf)
  go_ret
  exact ⟨rfl, HF0.out.no_trans HF.out⟩
theorem Rgt.plc {C : Ch} (h : Rgt C.ck) : 0 ≤ C.x ∧ C.x < 16 ∧ 0 ≤ C.y ∧ C.y < 16 := ⟨h.x0, h.x1, h.y0, h.y1⟩
set_option maxRecDepth 100000 in
theorem rchunks_any {l : List Ch} (ht : ItT w) (hx : RdCs w A n l) (hi : ∀ C ∈ l, InC w C) (c : Nat) (hn : n ≤ 9223372036854775807) (size : Int) : Calls Tryd.prog 24 #[.slice A n c, .int .i64 size] w fun e w' => e = .returned (.bool (rgtCs size (l.map Ch.ck))) ∧ Fr No w w' := by
  have hb := heap_alloc_new w (.cells #[.int .i64 size] 3)
  have hf0 := Fr.alloc No w (.cells #[.int .i64 size] 3)
  have HF0 := Lib.hid hf0
  have HH := Lib.hid (has_ck (fun C => !rgtCW size C.ck) (hx.no hf0) c hn w.heap.size (fun j hj W hW => rc1w_any (ht.no (hf0.no_trans hW)) ((hi _ (List.getElem_mem hj)).no (hf0.no_trans hW)) (blk_no hW hb)))
  have HE : Hid (rgtCs size (l.map Ch.ck) = (!(l.any fun C => !rgtCW size C.ck) && decide (Rise (l.map fun C => plcK C.ck)))) := Lib.hid (by
    unfold rgtCs
    rw [any_not, List.all_map, List.map_map]
    rfl)
  have HR : Hid ((l.any fun C => !rgtCW size C.ck) = false → ∀ W, Fr No w W → Calls Tryd.prog 53 #[.slice A n c, .func (.func 30) #[] #[]] W fun e w' => e = .returned (.bool (decide (Rise (l.map (fun C => plcK C.ck))))) ∧ Fr No W w') := Lib.hid (fun hq W hW => rises_ck (hx.no hW) (fun C hC => by
    have := List.any_eq_false.1 hq C hC
    simp only [Bool.not_eq_true', Bool.not_eq_false] at this
    exact (rgtCW_iff.1 this).1.plc) c hn)
  obtain ⟨q, hq⟩ : ∃ q, decide (Rise (l.map fun C => plcK C.ck)) = q := ⟨_, rfl⟩
  obtain ⟨p, hp⟩ : ∃ p, (l.any fun C => !rgtCW size C.ck) = p := ⟨_, rfl⟩
  rw [hp] at HH HE HR
  rw [hq] at HE HR
  obtain ⟨R, hR⟩ : ∃ R, rgtCs size (l.map Ch.ck) = R := ⟨_, rfl⟩
  rw [hR] at HE ⊢
  clear ht hx hi hb hf0 hp hq hR
  cases p with
  | true =>
    clear HR
    go_enter Tryd.func24, Tryd.ntmps24
    go_wp2_with (go_at_call 52; refine HH.out.mono ?_; rintro e w3 ⟨rfl, hf⟩; have HF := Lib.hid hf; clear hf)
    go_ret
    exact ⟨by rw [HE.out]; rfl, HF0.out.no_trans HF.out⟩
  | false =>
    have HR2 := Lib.hid (HR.out rfl)
    clear HR
    go_enter Tryd.func24, Tryd.ntmps24
    go_wp2_with (first
      | (go_at_call 52; refine HH.out.mono ?_; rintro e w3 ⟨rfl, hf⟩; have HF := Lib.hid hf; clear hf)
      | (go_at_call 53; refine (HR2.out _ (HF0.out.no_trans HF.out)).mono ?_; rintro e w3 ⟨rfl, hf⟩; have HF5 := Lib.hid (HF.out.no_trans hf); clear hf))
    go_ret
    exact ⟨by rw [HE.out]; rfl, HF0.out.no_trans HF5.out⟩
set_option maxRecDepth 100000 in
theorem rplayers_any {l : List Pl} (ht : ItT w) (hx : RdPs w A n l) (hi : ∀ C ∈ l, InP w C) (c : Nat) (hn : n ≤ 9223372036854775807) {size : Int} (hs0 : 1 ≤ size) (hs1 : size ≤ 16) : Calls Tryd.prog 25 #[.slice A n c, .int .i64 size] w fun e w' => e = .returned (.bool (rgtPs size (l.map Pl.py))) ∧ Fr No w w' := by
  have hb := heap_alloc_new w (.cells #[.int .i64 size] 3)
  have hf0 := Fr.alloc No w (.cells #[.int .i64 size] 3)
  have HF0 := Lib.hid hf0
  have hl := hx.2.1
  have HH := Lib.hid (has_py (fun C => !rgtP size C.py) (hx.no hf0) c hn w.heap.size (fun j hj W hW => rp1w_any (ht.no (hf0.no_trans hW)) ((hi _ (List.getElem_mem hj)).no (hf0.no_trans hW)) hs0 hs1 (blk_no hW hb)))
  have HE : Hid (rgtPs size (l.map Pl.py) = (decide ((n : Int) ≤ 32) && !(l.any fun C => !rgtP size C.py) && decide (Rise (l.map Pl.id)))) := Lib.hid (by
    unfold rgtPs
    rw [any_not, List.all_map, List.map_map, List.length_map, hl]
    rfl)
  have HR : Hid (∀ W, Fr No w W → Calls Tryd.prog 56 #[.slice A n c, .func (.func 37) #[] #[]] W fun e w' => e = .returned (.bool (decide (Rise (l.map Pl.id)))) ∧ Fr No W w') := Lib.hid (fun W hW => rises_py (hx.no hW) c hn)
  obtain ⟨q, hq⟩ : ∃ q, decide (Rise (l.map Pl.id)) = q := ⟨_, rfl⟩
  obtain ⟨p, hp⟩ : ∃ p, (l.any fun C => !rgtP size C.py) = p := ⟨_, rfl⟩
  rw [hp] at HH HE
  rw [hq] at HE HR
  obtain ⟨R, hR⟩ : ∃ R, rgtPs size (l.map Pl.py) = R := ⟨_, rfl⟩
  rw [hR] at HE ⊢
  clear ht hx hi hb hf0 hp hq hR
  by_cases h32 : (n : Int) ≤ 32
  · rw [decide_eq_true h32] at HE
    cases p with
    | true =>
      clear HR
      go_enter Tryd.func25, Tryd.ntmps25
      go_wp2_with (go_at_call 55; refine HH.out.mono ?_; rintro e w3 ⟨rfl, hf⟩; have HF := Lib.hid hf; clear hf)
      go_ret
      exact ⟨by rw [HE.out]; rfl, HF0.out.no_trans HF.out⟩
    | false =>
      go_enter Tryd.func25, Tryd.ntmps25
      go_wp2_with (first
        | (go_at_call 55; refine HH.out.mono ?_; rintro e w3 ⟨rfl, hf⟩; have HF := Lib.hid hf; clear hf)
        | (go_at_call 56; refine (HR.out _ (HF0.out.no_trans HF.out)).mono ?_; rintro e w3 ⟨rfl, hf⟩; have HF5 := Lib.hid (HF.out.no_trans hf); clear hf))
      go_ret
      exact ⟨by rw [HE.out]; rfl, HF0.out.no_trans HF5.out⟩
  · rw [decide_eq_false h32] at HE
    clear HR HH
    go_enter Tryd.func25, Tryd.ntmps25
    go_wp2_with fail
    go_ret
    exact ⟨by rw [HE.out]; rfl, HF0.out⟩
set_option maxRecDepth 100000 in
set_option maxHeartbeats 1600000 in
theorem wright_any {d : Wd} (ht : ItT w) (h : InW w d) : Calls Tryd.prog 8 #[d.val] w fun e w' => e = .returned (.bool (rgtW d.v)) ∧ Fr No w w' := by
  have HS := Lib.hid (fun W => issize_any d.size W)
  have HC := Lib.hid (fun W (hW : Fr No w W) => rchunks_any (ht.no hW) (h.no hW).r3 (h.no hW).ch d.c3 h.s3 d.size)
  have HP : Hid (sizB d.size = true → ∀ W, Fr No w W → Calls Tryd.prog 25 #[.slice d.A4 d.n4 d.c4, .int .i64 d.size] W fun e w' => e = .returned (.bool (rgtPs d.size (d.ps.map Pl.py))) ∧ Fr No W w') := Lib.hid (fun hs W hW => by
    unfold sizB at hs
    rw [Bool.and_eq_true, decide_eq_true_iff, decide_eq_true_iff] at hs
    exact rplayers_any (ht.no hW) (h.no hW).r4 (h.no hW).pl d.c4 h.s4 hs.1 hs.2)
  have HE : Hid (∀ p1 p2 p3 p4 p5, sizB d.size = p1 → decide (0 ≤ d.tick) = p2 → decide (d.tick ≤ 1099511627776) = p3 → rgtCs d.size (d.cs.map Ch.ck) = p4 → rgtPs d.size (d.ps.map Pl.py) = p5 → rgtW d.v = (p1 && p2 && p3 && p4 && p5)) := Lib.hid (fun p1 p2 p3 p4 p5 h1 h2 h3 h4 h5 => by subst h1 h2 h3 h4 h5; rfl)
  obtain ⟨p1, h1⟩ : ∃ p, sizB d.size = p := ⟨_, rfl⟩
  obtain ⟨p4, h4⟩ : ∃ p, rgtCs d.size (d.cs.map Ch.ck) = p := ⟨_, rfl⟩
  obtain ⟨p5, h5⟩ : ∃ p, rgtPs d.size (d.ps.map Pl.py) = p := ⟨_, rfl⟩
  have HE2 := Lib.hid (fun p2 p3 h2 h3 => HE.out p1 p2 p3 p4 p5 h1 h2 h3 h4 h5)
  rw [h1] at HS HP
  rw [h4] at HC
  rw [h5] at HP
  clear HE h1 h4 h5 ht h
  obtain ⟨size, sd, tick, A3, n3, c3, cs, A4, n4, c4, ps⟩ := d
  have HU : Hid (u64v sd = .int .u64 (sd.toNat : Int)) := Lib.hid rfl
  obtain ⟨sv, hsv⟩ : ∃ sv, (sd.toNat : Int) = sv := ⟨_, rfl⟩
  rw [hsv] at HU
  dsimp only [Wd.val] at *
  rw [HU.out]
  obtain ⟨R, hR⟩ : ∃ R, rgtW (Wd.v ⟨size, sd, tick, A3, n3, c3, cs, A4, n4, c4, ps⟩) = R := ⟨_, rfl⟩
  rw [hR] at HE2 ⊢
  clear hR hsv HU
  have hb0 := heap_alloc_new w (.cells #[.int .i64 size, .int .u64 sv, .int .i64 tick, .slice A3 n3 c3, .slice A4 n4 c4] 26)
  have HF0 := Lib.hid (Fr.alloc No w (.cells #[.int .i64 size, .int .u64 sv, .int .i64 tick, .slice A3 n3 c3, .slice A4 n4 c4] 26))
  go_enter Tryd.func8, Tryd.ntmps8
  go_upto_region 1 with fail
  obtain ⟨D, hD⟩ : ∃ D, w.heap.size = D := ⟨_, rfl⟩
  rw [hD] at hb0 ⊢
  clear hD
  generalize w.alloc (.cells #[.int .i64 size, .int .u64 sv, .int .i64 tick, .slice A3 n3 c3, .slice A4 n4 c4] 26) = wx at *
  have hW : Hid (∀ W, Fr No wx W → W.cell? ⟨D, 0, none⟩ = some (.int .i64 size) ∧ W.cell? ⟨D, 1, none⟩ = some (.int .u64 sv) ∧ W.cell? ⟨D, 2, none⟩ = some (.int .i64 tick) ∧ W.cell? ⟨D, 3, none⟩ = some (.slice A3 n3 c3) ∧ W.cell? ⟨D, 4, none⟩ = some (.slice A4 n4 c4)) := Lib.hid (fun W hW => cells5 (blk_no hW hb0))
  obtain ⟨g0, g1, g2, g3, g4⟩ := hW.out wx (Fr.refl No wx)
  clear hb0
  have HF := Lib.hid (Fr.refl No wx)
  cases p1 with
  | false =>
    clear HP
    go_wp2_with (first
      | (go_at_call 23; refine (HS.out _).mono ?_; rintro e w1 ⟨rfl, rfl⟩))
    go_ret
    exact ⟨by rw [HE2.out _ _ rfl rfl]; rfl, HF0.out⟩
  | true =>
  have HP2 := Lib.hid (HP.out rfl)
  clear HP
  by_cases ht0 : 0 ≤ tick
  · have ht0' : tick ≥ 0 := ht0
    by_cases ht1 : tick ≤ 1099511627776
    · have HE := Lib.hid (HE2.out _ _ (decide_eq_true ht0) (decide_eq_true ht1))
      clear HE2
      cases p4 with
      | false =>
        go_wp2_with (first
      | (go_at_call 23; refine (HS.out _).mono ?_; rintro e w1 ⟨rfl, rfl⟩)
      | (go_at_call 24; refine (HC.out _ (HF0.out.no_trans HF.out)).mono ?_; rintro e w1 ⟨rfl, hf⟩; clear g0 g1 g2 g3 g4; have HF := Lib.hid (HF.out.no_trans hf); obtain ⟨g0, g1, g2, g3, g4⟩ := hW.out _ HF.out; clear hf))
        go_ret
        exact ⟨by rw [HE.out]; rfl, HF0.out.no_trans HF.out⟩
      | true =>
        go_wp2_with (first
      | (go_at_call 23; refine (HS.out _).mono ?_; rintro e w1 ⟨rfl, rfl⟩)
      | (go_at_call 24; refine (HC.out _ (HF0.out.no_trans HF.out)).mono ?_; rintro e w1 ⟨rfl, hf⟩; clear g0 g1 g2 g3 g4; have HF := Lib.hid (HF.out.no_trans hf); obtain ⟨g0, g1, g2, g3, g4⟩ := hW.out _ HF.out; clear hf)
      | (go_at_call 25; refine (HP2.out _ (HF0.out.no_trans HF.out)).mono ?_; rintro e w1 ⟨rfl, hf⟩; have HF := Lib.hid (HF.out.no_trans hf); clear hf))
        go_ret
        exact ⟨by rw [HE.out]; rfl, HF0.out.no_trans HF.out⟩
    · have HE := Lib.hid (HE2.out _ _ (decide_eq_true ht0) (decide_eq_false ht1))
      clear HE2
      go_wp2_with (first
      | (go_at_call 23; refine (HS.out _).mono ?_; rintro e w1 ⟨rfl, rfl⟩))
      go_ret
      exact ⟨by rw [HE.out]; rfl, HF0.out⟩
  · have HE := Lib.hid (HE2.out _ _ (decide_eq_false ht0) rfl)
    have ht0' : ¬ tick ≥ 0 := ht0
    clear HE2
    go_wp2_with (first
      | (go_at_call 23; refine (HS.out _).mono ?_; rintro e w1 ⟨rfl, rfl⟩))
    go_ret
    exact ⟨by rw [HE.out]; rfl, HF0.out⟩
end
end Go.Proofs.YtjdhbgdpmojobaaDoor

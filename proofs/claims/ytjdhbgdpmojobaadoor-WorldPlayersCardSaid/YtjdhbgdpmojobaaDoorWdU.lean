/-
  Great of any world; WorldCells' walk. No statement of the seat is proved here but as a walk.
-/
import Derived.Test.YtjdhbgdpmojobaaDoorWdS
namespace Go.Proofs.YtjdhbgdpmojobaaDoor
open Go.RowKit Go.Deep

/-- It tells something. -/
def GrP (w : World) (e : Ending) (w' : World) : Prop := ∃ g, e = .returned (.bool g) ∧ Fr No w w'
section
variable {w w' : World} {d : Wd}
set_option maxRecDepth 100000 in
set_option maxHeartbeats 3200000 in
theorem wgreat_any (h : InW w d) : Calls Tryd.prog 7 #[d.val] w (GrP w) := by
  have HX3 := Lib.hid (fun W (hW : Fr No w W) => (h.no hW).r3)
  have HX4 := Lib.hid (fun W (hW : Fr No w W) => (h.no hW).r4)
  have HL3 : Hid (d.cs.length = d.n3) := Lib.hid h.r3.2.1
  have HL4 : Hid (d.ps.length = d.n4) := Lib.hid h.r4.2.1
  have hs3 := h.s3
  have hs4 := h.s4
  have HG : Hid (∀ k (hk : k < d.cs.length) W, Fr No w W → Calls Tryd.prog 22 #[.agg #[.int .i64 d.cs[k].x, .int .i64 d.cs[k].y, .slice d.cs[k].A1 d.cs[k].n1 d.cs[k].c1, .slice d.cs[k].A2 d.cs[k].n2 d.cs[k].c2, .slice d.cs[k].A3 d.cs[k].n3 d.cs[k].c3]] W fun e w' => ∃ g, e = .returned (.bool g) ∧ Fr No W w') := Lib.hid (fun k hk W hW => great_any ((h.no hW).ch _ (List.getElem_mem hk)).rd ((h.no hW).ch _ (List.getElem_mem hk)).sm)
  clear h
  obtain ⟨SV, hSV⟩ : ∃ SV, (d.sd.toNat : Int) = SV := ⟨_, rfl⟩
  obtain ⟨size, sd, tick, A3, n3, c3, cs, A4, n4, c4, ps⟩ := d
  dsimp only [Wd.val, u64v] at *
  rw [hSV]
  clear hSV
  have hb0 := heap_alloc_new w (.cells #[.int .i64 size, .int .u64 SV, .int .i64 tick, .slice A3 n3 c3, .slice A4 n4 c4] 26)
  have HF0 := Lib.hid (Fr.alloc No w (.cells #[.int .i64 size, .int .u64 SV, .int .i64 tick, .slice A3 n3 c3, .slice A4 n4 c4] 26))
  go_enter Tryd.func7, Tryd.ntmps7
  go_upto_region 1 with fail
  obtain ⟨D, hD⟩ : ∃ D, w.heap.size = D := ⟨_, rfl⟩
  rw [hD] at hb0 ⊢
  clear hD
  generalize w.alloc (.cells #[.int .i64 size, .int .u64 SV, .int .i64 tick, .slice A3 n3 c3, .slice A4 n4 c4] 26) = wx at *
  have hALL : Hid (∀ W, Fr No wx W → W.cell? ⟨D, 3, none⟩ = some (.slice A3 n3 c3) ∧ W.cell? ⟨D, 4, none⟩ = some (.slice A4 n4 c4)) := Lib.hid (fun W hW => ⟨(cells5 (blk_no hW hb0)).2.2.2.1, (cells5 (blk_no hW hb0)).2.2.2.2⟩)
  clear hb0
  obtain ⟨k3, k4⟩ := hALL.out _ (Fr.refl No wx)
  by_cases h20 : (n3 : Int) > 20
  · go_wp2_with fail
    go_ret
    exact ⟨_, rfl, HF0.out⟩
  · by_cases h40 : (n4 : Int) > 40
    · go_wp2_with fail
      go_ret
      exact ⟨_, rfl, HF0.out⟩
    · go_upto_region 3 with fail
      go_wp2_with fail
      clear k3 k4
      go_loopw [18] (fun v18 wr => ∃ k : Nat, k ≤ n3 ∧ v18 = .int .i64 (k : Int) ∧ Fr No wx wr) (fun v18 _ => n3 - (intOf v18).toNat)
      case atStart => exact ⟨0, by omega, rfl, Fr.refl _ _⟩
      case round =>
        obtain ⟨k, hk, rfl, hf⟩ := hrel
        have HF := Lib.hid hf
        clear hf
        by_cases hlt : k < n3
        · have hkl : k < cs.length := by rw [HL3.out]; exact hlt
          obtain ⟨b, o, rfl, _, y0, y1, y2, y3, y4⟩ := (HX3.out wr (HF0.out.no_trans HF.out)).at k hkl
          obtain ⟨k3, k4⟩ := hALL.out _ HF.out
          have HR := Lib.hid (HG.out k hkl)
          have hwk : IntKind.i64.wrap ((k : Int) + 1) = ((k + 1 : Nat) : Int) := by
            rw [show ((k : Int) + 1) = ((k + 1 : Nat) : Int) by omega]
            exact IntWalk.i64_in _ (by omega)
          have hi1 : (k : Int) < (n3 : Int) := by omega
          have hi0 : (0 : Int) ≤ (k : Int) := by omega
          generalize cs[k].x = a0 at *
          generalize cs[k].y = a1 at *
          generalize cs[k].A1 = bA1 at *
          generalize cs[k].n1 = bn1 at *
          generalize cs[k].c1 = bc1 at *
          generalize cs[k].A2 = bA2 at *
          generalize cs[k].n2 = bn2 at *
          generalize cs[k].c2 = bc2 at *
          generalize cs[k].A3 = bA3 at *
          generalize cs[k].n3 = bn3 at *
          generalize cs[k].c3 = bc3 at *
          go_wp2_with fail
          refine (HR.out _ (HF0.out.no_trans HF.out)).mono ?_
          rintro e w5 ⟨g, rfl, hf⟩
          have HF5 := Lib.hid (HF.out.no_trans hf)
          clear hf
          cases g
          · go_wp2_with fail
            go_roundw
            case rel => exact ⟨k + 1, by omega, by go_num, HF5.out⟩
            case measure => simp [intOf]; omega
          · go_wp2_with fail
            go_ret
            exact ⟨_, rfl, HF0.out.no_trans HF5.out⟩
        · have hkn : k = n3 := by omega
          subst hkn
          obtain ⟨k3, k4⟩ := hALL.out _ HF.out
          go_wp2_with fail
          go_loopw [31] (fun v31 wr => ∃ q : Nat, q ≤ n4 ∧ v31 = .int .i64 (q : Int) ∧ Fr No wx wr) (fun v31 _ => n4 - (intOf v31).toNat)
          case atStart => exact ⟨0, by omega, rfl, HF.out⟩
          case round =>
            obtain ⟨q, hq, rfl, hf⟩ := hrel
            have HFq := Lib.hid hf
            clear hf k3 k4
            by_cases hlt : q < n4
            · have hkl : q < ps.length := by rw [HL4.out]; exact hlt
              obtain ⟨b, o, rfl, _, y0, y1, y2, y3, y4, y5, y6⟩ := (HX4.out wr (HF0.out.no_trans HFq.out)).at q hkl
              obtain ⟨k3, k4⟩ := hALL.out _ HFq.out
              have hwk : IntKind.i64.wrap ((q : Int) + 1) = ((q + 1 : Nat) : Int) := by
                rw [show ((q : Int) + 1) = ((q + 1 : Nat) : Int) by omega]
                exact IntWalk.i64_in _ (by omega)
              have hi1 : (q : Int) < (n4 : Int) := by omega
              have hi0 : (0 : Int) ≤ (q : Int) := by omega
              generalize ps[q].A1 = bA1 at *
              generalize ps[q].n1 = bn1 at *
              generalize ps[q].c1 = bc1 at *
              generalize ps[q].A2 = bA2 at *
              generalize ps[q].n2 = bn2 at *
              generalize ps[q].c2 = bc2 at *
              by_cases g1 : (bn1 : Int) > 300
              · go_wp2_with fail
                go_ret
                exact ⟨_, rfl, HF0.out.no_trans HFq.out⟩
              · by_cases g2 : (bn2 : Int) > 300
                · go_wp2_with fail
                  go_ret
                  exact ⟨_, rfl, HF0.out.no_trans HFq.out⟩
                · go_wp2_with fail
                  go_roundw
                  case rel => exact ⟨q + 1, by omega, by go_num, HFq.out⟩
                  case measure => simp [intOf]; omega
            · have hqn : q = n4 := by omega
              subst hqn
              go_wp2_with fail
              go_ret
              exact ⟨_, rfl, HF0.out.no_trans HFq.out⟩
set_option maxRecDepth 100000 in
set_option maxHeartbeats 6400000 in
theorem wcells_walk (ht : ItT w) (h : InW w d) {x y : Int} (hx : x ≤ 9223372036854775807) (hy : y ≤ 9223372036854775807) : Calls Tryd.prog 6 #[d.val, .int .i64 x, .int .i64 y] w fun e w' => e = .returned (.bool true) ∧ Fr No w w' := by
  have HAW := Lib.hid (fun W (hW : Fr No w W) => wawake_any (ht.no hW))
  have HGR := Lib.hid (fun W (hW : Fr No w W) => wgreat_any (h.no hW))
  have HRT := Lib.hid (fun W (hW : Fr No w W) => wright_any (ht.no hW) (h.no hW))
  have HRR : Hid (rgtW d.v = true → RgtW d.v) := Lib.hid rgtW_iff.1
  have HAI : Hid (RgtW d.v → ∀ (a b : Nat), (a : Int) < 8 * d.size → (b : Int) < 8 * d.size → ∀ W, Fr No w W → Calls Tryd.prog 15 #[d.val, .int .i64 (a : Int), .int .i64 (b : Int)] W fun e w' => ∃ (c : Ck) (i : Nat), e = .returned (.tuple #[.int .u8 (i : Int), .bool true]) ∧ ChAtP d.v ((a / 8 : Nat) : Int) ((b / 8 : Nat) : Int) c ∧ c.cs[b % 8 * 8 + a % 8]? = some i ∧ Fr No W w') := Lib.hid (fun r a b ha hb W hW => wat_in (ht.no hW) (h.no hW) r ha hb)
  have HAO : Hid (RgtW d.v → ¬ (0 ≤ x ∧ 0 ≤ y ∧ x < 8 * d.size ∧ y < 8 * d.size) → ∀ W, Fr No w W → Calls Tryd.prog 15 #[d.val, .int .i64 x, .int .i64 y] W fun e w' => e = .returned (.tuple #[.int .u8 0, .bool false]) ∧ Fr No W w') := Lib.hid (fun r ho W hW => wat_out (ht.no hW) (h.no hW) r hx hy ho)
  have HCK : Hid (RgtW d.v → ∀ (X Y : Nat), (X : Int) < d.size → (Y : Int) < d.size → ∀ W, Fr No w W → Calls Tryd.prog 21 #[d.val, .int .i64 (X : Int), .int .i64 (Y : Int)] W fun e w' => ∃ C : Ch, e = .returned (.tuple #[.agg #[.int .i64 C.x, .int .i64 C.y, .slice C.A1 C.n1 C.c1, .slice C.A2 C.n2 C.c2, .slice C.A3 C.n3 C.c3], .bool true]) ∧ (ChAtP d.v (X : Int) (Y : Int) C.ck ∧ C.n1 = 64 ∧ RwK w' 1 (ItAt w') C.A1 C.n1 C.cs) ∧ Fr No W w') := Lib.hid (fun r X Y hX hY W hW => (wchunk_in (ht.no hW) (h.no hW) r (by omega) hX (by omega) hY).mono (fun e w' ⟨C, h1, h2, h3, h4⟩ => ⟨C, h1, ⟨h2, by have := r.s; have hs2 : d.v.size = d.size := rfl; have := (h2.place r (by omega) (by omega)).2.2; have q : C.ck.cs.length = C.cs.length := rfl; have := h3.rd.r1.1; omega, h3.rd.r1⟩, h4⟩))
  have HSZ : Hid (RgtW d.v → 1 ≤ d.size ∧ d.size ≤ 16) := Lib.hid (fun r => r.s)
  obtain ⟨VV, hVV⟩ : ∃ VV, d.v = VV := ⟨_, rfl⟩
  rw [hVV] at HRT HRR HAI HAO HCK HSZ
  obtain ⟨p, hp⟩ : ∃ p, rgtW VV = p := ⟨_, rfl⟩
  rw [hp] at HRT HRR
  clear ht h hVV hp
  obtain ⟨SV, hSV⟩ : ∃ SV, (d.sd.toNat : Int) = SV := ⟨_, rfl⟩
  obtain ⟨size, sd, tick, A3, n3, c3, cs, A4, n4, c4, ps⟩ := d
  dsimp only [Wd.val, u64v] at *
  rw [hSV] at HGR HRT HAI HAO HCK ⊢
  clear hSV
  have hb0 := heap_alloc_new w (.cells #[.int .i64 size, .int .u64 SV, .int .i64 tick, .slice A3 n3 c3, .slice A4 n4 c4] 26)
  have HF0 := Lib.hid (Fr.alloc No w (.cells #[.int .i64 size, .int .u64 SV, .int .i64 tick, .slice A3 n3 c3, .slice A4 n4 c4] 26))
  go_enter Tryd.func6, Tryd.ntmps6
  go_upto_region 1 with fail
  obtain ⟨D, hD⟩ : ∃ D, w.heap.size = D := ⟨_, rfl⟩
  rw [hD] at hb0 ⊢
  clear hD
  generalize w.alloc (.cells #[.int .i64 size, .int .u64 SV, .int .i64 tick, .slice A3 n3 c3, .slice A4 n4 c4] 26) = wx at *
  have hALL : Hid (∀ W, Fr No wx W → W.cell? ⟨D, 0, none⟩ = some (.int .i64 size) ∧ W.cell? ⟨D, 1, none⟩ = some (.int .u64 SV) ∧ W.cell? ⟨D, 2, none⟩ = some (.int .i64 tick) ∧ W.cell? ⟨D, 3, none⟩ = some (.slice A3 n3 c3) ∧ W.cell? ⟨D, 4, none⟩ = some (.slice A4 n4 c4)) := Lib.hid (fun W hW => cells5 (blk_no hW hb0))
  clear hb0
  obtain ⟨k0, k1, k2, k3, k4⟩ := hALL.out _ (Fr.refl No wx)
  go_wp2_with fail
  refine (HGR.out _ HF0.out).mono ?_
  rintro e w1 ⟨g, rfl, hf⟩
  have HF1 := Lib.hid hf
  clear hf k0 k1 k2 k3 k4
  obtain ⟨k0, k1, k2, k3, k4⟩ := hALL.out _ HF1.out
  cases g with
  | true =>
    go_wp2_with (go_at_call 9; refine (HAW.out _ (HF0.out.no_trans HF1.out)).mono ?_; rintro e w2 ⟨rfl, hf⟩; have HF2 := Lib.hid (HF1.out.no_trans hf); clear hf)
    go_ret
    exact ⟨rfl, HF0.out.no_trans HF2.out⟩
  | false =>
  cases p with
  | false =>
    go_wp2_with (first
      | (go_at_call 8; refine (HRT.out _ (HF0.out.no_trans HF1.out)).mono ?_; rintro e w2 ⟨rfl, hf⟩; have HF2 := Lib.hid (HF1.out.no_trans hf); clear hf)
      | (go_at_call 9; refine (HAW.out _ (HF0.out.no_trans HF2.out)).mono ?_; rintro e w3 ⟨rfl, hf⟩; have HF3 := Lib.hid (HF2.out.no_trans hf); clear hf))
    go_ret
    exact ⟨rfl, HF0.out.no_trans HF3.out⟩
  | true =>
  have HRW := Lib.hid (HRR.out rfl)
  have hsz := HSZ.out HRW.out
  have hsz1 := hsz.1
  have hsz2 := hsz.2
  have hw8 : IntKind.i64.wrap (8 * size) = 8 * size := by rw [IntKind.wrap_i64]; omega
  go_upto_region 3 with (go_at_call 8; refine (HRT.out _ (HF0.out.no_trans HF1.out)).mono ?_; rintro e w2 ⟨rfl, hf⟩; have HF2 := Lib.hid (HF1.out.no_trans hf); clear hf k0 k1 k2 k3 k4)
  obtain ⟨k0, k1, k2, k3, k4⟩ := hALL.out _ HF2.out
  clear HGR HRT HF1 hsz
  by_cases hin : 0 ≤ x ∧ 0 ≤ y ∧ x < 8 * size ∧ y < 8 * size
  · obtain ⟨hx0, hy0, hx1, hy1⟩ := hin
    obtain ⟨a, rfl⟩ := Int.eq_ofNat_of_zero_le hx0
    obtain ⟨b, rfl⟩ := Int.eq_ofNat_of_zero_le hy0
    have HAT := Lib.hid (HAI.out HRW.out a b hx1 hy1)
    have HCH := Lib.hid (HCK.out HRW.out (a / 8) (b / 8) (by omega) (by omega))
    clear HAI HAO HCK
    obtain ⟨X, hX⟩ : ∃ X, a / 8 = X := ⟨_, rfl⟩
    obtain ⟨Y, hY⟩ : ∃ Y, b / 8 = Y := ⟨_, rfl⟩
    obtain ⟨J, hJ⟩ : ∃ J, b % 8 * 8 + a % 8 = J := ⟨_, rfl⟩
    obtain ⟨P, hP⟩ : ∃ P, a % 8 = P := ⟨_, rfl⟩
    obtain ⟨Q, hQ⟩ : ∃ Q, b % 8 = Q := ⟨_, rfl⟩
    rw [hX, hY] at HAT HCH
    rw [hJ] at HAT
    have t1 : (a : Int).tdiv 8 = (X : Int) := by rw [Int.tdiv_eq_ediv_of_nonneg (by omega)]; omega
    have t2 : (b : Int).tdiv 8 = (Y : Int) := by rw [Int.tdiv_eq_ediv_of_nonneg (by omega)]; omega
    have t3 : (a : Int).tmod 8 = (P : Int) := by rw [Int.tmod_eq_emod_of_nonneg (by omega)]; omega
    have t4 : (b : Int).tmod 8 = (Q : Int) := by rw [Int.tmod_eq_emod_of_nonneg (by omega)]; omega
    have u1 : IntKind.i64.wrap (X : Int) = (X : Int) := by rw [IntKind.wrap_i64]; omega
    have u2 : IntKind.i64.wrap (Y : Int) = (Y : Int) := by rw [IntKind.wrap_i64]; omega
    have u3 : IntKind.i64.wrap (P : Int) = (P : Int) := by rw [IntKind.wrap_i64]; omega
    have u4 : IntKind.i64.wrap (Q : Int) = (Q : Int) := by rw [IntKind.wrap_i64]; omega
    have u5 : IntKind.i64.wrap ((Q : Int) * 8) = (Q : Int) * 8 := by rw [IntKind.wrap_i64]; omega
    have u6 : IntKind.i64.wrap ((Q : Int) * 8 + (P : Int)) = (J : Int) := by rw [IntKind.wrap_i64]; omega
    have l1 : ¬ (a : Int) < 0 := by omega
    have l2 : ¬ (b : Int) < 0 := by omega
    have l3 : (J : Int) < 64 := by omega
    have l4 : (0 : Int) ≤ (J : Int) := by omega
    have l5 : J < 64 := by omega
    have l6 : ¬ (a : Int) ≥ 8 * size := by omega
    have l7 : ¬ (b : Int) ≥ 8 * size := by omega
    have HX16 : Hid ((X : Int) < 16) := Lib.hid (by omega)
    clear hX hY hP hQ hJ
    go_upto_region 4 with (go_at_call 15; refine (HAT.out _ (HF0.out.no_trans HF2.out)).mono ?_; rintro e w3 ⟨c, i, rfl, hc, hi, hf⟩; have HC := Lib.hid hc; have HI := Lib.hid hi; have HF3 := Lib.hid (HF2.out.no_trans hf); clear hc hi hf k0 k1 k2 k3 k4)
    obtain ⟨k0, k1, k2, k3, k4⟩ := hALL.out _ HF3.out
    go_upto_region 7 with (go_at_call 21; refine (HCH.out _ (HF0.out.no_trans HF3.out)).mono ?_; rintro e w4 ⟨C, rfl, ⟨hc, hn, hr⟩, hf⟩; have HC2 := Lib.hid hc; have HN := Lib.hid hn; have HR := Lib.hid hr; have HF4 := Lib.hid (HF3.out.no_trans hf); clear hc hn hr hf k0 k1 k2 k3 k4)
    have HPC := Lib.hid (HC2.out.place HRW.out (by omega) HX16.out)
    have hE1 : C.x = (X : Int) := HPC.out.1
    have hE2 : C.y = (Y : Int) := HPC.out.2.1
    have hbE := heap_alloc_new w4 (.cells #[.int .i64 C.x, .int .i64 C.y, .slice C.A1 C.n1 C.c1, .slice C.A2 C.n2 C.c2, .slice C.A3 C.n3 C.c3] 31)
    have hfE := Fr.alloc No w4 (.cells #[.int .i64 C.x, .int .i64 C.y, .slice C.A1 C.n1 C.c1, .slice C.A2 C.n2 C.c2, .slice C.A3 C.n3 C.c3] 31)
    have hlen : C.cs.length = 64 := by have := HR.out.1; have := HN.out; omega
    have hJ : J < C.cs.length := by omega
    obtain ⟨bb, o, hA, _, hc⟩ := (RwK.no (At := ItAt) (fun _ _ _ hb => ItAt.no hfE _ _ _ hb) hfE.size HR.out).2 (by have := HN.out; omega)
    have y0 := hc J hJ
    rw [Nat.mul_one] at y0
    unfold ItAt at y0
    have hIV : C.cs[J] = i := by
      have e1 : c = C.ck := HC.out.one HRW.out HC2.out
      have e2 : C.ck.cs[J]? = some C.cs[J] := List.getElem?_eq_getElem hJ
      have e3 := HI.out
      rw [e1, e2] at e3
      injection e3
    rw [hIV] at y0
    have HFE := Lib.hid (HF4.out.no_trans hfE)
    obtain ⟨g0, g1, g2, g3, g4⟩ := cells5 hbE
    generalize w4.alloc (.cells #[.int .i64 C.x, .int .i64 C.y, .slice C.A1 C.n1 C.c1, .slice C.A2 C.n2 C.c2, .slice C.A3 C.n3 C.c3] 31) = wE at *
    rw [hA, HN.out] at g2
    rw [hE1] at g0
    rw [hE2] at g1
    clear hc hIV hbE hfE hA HR HN HCH HAT hlen hJ hE1 hE2 HPC
    go_wp2_with (go_at_call 9; refine (HAW.out _ (HF0.out.no_trans HFE.out)).mono ?_; rintro e w6 ⟨rfl, hf⟩; have HF6 := Lib.hid (HFE.out.no_trans hf); clear hf)
    go_ret
    exact ⟨rfl, HF0.out.no_trans HF6.out⟩
  · have HAT := Lib.hid (HAO.out HRW.out hin)
    clear HAI HAO HCK
    go_upto_region 4 with (go_at_call 15; refine (HAT.out _ (HF0.out.no_trans HF2.out)).mono ?_; rintro e w3 ⟨rfl, hf⟩; have HF3 := Lib.hid (HF2.out.no_trans hf); clear hf k0 k1 k2 k3 k4)
    obtain ⟨k0, k1, k2, k3, k4⟩ := hALL.out _ HF3.out
    by_cases q1 : x < 0
    · go_wp2_with (go_at_call 9; refine (HAW.out _ (HF0.out.no_trans HF3.out)).mono ?_; rintro e w6 ⟨rfl, hf⟩; have HF6 := Lib.hid (HF3.out.no_trans hf); clear hf)
      go_ret
      exact ⟨rfl, HF0.out.no_trans HF6.out⟩
    · by_cases q2 : y < 0
      · go_wp2_with (go_at_call 9; refine (HAW.out _ (HF0.out.no_trans HF3.out)).mono ?_; rintro e w6 ⟨rfl, hf⟩; have HF6 := Lib.hid (HF3.out.no_trans hf); clear hf)
        go_ret
        exact ⟨rfl, HF0.out.no_trans HF6.out⟩
      · by_cases q3 : x ≥ 8 * size
        · go_wp2_with (go_at_call 9; refine (HAW.out _ (HF0.out.no_trans HF3.out)).mono ?_; rintro e w6 ⟨rfl, hf⟩; have HF6 := Lib.hid (HF3.out.no_trans hf); clear hf)
          go_ret
          exact ⟨rfl, HF0.out.no_trans HF6.out⟩
        · have q4 : y ≥ 8 * size := by
            by_cases h : y ≥ 8 * size
            · exact h
            · exact absurd ⟨by omega, by omega, by omega, by omega⟩ hin
          clear hin
          go_wp2_with (go_at_call 9; refine (HAW.out _ (HF0.out.no_trans HF3.out)).mono ?_; rintro e w6 ⟨rfl, hf⟩; have HF6 := Lib.hid (HF3.out.no_trans hf); clear hf)
          go_ret
          exact ⟨rfl, HF0.out.no_trans HF6.out⟩
theorem wcells_call (ht : ItT w) (h : InW w d) {x y : Int} (hx : x ≤ 9223372036854775807) (hy : y ≤ 9223372036854775807) : Calls Tryd.prog 6 #[d.val, .int .i64 x, .int .i64 y] w fun e w' => e = .returned (.bool true) ∧ Below w.heap.size w w' := (wcells_walk ht h hx hy).mono fun _ _ ⟨h1, h2⟩ => ⟨h1, h2.noBelow⟩
end
end Go.Proofs.YtjdhbgdpmojobaaDoor

/-
  A world's chunk, cell, player; a new world. No statement of the seat is proved here.
-/
import Derived.Test.YtjdhbgdpmojobaaDoorWdMa
namespace Go.Proofs.YtjdhbgdpmojobaaDoor
open Go.RowKit Go.Deep

/-- A chunk as it is at first. -/
def firstC (sd : W64) (x y : Int) : Ck := ⟨x, y, cellsL sd x.toNat y.toNat, [], []⟩
/-- c is the world's chunk at x, y. -/
def ChAtP (v : Wv) (x y : Int) (c : Ck) : Prop := (c ∈ v.cs ∧ plcK c = y * 16 + x) ∨ ((∀ b ∈ v.cs, plcK b ≠ y * 16 + x) ∧ c = firstC v.sd x y)
theorem ChAtP.one {v : Wv} (r : RgtW v) {x y : Int} {b c : Ck} (hb : ChAtP v x y b) (hc : ChAtP v x y c) : b = c := by
  rcases hb with ⟨b1, b2⟩ | ⟨b1, b2⟩ <;> rcases hc with ⟨c1, c2⟩ | ⟨c1, c2⟩
  · obtain ⟨i, hi, rfl⟩ := List.getElem_of_mem b1
    obtain ⟨j, hj, rfl⟩ := List.getElem_of_mem c1
    have q : ∀ i j (hi : i < v.cs.length) (hj : j < v.cs.length), plcK v.cs[i] = plcK v.cs[j] → ¬ i < j := fun i j hi hj e hij => by
      have := r.cr.lt i j (by simpa using hj) hij
      rw [List.getElem_map, List.getElem_map] at this
      omega
    have h1 := q i j hi hj (by omega)
    have h2 := q j i hj hi (by omega)
    obtain rfl : i = j := by omega
    rfl
  · exact absurd b2 (c1 _ b1)
  · exact absurd c2 (b1 _ c1)
  · rw [b2, c2]
theorem ChAtP.place {v : Wv} (r : RgtW v) {x y : Int} {c : Ck} (h : ChAtP v x y c) (hx0 : 0 ≤ x) (hx1 : x < 16) : c.x = x ∧ c.y = y ∧ c.cs.length = 64 := by
  rcases h with ⟨b1, b2⟩ | ⟨_, rfl⟩
  · have q := (r.c c b1).1
    have a0 := q.x0
    have a1 := q.x1
    have a2 := q.y0
    have a3 := q.y1
    unfold plcK at b2
    exact ⟨by omega, by omega, q.cl⟩
  · exact ⟨rfl, rfl, cellsL_len _ _ _⟩
section
variable {w w' : World} {d : Wd}
set_option maxRecDepth 100000 in
set_option maxHeartbeats 3200000 in
theorem wchunk_in (ht : ItT w) (h : InW w d) (r : RgtW d.v) {x y : Int} (hx0 : 0 ≤ x) (hx1 : x < d.size) (hy0 : 0 ≤ y) (hy1 : y < d.size) : Calls Tryd.prog 21 #[d.val, .int .i64 x, .int .i64 y] w fun e w' => ∃ C : Ch, e = .returned (.tuple #[C.val, .bool true]) ∧ ChAtP d.v x y C.ck ∧ OwC w.heap.size w' C ∧ Fr No w w' := by
  have hs := r.s
  have hs2 : d.v.size = d.size := rfl
  have z := h.sz r
  have HRT := Lib.hid (fun W (hW : Fr No w W) => wright_any (ht.no hW) (h.no hW))
  rw [rgtW_iff.2 r] at HRT
  have HWX : Hid (∀ W, Calls Tryd.prog 50 #[.int .i64 x, .int .i64 d.size] W fun e w' => e = .returned (.bool true) ∧ w' = W) := Lib.hid (fun W => by
    have := wwithin_any x d.size W
    unfold winB at this
    rw [decide_eq_true hx0, decide_eq_true hx1] at this
    exact this)
  have HWY : Hid (∀ W, Calls Tryd.prog 50 #[.int .i64 y, .int .i64 d.size] W fun e w' => e = .returned (.bool true) ∧ w' = W) := Lib.hid (fun W => by
    have := wwithin_any y d.size W
    unfold winB at this
    rw [decide_eq_true hy0, decide_eq_true hy1] at this
    exact this)
  have hx2 : x < 16 := by omega
  have hy2 : y < 16 := by omega
  have HPL : Hid (∀ W, Calls Tryd.prog 30 #[.agg #[.int .i64 x, .int .i64 y, .slice none 0 0, .slice none 0 0, .slice none 0 0]] W fun e w' => e = .returned (.int .i64 (y * 16 + x)) ∧ Fr No W w') := Lib.hid (fun W => place_any hx0 hx2 hy0 hy2 _ _ _ _ _ _ _ _ _ W)
  have HG : Hid (∀ W, Calls Tryd.prog 26 #[u64v d.sd, .int .i64 x, .int .i64 y] W fun e w' => ∃ A c, e = .returned (.agg #[.int .i64 x, .int .i64 y, .slice A 64 c, .slice none 0 0, .slice none 0 0]) ∧ w'.ownsRow W.heap.size 50 1 (.slice A 64 c) 64 (itL (cellsL d.sd x.toNat y.toNat)) ∧ Fr No W w') := Lib.hid (fun W => by
    have := gchunk_in W d.sd x.toNat y.toNat (by omega) (by omega)
    rw [Int.toNat_of_nonneg hx0, Int.toNat_of_nonneg hy0] at this
    exact this)
  have HPLC : Hid (∀ C ∈ d.cs, 0 ≤ C.x ∧ C.x < 16 ∧ 0 ≤ C.y ∧ C.y < 16) := Lib.hid (fun C hC => (r.c C.ck (List.mem_map_of_mem hC)).1.plc)
  have HRISE : Hid (Rise (d.cs.map (fun C => plcK C.ck))) := Lib.hid (by
    have h1 := r.cr
    have h2 : d.v.cs = d.cs.map Ch.ck := rfl
    rw [h2, List.map_map] at h1
    exact h1)
  have HSR : Hid (∀ W, Fr No w W → Calls Tryd.prog 29 #[.slice d.A3 d.n3 d.c3, .func (.func 30) #[] #[], .int .i64 (y * 16 + x)] W fun e w' =>
      ∃ (k : Nat) (f : Bool), e = .returned (.tuple #[.int .i64 (k : Int), .bool f]) ∧ ((f = true ∧ ∃ h : k < d.cs.length, plcK d.cs[k].ck = y * 16 + x) ∨ (f = false ∧ ∀ b ∈ d.v.cs, plcK b ≠ y * 16 + x)) ∧ Fr No W w') := Lib.hid (fun W hW => (search_ck (h.no hW).r3 HPLC.out d.c3 z.z3 (y * 16 + x) (fun i j h hij => by
    have := HRISE.out.lt i j (by simpa using h) hij
    rw [List.getElem_map, List.getElem_map] at this
    exact this)).mono (fun e w' ⟨k, f, h1, h2, h3, h4⟩ => ⟨k, f, h1, by
      cases f with
      | true =>
        by_cases hk : k < d.cs.length
        · rw [dif_pos hk] at h2; exact .inl ⟨rfl, hk, of_decide_eq_true h2.symm⟩
        · rw [dif_neg hk] at h2; exact absurd h2 (by decide)
      | false =>
        refine .inr ⟨rfl, fun b hb e => ?_⟩
        obtain ⟨C, hC, rfl⟩ := List.mem_map.1 hb
        obtain ⟨j, hj, rfl⟩ := List.getElem_of_mem hC
        rcases Nat.lt_or_ge j k with q | q
        · have := h3.2.1 j (by simpa using hj) q
          rw [List.getElem_map] at this
          omega
        · have hk : k < d.cs.length := by omega
          rw [dif_pos hk] at h2
          have c := of_decide_eq_false h2.symm
          have a := h3.2.2 k (by simpa using hk) (Nat.le_refl _)
          rw [List.getElem_map] at a
          rcases Nat.lt_or_ge k j with s | s
          · have := HRISE.out.lt k j (by simpa using hj) s
            rw [List.getElem_map, List.getElem_map] at this
            omega
          · obtain rfl : j = k := by omega
            exact c e, h4⟩))
  have HX3 := Lib.hid (fun W (hW : Fr No w W) => (h.no hW).r3)
  have HOX : Hid (∀ k (hk : k < d.cs.length) W, Fr No w W → Calls Tryd.prog 34 #[.agg #[.int .i64 d.cs[k].x, .int .i64 d.cs[k].y, .slice d.cs[k].A1 d.cs[k].n1 d.cs[k].c1, .slice d.cs[k].A2 d.cs[k].n2 d.cs[k].c2, .slice d.cs[k].A3 d.cs[k].n3 d.cs[k].c3]] W fun e w' => ∃ Cn : Ch, e = .returned (.agg #[.int .i64 Cn.x, .int .i64 Cn.y, .slice Cn.A1 Cn.n1 Cn.c1, .slice Cn.A2 Cn.n2 Cn.c2, .slice Cn.A3 Cn.n3 Cn.c3]) ∧ Cn.ck = d.cs[k].ck ∧ OwC W.heap.size w' Cn ∧ Fr No W w') := Lib.hid (fun k hk W hW => by
    have hz := z.zc _ (List.getElem_mem hk)
    exact (own_c ((h.no hW).ch _ (List.getElem_mem hk)).rd hz.z1 hz.z2 hz.z3 hz.z4).mono (fun e w' ⟨Cn, h1, h2, _, h4, h5⟩ => ⟨Cn, h1, h2, h4, h5⟩))
  have HMEM : Hid (∀ k (hk : k < d.cs.length), d.cs[k].ck ∈ d.v.cs) := Lib.hid (fun k hk => List.mem_map_of_mem (List.getElem_mem hk))
  have HLEN : Hid (d.cs.length = d.n3) := Lib.hid h.r3.2.1
  have HZN : Hid (d.n3 ≤ 100000) := Lib.hid z.z3
  have HV : Hid (d.v.sd = d.sd) := Lib.hid rfl
  clear ht h r hs hs2 z hx2 hy2 HPLC HRISE
  obtain ⟨VV, hVV⟩ : ∃ VV, d.v = VV := ⟨_, rfl⟩
  rw [hVV] at HSR HMEM HV ⊢
  obtain ⟨SV, hSV⟩ : ∃ SV, (d.sd.toNat : Int) = SV := ⟨_, rfl⟩
  have HSV := Lib.hid hSV
  clear hVV
  obtain ⟨size, sd, tick, A3, n3, c3, cs, A4, n4, c4, ps⟩ := d
  dsimp only [Wd.val, u64v] at *
  rw [hSV] at HRT HG ⊢
  clear hSV hx1 hy1
  have hb0 := heap_alloc_new w (.cells #[.int .i64 size, .int .u64 SV, .int .i64 tick, .slice A3 n3 c3, .slice A4 n4 c4] 26)
  have hf0 := Fr.alloc No w (.cells #[.int .i64 size, .int .u64 SV, .int .i64 tick, .slice A3 n3 c3, .slice A4 n4 c4] 26)
  have hb1 := heap_alloc_new (w.alloc (.cells #[.int .i64 size, .int .u64 SV, .int .i64 tick, .slice A3 n3 c3, .slice A4 n4 c4] 26)) (.cells #[.int .i64 0, .int .i64 0, .slice none 0 0, .slice none 0 0, .slice none 0 0] 31)
  have hf1 := Fr.alloc No (w.alloc (.cells #[.int .i64 size, .int .u64 SV, .int .i64 tick, .slice A3 n3 c3, .slice A4 n4 c4] 26)) (.cells #[.int .i64 0, .int .i64 0, .slice none 0 0, .slice none 0 0, .slice none 0 0] 31)
  have hbD := blk_no hf1 hb0
  have HFX := Lib.hid (hf0.no_trans hf1)
  simp only [World.size_alloc] at hb1
  clear hb0 hf0 hf1
  go_enter Tryd.func21, Tryd.ntmps21
  go_upto_region 1 with fail
  obtain ⟨D, hD⟩ : ∃ D, w.heap.size = D := ⟨_, rfl⟩
  have HD := Lib.hid hD
  rw [hD] at hbD hb1 ⊢
  clear hD
  generalize (w.alloc (.cells #[.int .i64 size, .int .u64 SV, .int .i64 tick, .slice A3 n3 c3, .slice A4 n4 c4] 26)).alloc (.cells #[.int .i64 0, .int .i64 0, .slice none 0 0, .slice none 0 0, .slice none 0 0] 31) = wx at *
  have HBD := Lib.hid hbD
  have HB1 := Lib.hid hb1
  obtain ⟨k0, k1, k2, k3, k4⟩ := cells5 hbD
  clear hbD hb1
  go_upto_region 3 with (first
    | (go_at_call 8; refine (HRT.out _ HFX.out).mono ?_; rintro e w1 ⟨rfl, hf⟩; have HF1 := Lib.hid hf; clear k0 k1 k2 k3 k4; obtain ⟨k0, k1, k2, k3, k4⟩ := cells5 (blk_no hf HBD.out); clear hf)
    | (go_at_call_of 50 (Value.int .i64 x); refine (HWX.out _).mono ?_; rintro e w2 ⟨rfl, rfl⟩)
    | (go_at_call_of 50 (Value.int .i64 y); refine (HWY.out _).mono ?_; rintro e w3 ⟨rfl, rfl⟩))
  have hALL : Hid (∀ W, Fr No wx W → W.cell? ⟨D, 1, none⟩ = some (.int .u64 SV) ∧ W.cell? ⟨D, 3, none⟩ = some (.slice A3 n3 c3)) := Lib.hid (fun W hW => ⟨(cells5 (blk_no hW HBD.out)).2.1, (cells5 (blk_no hW HBD.out)).2.2.2.1⟩)
  clear k0 k1 k2 k3 k4 HRT HWX HWY
  have d0 := hALL.out _ HF1.out
  have dd := hALL.out _ (HF1.out.no_trans (Fr.drew No _))
  go_region_held3 (fun W => W.cell? ⟨D, 1, none⟩ = some (.int .u64 SV) ∧ W.cell? ⟨D, 3, none⟩ = some (.slice A3 n3 c3))
    (first | exact d6 | exact d5 | exact dd | exact d0)
    (first
      | (go_at_call 30; refine (HPL.out _).mono ?_; rintro e w5 ⟨rfl, hf⟩; have HF5 := Lib.hid ((HF1.out.no_trans (Fr.drew No _)).no_trans hf); have d5 := hALL.out w5 HF5.out; clear hf)
      | (go_at_call 29; refine (HSR.out _ (HFX.out.no_trans HF5.out)).mono ?_; rintro e w6 ⟨k, f, rfl, hff, hf⟩; have HFF := Lib.hid hff; have HF6 := Lib.hid (HF5.out.no_trans hf); have d6 := hALL.out w6 HF6.out; clear hf hff))
  clear d0 dd d5 HPL HSR HF5 HF1
  cases f with
  | true =>
    have HY : Hid (∃ h : k < cs.length, plcK cs[k].ck = y * 16 + x) := Lib.hid (by
      rcases HFF.out with ⟨_, q⟩ | ⟨q, _⟩
      · exact q
      · exact absurd q (by decide))
    have hkl : k < cs.length := HY.out.1
    have hkn : k < n3 := by have := HLEN.out; omega
    obtain ⟨b, o, rfl, _, y0, y1, y2, y3, y4⟩ := (HX3.out w6 (HFX.out.no_trans HF6.out)).at k hkl
    have HCH : Hid (ChAtP VV x y cs[k].ck) := Lib.hid (.inl ⟨HMEM.out k hkl, HY.out.2⟩)
    have HR := Lib.hid (HOX.out k hkl)
    obtain ⟨KK, hKK⟩ : ∃ KK, cs[k].ck = KK := ⟨_, rfl⟩
    rw [hKK] at HCH HR
    clear hKK HOX HMEM HFF HY HG
    generalize cs[k].x = a0 at *
    generalize cs[k].y = a1 at *
    generalize cs[k].A1 = bA1 at *
    generalize cs[k].n1 = bn1 at *
    generalize cs[k].c1 = bc1 at *
    generalize cs[k].A2 = bA2 at *
    generalize cs[k].n2 = bn2 at *
    generalize cs[k].c2 = bc2 at *
    generalize cs[k].A3 = bA3 at *
    generalize cs[k].n3 = bn3 at *
    generalize cs[k].c3 = bc3 at *
    obtain ⟨k1, k3⟩ := d6
    have hi1 : (k : Int) < (n3 : Int) := by omega
    have hi0 : (0 : Int) ≤ (k : Int) := by omega
    go_wp2_with (go_at_call 34; refine (HR.out _ (HFX.out.no_trans HF6.out)).mono ?_; rintro e w7 ⟨Cn, rfl, hck, ho, hf⟩; have HCK := Lib.hid hck; have HO := Lib.hid ho; have HF7 := Lib.hid (HF6.out.no_trans hf); have hB := blk_no HF7.out HB1.out; have HBB := Lib.hid hB; obtain ⟨s0, s1, s2, s3, s4⟩ := cells5 hB; obtain ⟨z0, z1, z2, z3, z4⟩ := free5 hB; clear hf ho hck hB)
    refine bodyPost_ret (results_cell_tmp_rowC (p := 6) rfl _ _ (D + 1) 31 #[.int .i64 Cn.x, .int .i64 Cn.y, .slice Cn.A1 Cn.n1 Cn.c1, .slice Cn.A2 Cn.n2 Cn.c2, .slice Cn.A3 Cn.n3 Cn.c3] (0, 0) _ rfl (set5_heap HBB.out _ _ _ _ _) Tryd.underlying31 rfl (by kernel_rfl)) rfl ?_
    exact ⟨Cn, rfl, by rw [HCK.out]; exact HCH.out, ((HO.out.low (HFX.out.no_trans HF6.out).size).at_ HBB.out (set5_fr _ _ _ _ _ _ _)), (HFX.out.no_trans HF7.out).then_new (set5_fr _ _ _ _ _ _ _) (fun i hi => by have e : i = D + 1 := hi; have := HD.out; omega)⟩
  | false =>
    have HCH : Hid (ChAtP VV x y (firstC sd x y)) := Lib.hid (by
      rcases HFF.out with ⟨q, _⟩ | ⟨_, q⟩
      · exact absurd q (by decide)
      · exact .inr ⟨q, by rw [HV.out]⟩)
    clear HOX HMEM HFF
    obtain ⟨k1, k3⟩ := d6
    go_wp2_with (go_at_call 26; refine (HG.out _).mono ?_; rintro e w7 ⟨A, c, rfl, ho, hf⟩; have HO := Lib.hid ho; have HF7 := Lib.hid (HF6.out.no_trans hf); have hB := blk_no HF7.out HB1.out; have HBB := Lib.hid hB; obtain ⟨s0, s1, s2, s3, s4⟩ := cells5 hB; obtain ⟨z0, z1, z2, z3, z4⟩ := free5 hB; clear hf ho hB)
    refine bodyPost_ret (results_cell_tmp_rowC (p := 6) rfl _ _ (D + 1) 31 #[.int .i64 x, .int .i64 y, .slice A 64 c, .slice none 0 0, .slice none 0 0] (0, 0) _ rfl (set5_heap HBB.out _ _ _ _ _) Tryd.underlying31 rfl (by kernel_rfl)) rfl ?_
    have hoc : OwC w.heap.size w7 ⟨x, y, A, 64, c, cellsL sd x.toNat y.toNat, none, 0, 0, [], none, 0, 0, []⟩ := ⟨own_low HO.out (HFX.out.no_trans HF6.out).size, World.ownsRow_nil _ _ _ _, World.ownsRow_nil _ _ _ _, fun b hb => absurd hb (List.not_mem_nil)⟩
    exact ⟨⟨x, y, A, 64, c, cellsL sd x.toNat y.toNat, none, 0, 0, [], none, 0, 0, []⟩, rfl, HCH.out, hoc.at_ HBB.out (set5_fr _ _ _ _ _ _ _), (HFX.out.no_trans HF7.out).then_new (set5_fr _ _ _ _ _ _ _) (fun i hi => by have e : i = D + 1 := hi; have := HD.out; omega)⟩
end
end Go.Proofs.YtjdhbgdpmojobaaDoor

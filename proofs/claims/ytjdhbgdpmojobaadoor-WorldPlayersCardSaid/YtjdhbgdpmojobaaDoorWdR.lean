/-
  A world's cells; a player of a world. No statement of the seat is proved here.
-/
import Derived.Test.YtjdhbgdpmojobaaDoorWdQ
namespace Go.Proofs.YtjdhbgdpmojobaaDoor
open Go.RowKit Go.Deep

section
variable {w w' : World} {d : Wd}
set_option maxRecDepth 100000 in
set_option maxHeartbeats 3200000 in
theorem wat_in (ht : ItT w) (h : InW w d) (r : RgtW d.v) {a b : Nat} (ha : (a : Int) < 8 * d.size) (hb : (b : Int) < 8 * d.size) : Calls Tryd.prog 15 #[d.val, .int .i64 (a : Int), .int .i64 (b : Int)] w fun e w' => ∃ (c : Ck) (i : Nat), e = .returned (.tuple #[.int .u8 (i : Int), .bool true]) ∧ ChAtP d.v ((a / 8 : Nat) : Int) ((b / 8 : Nat) : Int) c ∧ c.cs[b % 8 * 8 + a % 8]? = some i ∧ Fr No w w' := by
  have hs := r.s
  have hs2 : d.v.size = d.size := rfl
  have HCK : Hid (∀ W, Fr No w W → Calls Tryd.prog 21 #[d.val, .int .i64 ((a / 8 : Nat) : Int), .int .i64 ((b / 8 : Nat) : Int)] W fun e w' => ∃ C : Ch, e = .returned (.tuple #[.agg #[.int .i64 C.x, .int .i64 C.y, .slice C.A1 C.n1 C.c1, .slice C.A2 C.n2 C.c2, .slice C.A3 C.n3 C.c3], .bool true]) ∧ (ChAtP d.v ((a / 8 : Nat) : Int) ((b / 8 : Nat) : Int) C.ck ∧ C.n1 = 64 ∧ RwK w' 1 (ItAt w') C.A1 C.n1 C.cs) ∧ Fr No W w') := Lib.hid (fun W hW => (wchunk_in (ht.no hW) (h.no hW) r (by omega) (by omega) (by omega) (by omega)).mono (fun e w' ⟨C, h1, h2, h3, h4⟩ => ⟨C, h1, ⟨h2, by have := (h2.place r (by omega) (by omega)).2.2; have q : C.ck.cs.length = C.cs.length := rfl; have := h3.rd.r1.1; omega, h3.rd.r1⟩, h4⟩))
  obtain ⟨VV, hVV⟩ : ∃ VV, d.v = VV := ⟨_, rfl⟩
  rw [hVV] at HCK ⊢
  have hsz : a < 128 ∧ b < 128 := by omega
  clear ht h r hs hs2 hVV ha hb
  obtain ⟨SV, hSV⟩ : ∃ SV, (d.sd.toNat : Int) = SV := ⟨_, rfl⟩
  obtain ⟨size, sd, tick, A3, n3, c3, cs, A4, n4, c4, ps⟩ := d
  dsimp only [Wd.val, u64v] at *
  rw [hSV] at HCK ⊢
  clear hSV
  obtain ⟨X, hX⟩ : ∃ X, a / 8 = X := ⟨_, rfl⟩
  obtain ⟨Y, hY⟩ : ∃ Y, b / 8 = Y := ⟨_, rfl⟩
  obtain ⟨J, hJ⟩ : ∃ J, b % 8 * 8 + a % 8 = J := ⟨_, rfl⟩
  obtain ⟨P, hP⟩ : ∃ P, a % 8 = P := ⟨_, rfl⟩
  obtain ⟨Q, hQ⟩ : ∃ Q, b % 8 = Q := ⟨_, rfl⟩
  rw [hX, hY] at HCK ⊢
  rw [hJ]
  have t1 : (a : Int).tdiv 8 = (X : Int) := by rw [Int.tdiv_eq_ediv_of_nonneg (by omega)]; omega
  have t2 : (b : Int).tdiv 8 = (Y : Int) := by rw [Int.tdiv_eq_ediv_of_nonneg (by omega)]; omega
  have t3 : (a : Int).tmod 8 = (P : Int) := by rw [Int.tmod_eq_emod_of_nonneg (by omega)]; omega
  have t4 : (b : Int).tmod 8 = (Q : Int) := by rw [Int.tmod_eq_emod_of_nonneg (by omega)]; omega
  have u1 : IntKind.i64.wrap (X : Int) = (X : Int) := by rw [IntKind.wrap_i64]; omega
  have u2 : IntKind.i64.wrap (Y : Int) = (Y : Int) := by rw [IntKind.wrap_i64]; omega
  have u3 : IntKind.i64.wrap (P : Int) = (P : Int) := by rw [IntKind.wrap_i64]; omega
  have u4 : IntKind.i64.wrap (Q : Int) = (Q : Int) := by rw [IntKind.wrap_i64]; omega
  have u5 : IntKind.i64.wrap ((Q : Int) * 8) = (Q : Int) * 8 := by rw [IntKind.wrap_i64]; omega
  have u6 : IntKind.i64.wrap ((Q : Int) * 8 + (P : Int)) = (J : Int) := by rw [IntKind.wrap_i64]; omega
  have l1 : ¬ (a : Int) < 0 := by omega
  have l2 : ¬ (b : Int) < 0 := by omega
  have l3 : (J : Int) < 64 := by omega
  have l4 : (0 : Int) ≤ (J : Int) := by omega
  have l5 : J < 64 := by omega
  have hb0 := heap_alloc_new w (.cells #[.int .i64 size, .int .u64 SV, .int .i64 tick, .slice A3 n3 c3, .slice A4 n4 c4] 26)
  have HF0 := Lib.hid (Fr.alloc No w (.cells #[.int .i64 size, .int .u64 SV, .int .i64 tick, .slice A3 n3 c3, .slice A4 n4 c4] 26))
  obtain ⟨k0, k1, k2, k3, k4⟩ := cells5 hb0
  clear hb0 hX hY hP hQ hJ hsz
  go_enter Tryd.func15, Tryd.ntmps15
  go_upto_region 4 with (go_at_call 21; refine (HCK.out _ HF0.out).mono ?_; rintro e w1 ⟨C, rfl, ⟨hc, hn, hr⟩, hf⟩; have HC := Lib.hid hc; have HN := Lib.hid hn; have HR := Lib.hid hr; have HF1 := Lib.hid (HF0.out.no_trans hf); clear hc hn hr hf k0 k1 k2 k3 k4)
  have hbE := heap_alloc_new w1 (.cells #[.int .i64 C.x, .int .i64 C.y, .slice C.A1 C.n1 C.c1, .slice C.A2 C.n2 C.c2, .slice C.A3 C.n3 C.c3] 31)
  have hfE := Fr.alloc No w1 (.cells #[.int .i64 C.x, .int .i64 C.y, .slice C.A1 C.n1 C.c1, .slice C.A2 C.n2 C.c2, .slice C.A3 C.n3 C.c3] 31)
  have hlen : C.cs.length = 64 := by have := HR.out.1; have := HN.out; omega
  have hJ : J < C.cs.length := by omega
  obtain ⟨bb, o, hA, _, hc⟩ := (RwK.no (At := ItAt) (fun _ _ _ hb => ItAt.no hfE _ _ _ hb) hfE.size HR.out).2 (by have := HN.out; omega)
  have y0 := hc J hJ
  rw [Nat.mul_one] at y0
  unfold ItAt at y0
  have HI : Hid (C.ck.cs[J]? = some C.cs[J]) := Lib.hid (List.getElem?_eq_getElem hJ)
  have HFE := Lib.hid (HF1.out.no_trans hfE)
  obtain ⟨g0, g1, g2, g3, g4⟩ := cells5 hbE
  generalize w1.alloc (.cells #[.int .i64 C.x, .int .i64 C.y, .slice C.A1 C.n1 C.c1, .slice C.A2 C.n2 C.c2, .slice C.A3 C.n3 C.c3] 31) = wE at *
  rw [hA, HN.out] at g2
  clear hc
  obtain ⟨iv, hiv⟩ : ∃ iv, C.cs[J] = iv := ⟨_, rfl⟩
  rw [hiv] at y0 HI
  clear hiv hbE hfE hA HR HN HCK hlen hJ
  go_wp2_with fail
  refine bodyPost_ret (results_tmp2 rfl _ _ _) rfl ?_
  exact ⟨C.ck, iv, rfl, HC.out, HI.out, HFE.out⟩
set_option maxRecDepth 100000 in
set_option maxHeartbeats 3200000 in
theorem wat_out (ht : ItT w) (h : InW w d) (r : RgtW d.v) {x y : Int} (hx : x ≤ 9223372036854775807) (hy : y ≤ 9223372036854775807) (ho : ¬ (0 ≤ x ∧ 0 ≤ y ∧ x < 8 * d.size ∧ y < 8 * d.size)) : Calls Tryd.prog 15 #[d.val, .int .i64 x, .int .i64 y] w fun e w' => e = .returned (.tuple #[.int .u8 0, .bool false]) ∧ Fr No w w' := by
  obtain ⟨SV, hSV⟩ : ∃ SV, (d.sd.toNat : Int) = SV := ⟨_, rfl⟩
  by_cases hx0 : x < 0
  · obtain ⟨size, sd, tick, A3, n3, c3, cs, A4, n4, c4, ps⟩ := d
    dsimp only [Wd.val, u64v] at *
    rw [hSV]
    have HF0 := Lib.hid (Fr.alloc No w (.cells #[.int .i64 size, .int .u64 SV, .int .i64 tick, .slice A3 n3 c3, .slice A4 n4 c4] 26))
    clear ht h r hx hy ho hSV
    go_enter Tryd.func15, Tryd.ntmps15
    go_wp2_with fail
    refine bodyPost_ret (results_tmp2 rfl _ _ _) rfl ?_
    exact ⟨rfl, HF0.out⟩
  · by_cases hy0 : y < 0
    · obtain ⟨size, sd, tick, A3, n3, c3, cs, A4, n4, c4, ps⟩ := d
      dsimp only [Wd.val, u64v] at *
      rw [hSV]
      have HF0 := Lib.hid (Fr.alloc No w (.cells #[.int .i64 size, .int .u64 SV, .int .i64 tick, .slice A3 n3 c3, .slice A4 n4 c4] 26))
      clear ht h r hx hy ho hSV
      go_enter Tryd.func15, Tryd.ntmps15
      go_wp2_with fail
      refine bodyPost_ret (results_tmp2 rfl _ _ _) rfl ?_
      exact ⟨rfl, HF0.out⟩
    · obtain ⟨X, hX⟩ : ∃ X : Int, x / 8 = X := ⟨_, rfl⟩
      obtain ⟨Y, hY⟩ : ∃ Y : Int, y / 8 = Y := ⟨_, rfl⟩
      have HCK : Hid (∀ W, Fr No w W → Calls Tryd.prog 21 #[d.val, .int .i64 X, .int .i64 Y] W fun e w' => e = .returned (.tuple #[.agg #[.int .i64 0, .int .i64 0, .slice none 0 0, .slice none 0 0, .slice none 0 0], .bool false]) ∧ Fr No W w') := Lib.hid (fun W hW => wchunk_out (ht.no hW) (h.no hW) r (by omega))
      have t1 : x.tdiv 8 = X := by rw [Int.tdiv_eq_ediv_of_nonneg (by omega)]; omega
      have t2 : y.tdiv 8 = Y := by rw [Int.tdiv_eq_ediv_of_nonneg (by omega)]; omega
      have u1 : IntKind.i64.wrap X = X := by rw [IntKind.wrap_i64]; omega
      have u2 : IntKind.i64.wrap Y = Y := by rw [IntKind.wrap_i64]; omega
      obtain ⟨size, sd, tick, A3, n3, c3, cs, A4, n4, c4, ps⟩ := d
      dsimp only [Wd.val, u64v] at *
      rw [hSV] at HCK ⊢
      have HF0 := Lib.hid (Fr.alloc No w (.cells #[.int .i64 size, .int .u64 SV, .int .i64 tick, .slice A3 n3 c3, .slice A4 n4 c4] 26))
      obtain ⟨k0, k1, k2, k3, k4⟩ := cells5 (heap_alloc_new w (.cells #[.int .i64 size, .int .u64 SV, .int .i64 tick, .slice A3 n3 c3, .slice A4 n4 c4] 26))
      clear ht h r hx hy ho hSV hX hY
      go_enter Tryd.func15, Tryd.ntmps15
      go_wp2_with (go_at_call 21; refine (HCK.out _ HF0.out).mono ?_; rintro e w1 ⟨rfl, hf⟩; have HF1 := Lib.hid (HF0.out.no_trans hf); clear hf k0 k1 k2 k3 k4)
      refine bodyPost_ret (results_tmp2 rfl _ _ _) rfl ?_
      exact ⟨rfl, HF1.out.no_trans (Fr.alloc No _ _)⟩
set_option maxRecDepth 100000 in
theorem pl1_any (C : Pl) {S : Nat} {n : Int} (hS : w.heap[S]? = some (.cells #[.int .i64 n] 3 (0, 0))) : Calls Tryd.prog 48 #[.agg #[.int .i64 C.id, .int .i64 C.x, .int .i64 C.y, .slice C.A1 C.n1 C.c1, .int .i64 C.wi, .slice C.A2 C.n2 C.c2, .bool C.ag], .pointer (some ⟨S, 0, none⟩)] w fun e w' => e = .returned (.bool (decide (C.id = n))) ∧ Fr No w w' := by
  have HF0 := Lib.hid (Fr.alloc No w (.cells #[.int .i64 C.id, .int .i64 C.x, .int .i64 C.y, .slice C.A1 C.n1 C.c1, .int .i64 C.wi, .slice C.A2 C.n2 C.c2, .bool C.ag] 35))
  obtain ⟨g0, g1, g2, g3, g4, g5, g6⟩ := cells7 (heap_alloc_new w (.cells #[.int .i64 C.id, .int .i64 C.x, .int .i64 C.y, .slice C.A1 C.n1 C.c1, .int .i64 C.wi, .slice C.A2 C.n2 C.c2, .bool C.ag] 35))
  have s0 := (blk_cell (blk_no HF0.out hS) 0).trans (by simp : _ = some (Value.int .i64 n))
  clear hS
  generalize C.id = id at *
  generalize C.x = x at *
  generalize C.y = y at *
  generalize C.wi = wi at *
  generalize C.ag = ag at *
  generalize C.A1 = A1 at *
  generalize C.n1 = n1 at *
  generalize C.c1 = c1 at *
  generalize C.A2 = A2 at *
  generalize C.n2 = n2 at *
  generalize C.c2 = c2 at *
  go_enter Tryd.func48, Tryd.ntmps48
  go_wp2_with fail
  go_ret
  exact ⟨rfl, HF0.out⟩
/-- What Player tells. -/
def PlyP (w : World) (v : Wv) (n : Int) (e : Ending) (w' : World) : Prop :=
  (∃ (p : Py) (Q : Pl), p ∈ v.ps ∧ p.id = n ∧ e = .returned (.tuple #[Q.val, .bool true]) ∧ Q.py = p ∧ OwP w.heap.size w' Q ∧ Fr No w w') ∨
  ((∀ p ∈ v.ps, p.id ≠ n) ∧ e = .returned (.tuple #[.agg #[.int .i64 0, .int .i64 0, .int .i64 0, .slice none 0 0, .int .i64 0, .slice none 0 0, .bool false], .bool false]) ∧ Fr No w w')
set_option maxRecDepth 100000 in
set_option maxHeartbeats 3200000 in
theorem wplayer_any (h : InW w d) (z : SzW d) (n : Int) : Calls Tryd.prog 18 #[d.val, .int .i64 n] w (PlyP w d.v n) := by
  obtain ⟨SV, hSV⟩ : ∃ SV, (d.sd.toNat : Int) = SV := ⟨_, rfl⟩
  have HIX : Hid (∀ W S, Fr No w W → W.heap[S]? = some (.cells #[.int .i64 n] 3 (0, 0)) → Calls Tryd.prog 47 #[.slice d.A4 d.n4 d.c4, .func (.func 48) #[] #[.pointer (some ⟨S, 0, none⟩)]] W fun e w' => ∃ z : Int, e = .returned (.int .i64 z) ∧ IdxP (fun C : Pl => decide (C.id = n)) d.ps z ∧ Fr No W w') := Lib.hid (fun W S hW hS => idx_pid (fun C : Pl => decide (C.id = n)) (h.no hW).r4 d.c4 h.s4 S (fun j hj W' hW' => pl1_any d.ps[j] (blk_no hW' hS)))
  have HOX : Hid (∀ k (hk : k < d.ps.length) W, Fr No w W → Calls Tryd.prog 39 #[.agg #[.int .i64 d.ps[k].id, .int .i64 d.ps[k].x, .int .i64 d.ps[k].y, .slice d.ps[k].A1 d.ps[k].n1 d.ps[k].c1, .int .i64 d.ps[k].wi, .slice d.ps[k].A2 d.ps[k].n2 d.ps[k].c2, .bool d.ps[k].ag]] W fun e w' => ∃ C : Pl, e = .returned (.agg #[.int .i64 C.id, .int .i64 C.x, .int .i64 C.y, .slice C.A1 C.n1 C.c1, .int .i64 C.wi, .slice C.A2 C.n2 C.c2, .bool C.ag]) ∧ C.py = d.ps[k].py ∧ OwP W.heap.size w' C ∧ Fr No W w') := Lib.hid (fun k hk W hW => (pown_any (((h.no hW).pl _ (List.getElem_mem hk)).rd) (z.zp _ (List.getElem_mem hk)).1 (z.zp _ (List.getElem_mem hk)).2).mono (fun e w' ⟨C, h1, h2, _, _, h4, h5⟩ => ⟨C, h1, h2, h4, h5⟩))
  have HX4 := Lib.hid (fun W (hW : Fr No w W) => (h.no hW).r4)
  have HLEN : Hid (d.ps.length = d.n4) := Lib.hid h.r4.2.1
  have HN4 : Hid (d.n4 ≤ 100000) := Lib.hid z.z4
  have HMEM : Hid (∀ k (hk : k < d.ps.length), d.ps[k].py ∈ d.v.ps) := Lib.hid (fun k hk => List.mem_map_of_mem (List.getElem_mem hk))
  have HNON : Hid ((∀ C ∈ d.ps, decide (C.id = n) = false) → ∀ p ∈ d.v.ps, p.id ≠ n) := Lib.hid (fun hq p hp => by
    obtain ⟨C, hC, rfl⟩ := List.mem_map.1 hp
    exact of_decide_eq_false (hq C hC))
  obtain ⟨VV, hVV⟩ : ∃ VV, d.v = VV := ⟨_, rfl⟩
  rw [hVV] at HMEM HNON ⊢
  clear h z hVV
  obtain ⟨size, sd, tick, A3, n3, c3, cs, A4, n4, c4, ps⟩ := d
  dsimp only [Wd.val, u64v] at *
  rw [hSV]
  clear hSV
  have hb0 := heap_alloc_new w (.cells #[.int .i64 size, .int .u64 SV, .int .i64 tick, .slice A3 n3 c3, .slice A4 n4 c4] 26)
  have hf0 := Fr.alloc No w (.cells #[.int .i64 size, .int .u64 SV, .int .i64 tick, .slice A3 n3 c3, .slice A4 n4 c4] 26)
  have hb1 := heap_alloc_new (w.alloc (.cells #[.int .i64 size, .int .u64 SV, .int .i64 tick, .slice A3 n3 c3, .slice A4 n4 c4] 26)) (.cells #[.int .i64 n] 3)
  have hf1 := Fr.alloc No (w.alloc (.cells #[.int .i64 size, .int .u64 SV, .int .i64 tick, .slice A3 n3 c3, .slice A4 n4 c4] 26)) (.cells #[.int .i64 n] 3)
  have hb2 := heap_alloc_new ((w.alloc (.cells #[.int .i64 size, .int .u64 SV, .int .i64 tick, .slice A3 n3 c3, .slice A4 n4 c4] 26)).alloc (.cells #[.int .i64 n] 3)) (.cells #[.int .i64 0, .int .i64 0, .int .i64 0, .slice none 0 0, .int .i64 0, .slice none 0 0, .bool false] 35)
  have hf2 := Fr.alloc No ((w.alloc (.cells #[.int .i64 size, .int .u64 SV, .int .i64 tick, .slice A3 n3 c3, .slice A4 n4 c4] 26)).alloc (.cells #[.int .i64 n] 3)) (.cells #[.int .i64 0, .int .i64 0, .int .i64 0, .slice none 0 0, .int .i64 0, .slice none 0 0, .bool false] 35)
  have hbD := blk_no (hf1.no_trans hf2) hb0
  have hbC := blk_no hf2 hb1
  have HFX := Lib.hid ((hf0.no_trans hf1).no_trans hf2)
  simp only [World.size_alloc] at hbC hb2
  clear hb0 hb1 hf0 hf1 hf2
  go_enter Tryd.func18, Tryd.ntmps18
  go_upto_region 1 with fail
  obtain ⟨D, hD⟩ : ∃ D, w.heap.size = D := ⟨_, rfl⟩
  have HD := Lib.hid hD
  rw [hD] at hbD hbC hb2 ⊢
  clear hD
  generalize ((w.alloc (.cells #[.int .i64 size, .int .u64 SV, .int .i64 tick, .slice A3 n3 c3, .slice A4 n4 c4] 26)).alloc (.cells #[.int .i64 n] 3)).alloc (.cells #[.int .i64 0, .int .i64 0, .int .i64 0, .slice none 0 0, .int .i64 0, .slice none 0 0, .bool false] 35) = wx at *
  have HBD := Lib.hid hbD
  have HBC := Lib.hid hbC
  have HB2 := Lib.hid hb2
  obtain ⟨k0, k1, k2, k3, k4⟩ := cells5 hbD
  clear hbD hbC hb2
  go_upto_region 2 with (go_at_call 47; refine (HIX.out _ _ HFX.out HBC.out).mono ?_; rintro e w1 ⟨z, rfl, hz, hf⟩; have HZ := Lib.hid hz; have HF1 := Lib.hid hf; clear k0 k1 k2 k3 k4 hz hf)
  rcases HZ.out with ⟨hz, hno⟩ | ⟨k, hkl, hz, hp, _⟩
  · subst hz
    have HNO := Lib.hid (HNON.out hno)
    have HBB := Lib.hid (blk_no HF1.out HB2.out)
    obtain ⟨s0, s1, s2, s3, s4, s5, s6⟩ := cells7 HBB.out
    obtain ⟨z0, z1, z2, z3, z4, z5, z6⟩ := free7 HBB.out
    clear hno HZ
    go_wp2_with fail
    refine bodyPost_ret (results_cell_tmp_rowC (p := 4) rfl _ _ (D + 1 + 1) 35 #[.int .i64 0, .int .i64 0, .int .i64 0, .slice none 0 0, .int .i64 0, .slice none 0 0, .bool false] (0, 0) _ rfl (set7_heap HBB.out _ _ _ _ _ _ _) Tryd.underlying35 rfl (by kernel_rfl)) rfl ?_
    exact .inr ⟨HNO.out, rfl, (HFX.out.no_trans HF1.out).then_new (set7_fr _ _ _ _ _ _ _ _ _) (fun i hi => by have e : i = D + 1 + 1 := hi; have := HD.out; omega)⟩
  · subst hz
    have HPY := Lib.hid (HMEM.out k hkl)
    have HID : Hid (ps[k].py.id = n) := Lib.hid (of_decide_eq_true hp)
    have HR := Lib.hid (HOX.out k hkl)
    obtain ⟨b, o, rfl, _, y0, y1, y2, y3, y4, y5, y6⟩ := (HX4.out w1 (HFX.out.no_trans HF1.out)).at k hkl
    obtain ⟨j0, j1, j2, j3, j4⟩ := cells5 (blk_no HF1.out HBD.out)
    have hi1 : (k : Int) < (n4 : Int) := by have := HLEN.out; omega
    have hi0 : (0 : Int) ≤ (k : Int) := by omega
    have hi2 : ¬ (k : Int) < 0 := by omega
    obtain ⟨KK, hKK⟩ : ∃ KK, ps[k].py = KK := ⟨_, rfl⟩
    rw [hKK] at HPY HID HR
    clear hKK HOX HMEM HNON HZ HIX hp
    generalize ps[k].id = a0 at *
    generalize ps[k].x = a1 at *
    generalize ps[k].y = a2 at *
    generalize ps[k].wi = a3 at *
    generalize ps[k].ag = a4 at *
    generalize ps[k].A1 = bA1 at *
    generalize ps[k].n1 = bn1 at *
    generalize ps[k].c1 = bc1 at *
    generalize ps[k].A2 = bA2 at *
    generalize ps[k].n2 = bn2 at *
    generalize ps[k].c2 = bc2 at *
    go_wp2_with (go_at_call 39; refine (HR.out _ (HFX.out.no_trans HF1.out)).mono ?_; rintro e w7 ⟨Cn, rfl, hck, ho, hf⟩; have HCK := Lib.hid hck; have HO := Lib.hid ho; have HF7 := Lib.hid (HF1.out.no_trans hf); have hB := blk_no HF7.out HB2.out; have HBB := Lib.hid hB; obtain ⟨s0, s1, s2, s3, s4, s5, s6⟩ := cells7 hB; obtain ⟨z0, z1, z2, z3, z4, z5, z6⟩ := free7 hB; clear hf ho hck hB)
    refine bodyPost_ret (results_cell_tmp_rowC (p := 4) rfl _ _ (D + 1 + 1) 35 #[.int .i64 Cn.id, .int .i64 Cn.x, .int .i64 Cn.y, .slice Cn.A1 Cn.n1 Cn.c1, .int .i64 Cn.wi, .slice Cn.A2 Cn.n2 Cn.c2, .bool Cn.ag] (0, 0) _ rfl (set7_heap HBB.out _ _ _ _ _ _ _) Tryd.underlying35 rfl (by kernel_rfl)) rfl ?_
    exact .inl ⟨KK, Cn, HPY.out, HID.out, rfl, HCK.out, ((HO.out.low (HFX.out.no_trans HF1.out).size).oth HBB.out (by decide) (set7_fr _ _ _ _ _ _ _ _ _)), (HFX.out.no_trans HF7.out).then_new (set7_fr _ _ _ _ _ _ _ _ _) (fun i hi => by have e : i = D + 1 + 1 := hi; have := HD.out; omega)⟩
end
end Go.Proofs.YtjdhbgdpmojobaaDoor

/-
  A player set in a world: the walk. No statement of the seat is proved here.
-/
import Derived.Test.YtjdhbgdpmojobaaDoorWdMa
namespace Go.Proofs.YtjdhbgdpmojobaaDoor
open Go.RowKit Go.Deep

/-- What Set leaves, tells, of a right world. -/
def setE (v : Wv) (p : Py) : Int := if rgtP v.size p = true then (if ¬ p.id ∈ v.ps.map Py.id ∧ v.ps.length = 32 then 3 else 0) else 110
def setV (v : Wv) (p : Py) : Wv := if setE v p = 0 then ⟨v.size, v.sd, v.tick, v.cs, putL Py.id v.ps p.id [p]⟩ else v
section
variable {w wr w' : World} {D G : Nat} {b0 b1 : Array Value} {T1 : TypeId} {d : Wd}
/-- One player is written over. -/
theorem PutS.setp (h : PutS w D G b0 b1 T1 d wr) (k : Nat) (hk : k < d.n4) : ∃ g, d.A4 = some ⟨g, 0, none⟩ ∧ g < wr.heap.size ∧ (∃ cur, wr.heap[g]? = some (.cells cur 35 (0, 0))) ∧
    ∀ (W : World) (P : Pl), Fr No wr W → OwP (D + 1 + 1 + 1) W P → PutS w D G b0 b1 T1 ⟨d.size, d.sd, d.tick, d.A3, d.n3, d.c3, d.cs, d.A4, d.n4, d.c4, d.ps.set k P⟩ (put7 W g (k * 7) (.int .i64 P.id) (.int .i64 P.x) (.int .i64 P.y) (.slice P.A1 P.n1 P.c1) (.int .i64 P.wi) (.slice P.A2 P.n2 P.c2) (.bool P.ag)) := by
  obtain ⟨g, hg, hglo, hgs, ⟨cur, hcur⟩, _⟩ := own_put7 h.own.o4 h.own.e4 k hk
  refine ⟨g, hg, hgs, ⟨cur, hcur⟩, fun W P hW hP => ?_⟩
  have h' := h.no hW
  obtain ⟨g', hg', _, _, ⟨cur', hcur'⟩, hset⟩ := own_put7 h'.own.o4 h'.own.e4 k hk
  rw [hg] at hg'
  injection hg' with hg'
  injection hg' with hg'
  subst hg'
  have hf := put7_fr W g (k * 7) (.int .i64 P.id) (.int .i64 P.x) (.int .i64 P.y) (.slice P.A1 P.n1 P.c1) (.int .i64 P.wi) (.slice P.A2 P.n2 P.c2) (.bool P.ag)
  have hGg : G ≠ g := fun e => by rw [← e, h'.hG] at hcur'; injection hcur' with hc; injection hc with _ hc _; exact absurd hc (by decide)
  have hD := h.hD
  refine ⟨hf.blk h'.h0 (by omega), hf.blk h'.h1 (by omega), hf.blk h'.h2 (by omega), hf.blk h'.hG hGg, h.gD, h.hD, ⟨h.own.e3, by rw [List.length_set]; exact h.own.e4, own_oth h'.own.o3 hcur' (by decide) hf, hset P, fun C hC => (h'.own.oc C hC).oth hcur' (by decide) hf, fun Q hQ => ?_⟩, h'.fr.then_new hf (fun i hi => by have e : i = g := hi; omega)⟩
  rcases List.mem_or_eq_of_mem_set hQ with q | q
  · exact (h'.own.op Q q).oth hcur' (by decide) hf
  · rw [q]; exact hP.oth hcur' (by decide) hf
end
set_option maxRecDepth 100000 in
set_option maxHeartbeats 3200000 in
theorem wset_any {w : World} {d : Wd} {P : Pl} (ht : ItT w) (h : InW w d) (r : RgtW d.v) (hP : InP w P) : Calls Tryd.prog 12 #[d.val, P.val] w fun e w' => ∃ d' : Wd, e = .returned (.tuple #[d'.val, .int .i64 (setE d.v P.py)]) ∧ d'.v = setV d.v P.py ∧ OwW w.heap.size w' d' ∧ Fr No w w' := by
  have z := h.sz r
  have HOWN := Lib.hid (fun W (hW : Fr No w W) => wown_x (h.no hW) z)
  have HRT := Lib.hid (fun W (hW : Fr No w W) => wright_any (ht.no hW) (h.no hW))
  have HRC := Lib.hid (fun W (hW : Fr No w W) => rplayer_any (ht.no hW) (hP.no hW) r.s.1 r.s.2)
  have HINC := Lib.hid hP
  have HRW := Lib.hid r
  have HPE : Hid (setE d.v P.py = if rgtP d.size P.py = true then (if ¬ P.id ∈ d.v.ps.map Py.id ∧ d.v.ps.length = 32 then 3 else 0) else 110) := Lib.hid rfl
  have HPV : Hid (setV d.v P.py = if setE d.v P.py = 0 then ⟨d.size, d.sd, d.tick, d.v.cs, putL Py.id d.v.ps P.id [P.py]⟩ else d.v) := Lib.hid rfl
  have HPZ : Hid (rgtP d.size P.py = true → P.n1 ≤ 100000 ∧ P.n2 ≤ 100000) := Lib.hid (fun hp => by
    have e1 := hP.rd.r1.1
    have e2 := hP.rd.r2.1
    unfold rgtP at hp
    simp only [Bool.and_eq_true] at hp
    obtain ⟨⟨_, hb⟩, hd⟩ := hp
    unfold rgt8 at hb
    rw [Bool.and_eq_true, decide_eq_true_iff] at hb
    have f1 : P.py.bag.length = P.l1.length := rfl
    have f2 : P.py.off.length = P.l2.length := rfl
    refine ⟨by omega, ?_⟩
    unfold dealB at hd
    split at hd
    · rw [Bool.and_eq_true, decide_eq_true_iff] at hd
      omega
    · unfold rgt8 at hd
      simp only [Bool.and_eq_true, decide_eq_true_iff] at hd
      omega)
  rw [rgtW_iff.2 r] at HRT
  obtain ⟨q, hq⟩ : ∃ q, rgtP d.size P.py = q := ⟨_, rfl⟩
  have HPE0 : Hid (q = false → setE d.v P.py = 110) := Lib.hid (fun h => by rw [HPE.out, hq, h]; rfl)
  have HPE1 : Hid (q = true → setE d.v P.py = if ¬ P.id ∈ d.v.ps.map Py.id ∧ d.v.ps.length = 32 then 3 else 0) := Lib.hid (fun h => by rw [HPE.out, hq, h]; rfl)
  clear HPE
  rw [hq] at HPZ
  have hq' : rgtP d.v.size P.py = q := hq
  rw [hq'] at HRC
  obtain ⟨E, hE⟩ : ∃ E, setE d.v P.py = E := ⟨_, rfl⟩
  obtain ⟨V, hV⟩ : ∃ V, setV d.v P.py = V := ⟨_, rfl⟩
  rw [hE] at HPE0 HPE1 HPV ⊢
  rw [hV] at HPV ⊢
  clear hq hq' hE hV ht h z hP r
  obtain ⟨SV, hSV⟩ : ∃ SV, (d.sd.toNat : Int) = SV := ⟨_, rfl⟩
  have HSV := Lib.hid hSV
  obtain ⟨size, sd, tick, A3, n3, c3, cs, A4, n4, c4, ps⟩ := d
  obtain ⟨id, x, y, B1, m1, e1, l1, wi, B2, m2, e2, l2, ag⟩ := P
  dsimp only [Wd.val, Pl.val, u64v] at *
  rw [hSV] at HOWN HRT ⊢
  clear hSV
  have hb0 := heap_alloc_new w (.cells #[.int .i64 size, .int .u64 SV, .int .i64 tick, .slice A3 n3 c3, .slice A4 n4 c4] 26)
  have hf0 := Fr.alloc No w (.cells #[.int .i64 size, .int .u64 SV, .int .i64 tick, .slice A3 n3 c3, .slice A4 n4 c4] 26)
  have hb1 := heap_alloc_new (w.alloc (.cells #[.int .i64 size, .int .u64 SV, .int .i64 tick, .slice A3 n3 c3, .slice A4 n4 c4] 26)) (.cells #[.int .i64 id, .int .i64 x, .int .i64 y, .slice B1 m1 e1, .int .i64 wi, .slice B2 m2 e2, .bool ag] 35)
  have hf1 := Fr.alloc No (w.alloc (.cells #[.int .i64 size, .int .u64 SV, .int .i64 tick, .slice A3 n3 c3, .slice A4 n4 c4] 26)) (.cells #[.int .i64 id, .int .i64 x, .int .i64 y, .slice B1 m1 e1, .int .i64 wi, .slice B2 m2 e2, .bool ag] 35)
  have hb2 := heap_alloc_new ((w.alloc (.cells #[.int .i64 size, .int .u64 SV, .int .i64 tick, .slice A3 n3 c3, .slice A4 n4 c4] 26)).alloc (.cells #[.int .i64 id, .int .i64 x, .int .i64 y, .slice B1 m1 e1, .int .i64 wi, .slice B2 m2 e2, .bool ag] 35)) (.cells #[.int .i64 0, .int .u64 0, .int .i64 0, .slice none 0 0, .slice none 0 0] 26)
  have hf2 := Fr.alloc No ((w.alloc (.cells #[.int .i64 size, .int .u64 SV, .int .i64 tick, .slice A3 n3 c3, .slice A4 n4 c4] 26)).alloc (.cells #[.int .i64 id, .int .i64 x, .int .i64 y, .slice B1 m1 e1, .int .i64 wi, .slice B2 m2 e2, .bool ag] 35)) (.cells #[.int .i64 0, .int .u64 0, .int .i64 0, .slice none 0 0, .slice none 0 0] 26)
  have hbD := blk_no (hf1.no_trans hf2) hb0
  have hbC := blk_no hf2 hb1
  have HFX := Lib.hid ((hf0.no_trans hf1).no_trans hf2)
  simp only [World.size_alloc] at hbC hb2
  clear hb0 hb1 hf0 hf1 hf2
  go_enter Tryd.func12, Tryd.ntmps12
  go_upto_region 1 with fail
  obtain ⟨D, hD⟩ : ∃ D, w.heap.size = D := ⟨_, rfl⟩
  have HD := Lib.hid hD
  try simp only [World.size_alloc]
  rw [hD] at hbD hbC hb2 ⊢
  clear hD
  generalize ((w.alloc (.cells #[.int .i64 size, .int .u64 SV, .int .i64 tick, .slice A3 n3 c3, .slice A4 n4 c4] 26)).alloc (.cells #[.int .i64 id, .int .i64 x, .int .i64 y, .slice B1 m1 e1, .int .i64 wi, .slice B2 m2 e2, .bool ag] 35)).alloc (.cells #[.int .i64 0, .int .u64 0, .int .i64 0, .slice none 0 0, .slice none 0 0] 26) = wx at *
  have HBD := Lib.hid hbD
  have HBC := Lib.hid hbC
  have HB2 := Lib.hid hb2
  obtain ⟨k0, k1, k2, k3, k4⟩ := cells5 hbD
  clear hbD hbC hb2
  go_upto_region 2 with (go_at_call 27; refine (HOWN.out _ HFX.out).mono ?_; rintro e w1 ⟨A3', c3', cs', A4', c4', ps', rfl, hv, ho, hf⟩; have HV1 := Lib.hid hv; have HO1 := Lib.hid ho; have HF1 := Lib.hid hf; clear hv ho hf k0 k1 k2 k3 k4)
  have hbG := heap_alloc_new w1 (.cells #[.int .i64 size, .int .u64 SV, .int .i64 tick, .slice A3' n3 c3', .slice A4' n4 c4'] 26)
  have hfG := Fr.alloc No w1 (.cells #[.int .i64 size, .int .u64 SV, .int .i64 tick, .slice A3' n3 c3', .slice A4' n4 c4'] 26)
  obtain ⟨G, hG⟩ : ∃ G, w1.heap.size = G := ⟨_, rfl⟩
  have HGD : Hid (D + 1 + 1 < G) := Lib.hid (by have := (Array.getElem?_eq_some_iff.1 HB2.out).1; have := HF1.out.size; omega)
  have HLO : Hid (D + 1 + 1 + 1 ≤ wx.heap.size) := Lib.hid (by have := (Array.getElem?_eq_some_iff.1 HB2.out).1; omega)
  rw [hG] at hbG ⊢
  clear hG
  have HP : Hid (PutS w D G #[.int .i64 size, .int .u64 SV, .int .i64 tick, .slice A3 n3 c3, .slice A4 n4 c4] #[.int .i64 id, .int .i64 x, .int .i64 y, .slice B1 m1 e1, .int .i64 wi, .slice B2 m2 e2, .bool ag] 35 ⟨size, sd, tick, A3', n3, c3', cs', A4', n4, c4', ps'⟩ (w1.alloc (.cells #[.int .i64 size, .int .u64 SV, .int .i64 tick, .slice A3' n3 c3', .slice A4' n4 c4'] 26))) := Lib.hid ⟨blk_no (HF1.out.no_trans hfG) HBD.out, blk_no (HF1.out.no_trans hfG) HBC.out, blk_no (HF1.out.no_trans hfG) HB2.out, by dsimp only; rw [HSV.out]; exact hbG, HGD.out, HD.out, (HO1.out.low HLO.out).no hfG, (HFX.out.no_trans HF1.out).no_trans hfG⟩
  generalize w1.alloc (.cells #[.int .i64 size, .int .u64 SV, .int .i64 tick, .slice A3' n3 c3', .slice A4' n4 c4'] 26) = wy at *
  clear hbG hfG HBD HBC HB2 HO1 HF1 HLO HGD HFX
  have HVV : Hid ((cs'.map Ch.ck = cs.map Ch.ck) ∧ ps'.map Pl.py = ps.map Pl.py) := Lib.hid HV1.out
  clear HV1
  have HSAME : Hid (Wd.v ⟨size, sd, tick, A3', n3, c3', cs', A4', n4, c4', ps'⟩ = Wd.v ⟨size, sd, tick, A3, n3, c3, cs, A4, n4, c4, ps⟩) := Lib.hid (by unfold Wd.v; dsimp only; rw [HVV.out.1, HVV.out.2])
  have HPS : Hid (ps'.length = n4) := Lib.hid HP.out.own.e4
  have HVP : Hid ((Wd.v ⟨size, sd, tick, A3, n3, c3, cs, A4, n4, c4, ps⟩).ps = ps'.map Pl.py) := Lib.hid HVV.out.2.symm
  have HN4 : Hid (n4 ≤ 32) := Lib.hid (by
    have h1 := HRW.out.pn
    rw [HVP.out, List.length_map, HPS.out] at h1
    exact h1)
  have HRISE : Hid (Rise (ps'.map Pl.id)) := Lib.hid (by
    have h1 := HRW.out.pr
    rw [HVP.out, List.map_map] at h1
    exact h1)
  have HIDS : Hid ((Wd.v ⟨size, sd, tick, A3, n3, c3, cs, A4, n4, c4, ps⟩).ps.map Py.id = ps'.map Pl.id) := Lib.hid (by rw [HVP.out, List.map_map]; rfl)
  have HLEN : Hid ((Wd.v ⟨size, sd, tick, A3, n3, c3, cs, A4, n4, c4, ps⟩).ps.length = n4) := Lib.hid (by rw [HVP.out, List.length_map, HPS.out])
  clear HRW
  have HSR : Hid (∀ W, Fr No wy W → Calls Tryd.prog 36 #[.slice A4' n4 c4', .func (.func 37) #[] #[], .int .i64 id] W fun e w' =>
      ∃ (k : Nat) (f : Bool), e = .returned (.tuple #[.int .i64 (k : Int), .bool f]) ∧ (f = if h : k < ps'.length then decide (ps'[k].id = id) else false) ∧ AtB (ps'.map Pl.id) id k ∧ Fr No W w') := Lib.hid (fun W hW => search_py (HP.out.no hW).own.r4 c4' (by have := HN4.out; dsimp only; omega) id (fun i j h hij => by
    have := HRISE.out.lt i j (by simpa using h) hij
    rw [List.getElem_map, List.getElem_map] at this
    exact this))
  obtain ⟨r0, r1, r2, r3, r4⟩ := cells5 HP.out.hG
  obtain ⟨j0, j1, j2, j3, j4, j5, j6⟩ := cells7 HP.out.h1
  dsimp only at r0 r1 r2 r3 r4
  go_upto_region 3 with (go_at_call 36; refine (HSR.out _ (Fr.refl No wy)).mono ?_; rintro e w6 ⟨k, f, rfl, hff, hk, hf⟩; have HFF := Lib.hid hff; have HAT := Lib.hid hk; have HP6 := Lib.hid (HP.out.no hf); clear hf hff hk r0 r1 r2 r3 r4 j0 j1 j2 j3 j4 j5 j6)
  obtain ⟨k0, k1, k2, k3, k4⟩ := cells5 HP6.out.h0
  clear HP HSR HOWN
  go_upto_region 5 with (go_at_call 8; refine (HRT.out _ HP6.out.fr).mono ?_; rintro e w2 ⟨rfl, hf⟩; have HP2 := Lib.hid (HP6.out.no hf); clear hf k0 k1 k2 k3 k4)
  obtain ⟨k0, k1, k2, k3, k4⟩ := cells5 HP2.out.h0
  obtain ⟨j0, j1, j2, j3, j4, j5, j6⟩ := cells7 HP2.out.h1
  clear HP6 HRT
  cases q with
  | false =>
    have HE : Hid (E = 110) := Lib.hid (HPE0.out rfl)
    have HV : Hid (V = Wd.v ⟨size, sd, tick, A3, n3, c3, cs, A4, n4, c4, ps⟩) := Lib.hid (by rw [HPV.out, HE.out]; rfl)
    clear HPE0 HPE1 HPV
    go_upto_region 6 with (go_at_call 38; refine (HRC.out _ HP2.out.fr).mono ?_; rintro e w3 ⟨rfl, hf⟩; have HP3 := Lib.hid (HP2.out.no hf); clear hf k0 k1 k2 k3 k4 j0 j1 j2 j3 j4 j5 j6)
    obtain ⟨r0, r1, r2, r3, r4⟩ := cells5 HP3.out.hG
    obtain ⟨s0, s1, s2, s3, s4⟩ := cells5 HP3.out.h2
    obtain ⟨z0, z1, z2, z3, z4⟩ := free5 HP3.out.h2
    dsimp only at r0 r1 r2 r3 r4
    rw [HSV.out] at r1
    go_wp2_with fail
    have hfin := HP3.out.fin
    dsimp only at hfin
    rw [HSV.out] at hfin
    refine bodyPost_ret (results_cell_tmp_rowC (p := 4) rfl _ _ (D + 1 + 1) 26 #[.int .i64 size, .int .u64 SV, .int .i64 tick, .slice A3' n3 c3', .slice A4' n4 c4'] (0, 0) _ rfl hfin.1 Tryd.underlying26 rfl (by kernel_rfl)) rfl ?_
    exact ⟨_, by first | rfl | (show _ = Ending.returned (.tuple #[.agg #[_, .int .u64 (sd.toNat : Int), _, _, _], _]); rw [HSV.out, HE.out]; rfl), by rw [HV.out]; exact HSAME.out, hfin.2.1, hfin.2.2⟩
  | true =>
  have HZP := Lib.hid (HPZ.out rfl)
  have HPE := Lib.hid (HPE1.out rfl)
  clear HPZ HPE0 HPE1
  have HMAP : Hid ((putL Pl.id ps' id [Pl.mk id x y B1 m1 e1 l1 wi B2 m2 e2 l2 ag]).map Pl.py = putL Py.id (Wd.v ⟨size, sd, tick, A3, n3, c3, cs, A4, n4, c4, ps⟩).ps id [Pl.py ⟨id, x, y, B1, m1, e1, l1, wi, B2, m2, e2, l2, ag⟩]) := Lib.hid (by rw [putL_map (key := Pl.id) Pl.py Py.id (fun _ => rfl), ← HVP.out]; rfl)
  have HMEM : Hid (f = false → ¬ id ∈ (Wd.v ⟨size, sd, tick, A3, n3, c3, cs, A4, n4, c4, ps⟩).ps.map Py.id) := Lib.hid (fun hf hm => by
    rw [HIDS.out] at hm
    obtain ⟨j, hj, he⟩ := List.getElem_of_mem hm
    have hj' : j < ps'.length := by simpa using hj
    rcases Nat.lt_or_ge j k with q | q
    · have := HAT.out.2.1 j hj q; omega
    · have hk : k < ps'.length := by omega
      have a := HAT.out.2.2 k (by simpa using hk) (Nat.le_refl _)
      have b := HFF.out
      rw [hf, dif_pos hk] at b
      have c := of_decide_eq_false b.symm
      rw [List.getElem_map] at a
      rcases Nat.lt_or_ge k j with s | s
      · have := HRISE.out.lt k j hj s
        rw [List.getElem_map] at this
        omega
      · obtain rfl : j = k := by omega
        rw [List.getElem_map] at he
        exact c he)
  have HMEM1 : Hid (f = true → id ∈ (Wd.v ⟨size, sd, tick, A3, n3, c3, cs, A4, n4, c4, ps⟩).ps.map Py.id ∧ ∃ h : k < ps'.length, ps'[k].id = id) := Lib.hid (fun hf => by
    have b := HFF.out
    by_cases hk : k < ps'.length
    · rw [hf, dif_pos hk] at b
      have c := of_decide_eq_true b.symm
      refine ⟨?_, hk, c⟩
      rw [HIDS.out]
      exact List.mem_map.2 ⟨ps'[k], List.getElem_mem hk, c⟩
    · rw [hf, dif_neg hk] at b
      exact absurd b (by decide))
  have HKN : Hid (k ≤ n4) := Lib.hid (by have := HAT.out.1; rw [List.length_map] at this; have := HPS.out; omega)
  go_upto_region 7 with (go_at_call 38; refine (HRC.out _ HP2.out.fr).mono ?_; rintro e w3 ⟨rfl, hf⟩; have HP3 := Lib.hid (HP2.out.no hf); clear hf k0 k1 k2 k3 k4 j0 j1 j2 j3 j4 j5 j6)
  clear HP2 HRC
  obtain ⟨k0, k1, k2, k3, k4⟩ := cells5 HP3.out.h0
  have HOX : Hid (∀ W, Fr No w W → Calls Tryd.prog 39 #[.agg #[.int .i64 id, .int .i64 x, .int .i64 y, .slice B1 m1 e1, .int .i64 wi, .slice B2 m2 e2, .bool ag]] W fun e w' => ∃ Cn : Pl, e = .returned (.agg #[.int .i64 Cn.id, .int .i64 Cn.x, .int .i64 Cn.y, .slice Cn.A1 Cn.n1 Cn.c1, .int .i64 Cn.wi, .slice Cn.A2 Cn.n2 Cn.c2, .bool Cn.ag]) ∧ Cn.py = Pl.py ⟨id, x, y, B1, m1, e1, l1, wi, B2, m2, e2, l2, ag⟩ ∧ OwP W.heap.size w' Cn ∧ Fr No W w') := Lib.hid (fun W hW => (pown_any (HINC.out.no hW).rd HZP.out.1 HZP.out.2).mono (fun e w' ⟨Cn, h1, h2, _, _, h4, h5⟩ => ⟨Cn, h1, h2, h4, h5⟩))
  have HLO3 : Hid (D + 1 + 1 + 1 ≤ w3.heap.size) := Lib.hid (by have := (Array.getElem?_eq_some_iff.1 HP3.out.h2).1; omega)
  cases f with
  | true =>
    have HY := Lib.hid (HMEM1.out rfl)
    have HE : Hid (E = 0) := Lib.hid (by rw [HPE.out, if_neg (fun h => h.1 HY.out.1)])
    have HV : Hid (V = ⟨size, sd, tick, (Wd.v ⟨size, sd, tick, A3, n3, c3, cs, A4, n4, c4, ps⟩).cs, putL Py.id (Wd.v ⟨size, sd, tick, A3, n3, c3, cs, A4, n4, c4, ps⟩).ps id [Pl.py ⟨id, x, y, B1, m1, e1, l1, wi, B2, m2, e2, l2, ag⟩]⟩) := Lib.hid (by rw [HPV.out, if_pos HE.out])
    have HKL : Hid (k < n4) := Lib.hid (by obtain ⟨_, h, _⟩ := HY.out; rw [HPS.out] at h; exact h)
    clear HPE HPV HMEM HMEM1
    go_upto_region 10 with fail
    clear k0 k1 k2 k3 k4
    obtain ⟨g, hg, hgs, ⟨cur, hcur⟩, hset⟩ := HP3.out.setp k HKL.out
    dsimp only at hg
    subst hg
    have HST := Lib.hid hset
    have HCUR := Lib.hid hcur
    have HGS := Lib.hid hgs
    obtain ⟨b', o', hb', _, y0, y1, y2, y3, y4, y5, y6⟩ := HP3.out.own.r4.at k (by have a := HPS.out; have b := HKL.out; dsimp only; omega)
    injection hb' with hb'
    injection hb' with e1 e2
    subst e1 e2
    rw [Nat.zero_add] at y0 y1 y2 y3 y4 y5 y6
    have HY7 : Hid (∃ u0 u1 u2 u3 u4 u5 u6, w3.cell? ⟨g, k * 7, none⟩ = some u0 ∧ w3.cell? ⟨g, k * 7 + 1, none⟩ = some u1 ∧ w3.cell? ⟨g, k * 7 + 2, none⟩ = some u2 ∧ w3.cell? ⟨g, k * 7 + 3, none⟩ = some u3 ∧ w3.cell? ⟨g, k * 7 + 4, none⟩ = some u4 ∧ w3.cell? ⟨g, k * 7 + 5, none⟩ = some u5 ∧ w3.cell? ⟨g, k * 7 + 6, none⟩ = some u6) := Lib.hid ⟨_, _, _, _, _, _, _, y0, y1, y2, y3, y4, y5, y6⟩
    clear y0 y1 y2 y3 y4 y5 y6 hcur hgs hset
    obtain ⟨u0, u1, u2, u3, u4, u5, u6, y0, y1, y2, y3, y4, y5, y6⟩ := HY7.out
    have HDD : Hid (∀ W, Fr No w3 W → (W.cell? ⟨G, 4, none⟩ = some (.slice (some ⟨g, 0, none⟩) n4 c4') ∧ W.cell? ⟨D + 1, 0, none⟩ = some (.int .i64 id) ∧ W.cell? ⟨D + 1, 1, none⟩ = some (.int .i64 x) ∧ W.cell? ⟨D + 1, 2, none⟩ = some (.int .i64 y) ∧ W.cell? ⟨D + 1, 3, none⟩ = some (.slice B1 m1 e1) ∧ W.cell? ⟨D + 1, 4, none⟩ = some (.int .i64 wi) ∧ W.cell? ⟨D + 1, 5, none⟩ = some (.slice B2 m2 e2) ∧ W.cell? ⟨D + 1, 6, none⟩ = some (.bool ag)) ∧ (W.frozen? ⟨g, k * 7, none⟩ = false ∧ W.frozen? ⟨g, k * 7 + 1, none⟩ = false ∧ W.frozen? ⟨g, k * 7 + 2, none⟩ = false ∧ W.frozen? ⟨g, k * 7 + 3, none⟩ = false ∧ W.frozen? ⟨g, k * 7 + 4, none⟩ = false ∧ W.frozen? ⟨g, k * 7 + 5, none⟩ = false ∧ W.frozen? ⟨g, k * 7 + 6, none⟩ = false) ∧
        W.cell? ⟨g, k * 7, none⟩ = some u0 ∧ W.cell? ⟨g, k * 7 + 1, none⟩ = some u1 ∧ W.cell? ⟨g, k * 7 + 2, none⟩ = some u2 ∧ W.cell? ⟨g, k * 7 + 3, none⟩ = some u3 ∧ W.cell? ⟨g, k * 7 + 4, none⟩ = some u4 ∧ W.cell? ⟨g, k * 7 + 5, none⟩ = some u5 ∧ W.cell? ⟨g, k * 7 + 6, none⟩ = some u6) := Lib.hid (fun W hW => by
      have h2 := blk_no hW HCUR.out
      have q : ∀ o, W.cell? ⟨g, o, none⟩ = w3.cell? ⟨g, o, none⟩ := fun o => hW.cell (p := ⟨g, o, none⟩) HGS.out (fun e => e)
      exact ⟨⟨(cells5 (HP3.out.no hW).hG).2.2.2.2, cells7 (HP3.out.no hW).h1⟩, ⟨blk_free h2 _, blk_free h2 _, blk_free h2 _, blk_free h2 _, blk_free h2 _, blk_free h2 _, blk_free h2 _⟩, (q _).trans y0, (q _).trans y1, (q _).trans y2, (q _).trans y3, (q _).trans y4, (q _).trans y5, (q _).trans y6⟩)
    clear y0 y1 y2 y3 y4 y5 y6
    have hi1 : (k : Int) < (n4 : Int) := by have := HKL.out; omega
    have hi0 : (0 : Int) ≤ (k : Int) := by omega
    go_cut [7] from 42 to 48 (fun v7 wz => ∃ l2', PutS w D G #[.int .i64 size, .int .u64 SV, .int .i64 tick, .slice A3 n3 c3, .slice A4 n4 c4] #[.int .i64 id, .int .i64 x, .int .i64 y, .slice B1 m1 e1, .int .i64 wi, .slice B2 m2 e2, .bool ag] 35 ⟨size, sd, tick, A3', n3, c3', cs', some ⟨g, 0, none⟩, n4, c4', l2'⟩ wz ∧ l2'.map Pl.py = putL Py.id (Wd.v ⟨size, sd, tick, A3, n3, c3, cs, A4, n4, c4, ps⟩).ps id [Pl.py ⟨id, x, y, B1, m1, e1, l1, wi, B2, m2, e2, l2, ag⟩])
    case first =>
      have HPUT : Hid (∀ Cn : Pl, Cn.py = Pl.py ⟨id, x, y, B1, m1, e1, l1, wi, B2, m2, e2, l2, ag⟩ → (ps'.set k Cn).map Pl.py = putL Py.id (Wd.v ⟨size, sd, tick, A3, n3, c3, cs, A4, n4, c4, ps⟩).ps id [Pl.py ⟨id, x, y, B1, m1, e1, l1, wi, B2, m2, e2, l2, ag⟩]) := Lib.hid (fun Cn hck => by
        obtain ⟨_, hk, he⟩ := HY.out
        rw [← HMAP.out, putL_yes (key := Pl.id) HAT.out hk he HRISE.out, List.set_eq_take_append_cons_drop, if_pos hk, List.map_append, List.map_append, List.map_cons, List.map_append, hck]
        rfl)
      obtain ⟨⟨q0, q1, q2, q3, q4, q5, q6, q7⟩, ⟨z0, z1, z2, z3, z4, z5, z6⟩, y0, y1, y2, y3, y4, y5, y6⟩ := HDD.out _ (Fr.drew No w3)
      go_region_with (go_at_call 39; (refine (HOX.out _ (HP3.out.fr.no_trans (Fr.drew No w3))).mono ?_); rintro e w5 ⟨Cn, rfl, hck, ho5, hf5⟩; have HCK := Lib.hid hck; have HO5 := Lib.hid ho5; have HF5 := Lib.hid ((Fr.drew No w3).no_trans hf5); obtain ⟨⟨p0, p1, p2, p3, p4, p5, p6, p7⟩, ⟨s0, s1, s2, s3, s4, s5, s6⟩, r0, r1, r2, r3, r4, r5, r6⟩ := HDD.out _ HF5.out; clear ho5 hf5 hck)
      all_goals (
        go_wp2_with fail
        go_meet
        exact ⟨_, HST.out _ Cn HF5.out (HO5.out.low (Nat.le_trans HLO3.out (Fr.drew No w3).size)), HPUT.out Cn HCK.out⟩)
    case rest =>
    obtain ⟨l2', hP, hM⟩ := hcut
    have HP9 := Lib.hid hP
    have HV2 : Hid (V = Wd.v ⟨size, sd, tick, A3', n3, c3', cs', some ⟨g, 0, none⟩, n4, c4', l2'⟩) := Lib.hid (by
      rw [HV.out, ← hM]
      unfold Wd.v
      dsimp only
      rw [HVV.out.1])
    clear hP hM HDD
    go_upto_region 12 with fail
    obtain ⟨r0, r1, r2, r3, r4⟩ := cells5 HP9.out.hG
    obtain ⟨s0, s1, s2, s3, s4⟩ := cells5 HP9.out.h2
    obtain ⟨z0, z1, z2, z3, z4⟩ := free5 HP9.out.h2
    dsimp only at r0 r1 r2 r3 r4
    rw [HSV.out] at r1
    go_wp2_with fail
    have hfin := HP9.out.fin
    dsimp only at hfin
    rw [HSV.out] at hfin
    refine bodyPost_ret (results_cell_tmp_rowC (p := 4) rfl _ _ (D + 1 + 1) 26 #[.int .i64 size, .int .u64 SV, .int .i64 tick, .slice A3' n3 c3', .slice (some ⟨g, 0, none⟩) n4 c4'] (0, 0) _ rfl hfin.1 Tryd.underlying26 rfl (by kernel_rfl)) rfl ?_
    exact ⟨_, by first | rfl | (show _ = Ending.returned (.tuple #[.agg #[_, .int .u64 (sd.toNat : Int), _, _, _], _]); rw [HSV.out, HE.out]; rfl), HV2.out.symm, hfin.2.1, hfin.2.2⟩
  | false =>
    have HNM := Lib.hid (HMEM.out rfl)
    clear HMEM HMEM1
    by_cases h32 : n4 = 32
    · have h32' : ((n4 : Int) == 32) = true := by rw [h32]; rfl
      have HE : Hid (E = 3) := Lib.hid (by rw [HPE.out, if_pos ⟨HNM.out, by rw [HLEN.out]; exact h32⟩])
      have HV : Hid (V = Wd.v ⟨size, sd, tick, A3, n3, c3, cs, A4, n4, c4, ps⟩) := Lib.hid (by rw [HPV.out, HE.out]; rfl)
      clear HPE HPV h32
      go_upto_region 8 with fail
      clear k0 k1 k2 k3 k4
      obtain ⟨r0, r1, r2, r3, r4⟩ := cells5 HP3.out.hG
      obtain ⟨s0, s1, s2, s3, s4⟩ := cells5 HP3.out.h2
      obtain ⟨z0, z1, z2, z3, z4⟩ := free5 HP3.out.h2
      dsimp only at r0 r1 r2 r3 r4
      rw [HSV.out] at r1
      go_wp2_with fail
      have hfin := HP3.out.fin
      dsimp only at hfin
      rw [HSV.out] at hfin
      refine bodyPost_ret (results_cell_tmp_rowC (p := 4) rfl _ _ (D + 1 + 1) 26 #[.int .i64 size, .int .u64 SV, .int .i64 tick, .slice A3' n3 c3', .slice A4' n4 c4'] (0, 0) _ rfl hfin.1 Tryd.underlying26 rfl (by kernel_rfl)) rfl ?_
      exact ⟨_, by first | rfl | (show _ = Ending.returned (.tuple #[.agg #[_, .int .u64 (sd.toNat : Int), _, _, _], _]); rw [HSV.out, HE.out]; rfl), by rw [HV.out]; exact HSAME.out, hfin.2.1, hfin.2.2⟩
    · have h32' : ((n4 : Int) == 32) = false := by rw [beq_eq_false_iff_ne]; omega
      have HE : Hid (E = 0) := Lib.hid (by rw [HPE.out, if_neg (fun h => h32 (by have := h.2; rw [HLEN.out] at this; exact this))])
      have HV : Hid (V = ⟨size, sd, tick, (Wd.v ⟨size, sd, tick, A3, n3, c3, cs, A4, n4, c4, ps⟩).cs, putL Py.id (Wd.v ⟨size, sd, tick, A3, n3, c3, cs, A4, n4, c4, ps⟩).ps id [Pl.py ⟨id, x, y, B1, m1, e1, l1, wi, B2, m2, e2, l2, ag⟩]⟩) := Lib.hid (by rw [HPV.out, if_pos HE.out])
      clear HPE HPV h32
      go_upto_region 11 with fail
      clear k0 k1 k2 k3 k4
      go_cut [7] from 48 to 56 (fun v7 wz => ∃ A2 n2 c2 l2', PutS w D G #[.int .i64 size, .int .u64 SV, .int .i64 tick, .slice A3 n3 c3, .slice A4 n4 c4] #[.int .i64 id, .int .i64 x, .int .i64 y, .slice B1 m1 e1, .int .i64 wi, .slice B2 m2 e2, .bool ag] 35 ⟨size, sd, tick, A3', n3, c3', cs', A2, n2, c2, l2'⟩ wz ∧ l2'.map Pl.py = putL Py.id (Wd.v ⟨size, sd, tick, A3, n3, c3, cs, A4, n4, c4, ps⟩).ps id [Pl.py ⟨id, x, y, B1, m1, e1, l1, wi, B2, m2, e2, l2, ag⟩])
      case first =>
        have HINS : Hid (∀ (W : World) (V : Nat) (Cn : Pl), Fr No w3 W → W.heap[V]? = some (.cells #[.int .i64 Cn.id, .int .i64 Cn.x, .int .i64 Cn.y, .slice Cn.A1 Cn.n1 Cn.c1, .int .i64 Cn.wi, .slice Cn.A2 Cn.n2 Cn.c2, .bool Cn.ag] 35 (0, 0)) → w3.heap.size ≤ V →
            Calls Tryd.prog 40 #[.slice A4' n4 c4', .int .i64 (k : Int), .slice (some ⟨V, 0, none⟩) 1 1] W (InsP_py W (D + 1 + 1 + 1) A4' n4 c4' k (plL ps') Cn.cells)) := Lib.hid (fun W V Cn hW hv hV => insert_any_py (i := k) (vb := V) (us := Cn.cells) (HP3.out.no hW).own.o4 (plL_one ps') HKN.out (by have := HN4.out; omega) (by have := (Array.getElem?_eq_some_iff.1 (HP3.out.no hW).h2).1; omega) hv (fun hq => by have := (HP3.out.own.o4.lt V hq).2; omega) rfl (fun u hu => by
          simp only [Pl.cells, List.mem_cons, List.not_mem_nil, or_false] at hu
          rcases hu with rfl | rfl | rfl | rfl | rfl | rfl | rfl <;> rfl))
        have HNO : Hid (∀ h : k < ps'.length, ps'[k].id ≠ id) := Lib.hid (fun h e => HNM.out (by rw [HIDS.out]; exact List.mem_map.2 ⟨ps'[k], List.getElem_mem h, e⟩))
        have HROW : Hid (∀ W w7 A2 c2 (Cn : Pl), Fr No w3 W → OwP (D + 1 + 1 + 1) W Cn → Cn.py = Pl.py ⟨id, x, y, B1, m1, e1, l1, wi, B2, m2, e2, l2, ag⟩ → w7.ownsRow (D + 1 + 1 + 1) 35 7 (.slice A2 (n4 + 1) c2) (n4 + 1) ((plL ps').take (k * 7) ++ (Cn.cells ++ (plL ps').drop (k * 7))) → Fr (fun k => (Value.slice A4' n4 c4').ownBlock = some k) W w7 →
            PutS w D G #[.int .i64 size, .int .u64 SV, .int .i64 tick, .slice A3 n3 c3, .slice A4 n4 c4] #[.int .i64 id, .int .i64 x, .int .i64 y, .slice B1 m1 e1, .int .i64 wi, .slice B2 m2 e2, .bool ag] 35 ⟨size, sd, tick, A3', n3, c3', cs', A2, n4 + 1, c2, ps'.take k ++ ([Cn] ++ ps'.drop k)⟩ (w7.setCell ⟨G, 4, none⟩ (.slice A2 (n4 + 1) c2)) ∧ (ps'.take k ++ ([Cn] ++ ps'.drop k)).map Pl.py = putL Py.id (Wd.v ⟨size, sd, tick, A3, n3, c3, cs, A4, n4, c4, ps⟩).ps id [Pl.py ⟨id, x, y, B1, m1, e1, l1, wi, B2, m2, e2, l2, ag⟩] ∧ w7.heap[G]? = some (.cells #[.int .i64 size, .int .u64 SV, .int .i64 tick, .slice A3' n3 c3', .slice A4' n4 c4'] 26 (0, 0))) := Lib.hid (fun W w7 A2 c2 Cn hW hoc hck ho hf => by
          have hlen : ps'.length = n4 := HPS.out
          have h := (HP3.out.no hW).rowp (l' := ps'.take k ++ ([Cn] ++ ps'.drop k)) hf (by
            rw [plL_append, plL_append, ← plL_take, ← plL_drop, show plL [Cn] = Cn.cells from List.append_nil _]
            exact ho) (by have a := HKN.out; rw [List.length_append, List.length_append, List.length_take, List.length_drop]; simp only [List.length_singleton]; omega) (fun C hC => by
            rcases List.mem_append.1 hC with q | q
            · exact (HP3.out.no hW).own.op C (List.mem_of_mem_take q)
            · rcases List.mem_append.1 q with q | q
              · rw [List.mem_singleton.1 q]; exact hoc
              · exact (HP3.out.no hW).own.op C (List.mem_of_mem_drop q))
          dsimp only at h
          rw [HSV.out] at h
          refine ⟨h.1, ?_, h.2⟩
          rw [← HMAP.out, putL_no (key := Pl.id) HAT.out HNO.out HRISE.out, List.map_append, List.map_append, List.map_append, List.map_append]
          show _ ++ ([Cn.py] ++ _) = _
          rw [hck]
          rfl)
        have hALL : Hid (∀ W, Fr No w3 W → W.cell? ⟨G, 4, none⟩ = some (.slice A4' n4 c4') ∧ W.cell? ⟨D + 1, 0, none⟩ = some (.int .i64 id) ∧ W.cell? ⟨D + 1, 1, none⟩ = some (.int .i64 x) ∧ W.cell? ⟨D + 1, 2, none⟩ = some (.int .i64 y) ∧ W.cell? ⟨D + 1, 3, none⟩ = some (.slice B1 m1 e1) ∧ W.cell? ⟨D + 1, 4, none⟩ = some (.int .i64 wi) ∧ W.cell? ⟨D + 1, 5, none⟩ = some (.slice B2 m2 e2) ∧ W.cell? ⟨D + 1, 6, none⟩ = some (.bool ag)) := Lib.hid (fun W hW => ⟨(cells5 (HP3.out.no hW).hG).2.2.2.2, cells7 (HP3.out.no hW).h1⟩)
        obtain ⟨q0, q1, q2, q3, q4, q5, q6, q7⟩ := hALL.out _ (Fr.drew No w3)
        go_region_with (first
          | (go_at_call 39; refine (HOX.out _ (HP3.out.fr.no_trans (Fr.drew No w3))).mono ?_; rintro e w5 ⟨Cn, rfl, hck, ho, hf⟩; have HCK := Lib.hid hck; have HOC := Lib.hid ho; have HF5 := Lib.hid ((Fr.drew No w3).no_trans hf); obtain ⟨y0, y1, y2, y3, y4, y5, y6, y7⟩ := hALL.out _ HF5.out; have hv := heap_alloc_new w5 (.cells #[.int .i64 Cn.id, .int .i64 Cn.x, .int .i64 Cn.y, .slice Cn.A1 Cn.n1 Cn.c1, .int .i64 Cn.wi, .slice Cn.A2 Cn.n2 Cn.c2, .bool Cn.ag] 35); have hfv := Fr.alloc No w5 (.cells #[.int .i64 Cn.id, .int .i64 Cn.x, .int .i64 Cn.y, .slice Cn.A1 Cn.n1 Cn.c1, .int .i64 Cn.wi, .slice Cn.A2 Cn.n2 Cn.c2, .bool Cn.ag] 35); have HVB := Lib.hid hv; have HFV := Lib.hid (HF5.out.no_trans hfv); have HOC2 := Lib.hid (HOC.out.no hfv); obtain ⟨v0, v1, v2, v3, v4, v5, v6, v7⟩ := hALL.out _ HFV.out; clear hck ho hf hv hfv)
          | (go_at_call 40; refine (HINS.out _ _ Cn HFV.out HVB.out HF5.out.size).mono ?_; rintro e w7 ⟨A2, c2, rfl, ho7, hf7⟩; obtain ⟨hP7, hM7, hg7⟩ := HROW.out _ w7 A2 c2 Cn HFV.out (HOC2.out.low (Nat.le_trans HLO3.out (Fr.drew No w3).size)) HCK.out ho7 hf7; have HP7 := Lib.hid hP7; have HM7 := Lib.hid hM7; obtain ⟨g0, g1, g2, g3, g4⟩ := cells5 hg7; obtain ⟨z0, z1, z2, z3, z4⟩ := free5 hg7; clear ho7 hf7 hP7 hg7 hM7))
        all_goals (
          go_wp2_with fail
          go_meet
          exact ⟨A2, n4 + 1, c2, _, HP7.out, HM7.out⟩)
      case rest =>
      obtain ⟨A2, n2, c2, l2', hP, hM⟩ := hcut
      have HP9 := Lib.hid hP
      have HV2 : Hid (V = Wd.v ⟨size, sd, tick, A3', n3, c3', cs', A2, n2, c2, l2'⟩) := Lib.hid (by
        rw [HV.out, ← hM]
        unfold Wd.v
        dsimp only
        rw [HVV.out.1])
      clear hP hM
      go_upto_region 12 with fail
      obtain ⟨r0, r1, r2, r3, r4⟩ := cells5 HP9.out.hG
      obtain ⟨s0, s1, s2, s3, s4⟩ := cells5 HP9.out.h2
      obtain ⟨z0, z1, z2, z3, z4⟩ := free5 HP9.out.h2
      dsimp only at r0 r1 r2 r3 r4
      rw [HSV.out] at r1
      go_wp2_with fail
      have hfin := HP9.out.fin
      dsimp only at hfin
      rw [HSV.out] at hfin
      refine bodyPost_ret (results_cell_tmp_rowC (p := 4) rfl _ _ (D + 1 + 1) 26 #[.int .i64 size, .int .u64 SV, .int .i64 tick, .slice A3' n3 c3', .slice A2 n2 c2] (0, 0) _ rfl hfin.1 Tryd.underlying26 rfl (by kernel_rfl)) rfl ?_
      exact ⟨_, by first | rfl | (show _ = Ending.returned (.tuple #[.agg #[_, .int .u64 (sd.toNat : Int), _, _, _], _]); rw [HSV.out, HE.out]; rfl), HV2.out.symm, hfin.2.1, hfin.2.2⟩
end Go.Proofs.YtjdhbgdpmojobaaDoor

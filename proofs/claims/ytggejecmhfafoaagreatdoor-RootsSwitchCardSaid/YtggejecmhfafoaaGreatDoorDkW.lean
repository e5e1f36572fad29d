/-
  A crash: the walk. No statement of the seat is proved here.
-/
import Derived.Test.YtggejecmhfafoaaGreatDoorDkV
namespace Go.Proofs.YtggejecmhfafoaaGreatDoor
open Go.RowKit Go.Maps Go.Sort

set_option maxRecDepth 100000 in
theorem crash_end {w1 wr w3 w4 : World} {D M : Nat} {s : St} {fs : List Fl} {ks : List Int} {i : Nat} (hN : Nx D M w1 s wr { s with fs := fs }) (hC : CrR ks s.fs i fs) {f g : Fl} (hf : s.fs[i]? = some f) (hg : fs[i]? = some g)
    (hgn : g.nm = f.nm) (hgb : g.bs = f.bs) (hgm : g.fm = f.fm) {A3 : Option Addr} {c3 : Nat} (h3 : Fr No wr w3) (h4 : Fr (fun k => k = M) w3 w4)
    (hrow : w3.ownsRow 0 5 1 (.slice A3 (kp g (kAt ks i)) c3) (kp g (kAt ks i)) (bvs (g.bs.take (kp g (kAt ks i)))))
    (hat : (Value.slice A3 (kp g (kAt ks i)) c3 = g.row) ∨ ∀ k, (Value.slice A3 (kp g (kAt ks i)) c3).ownBlock = some k → wr.heap.size ≤ k)
    (hm : w4.ownsMap Tryz.prog 9 flR M (put ⟨g.nm, A3, c3, g.bs.take (kp g (kAt ks i)), kp g (kAt ks i)⟩ fs).length (dat (put ⟨g.nm, A3, c3, g.bs.take (kp g (kAt ks i)), kp g (kAt ks i)⟩ fs))) :
    ∃ fs', CrR ks s.fs (i + 1) fs' ∧ Nx D M w1 s w4 { s with fs := fs' } := by
  have hmem : g ∈ fs := List.mem_of_getElem? hg
  have hle : kp g (kAt ks i) ≤ g.bs.length := by
    have := hN.1.firm g hmem
    unfold kp
    omega
  have hn := stored_first hN.1 g hmem _ hle A3 c3 h3 h4 hrow hat hm
  have hkp : kp g (kAt ks i) = kp f (kAt ks i) := by unfold kp; rw [hgb, hgm]
  have hris : fs.Pairwise (fun a b => bytesBefore a.nm b.nm = true) := hN.1.rising
  refine ⟨_, ?_, hN.trans hn⟩
  show CrR ks s.fs (i + 1) (put ⟨g.nm, A3, c3, g.bs.take (kp g (kAt ks i)), kp g (kAt ks i)⟩ fs)
  rw [put_set (g := ⟨g.nm, A3, c3, g.bs.take (kp g (kAt ks i)), kp g (kAt ks i)⟩) hris hg rfl]
  refine hC.step hf hgn ?_ hkp
  show g.bs.take _ = _
  rw [hkp, hgb]
set_option maxRecDepth 100000 in
theorem crash_any {w : World} {D M : Nat} {s : St} (h : Dsk w D M s) (A : Option Addr) (n c : Nat) (ks : List Int) (hk : RdI w (foot D M s.fs) A n ks) :
    Calls Tryz.prog 10 #[.pointer (some ⟨D, 0, none⟩), .slice A n c] w fun e w' => e = .returned (.tuple #[]) ∧
      ∃ fs, CrR ks s.fs s.fs.length fs ∧ Nx D M w s w' { s with fl := false, bd := false, lf := 0, fs := fs } := by
  have HM := Lib.hid (made_any D w h.c3)
  have HL := Lib.hid (list_any h)
  have H := Lib.hid h
  have HK := Lib.hid hk
  clear h hk
  go_enter Tryz.func10, Tryz.ntmps10
  go_wp2_with fail
  refine HM.out.mono ?_
  rintro e w' ⟨rfl, rfl⟩
  go_wp2_with fail
  refine HL.out.mono ?_
  rintro e w1 ⟨v, rfl, hv, hf1⟩
  obtain ⟨A2, c2, rfl⟩ : ∃ A2 c2, v = .slice A2 s.fs.length c2 := by
    rcases hv.2 with ⟨rfl, e⟩ | ⟨g, cap, cur, rfl, _⟩
    · exact ⟨none, 0, by rw [e]⟩
    · exact ⟨_, _, rfl⟩
  have HV := Lib.hid hv
  have HF1 := Lib.hid hf1
  have H1 := Lib.hid (H.out.no hf1)
  have HK1 := Lib.hid (HK.out.keep (hf1.mono (fun _ _ e => e.elim)))
  clear hv hf1
  go_wp2_with fail
  go_loopw [13] (fun u wr => ∃ (i : Nat) (fs : List Fl), i ≤ s.fs.length ∧ u = .int .i64 (i : Int) ∧ CrR ks s.fs i fs ∧ Nx D M w1 s wr { s with fs := fs }) (fun u _ => s.fs.length - (intOf u).toNat)
  case atStart => exact ⟨0, s.fs, Nat.zero_le _, rfl, CrR.start _ _, Nx.refl H1.out⟩
  case round =>
    obtain ⟨i, fs, hi, rfl, hC, hN⟩ := hrel
    have HC := Lib.hid hC
    have HN := Lib.hid hN
    clear hC hN
    by_cases hlt : i < s.fs.length
    · obtain ⟨f, hf⟩ : ∃ f, s.fs[i]? = some f := ⟨_, List.getElem?_eq_getElem hlt⟩
      obtain ⟨g, hg, hgn, hga, hgc⟩ := HC.out.2 i f hf
      obtain ⟨hgb, hgm⟩ := hgc (Nat.le_refl _)
      clear hga hgc
      obtain ⟨G, rfl⟩ : ∃ G, A2 = some ⟨G, 0, none⟩ := by
        rcases HV.out.2 with ⟨e, e0⟩ | ⟨G, cap, cur, e, _⟩
        · omega
        · injection e with e; exact ⟨G, e⟩
      have hGr : wr.cell? ⟨G, i, none⟩ = some (.string ⟨f.nm.toArray⟩) := by
        have h0 := HV.out.cells (g := G) rfl i (Proofs.encStr f.nm) (by rw [List.getElem?_map, List.getElem?_map, hf]; rfl)
        rw [Addr.add_lit, Nat.zero_add] at h0
        refine HN.out.2.1.cell h0 (fun e => ?_)
        have h1 := H.out.foot_lt e
        have h2 := (HV.out.lt G rfl).1
        simp only at h1
        omega
      have hmem : g ∈ fs := List.mem_of_getElem? hg
      have HO : Hid (old (⟨f.nm.toArray⟩ : ByteArray).data.toList fs = g) := by
        show old _ _ = g
        unfold old
        have e : (⟨f.nm.toArray⟩ : ByteArray).data.toList = g.nm := by rw [hgn]
        rw [e, fnd_apart HN.out.1.apart hmem]
        rfl
      have hsz : (⟨f.nm.toArray⟩ : ByteArray).size ≤ 40 := by
        have hq := H.out.nms f (List.mem_of_getElem? hf)
        unfold isNm at hq
        simp only [Bool.and_eq_true, decide_eq_true_eq] at hq
        have e : (⟨f.nm.toArray⟩ : ByteArray).size = f.nm.length := by show f.nm.toArray.size = _; simp
        omega
      have HSZ := Lib.hid hsz
      have hle : kp g (kAt ks i) ≤ g.bs.length := by
        have := HN.out.1.firm g hmem
        unfold kp
        omega
      have c5 := HN.out.1.c5
      have HCR := Lib.hid (crashed_any g (kAt ks i) (HN.out.1.firm g hmem) (HN.out.1.len24 hmem) wr (HN.out.1.rows g hmem))
      have HG := Lib.hid (And.intro hgn (And.intro hgb hgm))
      have HLE := Lib.hid hle
      have HMEM := Lib.hid hmem
      have HGET := Lib.hid hg
      have HFI := Lib.hid hf
      have hwi : IntKind.i64.wrap ((i : Int) + 1) = ((i + 1 : Nat) : Int) := by
        have := H.out.few
        rw [show ((i : Int) + 1) = ((i + 1 : Nat) : Int) by omega]
        exact IntWalk.i64_in _ (by omega)
      clear hsz hle hmem hg hf hgn hgb hgm
      by_cases hin : i < n
      · have hpos : 0 < n := by omega
        obtain ⟨b, o, rfl, hb, hbF, hcs⟩ := HK1.out.2 hpos
        have hil : i < ks.length := by rw [HK1.out.1]; exact hin
        have KEQ : Hid (kAt ks i = ks[i]) := by show _ = _; unfold kAt; rw [List.getD_eq_getElem?_getD, List.getElem?_eq_getElem hil]; rfl
        have hck : wr.cell? ⟨b, o + i, none⟩ = some (.int .i64 ks[i]) := HN.out.2.1.cell (hcs i hil) hbF
        clear hcs
        go_wp2_with (at_lookup; refine wpList_look_old rfl _ _ rfl HN.out.1.map ⟨f.nm.toArray⟩ (by have := HSZ.out; unfold maxLen; omega) rfl rfl ?_; rw [HO.out])
        rw [← KEQ.out]
        refine HCR.out.mono ?_
        rintro e w3 ⟨A3, c3, rfl, hrow, hat, hf3⟩
        have HR3 := Lib.hid hrow
        have HA3 := Lib.hid hat
        have HF3 := Lib.hid hf3
        clear hrow hat hf3
        go_wp2_with fail
        have hl : (g.bs.take (kp g (kAt ks i))).length = kp g (kAt ks i) := List.length_take_of_le HLE.out
        have hkc := keep_any (HN.out.1.no HF3.out).c5 (HN.out.1.no HF3.out).map HN.out.1.few ⟨g.nm, A3, c3, g.bs.take (kp g (kAt ks i)), kp g (kAt ks i)⟩ ⟨f.nm.toArray⟩ HG.out.1 HSZ.out
        simp only [hl] at hkc
        refine hkc.mono ?_
        rintro e w4 ⟨rfl, hm4, hf4⟩
        obtain ⟨fs', hc', hn'⟩ := crash_end HN.out HC.out HFI.out HGET.out HG.out.1 HG.out.2.1 HG.out.2.2 HF3.out hf4 HR3.out HA3.out hm4
        have HC' := Lib.hid hc'
        have HN' := Lib.hid hn'
        clear hkc hm4 hf4 hc' hn' HCR
        go_wp2_with fail
        go_roundw
        case rel => exact ⟨i + 1, fs', by omega, by go_num, HC'.out, HN'.out⟩
        case measure => simp [intOf]; omega
      · have KEQ : Hid (kAt ks i = 0) := by show _ = _; unfold kAt; rw [List.getD_eq_getElem?_getD, List.getElem?_eq_none (by rw [HK1.out.1]; omega)]; rfl
        go_wp2_with (at_lookup; refine wpList_look_old rfl _ _ rfl HN.out.1.map ⟨f.nm.toArray⟩ (by have := HSZ.out; unfold maxLen; omega) rfl rfl ?_; rw [HO.out])
        rw [← KEQ.out]
        refine HCR.out.mono ?_
        rintro e w3 ⟨A3, c3, rfl, hrow, hat, hf3⟩
        have HR3 := Lib.hid hrow
        have HA3 := Lib.hid hat
        have HF3 := Lib.hid hf3
        clear hrow hat hf3
        go_wp2_with fail
        have hl : (g.bs.take (kp g (kAt ks i))).length = kp g (kAt ks i) := List.length_take_of_le HLE.out
        have hkc := keep_any (HN.out.1.no HF3.out).c5 (HN.out.1.no HF3.out).map HN.out.1.few ⟨g.nm, A3, c3, g.bs.take (kp g (kAt ks i)), kp g (kAt ks i)⟩ ⟨f.nm.toArray⟩ HG.out.1 HSZ.out
        simp only [hl] at hkc
        refine hkc.mono ?_
        rintro e w4 ⟨rfl, hm4, hf4⟩
        obtain ⟨fs', hc', hn'⟩ := crash_end HN.out HC.out HFI.out HGET.out HG.out.1 HG.out.2.1 HG.out.2.2 HF3.out hf4 HR3.out HA3.out hm4
        have HC' := Lib.hid hc'
        have HN' := Lib.hid hn'
        clear hkc hm4 hf4 hc' hn' HCR
        go_wp2_with fail
        go_roundw
        case rel => exact ⟨i + 1, fs', by omega, by go_num, HC'.out, HN'.out⟩
        case measure => simp [intOf]; omega
    · have hie : i = s.fs.length := by omega
      subst hie
      go_wp2_with fail
      have hR := restore_any D _ _ _ wr HN.out.1.c0 HN.out.1.c1 HN.out.1.c2 (HN.out.1.unfrozen 0) (HN.out.1.unfrozen 1) (HN.out.1.unfrozen 2)
      refine hR.mono ?_
      rintro e w4 ⟨rfl, hw⟩
      have HW := Lib.hid hw
      clear hR hw
      go_wp2_with fail
      go_end0
      have hfr : Fr (fun k => k = D) wr w4 := by
        rw [HW.out]
        exact ((Fr.setAt _ D 0 _).trans (Fr.setAt _ D 1 _) (fun _ _ e => e)).trans (Fr.setAt _ D 2 _) (fun _ _ e => e)
      have hD := HN.out.1.power hfr false false 0 (by omega) (by
        rw [HW.out]
        exact heap_cells_set _ D 2 _ _ _ (heap_cells_set _ D 1 _ _ _ (heap_cells_set _ D 0 _ _ _ HN.out.1.blk)))
      refine ⟨rfl, fs, HC.out, ((Nx.no H.out HF1.out).trans HN.out).trans ⟨hD, hfr.mono (fun _ _ e => .inl e), fun k hk => .inl hk⟩⟩
end Go.Proofs.YtggejecmhfafoaaGreatDoor

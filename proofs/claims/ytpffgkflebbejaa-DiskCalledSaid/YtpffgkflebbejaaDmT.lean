/-
  A shot of all files, taken. No statement of the seat is proved here.
-/
import Derived.Test.YtpffgkflebbejaaDmS
import Derived.Deep.RegionHeld3
namespace Go.Proofs.Ytpffgkflebbejaa
open Go.RowKit Go.Maps

set_option maxRecDepth 100000 in
theorem svs_at {l : List (List UInt8)} {j : Nat} {x : List UInt8} (h : l[j]? = some x) : (svs l)[j]? = some (.string ⟨x.toArray⟩) := by
  unfold svs
  rw [List.getElem?_map, h]
  rfl
set_option maxHeartbeats 4000000 in
set_option maxRecDepth 100000 in
theorem taken_any {w : World} {D M : Nat} {s : St} (h : Dsk w D M s) (hfl : s.fl = false) :
    Calls Try.prog 10 #[.pointer (some ⟨D, 0, none⟩)] w fun e w' =>
      ∃ v1 v2 v3, e = .returned (.agg #[v1, v2, v3]) ∧ Sho w.heap.size w.heap.size w' v1 v2 v3 s.fs.length (s.fs.map (·.nm)) (s.fs.map (·.bs)) (s.fs.map (·.fm)) ∧ Fr No w w' := by
  have H := Lib.hid h
  have HFL := Lib.hid hfl
  have HL := Lib.hid (fun W (hf : Fr No w W) => list_any (h.no hf))
  clear h hfl
  go_enter Try.func10, Try.ntmps10
  go_wp2_with fail
  refine (HL.out _ (Fr.alloc No w _)).mono ?_
  rintro e w1 ⟨v, rfl, hv, hf⟩
  obtain ⟨A1, c1, rfl⟩ : ∃ A c, v = .slice A s.fs.length c := by
    rcases hv.2 with ⟨rfl, e⟩ | ⟨g, cap, cur, rfl, _⟩
    · exact ⟨none, 0, by rw [e]⟩
    · exact ⟨_, _, rfl⟩
  have HV := Lib.hid hv
  have HF := Lib.hid hf
  clear hv hf
  go_wp2_with fail
  obtain ⟨T, HTT⟩ : ∃ T, Hid (w1.heap.size = T) := ⟨_, rfl⟩
  obtain ⟨P, HPP⟩ : ∃ P, Hid (w.heap.size = P) := ⟨_, rfl⟩
  have HT0 := Lib.hid (show Sht w.heap.size w (w1.alloc (.cells #[.slice A1 s.fs.length c1, .slice none 0 0, .slice none 0 0] 33)) P T (.slice A1 s.fs.length c1) (.slice none 0 0) (.slice none 0 0) s.fs.length (s.fs.map (·.nm)) ((s.fs.take 0).map (·.bs)) ((s.fs.take 0).map (·.fm)) by
    have hsz := HF.out.size
    rw [World.size_alloc] at hsz
    rw [← HTT.out, ← HPP.out]
    refine ⟨heap_alloc_new _ _, ?_, by omega, ⟨by omega, by omega⟩, ?_, World.ownsRow_nil _ _ _ _, World.ownsRow_nil _ _ _ _, (fun g _ e => by cases e), (fun g _ e => by cases e), (fun g _ e => by cases e), ?_⟩
    · exact (Below.heap_alloc _ _ _ (by omega)).trans ((HF.out.block _ (by simp) (fun e => e)).trans (heap_alloc_new _ _))
    · exact (own_base HV.out (by rw [World.size_alloc]; omega)).alloc _
    · exact ((Fr.alloc No w _).no_trans HF.out).no_trans (Fr.alloc No w1 _))
  rw [HTT.out, HPP.out]
  obtain ⟨v1, HV1⟩ : ∃ v1, Hid (Value.slice A1 s.fs.length c1 = v1) := ⟨_, rfl⟩
  clear HV HF HL
  go_loopw [14] (fun vi wr => ∃ (k : Nat) (v2 v3 : Value), k ≤ s.fs.length ∧ vi = .int .i64 (k : Int) ∧ Sht w.heap.size w wr P T (.slice A1 s.fs.length c1) v2 v3 s.fs.length (s.fs.map (·.nm)) ((s.fs.take k).map (·.bs)) ((s.fs.take k).map (·.fm))) (fun vi _ => s.fs.length - (intOf vi).toNat)
  case atStart => exact ⟨0, _, _, Nat.zero_le _, rfl, HT0.out⟩
  case round =>
    obtain ⟨k, v2, v3, hk, rfl, hT⟩ := hrel
    obtain ⟨A2, m2, c2, rfl⟩ : ∃ A m c, v2 = .slice A m c := by
      rcases hT.o2.2 with ⟨rfl, e⟩ | ⟨g, cap, cur, rfl, _⟩
      · exact ⟨none, 0, 0, rfl⟩
      · exact ⟨_, _, _, rfl⟩
    obtain ⟨A3, m3, c3, rfl⟩ : ∃ A m c, v3 = .slice A m c := by
      rcases hT.o3.2 with ⟨rfl, e⟩ | ⟨g, cap, cur, rfl, _⟩
      · exact ⟨none, 0, 0, rfl⟩
      · exact ⟨_, _, _, rfl⟩
    have HT := Lib.hid hT
    clear hT
    by_cases hkl : k < s.fs.length
    · obtain ⟨f, hf⟩ : ∃ f, s.fs[k]? = some f := ⟨_, List.getElem?_eq_getElem hkl⟩
      obtain ⟨G, rfl⟩ : ∃ G, A1 = some ⟨G, 0, none⟩ := by
        rcases HT.out.o1.2 with ⟨e, e0⟩ | ⟨G, cap, cur, e, _⟩
        · omega
        · injection e with e; exact ⟨G, e⟩
      have hGr := HT.out.o1.cells (g := G) rfl k (.string ⟨f.nm.toArray⟩) (svs_at (by rw [List.getElem?_map, hf]; rfl))
      rw [Addr.add_lit, Nat.zero_add] at hGr
      have hD := H.out.no HT.out.fr
      have hmem := List.mem_of_getElem? hf
      have hfnd : fnd f.nm s.fs = some f := fnd_apart hD.apart hmem
      have hsz : (⟨f.nm.toArray⟩ : ByteArray).size ≤ maxLen := by
        have hq := hD.nms f hmem
        unfold isNm at hq
        simp only [Bool.and_eq_true, decide_eq_true_eq] at hq
        exact szL f.nm (by omega)
      have HR := Lib.hid (read_ok hD ⟨f.nm.toArray⟩ hsz HFL.out f hfnd)
      have hfrm : s.frm (⟨f.nm.toArray⟩ : ByteArray).data.toList = f.fm := by
        show s.frm f.nm = _
        unfold St.frm
        rw [hfnd]
      have HY := Lib.hid (fun W (hw : Fr No w W) => synced_any (H.out.no hw) ⟨f.nm.toArray⟩ hsz)
      rw [hfrm] at HY
      have HFEW := Lib.hid (show s.fs.length ≤ 200 from hD.few)
      have htk1 : (s.fs.take (k + 1)).map (·.bs) = (s.fs.take k).map (·.bs) ++ [f.bs] := by rw [List.take_add_one, hf]; simp
      have htk2 : (s.fs.take (k + 1)).map (·.fm) = (s.fs.take k).map (·.fm) ++ [f.fm] := by rw [List.take_add_one, hf]; simp
      have HTK := Lib.hid (And.intro htk1 htk2)
      have hwk : IntKind.i64.wrap ((k : Int) + 1) = ((k + 1 : Nat) : Int) := by
        have := HFEW.out
        rw [show ((k : Int) + 1) = ((k + 1 : Nat) : Int) by omega]
        exact IntWalk.i64_in _ (by omega)
      clear hD hmem hfnd hsz hfrm htk1 htk2 hf
      go_wp2_with fail
      refine HR.out.mono ?_
      rintro e w2 ⟨v, rfl, hv, hf2⟩
      obtain ⟨AR, cR, rfl⟩ : ∃ A c, v = .slice A f.bs.length c := by
        rcases hv.2 with ⟨rfl, e⟩ | ⟨g, cap, cur, rfl, _⟩
        · exact ⟨none, 0, by rw [e]⟩
        · exact ⟨_, _, rfl⟩
      have hst := str_rule cR (Rd.own hv)
      have HT2 := Lib.hid (HT.out.no hf2)
      have HF2 := Lib.hid hf2
      have q2 := HT2.out.c2
      clear hv hf2 hGr
      go_wp2_with (at_builtin; refine wpList_append_sho w w2 rfl (.tmp 25) (.tmp 28) rfl HT2.out k (by simp; omega) (by have := HFEW.out; omega) f.bs rfl rfl ?_; intro g3 cap3 v2' w3 e3 ht3 hz3 hc3; subst e3; have HT3 := Lib.hid ht3; clear ht3)
      obtain ⟨w4, HW4⟩ : ∃ w4, Hid (w3.setCell ⟨T, 1, none⟩ (.slice (some ⟨g3, 0, none⟩) (k + 1) cap3) = w4) := ⟨_, rfl⟩
      rw [HW4.out] at HT3 ⊢
      have HF4 := Lib.hid (show Fr No w w4 from HT3.out.fr)
      have hc4 := HT3.out.c3
      have hc4d := (HT3.out.no (Fr.drew No w4)).c3
      clear HW4 hz3 hc3 q2 hst
      go_region_law (first
        | (refine step_append_fir w w5 rfl (.tmp 32) (.tmp 36) rfl HT5.out k (by simp; omega) (by have := HFEW.out; omega) f.fm (by rfl) (by rfl) ?_; intro g6 cap6 v3' w6 e6 ht6 hz6 hc6; subst e6; have HT6 := Lib.hid ht6; clear ht6)
        | (go_simp; go_at_call 21; (refine (HY.out _ (HF4.out.no_trans (Fr.drew _ _))).mono ?_); rintro e w5 ⟨rfl, hf5⟩; have HT5 := Lib.hid (HT3.out.no ((Fr.drew No w4).no_trans hf5)); have hc5 := HT5.out.c3; have hc5a := (HT5.out.no (Fr.alloc No w5 (.cells #[.int .i64 (f.fm : Int)] 3))).c3; clear hf5))
      all_goals (
        have HTN := Lib.hid (show Sht w.heap.size w _ P T (.slice (some ⟨G, 0, none⟩) s.fs.length c1) (.slice (some ⟨g3, 0, none⟩) (k + 1) cap3) (.slice (some ⟨g6, 0, none⟩) (k + 1) cap6) s.fs.length (s.fs.map (·.nm)) ((s.fs.take (k + 1)).map (·.bs)) ((s.fs.take (k + 1)).map (·.fm)) by rw [HTK.out.1, HTK.out.2]; exact HT6.out)
        clear hc4 hc4d hc5 hc5a hz6 hc6
        go_wp2_with fail
        go_roundw
        case rel => exact ⟨k + 1, _, _, by omega, by go_num, HTN.out⟩
        case measure => simp [intOf]; omega)
    · have hke : k = s.fs.length := by omega
      subst hke
      have q1 := HT.out.c1
      have q2 := HT.out.c2
      have q3 := HT.out.c3
      obtain ⟨p0, p1, p2⟩ := HT.out.p
      have z0 := HT.out.zP 0
      have z1 := HT.out.zP 1
      have z2 := HT.out.zP 2
      go_wp2_with fail
      have htl : s.fs.take s.fs.length = s.fs := List.take_length
      have HTZ := Lib.hid HT.out
      rw [htl] at HTZ
      have hbp := heap_cells_set _ P 2 _ _ (.slice A3 m3 c3) (heap_cells_set _ P 1 _ _ (.slice A2 m2 c2) (heap_cells_set _ P 0 _ _ (.slice A1 s.fs.length c1) HT.out.res))
      refine bodyPost_ret (results_cell_row (p := 2) rfl _ _ P 33 #[.slice A1 s.fs.length c1, .slice A2 m2 c2, .slice A3 m3 c3] (0, 0) _ rfl hbp Try.underlying33 rfl (by kernel_rfl)) rfl ?_
      exact ⟨_, _, _, rfl, HTZ.out.done (by simp) (by simp) _ _ _⟩
end Go.Proofs.Ytpffgkflebbejaa

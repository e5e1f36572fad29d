/-
  Remove and Rename at a disk. No statement of the seat is proved here.
-/
import Derived.Test.YtggejecmhfafoaaGreatDoorDkS
namespace Go.Proofs.YtggejecmhfafoaaGreatDoor
open Go.RowKit Go.Maps

set_option maxRecDepth 100000 in
theorem Nx.struck {w w' : World} {D M : Nat} {s : St} (h : Dsk w D M s) (nm : List UInt8) (hfr : Fr (fun k => k = M) w w') (hm : w'.ownsMap Tryz.prog 9 flR M (del nm s.fs).length (dat (del nm s.fs))) : Nx D M w s w' { s with fs := del nm s.fs } := by
  refine ⟨h.struck nm hfr hm, hfr.mono (fun _ _ e => .inr (.inl e)), ?_⟩
  intro k hk
  rcases hk with e | e | ⟨g, hg, e⟩
  · exact .inl (.inl e)
  · exact .inl (.inr (.inl e))
  · exact .inl (.inr (.inr ⟨g, (mem_del.1 hg).1, e⟩))
set_option maxRecDepth 100000 in
theorem remove_ok {w : World} {D M : Nat} {s : St} (h : Dsk w D M s) (nm : ByteArray) (hs : nm.size ≤ maxLen) (hfl : s.fl = false) (f : Fl) (hf : fnd nm.data.toList s.fs = some f) (hx : s.fails = false) :
    Calls Tryz.prog 14 #[.pointer (some ⟨D, 0, none⟩), .string nm] w fun e w' => e = .returned (.int .i64 0) ∧ Nx D M w s w' { s.step with fs := del nm.data.toList s.fs } := by
  have HC := Lib.hid (fun W (hw : Fr No w W) => find_ok (h.no hw) nm hs hfl f hf)
  have HS := Lib.hid (fun W (hf : Fr No w W) => step_any (h.no hf) hfl)
  have H := Lib.hid h
  have HX := Lib.hid hx
  have HN := Lib.hid hs
  clear h hfl hf hx hs
  go_enter Tryz.func14, Tryz.ntmps14
  go_wp2_with fail
  refine (HC.out _ (by first | exact Fr.refl _ _ | exact Fr.alloc _ _ _)).mono ?_
  rintro e w1 ⟨rfl, hf⟩
  have HF1 := Lib.hid (show Fr No w w1 from by first | exact hf | exact (Fr.alloc No w _).no_trans hf)
  clear hf
  go_wp2_with fail
  have HFA := Lib.hid (show Fr No w (w1.alloc (.cells #[.slice f.A f.bs.length f.c, .int .i64 (f.fm : Int)] 60)) from HF1.out.no_trans (Fr.alloc _ _ _))
  refine (HS.out _ (by first | exact HFA.out | exact HF1.out)).mono ?_
  rintro e w2 ⟨rfl, h2, hf2⟩
  have c5 := h2.c5
  have HM2 : Hid (w2.ownsMap Tryz.prog 9 flR M s.fs.length (dat s.fs)) := by
    have := h2.map
    rw [Dsk.stepped_fs] at this
    exact this
  have HNX := Lib.hid (show Nx D M w s w2 s.step from (Nx.no H.out (by first | exact HFA.out | exact HF1.out)).trans (Nx.step h2 hf2))
  have H2 := Lib.hid h2
  clear h2 hf2
  rw [HX.out]
  go_wp2_with (at_delete; refine wpList_drop rfl _ _ rfl HM2.out nm HN.out rfl rfl ?_; intro w3 hm3 hf3; have HM3 := Lib.hid hm3; have HF3 := Lib.hid hf3; clear hm3 hf3)
  go_ret
  refine ⟨rfl, ?_⟩
  have hn := Nx.struck H2.out nm.data.toList HF3.out (by rw [Dsk.stepped_fs]; exact HM3.out)
  rw [Dsk.stepped_fs] at hn
  exact HNX.out.trans hn
set_option maxRecDepth 100000 in
theorem remove_fails {w : World} {D M : Nat} {s : St} (h : Dsk w D M s) (nm : ByteArray) (hs : nm.size ≤ maxLen) (hfl : s.fl = false) (f : Fl) (hf : fnd nm.data.toList s.fs = some f) (hx : s.fails = true) :
    Calls Tryz.prog 14 #[.pointer (some ⟨D, 0, none⟩), .string nm] w fun e w' => e = .returned (.int .i64 15) ∧ Nx D M w s w' s.step := by
  have HC := Lib.hid (fun W (hw : Fr No w W) => find_ok (h.no hw) nm hs hfl f hf)
  have HS := Lib.hid (fun W (hf : Fr No w W) => step_any (h.no hf) hfl)
  have H := Lib.hid h
  have HX := Lib.hid hx
  clear h hfl hf hx hs
  go_enter Tryz.func14, Tryz.ntmps14
  go_wp2_with fail
  refine (HC.out _ (by first | exact Fr.refl _ _ | exact Fr.alloc _ _ _)).mono ?_
  rintro e w1 ⟨rfl, hf⟩
  have HF1 := Lib.hid (show Fr No w w1 from by first | exact hf | exact (Fr.alloc No w _).no_trans hf)
  clear hf
  go_wp2_with fail
  have HFA := Lib.hid (show Fr No w (w1.alloc (.cells #[.slice f.A f.bs.length f.c, .int .i64 (f.fm : Int)] 60)) from HF1.out.no_trans (Fr.alloc _ _ _))
  refine (HS.out _ (by first | exact HFA.out | exact HF1.out)).mono ?_
  rintro e w2 ⟨rfl, h2, hf2⟩
  have c5 := h2.c5
  have HM2 : Hid (w2.ownsMap Tryz.prog 9 flR M s.fs.length (dat s.fs)) := by
    have := h2.map
    rw [Dsk.stepped_fs] at this
    exact this
  have HNX := Lib.hid (show Nx D M w s w2 s.step from (Nx.no H.out (by first | exact HFA.out | exact HF1.out)).trans (Nx.step h2 hf2))
  have H2 := Lib.hid h2
  clear h2 hf2
  rw [HX.out]
  go_wp2_with fail
  go_ret
  exact ⟨rfl, HNX.out⟩
set_option maxRecDepth 100000 in
theorem rename_name {w : World} {D M : Nat} {s : St} (h : Dsk w D M s) (nm : ByteArray) (hs : nm.size ≤ maxLen) (to : ByteArray) (ht : to.size ≤ maxLen) (hfl : s.fl = false) (f : Fl) (hf : fnd nm.data.toList s.fs = some f) (hn : isNm to.data.toList = false) :
    Calls Tryz.prog 45 #[.pointer (some ⟨D, 0, none⟩), .string nm, .string to] w fun e w' => e = .returned (.int .i64 13) ∧ Fr No w w' := by
  have HC := Lib.hid (fun W (hw : Fr No w W) => find_ok (h.no hw) nm hs hfl f hf)
  have HI := Lib.hid (show ∀ W, Calls Tryz.prog 53 #[.string to] W fun e w' => e = .returned (.bool false) ∧ W = w' from fun W => by
    have hi := isname_any to W (by unfold maxLen at ht; exact ht)
    rw [hn] at hi
    exact hi)
  clear h hfl hf hs hn ht
  go_enter Tryz.func45, Tryz.ntmps45
  go_wp2_with fail
  refine (HC.out _ (by first | exact Fr.refl _ _ | exact Fr.alloc _ _ _)).mono ?_
  rintro e w1 ⟨rfl, hf⟩
  have HF1 := Lib.hid (show Fr No w w1 from by first | exact hf | exact (Fr.alloc No w _).no_trans hf)
  clear hf
  go_wp2_with fail
  refine (HI.out _).mono ?_
  rintro e w' ⟨rfl, rfl⟩
  go_wp2_with fail
  go_ret
  exact ⟨rfl, by first | exact HF1.out | exact HF1.out.no_trans (Fr.alloc _ _ _)⟩
set_option maxRecDepth 100000 in
theorem rename_fails {w : World} {D M : Nat} {s : St} (h : Dsk w D M s) (nm : ByteArray) (hs : nm.size ≤ maxLen) (to : ByteArray) (ht : to.size ≤ maxLen) (hfl : s.fl = false) (f : Fl) (hf : fnd nm.data.toList s.fs = some f) (hn : isNm to.data.toList = true) (hx : s.fails = true) :
    Calls Tryz.prog 45 #[.pointer (some ⟨D, 0, none⟩), .string nm, .string to] w fun e w' => e = .returned (.int .i64 15) ∧ Nx D M w s w' s.step := by
  have HC := Lib.hid (fun W (hw : Fr No w W) => find_ok (h.no hw) nm hs hfl f hf)
  have HS := Lib.hid (fun W (hf : Fr No w W) => step_any (h.no hf) hfl)
  have H := Lib.hid h
  have HX := Lib.hid hx
  have HI := Lib.hid (show ∀ W, Calls Tryz.prog 53 #[.string to] W fun e w' => e = .returned (.bool true) ∧ W = w' from fun W => by
    have hi := isname_any to W (by unfold maxLen at ht; exact ht)
    rw [hn] at hi
    exact hi)
  clear h hfl hf hx hs hn ht
  go_enter Tryz.func45, Tryz.ntmps45
  go_wp2_with fail
  refine (HC.out _ (by first | exact Fr.refl _ _ | exact Fr.alloc _ _ _)).mono ?_
  rintro e w1 ⟨rfl, hf⟩
  have HF1 := Lib.hid (show Fr No w w1 from by first | exact hf | exact (Fr.alloc No w _).no_trans hf)
  clear hf
  go_wp2_with fail
  refine (HI.out _).mono ?_
  rintro e w' ⟨rfl, rfl⟩
  go_wp2_with fail
  have HFA := Lib.hid (show Fr No w (w1.alloc (.cells #[.slice f.A f.bs.length f.c, .int .i64 (f.fm : Int)] 60)) from HF1.out.no_trans (Fr.alloc _ _ _))
  refine (HS.out _ (by first | exact HFA.out | exact HF1.out)).mono ?_
  rintro e w2 ⟨rfl, h2, hf2⟩
  have c5 := h2.c5
  have HM2 : Hid (w2.ownsMap Tryz.prog 9 flR M s.fs.length (dat s.fs)) := by
    have := h2.map
    rw [Dsk.stepped_fs] at this
    exact this
  have HNX := Lib.hid (show Nx D M w s w2 s.step from (Nx.no H.out (by first | exact HFA.out | exact HF1.out)).trans (Nx.step h2 hf2))
  have H2 := Lib.hid h2
  clear h2 hf2
  rw [HX.out]
  go_wp2_with fail
  go_ret
  exact ⟨rfl, HNX.out⟩
set_option maxRecDepth 100000 in
theorem rename_ok {w : World} {D M : Nat} {s : St} (h : Dsk w D M s) (nm : ByteArray) (hs : nm.size ≤ maxLen) (to : ByteArray) (ht : to.size ≤ maxLen) (hfl : s.fl = false) (f : Fl) (hf : fnd nm.data.toList s.fs = some f) (hn : isNm to.data.toList = true) (hx : s.fails = false) :
    Calls Tryz.prog 45 #[.pointer (some ⟨D, 0, none⟩), .string nm, .string to] w fun e w' => e = .returned (.int .i64 0) ∧
      Nx D M w s w' { s.step with fs := put ⟨to.data.toList, f.A, f.c, f.bs, f.fm⟩ (del nm.data.toList s.fs) } := by
  have HC := Lib.hid (fun W (hw : Fr No w W) => find_ok (h.no hw) nm hs hfl f hf)
  have HS := Lib.hid (fun W (hf : Fr No w W) => step_any (h.no hf) hfl)
  have H := Lib.hid h
  have HX := Lib.hid hx
  have HFD := Lib.hid hf
  have HI := Lib.hid (show ∀ W, Calls Tryz.prog 53 #[.string to] W fun e w' => e = .returned (.bool true) ∧ W = w' from fun W => by
    have hi := isname_any to W (by unfold maxLen at ht; exact ht)
    rw [hn] at hi
    exact hi)
  have HS40 : Hid (to.size ≤ 40) := by
    show to.size ≤ 40
    have hq := hn
    unfold isNm at hq
    simp only [Bool.and_eq_true, decide_eq_true_eq] at hq
    have : to.data.toList.length = to.size := by rw [Array.length_toList]; rfl
    omega
  have HN := Lib.hid hs
  have HTN := Lib.hid hn
  clear h hfl hf hx hs hn ht
  go_enter Tryz.func45, Tryz.ntmps45
  go_wp2_with fail
  refine (HC.out _ (by first | exact Fr.refl _ _ | exact Fr.alloc _ _ _)).mono ?_
  rintro e w1 ⟨rfl, hf⟩
  have HF1 := Lib.hid (show Fr No w w1 from by first | exact hf | exact (Fr.alloc No w _).no_trans hf)
  clear hf
  go_wp2_with fail
  refine (HI.out _).mono ?_
  rintro e w' ⟨rfl, rfl⟩
  go_wp2_with fail
  have HLT := Lib.hid (show D < w1.heap.size by have := H.out.foot_lt (k := D) (.inl rfl); have := HF1.out.size; omega)
  obtain ⟨wa, HWA⟩ : ∃ wa, Hid (w1.alloc (.cells #[.slice f.A f.bs.length f.c, .int .i64 (f.fm : Int)] 60) = wa) := ⟨_, rfl⟩
  have HFA := Lib.hid (show Fr No w wa by rw [← HWA.out]; exact HF1.out.no_trans (Fr.alloc _ _ _))
  have HGA := Lib.hid (show wa.heap[w1.heap.size]? = some (.cells #[.slice f.A f.bs.length f.c, .int .i64 (f.fm : Int)] 60 (0, 0)) by rw [← HWA.out]; exact heap_alloc_new _ _)
  rw [HWA.out]
  refine (HS.out _ (by first | exact HFA.out | exact HF1.out)).mono ?_
  rintro e w2 ⟨rfl, h2, hf2⟩
  have c5 := h2.c5
  have HM2 : Hid (w2.ownsMap Tryz.prog 9 flR M s.fs.length (dat s.fs)) := by
    have := h2.map
    rw [Dsk.stepped_fs] at this
    exact this
  have HNX := Lib.hid (show Nx D M w s w2 s.step from (Nx.no H.out (by first | exact HFA.out | exact HF1.out)).trans (Nx.step h2 hf2))
  have H2 := Lib.hid h2
  have HG2 := Lib.hid ((hf2.block _ (Array.getElem?_eq_some_iff.1 HGA.out).1 (fun e => by have := HLT.out; omega)).trans HGA.out)
  have HGM := Lib.hid (show w1.heap.size ≠ M by have := H.out.foot_lt (k := M) (.inr (.inl rfl)); have := HF1.out.size; omega)
  clear h2 hf2
  rw [HX.out]
  go_wp2_with (first
    | (at_delete; refine wpList_drop rfl _ _ rfl HM2.out nm HN.out rfl rfl ?_; intro w3 hm3 hf3
       have HG3 := Lib.hid ((hf3.block _ (Array.getElem?_eq_some_iff.1 HG2.out).1 HGM.out).trans HG2.out)
       have g0 : w3.cell? ⟨w1.heap.size, 0, none⟩ = some (.slice f.A f.bs.length f.c) := by unfold World.cell?; rw [HG3.out]; rfl
       have g1 : w3.cell? ⟨w1.heap.size, 1, none⟩ = some (.int .i64 (f.fm : Int)) := by unfold World.cell?; rw [HG3.out]; rfl
       have HM3 := Lib.hid hm3
       have HF3 := Lib.hid hf3
       clear hm3 hf3))
  have hx3 := Nx.struck H2.out nm.data.toList HF3.out (by rw [Dsk.stepped_fs]; exact HM3.out)
  rw [Dsk.stepped_fs] at hx3
  have h3 := hx3.1
  have hcon := keep_any h3.c5 h3.map h3.few ⟨to.data.toList, f.A, f.c, f.bs, f.fm⟩ to rfl HS40.out
  refine hcon.mono ?_
  rintro e w4 ⟨rfl, hm4, hf4⟩
  have HM4 := Lib.hid hm4
  have HF4 := Lib.hid hf4
  have H3 := Lib.hid h3
  clear hcon hm4 hf4 g0 g1 hx3 h3 c5
  go_wp2_with fail
  go_ret
  refine ⟨rfl, HNX.out.trans ?_⟩
  have hfm := (fnd_mem HFD.out).1
  have hfn := (fnd_mem HFD.out).2
  have hdl := del_some H.out.apart HFD.out
  have hup := used_put H3.out ⟨to.data.toList, f.A, f.c, f.bs, f.fm⟩
  have hlp := length_put H3.out ⟨to.data.toList, f.A, f.c, f.bs, f.fm⟩
  have hfs : f ∈ s.step.fs := by rw [Dsk.stepped_fs]; exact hfm
  have hrow : w4.ownsRow 0 5 1 f.row f.bs.length (bvs f.bs) := by
    refine own_keep (own_keep (H2.out.rows f hfs) (fun k hk => HF3.out.block k ((H2.out.rows f hfs).lt k hk).2 (H2.out.row_ne hfs hk).2)) (fun k hk => HF4.out.block k ?_ (H2.out.row_ne hfs hk).2)
    exact Nat.lt_of_lt_of_le ((H2.out.rows f hfs).lt k hk).2 HF3.out.size
  have hD := H3.out.stored ⟨to.data.toList, f.A, f.c, f.bs, f.fm⟩ HF4.out H3.out.ne (fun g hg _ k hk e => (H3.out.row_ne hg hk).2 e) HM4.out hrow
    (fun g hg _ => H.out.sep f hfm g (mem_del.1 hg).1 (by rw [hfn]; exact (mem_del.1 hg).2.symm))
    (H.out.firm f hfm) HTN.out (by have := H.out.room; rw [Dsk.stepped_mo]; simp only at hup ⊢; omega) (by simp only at hlp ⊢; rw [hlp]; have := H.out.few; split <;> omega)
  refine ⟨hD, (HF3.out.trans HF4.out (fun _ _ e => e)).mono (fun _ _ e => .inr (.inl e)), ?_⟩
  intro k hk
  rcases hk with e | e | ⟨g, hg, e⟩
  · exact .inl (.inl e)
  · exact .inl (.inr (.inl e))
  · rcases mem_put.1 hg with rfl | ⟨hg, _⟩
    · exact .inl (.inr (.inr ⟨f, hfs, e⟩))
    · exact .inl (.inr (.inr ⟨g, by rw [Dsk.stepped_fs]; exact (mem_del.1 hg).1, e⟩))
end Go.Proofs.YtggejecmhfafoaaGreatDoor

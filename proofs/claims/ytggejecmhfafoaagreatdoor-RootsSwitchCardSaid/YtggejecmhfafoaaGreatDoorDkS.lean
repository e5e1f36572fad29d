/-
  Sync, Cut, Remove, Rename at a disk. No statement of the seat is proved here.
-/
import Derived.Test.YtggejecmhfafoaaGreatDoorDkR
namespace Go.Proofs.YtggejecmhfafoaaGreatDoor
open Go.RowKit Go.Maps

section
variable {w w' : World} {D M : Nat} {s : St}
set_option maxRecDepth 100000 in
/-- A file's first bytes stored in its place. -/
theorem stored_first (h : Dsk w D M s) (f : Fl) (hf : f ∈ s.fs) (n : Nat) (hn : n ≤ f.bs.length) (A : Option Addr) (c : Nat) {wa : World} (ha : Fr No w wa) (hab : Fr (fun k => k = M) wa w')
    (hrow : wa.ownsRow 0 5 1 (.slice A n c) n (bvs (f.bs.take n))) (hat : (Value.slice A n c = f.row) ∨ ∀ g, (Value.slice A n c).ownBlock = some g → w.heap.size ≤ g)
    (hm : w'.ownsMap Tryz.prog 9 flR M (put ⟨f.nm, A, c, f.bs.take n, n⟩ s.fs).length (dat (put ⟨f.nm, A, c, f.bs.take n, n⟩ s.fs))) :
    Nx D M w s w' { s with fs := put ⟨f.nm, A, c, f.bs.take n, n⟩ s.fs } := by
  have hl : (f.bs.take n).length = n := List.length_take_of_le hn
  have hA : ∀ k, (Value.slice A n c).ownBlock = some k → (f.row.ownBlock = some k ∧ k < w.heap.size) ∨ w.heap.size ≤ k := by
    intro k hk
    rcases hat with e | e
    · rw [e] at hk
      exact .inl ⟨hk, ((h.rows f hf).lt k hk).2⟩
    · exact .inr (e k hk)
  have hkM : ∀ k, (Value.slice A n c).ownBlock = some k → k ≠ M := by
    intro k hk
    rcases hA k hk with ⟨e, _⟩ | e
    · exact (h.row_ne hf e).2
    · have := h.map.lt
      omega
  have hfr : Fr (fun k => k = M) w w' := (ha.mono (fun _ _ e => e.elim)).trans hab (fun _ _ e => e)
  have hup := used_put h ⟨f.nm, A, c, f.bs.take n, n⟩
  have hlp := length_put h ⟨f.nm, A, c, f.bs.take n, n⟩
  have ho : old f.nm s.fs = f := by
    unfold old
    rw [fnd_apart h.apart hf]
    rfl
  have hfd := fnd_apart h.apart hf
  simp only [ho] at hup
  have hD := h.stored ⟨f.nm, A, c, f.bs.take n, n⟩ hfr h.ne (fun g hg _ k hk e => (h.row_ne hg hk).2 e) hm
    (by
      show w'.ownsRow 0 5 1 (.slice A (f.bs.take n).length c) (f.bs.take n).length (bvs (f.bs.take n))
      rw [hl]
      exact own_keep hrow (fun k hk => hab.block k (hrow.lt k hk).2 (hkM k hk)))
    (by
      intro g hg hne k hk hk2
      have hk : (Value.slice A (f.bs.take n).length c).ownBlock = some k := hk
      rw [hl] at hk
      have hgl := ((h.rows g hg).lt k hk2).2
      rcases hA k hk with ⟨e, _⟩ | e
      · exact h.sep f hf g hg hne.symm k e hk2
      · omega)
    (by show n ≤ (f.bs.take n).length; omega) (h.nms f hf) (by have := h.room; omega) (by rw [hlp]; simp only [hfd]; have := h.few; simp; omega)
  refine ⟨hD, hfr.mono (fun _ _ e => .inr (.inl e)), ?_⟩
  intro k hk
  rcases hk with e | e | ⟨g, hg, e⟩
  · exact .inl (.inl e)
  · exact .inl (.inr (.inl e))
  · rcases mem_put.1 hg with rfl | ⟨hg, _⟩
    · have e : (Value.slice A (f.bs.take n).length c).ownBlock = some k := e
      rw [hl] at e
      rcases hA k e with ⟨e, _⟩ | e
      · exact .inl (.inr (.inr ⟨f, hf, e⟩))
      · exact .inr e
    · exact .inl (.inr (.inr ⟨g, hg, e⟩))
end
set_option maxRecDepth 100000 in
/-- The file's row, behind a step. -/
theorem Dsk.len24 {w : World} {D M : Nat} {s : St} (h : Dsk w D M s) {f : Fl} (hf : f ∈ s.fs) : f.bs.length ≤ 16777216 := by
  have := used_mem hf
  have := h.room
  have := h.most
  omega
set_option maxRecDepth 100000 in
theorem sync_ok {w : World} {D M : Nat} {s : St} (h : Dsk w D M s) (nm : ByteArray) (hs : nm.size ≤ maxLen) (hfl : s.fl = false) (f : Fl) (hf : fnd nm.data.toList s.fs = some f) (hx : s.fails = false) :
    Calls Tryz.prog 43 #[.pointer (some ⟨D, 0, none⟩), .string nm] w fun e w' => e = .returned (.int .i64 0) ∧
      ∃ A c, Nx D M w s w' { s.step with fs := put ⟨f.nm, A, c, f.bs.take f.bs.length, f.bs.length⟩ s.fs } := by
  have HC := Lib.hid (fun W (hw : Fr No w W) => find_ok (h.no hw) nm hs hfl f hf)
  have HS := Lib.hid (fun W (hf : Fr No w W) => step_any (h.no hf) hfl)
  have HS40 : Hid (nm.size ≤ 40) := by
    show nm.size ≤ 40
    have hq := h.nms f (fnd_mem hf).1
    rw [(fnd_mem hf).2] at hq
    unfold isNm at hq
    simp only [Bool.and_eq_true, decide_eq_true_eq] at hq
    have : nm.data.toList.length = nm.size := by rw [Array.length_toList]; rfl
    omega
  have H := Lib.hid h
  have HX := Lib.hid hx
  have HFD := Lib.hid hf
  clear h hfl hf hx hs
  go_enter Tryz.func43, Tryz.ntmps43
  go_wp2_with fail
  refine (HC.out _ (by first | exact Fr.refl _ _ | exact Fr.alloc _ _ _)).mono ?_
  rintro e w1 ⟨rfl, hf⟩
  have HF1 := Lib.hid hf
  clear hf
  go_wp2_with fail
  obtain ⟨wa, HWA⟩ : ∃ wa, Hid (w1.alloc (.cells #[.slice f.A f.bs.length f.c, .int .i64 (f.fm : Int)] 60) = wa) := ⟨_, rfl⟩
  have HFA := Lib.hid (show Fr No w wa by rw [← HWA.out]; exact HF1.out.no_trans (Fr.alloc _ _ _))
  have HGA := Lib.hid (show wa.heap[w1.heap.size]? = some (.cells #[.slice f.A f.bs.length f.c, .int .i64 (f.fm : Int)] 60 (0, 0)) by rw [← HWA.out]; exact heap_alloc_new _ _)
  rw [HWA.out]
  refine (HS.out _ HFA.out).mono ?_
  rintro e w2 ⟨rfl, h2, hf2⟩
  have hGD : w1.heap.size ≠ D := by
    have := H.out.foot_lt (k := D) (.inl rfl)
    have := HF1.out.size
    omega
  have HG2 := Lib.hid ((hf2.block _ (Array.getElem?_eq_some_iff.1 HGA.out).1 hGD).trans HGA.out)
  have g0 : w2.cell? ⟨w1.heap.size, 0, none⟩ = some (.slice f.A f.bs.length f.c) := by unfold World.cell?; rw [HG2.out]; rfl
  have g1 : w2.cell? ⟨w1.heap.size, 1, none⟩ = some (.int .i64 (f.fm : Int)) := by unfold World.cell?; rw [HG2.out]; rfl
  have HM2 := Lib.hid h2.map
  have H2 := Lib.hid h2
  have HF2 := Lib.hid hf2
  clear h2 hf2 hGD
  rw [HX.out]
  go_wp2_with fail
  have hmem : f ∈ s.step.fs := by rw [Dsk.stepped_fs]; exact (fnd_mem HFD.out).1
  refine (first_any f f.bs.length (Nat.le_refl _) (H2.out.len24 hmem) w2 (H2.out.rows f hmem)).mono ?_
  rintro e w3 ⟨A, c, rfl, hrow, hat, hf3⟩
  have HR3 := Lib.hid hrow
  have HA3 := Lib.hid hat
  have HF3 := Lib.hid hf3
  clear hrow hat hf3
  go_wp2_with fail
  have hl : (f.bs.take f.bs.length).length = f.bs.length := List.length_take_of_le (Nat.le_refl _)
  have hk := keep_any (H2.out.no HF3.out).c5 (H2.out.no HF3.out).map (H2.out).few ⟨f.nm, A, c, f.bs.take f.bs.length, f.bs.length⟩ nm (fnd_mem HFD.out).2 HS40.out
  simp only [hl] at hk
  refine hk.mono ?_
  rintro e w4 ⟨rfl, hm4, hf4⟩
  have HM4 := Lib.hid hm4
  have HF4 := Lib.hid hf4
  clear hk hm4 hf4 g0 g1
  go_wp2_with fail
  go_ret
  refine ⟨rfl, A, c, ?_⟩
  have hn := stored_first H2.out f hmem f.bs.length (Nat.le_refl _) A c HF3.out HF4.out HR3.out HA3.out HM4.out
  rw [Dsk.stepped_fs] at hn
  exact ((Nx.no H.out HFA.out).trans (Nx.step H2.out HF2.out)).trans hn
set_option maxRecDepth 100000 in
theorem sync_fails {w : World} {D M : Nat} {s : St} (h : Dsk w D M s) (nm : ByteArray) (hs : nm.size ≤ maxLen) (hfl : s.fl = false) (f : Fl) (hf : fnd nm.data.toList s.fs = some f) (hx : s.fails = true) :
    Calls Tryz.prog 43 #[.pointer (some ⟨D, 0, none⟩), .string nm] w fun e w' => e = .returned (.int .i64 15) ∧ Nx D M w s w' s.step := by
  have HC := Lib.hid (fun W (hw : Fr No w W) => find_ok (h.no hw) nm hs hfl f hf)
  have HS := Lib.hid (fun W (hf : Fr No w W) => step_any (h.no hf) hfl)
  have H := Lib.hid h
  have HX := Lib.hid hx
  clear h hfl hf hx hs
  go_enter Tryz.func43, Tryz.ntmps43
  go_wp2_with fail
  refine (HC.out _ (by first | exact Fr.refl _ _ | exact Fr.alloc _ _ _)).mono ?_
  rintro e w1 ⟨rfl, hf⟩
  have HF1 := Lib.hid (show Fr No w w1 from by first | exact hf | exact (Fr.alloc No w _).no_trans hf)
  clear hf
  go_wp2_with fail
  obtain ⟨wa, HWA⟩ : ∃ wa, Hid (w1.alloc (.cells #[.slice f.A f.bs.length f.c, .int .i64 (f.fm : Int)] 60) = wa) := ⟨_, rfl⟩
  have HFA := Lib.hid (show Fr No w wa by rw [← HWA.out]; exact HF1.out.no_trans (Fr.alloc _ _ _))
  rw [HWA.out]
  refine (HS.out _ HFA.out).mono ?_
  rintro e w2 ⟨rfl, h2, hf2⟩
  have H2 := Lib.hid h2
  have HF2 := Lib.hid hf2
  clear h2 hf2
  rw [HX.out]
  go_wp2_with fail
  go_ret
  exact ⟨rfl, (Nx.no H.out HFA.out).trans (Nx.step H2.out HF2.out)⟩
set_option maxRecDepth 100000 in
theorem cut_ok {w : World} {D M : Nat} {s : St} (h : Dsk w D M s) (nm : ByteArray) (hs : nm.size ≤ maxLen) (n : Nat) (hfl : s.fl = false) (f : Fl) (hf : fnd nm.data.toList s.fs = some f) (hn : n ≤ f.bs.length) (hx : s.fails = false) :
    Calls Tryz.prog 15 #[.pointer (some ⟨D, 0, none⟩), .string nm, .int .i64 (n : Int)] w fun e w' => e = .returned (.int .i64 0) ∧
      ∃ A c, Nx D M w s w' { s.step with fs := put ⟨f.nm, A, c, f.bs.take n, n⟩ s.fs } := by
  have HC := Lib.hid (fun W (hw : Fr No w W) => find_ok (h.no hw) nm hs hfl f hf)
  have HS := Lib.hid (fun W (hf : Fr No w W) => step_any (h.no hf) hfl)
  have HS40 : Hid (nm.size ≤ 40) := by
    show nm.size ≤ 40
    have hq := h.nms f (fnd_mem hf).1
    rw [(fnd_mem hf).2] at hq
    unfold isNm at hq
    simp only [Bool.and_eq_true, decide_eq_true_eq] at hq
    have : nm.data.toList.length = nm.size := by rw [Array.length_toList]; rfl
    omega
  have H := Lib.hid h
  have HX := Lib.hid hx
  have HFD := Lib.hid hf
  have HLE := Lib.hid hn
  have hlo : decide ((n : Int) < 0) = false := by rw [decide_eq_false_iff_not]; omega
  have hhi : decide (f.bs.length < n) = false := by rw [decide_eq_false_iff_not]; omega
  clear h hfl hf hx hs hn
  go_enter Tryz.func15, Tryz.ntmps15
  go_wp2_with fail
  refine (HC.out _ (by first | exact Fr.refl _ _ | exact Fr.alloc _ _ _)).mono ?_
  rintro e w1 ⟨rfl, hf⟩
  have HF1 := Lib.hid (show Fr No w w1 from by first | exact hf | exact (Fr.alloc No w _).no_trans hf)
  clear hf
  go_wp2_with fail
  obtain ⟨wa, HWA⟩ : ∃ wa, Hid (w1.alloc (.cells #[.slice f.A f.bs.length f.c, .int .i64 (f.fm : Int)] 60) = wa) := ⟨_, rfl⟩
  have HFA := Lib.hid (show Fr No w wa by rw [← HWA.out]; exact HF1.out.no_trans (Fr.alloc _ _ _))
  have HGA := Lib.hid (show wa.heap[w1.heap.size]? = some (.cells #[.slice f.A f.bs.length f.c, .int .i64 (f.fm : Int)] 60 (0, 0)) by rw [← HWA.out]; exact heap_alloc_new _ _)
  rw [HWA.out]
  refine (HS.out _ HFA.out).mono ?_
  rintro e w2 ⟨rfl, h2, hf2⟩
  have hGD : w1.heap.size ≠ D := by
    have := H.out.foot_lt (k := D) (.inl rfl)
    have := HF1.out.size
    omega
  have HG2 := Lib.hid ((hf2.block _ (Array.getElem?_eq_some_iff.1 HGA.out).1 hGD).trans HGA.out)
  have g0 : w2.cell? ⟨w1.heap.size, 0, none⟩ = some (.slice f.A f.bs.length f.c) := by unfold World.cell?; rw [HG2.out]; rfl
  have g1 : w2.cell? ⟨w1.heap.size, 1, none⟩ = some (.int .i64 (f.fm : Int)) := by unfold World.cell?; rw [HG2.out]; rfl
  have HM2 := Lib.hid h2.map
  have H2 := Lib.hid h2
  have HF2 := Lib.hid hf2
  clear h2 hf2 hGD
  rw [HX.out]
  go_wp2_with fail
  have hmem : f ∈ s.step.fs := by rw [Dsk.stepped_fs]; exact (fnd_mem HFD.out).1
  refine (first_any f n HLE.out (H2.out.len24 hmem) w2 (H2.out.rows f hmem)).mono ?_
  rintro e w3 ⟨A, c, rfl, hrow, hat, hf3⟩
  have HR3 := Lib.hid hrow
  have HA3 := Lib.hid hat
  have HF3 := Lib.hid hf3
  clear hrow hat hf3
  go_wp2_with fail
  have hl : (f.bs.take n).length = n := List.length_take_of_le HLE.out
  have hk := keep_any (H2.out.no HF3.out).c5 (H2.out.no HF3.out).map (H2.out).few ⟨f.nm, A, c, f.bs.take n, n⟩ nm (fnd_mem HFD.out).2 HS40.out
  simp only [hl] at hk
  refine hk.mono ?_
  rintro e w4 ⟨rfl, hm4, hf4⟩
  have HM4 := Lib.hid hm4
  have HF4 := Lib.hid hf4
  clear hk hm4 hf4 g0 g1
  go_wp2_with fail
  go_ret
  refine ⟨rfl, A, c, ?_⟩
  have hn := stored_first H2.out f hmem n HLE.out A c HF3.out HF4.out HR3.out HA3.out HM4.out
  rw [Dsk.stepped_fs] at hn
  exact ((Nx.no H.out HFA.out).trans (Nx.step H2.out HF2.out)).trans hn
set_option maxRecDepth 100000 in
theorem cut_fails {w : World} {D M : Nat} {s : St} (h : Dsk w D M s) (nm : ByteArray) (hs : nm.size ≤ maxLen) (n : Nat) (hfl : s.fl = false) (f : Fl) (hf : fnd nm.data.toList s.fs = some f) (hn : n ≤ f.bs.length) (hx : s.fails = true) :
    Calls Tryz.prog 15 #[.pointer (some ⟨D, 0, none⟩), .string nm, .int .i64 (n : Int)] w fun e w' => e = .returned (.int .i64 15) ∧ Nx D M w s w' s.step := by
  have HC := Lib.hid (fun W (hw : Fr No w W) => find_ok (h.no hw) nm hs hfl f hf)
  have HS := Lib.hid (fun W (hf : Fr No w W) => step_any (h.no hf) hfl)
  have H := Lib.hid h
  have HX := Lib.hid hx
  have hlo : decide ((n : Int) < 0) = false := by rw [decide_eq_false_iff_not]; omega
  have hhi : decide (f.bs.length < n) = false := by rw [decide_eq_false_iff_not]; omega
  clear h hfl hf hx hs hn
  go_enter Tryz.func15, Tryz.ntmps15
  go_wp2_with fail
  refine (HC.out _ (by first | exact Fr.refl _ _ | exact Fr.alloc _ _ _)).mono ?_
  rintro e w1 ⟨rfl, hf⟩
  have HF1 := Lib.hid (show Fr No w w1 from by first | exact hf | exact (Fr.alloc No w _).no_trans hf)
  clear hf
  go_wp2_with fail
  obtain ⟨wa, HWA⟩ : ∃ wa, Hid (w1.alloc (.cells #[.slice f.A f.bs.length f.c, .int .i64 (f.fm : Int)] 60) = wa) := ⟨_, rfl⟩
  have HFA := Lib.hid (show Fr No w wa by rw [← HWA.out]; exact HF1.out.no_trans (Fr.alloc _ _ _))
  rw [HWA.out]
  refine (HS.out _ HFA.out).mono ?_
  rintro e w2 ⟨rfl, h2, hf2⟩
  have H2 := Lib.hid h2
  have HF2 := Lib.hid hf2
  clear h2 hf2
  rw [HX.out]
  go_wp2_with fail
  go_ret
  exact ⟨rfl, (Nx.no H.out HFA.out).trans (Nx.step H2.out HF2.out)⟩
set_option maxRecDepth 100000 in
theorem cut_arg {w : World} {D M : Nat} {s : St} (h : Dsk w D M s) (nm : ByteArray) (hs : nm.size ≤ maxLen) (n : Int) (hfl : s.fl = false) (f : Fl) (hf : fnd nm.data.toList s.fs = some f) (hn : n < 0 ∨ (f.bs.length : Int) < n) :
    Calls Tryz.prog 15 #[.pointer (some ⟨D, 0, none⟩), .string nm, .int .i64 n] w fun e w' => e = .returned (.int .i64 2) ∧ Fr No w w' := by
  have HC := Lib.hid (fun W (hw : Fr No w W) => find_ok (h.no hw) nm hs hfl f hf)
  clear h hfl hf hs
  by_cases hlo : n < 0
  · have hd : decide (n < 0) = true := by simp; exact hlo
    clear hn hlo
    go_enter Tryz.func15, Tryz.ntmps15
    go_wp2_with fail
    refine (HC.out _ (by first | exact Fr.refl _ _ | exact Fr.alloc _ _ _)).mono ?_
    rintro e w1 ⟨rfl, hf⟩
    have HF1 := Lib.hid (show Fr No w w1 from by first | exact hf | exact (Fr.alloc No w _).no_trans hf)
    clear hf
    go_wp2_with fail
    go_ret
    exact ⟨rfl, by first | exact HF1.out | exact HF1.out.no_trans (Fr.alloc _ _ _)⟩
  · have hd : decide (n < 0) = false := by simp; omega
    have hd2 : decide ((f.bs.length : Int) < n) = true := by simp; omega
    clear hn hlo
    go_enter Tryz.func15, Tryz.ntmps15
    go_wp2_with fail
    refine (HC.out _ (by first | exact Fr.refl _ _ | exact Fr.alloc _ _ _)).mono ?_
    rintro e w1 ⟨rfl, hf⟩
    have HF1 := Lib.hid (show Fr No w w1 from by first | exact hf | exact (Fr.alloc No w _).no_trans hf)
    clear hf
    go_wp2_with fail
    go_ret
    exact ⟨rfl, by first | exact HF1.out | exact HF1.out.no_trans (Fr.alloc _ _ _)⟩
end Go.Proofs.YtggejecmhfafoaaGreatDoor

/-
  A disk keeps a file under a name. No statement of the seat is proved here.
-/
import Derived.Test.YtggejecmhfafoaaGreatDoorDkN
import Derived.Test.YtggejecmhfafoaaGreatDoorLayCl
namespace Go.Proofs.YtggejecmhfafoaaGreatDoor
open Go.RowKit Go.Maps

set_option maxRecDepth 100000 in
theorem clone_any (s : ByteArray) (w : World) (hs : s.size ≤ 281474976710656) :
    Calls Tryz.prog 49 #[.string s] w fun e w' => e = .returned (.string s) ∧ Below w.heap.size w w' := by
  have HC := Lib.hid (Tryz.stringslite_Clone s w hs)
  go_enter Tryz.func49, Tryz.ntmps49
  go_wp2_with fail
  refine HC.out.mono ?_
  rintro e w' ⟨rfl, hb⟩
  have HB := Lib.hid hb
  clear hb
  go_wp2_with fail
  go_ret
  exact ⟨rfl, HB.out⟩
section
variable {w w' : World} {M n : Nat} {fs : List Fl} {F : Nat → Prop}
set_option maxRecDepth 100000 in
theorem own_map_keep (h : w.ownsMap Tryz.prog 9 flR M n (dat fs)) (hf : Fr F w w') (hF : ¬ F M) : w'.ownsMap Tryz.prog 9 flR M n (dat fs) := by
  have hl := h.lt
  obtain ⟨es, clock, hm, r⟩ := h
  exact ⟨es, clock, (hf.block M hl hF).trans hm, r⟩
end
set_option maxRecDepth 100000 in
theorem Fr.cell {F : Nat → Prop} {w w' : World} (h : Fr F w w') {p : Addr} {v : Value} (hc : w.cell? p = some v) (hF : ¬ F p.block) : w'.cell? p = some v :=
  (World.cell?_of_block (w := w) (h.block p.block (World.block_lt_of_cell? w p hc) hF)).trans hc
set_option maxRecDepth 100000 in
theorem keep_any {w : World} {D M : Nat} {fs : List Fl} (c5 : w.cell? ⟨D, 5, none⟩ = some (.map (some M))) (hm : w.ownsMap Tryz.prog 9 flR M fs.length (dat fs)) (hl : fs.length ≤ 200)
    (f : Fl) (nm : ByteArray) (hf : f.nm = nm.data.toList) (hs : nm.size ≤ 40) :
    Calls Tryz.prog 24 #[.pointer (some ⟨D, 0, none⟩), .string nm, .agg #[.slice f.A f.bs.length f.c, .int .i64 (f.fm : Int)]] w fun e w' =>
      e = .returned (.tuple #[]) ∧ w'.ownsMap Tryz.prog 9 flR M (put f fs).length (dat (put f fs)) ∧ Fr (fun k => k = M) w w' := by
  have hM := hm.lt
  have hD := World.block_lt_of_cell? w _ c5
  obtain ⟨x, HX⟩ : ∃ x, Hid (w.alloc (.cells #[.slice f.A f.bs.length f.c, .int .i64 (f.fm : Int)] 60) = x) := ⟨_, rfl⟩
  have HF := Lib.hid (show Fr No w x by rw [← HX.out]; exact Fr.alloc _ _ _)
  have c50 : x.cell? ⟨D, 5, none⟩ = some (.map (some M)) := by rw [HF.out.noBelow.cell hD]; exact c5
  have hbx : x.heap[w.heap.size]? = some (.cells #[.slice f.A f.bs.length f.c, .int .i64 (f.fm : Int)] 60 (0, 0)) := by rw [← HX.out]; exact heap_alloc_new w _
  have hlt : w.heap.size < x.heap.size := (Array.getElem?_eq_some_iff.1 hbx).1
  have cb0 : x.cell? ⟨w.heap.size, 0, none⟩ = some (.slice f.A f.bs.length f.c) := by unfold World.cell?; rw [hbx]; rfl
  have cb1 : x.cell? ⟨w.heap.size, 1, none⟩ = some (.int .i64 (f.fm : Int)) := by unfold World.cell?; rw [hbx]; rfl
  have HC := Lib.hid (fun W => clone_any nm W (by omega))
  have HM := Lib.hid (own_map_keep hm HF.out (fun e => e))
  have HN := Lib.hid hs
  have HL := Lib.hid hl
  have hDx : D < x.heap.size := by have : D < w.heap.size := hD; omega
  have hMx : M < x.heap.size := by omega
  have hBM : w.heap.size ≠ M := by omega
  have hDM : D ≠ M := by
    rintro rfl
    obtain ⟨es, clock, hb, _⟩ := hm
    unfold World.cell? at c5
    rw [hb] at c5
    cases c5
  clear hm hbx c5 hs hl
  go_enter Tryz.func24, Tryz.ntmps24
  go_wp2_with fail
  rw [HX.out]
  generalize w.heap.size = B at *
  go_region_held3 (fun W => W.cell? ⟨D, 5, none⟩ = some (.map (some M)) ∧ W.cell? ⟨B, 0, none⟩ = some (.slice f.A f.bs.length f.c) ∧ W.cell? ⟨B, 1, none⟩ = some (.int .i64 (f.fm : Int)))
    (first | exact ⟨c52, cb02, cb12⟩ | exact ⟨c51, cb01, cb11⟩ | exact ⟨c50, cb0, cb1⟩)
    (first
      | (go_at_call 49; (refine (HC.out _).mono ?_); rintro e w1 ⟨rfl, hb1⟩; have HF1 := Lib.hid ((Fr.drew No x).no_trans (Fr.of_below hb1)); have c51 := HF1.out.cell c50 (fun e => e); have cb01 := HF1.out.cell cb0 (fun e => e); have cb11 := HF1.out.cell cb1 (fun e => e); obtain ⟨w2, hrun, hm2, hf2⟩ := store_run (own_map_keep HM.out HF1.out (fun e => e)) HL.out nm (by have := HN.out; unfold maxLen; omega) f hf; simp only [Fl.val] at hrun; have HM2 := Lib.hid hm2; have HF2 := Lib.hid hf2; have c52 := hf2.cell c51 hDM; have cb02 := hf2.cell cb01 hBM; have cb12 := hf2.cell cb11 hBM; clear hb1 hm2 hf2))
  go_end0
  exact ⟨rfl, HM2.out, ((HF.out.no_trans HF1.out).mono (fun _ _ e => e.elim)).trans HF2.out (fun _ _ e => e)⟩
end Go.Proofs.YtggejecmhfafoaaGreatDoor

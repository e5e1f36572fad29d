/-
  The document's net: Send, Copy. No statement of the seat is proved here.
-/
import Derived.Test.YtndanonhkjgmhaaNxC
namespace Go.Proofs.Ytndanonhkjgmhaa
open Go.RowKit

theorem rd_keep {F : Nat → Prop} {w w' : World} {B : Option Addr} {m : Nat} {l : List UInt8} (hf : Fr F w w') (hr : Rd w w.heap.size B m l) (hB : 0 < m → ∀ a, B = some a → ¬ F a.block) : Rd w' w'.heap.size B m l := by
  refine ⟨hr.1, fun hm => ?_⟩
  obtain ⟨b, o, e, hb, hc⟩ := hr.2 hm
  exact ⟨b, o, e, Nat.lt_of_lt_of_le hb hf.size, fun j hj => (hf.cell (p := ⟨b, o + j, none⟩) hb (show ¬ F b from hB hm ⟨b, o, none⟩ e)).trans (hc j hj)⟩
theorem stAt_keep {F : Nat → Prop} {w w' : World} {b o : Nat} {x : St} (hf : Fr F w w') (h : StAt w ⟨b, o, none⟩ x) (hb : b < w.heap.size) (hF : ¬ F b) (hd : x.g.n ≤ x.g.c ∧ Rd w' w'.heap.size x.g.A x.g.n x.g.l) : StAt w' ⟨b, o, none⟩ x := by
  obtain ⟨x0, x1, x2, x3, _⟩ := h.at_
  refine ⟨(hf.cell (p := ⟨b, o, none⟩) hb hF).trans x0, ?_⟩
  rw [Addr.add_lit]
  refine ⟨(hf.cell (p := ⟨b, o + 1, none⟩) hb hF).trans x1, ?_, ?_, hd⟩
  · rw [Addr.add_lit]; exact (hf.cell (p := ⟨b, o + 1 + 1, none⟩) hb hF).trans x2
  · rw [Addr.add_lit]; exact (hf.cell (p := ⟨b, o + 1 + 2, none⟩) hb hF).trans x3
theorem rowS_keep {F : Nat → Prop} {w w' : World} {A : Option Addr} {n : Nat} {L : List St} (hf : Fr F w w') (h : RowOf w 4 (StAt w) A n L) (hA : ∀ a, A = some a → ¬ F a.block) (hd : ∀ x ∈ L, x.g.n ≤ x.g.c ∧ Rd w' w'.heap.size x.g.A x.g.n x.g.l) : RowOf w' 4 (StAt w') A n L := by
  refine ⟨h.1, fun hn => ?_⟩
  obtain ⟨b, o, e, hb, hc⟩ := h.2 hn
  exact ⟨b, o, e, Nat.lt_of_lt_of_le hb hf.size, fun j hj => stAt_keep hf (hc j hj) hb (show ¬ F b from hA _ e) (hd _ (List.getElem_mem hj))⟩
theorem joined_keep {F : Nat → Prop} {w w0 w1 wE : World} {A : Option Addr} {n : Nat} {H : List St} {N : Int} {E1 : Nat} {fr tt : Int} {m : Nat} {l : List UInt8} {e : Ending}
    (hR : RowOf w 4 (StAt w) A n H) (hw : Fr No w w0) (hj : Joined w0 n H N E1 fr tt m l e w1) (hf : Fr F w1 wE) (hF : ∀ i, F i → w.heap.size ≤ i ∧ i < w0.heap.size) : Joined w n H N E1 fr tt m l e wE := by
  obtain ⟨A', c', B', cb', rfl, hrow, hA, hB, hcap, hn⟩ := hj
  have hall := fr_new (hw.no_trans hn) hf (fun i hi => (hF i hi).1)
  have hnF : ∀ k, w0.heap.size ≤ k → ¬ F k := fun k hk e => by have := (hF k e).2; omega
  refine ⟨A', c', B', cb', rfl, rowS_keep hf hrow (fun a ha => hnF _ (hA a ha).1) (fun x hx => ?_), fun a ha => ⟨Nat.le_trans hw.size (hA a ha).1, Nat.lt_of_lt_of_le (hA a ha).2 hf.size⟩, fun a ha => ⟨Nat.le_trans hw.size (hB a ha).1, Nat.lt_of_lt_of_le (hB a ha).2 hf.size⟩, hcap, hall⟩
  rcases List.mem_cons.1 hx with e | hx
  · have := rowS_data hrow x hx
    exact ⟨this.1, rd_keep hf this.2 (fun _ a ha => hnF _ (hB a (by rw [← ha, e])).1)⟩
  · exact rowS_data (rowS_no hR hall) x hx
/-- The net as it was, and a code. -/
def Same (w : World) (N : Int) (E : Nat) (A : Option Addr) (n c : Nat) (code : Int) (e : Ending) (w' : World) : Prop :=
  e = .returned (.tuple #[.agg #[.int .i64 N, .int .i64 (E : Int), .slice A n c], .int .i64 code]) ∧ Fr No w w'
set_option maxHeartbeats 1600000 in
set_option maxRecDepth 100000 in
theorem sendS_arg {w : World} {A : Option Addr} {n c : Nat} (N : Int) (E : Nat) (fr tt : Int) (hb : (isN N fr && isN N tt) = false) (B : Option Addr) (m cb : Nat) :
    Calls Try.prog 21 #[.agg #[.int .i64 N, .int .i64 (E : Int), .slice A n c], .int .i64 fr, .int .i64 tt, .slice B m cb] w (Same w N E A n c 2) := by
  have hf := (Fr.alloc No w (.cells #[.int .i64 N, .int .i64 (E : Int), .slice A n c] 42)).no_trans (Fr.alloc No _ (.cells #[.int .i64 0, .int .i64 0, .slice none 0 0] 42))
  have HF := Lib.hid hf
  have HB := Lib.hid (heap2 w (.cells #[.int .i64 N, .int .i64 (E : Int), .slice A n c] 42) (.cells #[.int .i64 0, .int .i64 0, .slice none 0 0] 42))
  have hw : fr < 0 ∨ (0 ≤ fr ∧ N ≤ fr) ∨ (0 ≤ fr ∧ ¬ (N ≤ fr) ∧ tt < 0) ∨ (0 ≤ fr ∧ ¬ (N ≤ fr) ∧ 0 ≤ tt ∧ N ≤ tt) := by
    unfold isN at hb
    rw [← Bool.not_eq_true, Bool.and_eq_true, Bool.and_eq_true, Bool.and_eq_true, decide_eq_true_iff, decide_eq_true_iff, decide_eq_true_iff, decide_eq_true_iff] at hb
    omega
  have HB0 := Lib.hid (blk_no (Fr.alloc No _ (.cells #[.int .i64 0, .int .i64 0, .slice none 0 0] 42)) (heap_alloc_new w (.cells #[.int .i64 N, .int .i64 (E : Int), .slice A n c] 42)))
  clear hf hb
  go_enter Try.func21, Try.ntmps21
  go_upto_region 1 with fail
  generalize (w.alloc (.cells #[.int .i64 N, .int .i64 (E : Int), .slice A n c] 42)).alloc (.cells #[.int .i64 0, .int .i64 0, .slice none 0 0] 42) = w0 at *
  have p0 : w0.cell? ⟨w.heap.size, 0, none⟩ = some (.int .i64 N) := blk_cell HB0.out 0
  have p1 : w0.cell? ⟨w.heap.size, 1, none⟩ = some (.int .i64 (E : Int)) := blk_cell HB0.out 1
  have p2 : w0.cell? ⟨w.heap.size, 2, none⟩ = some (.slice A n c) := blk_cell HB0.out 2
  have q0 := blk_cell HB.out 0
  have q1 := blk_cell HB.out 1
  have q2 := blk_cell HB.out 2
  have f0 := blk_free HB.out 0
  have f1 := blk_free HB.out 1
  have f2 := blk_free HB.out 2
  rcases hw with h | ⟨h0, h⟩ | ⟨h0, h1, h⟩ | ⟨h0, h1, h2, h⟩
  all_goals (
    go_wp2_with fail
    refine bodyPost_ret (results_cell_tmp_row (p := 8) rfl _ _ (w.heap.size + 1) 42 #[.int .i64 N, .int .i64 (E : Int), .slice A n c] (0, 0) _ rfl (set3_blk HB.out _ _ _) Try.underlying42 rfl (by kernel_rfl)) rfl ?_
    exact ⟨rfl, fr_new HF.out (set3_fr _ _ _ _ _) (fun i hi => by omega)⟩)
set_option maxRecDepth 100000 in
theorem sendS_ok {w : World} {A : Option Addr} {n : Nat} {H : List St} (c : Nat) (h : RowOf w 4 (StAt w) A n H) (hn : n ≤ 4000) (N : Int) (E : Nat) (hE : ∀ x ∈ H, x.t ≤ E) (hE2 : E ≤ 9000) {E1 : Nat} (hE1 : E + 1 = E1) (fr tt : Int) (hx : isN N fr = true) (hy : isN N tt = true) (B : Option Addr) (m cb : Nat) (l : List UInt8) (hr : Rd w w.heap.size B m l) (hm : m ≤ 1000) :
    Calls Try.prog 21 #[.agg #[.int .i64 N, .int .i64 (E : Int), .slice A n c], .int .i64 fr, .int .i64 tt, .slice B m cb] w (Joined w n H N E1 fr tt m l) := by
  have hf := (Fr.alloc No w (.cells #[.int .i64 N, .int .i64 (E : Int), .slice A n c] 42)).no_trans (Fr.alloc No _ (.cells #[.int .i64 0, .int .i64 0, .slice none 0 0] 42))
  have HF := Lib.hid hf
  have HR := Lib.hid h
  have HB := Lib.hid (heap2 w (.cells #[.int .i64 N, .int .i64 (E : Int), .slice A n c] 42) (.cells #[.int .i64 0, .int .i64 0, .slice none 0 0] 42))
  have HJ := Lib.hid (joins_any c (rowS_no h hf) hn N E hE hE2 hE1 fr tt B m cb l ((hf.rd (Nat.le_refl _) hr).more hf.size))
  unfold isN at hx hy
  rw [Bool.and_eq_true, decide_eq_true_iff, decide_eq_true_iff] at hx hy
  obtain ⟨x0, x1⟩ := hx
  obtain ⟨y0, y1⟩ := hy
  have x2 : ¬ (fr < 0) := by omega
  have x3 : ¬ (N ≤ fr) := by omega
  have y2 : ¬ (tt < 0) := by omega
  have y3 : ¬ (N ≤ tt) := by omega
  have hmI : ¬ ((1048576 : Int) < (m : Int)) := by omega
  clear h hf hE hE1 hr
  go_enter Try.func21, Try.ntmps21
  go_wp2_with fail
  refine HJ.out.mono ?_
  intro e w1 hj
  obtain ⟨A', c', B', cb', rfl, hj'⟩ := hj
  have HJ1 := Lib.hid (show Joined _ n H N E1 fr tt m l _ w1 from ⟨A', c', B', cb', rfl, hj'⟩)
  have HB1 := Lib.hid (blk_no hj'.2.2.2.2 HB.out)
  clear hj'
  have q0 := blk_cell HB1.out 0
  have q1 := blk_cell HB1.out 1
  have q2 := blk_cell HB1.out 2
  have f0 := blk_free HB1.out 0
  have f1 := blk_free HB1.out 1
  have f2 := blk_free HB1.out 2
  go_wp2_with fail
  refine bodyPost_ret (results_cell_tmp_row (p := 8) rfl _ _ (w.heap.size + 1) 42 #[.int .i64 N, .int .i64 (E1 : Int), .slice A' (n + 1) c'] (0, 0) _ rfl (set3_blk HB1.out _ _ _) Try.underlying42 rfl (by kernel_rfl)) rfl ?_
  exact joined_keep HR.out HF.out HJ1.out (set3_fr _ _ _ _ _) (fun i hi => by rw [World.size_alloc, World.size_alloc]; omega)
set_option maxRecDepth 100000 in
theorem copyS_no {w : World} {A : Option Addr} {n : Nat} {H : List St} (c : Nat) (h : RowOf w 4 (StAt w) A n H) (hd : Dsc H) (hn : n ≤ 10000) (N : Int) (E : Nat) (i : Int) (hi : fpos n i = -1) :
    Calls Try.prog 23 #[.agg #[.int .i64 N, .int .i64 (E : Int), .slice A n c], .int .i64 i] w (Same w N E A n c 2) := by
  have hf := (Fr.alloc No w (.cells #[.int .i64 N, .int .i64 (E : Int), .slice A n c] 42)).no_trans (Fr.alloc No _ (.cells #[.int .i64 0, .int .i64 0, .slice none 0 0] 42))
  have HF := Lib.hid hf
  have HB0 := Lib.hid (blk_no (Fr.alloc No _ (.cells #[.int .i64 0, .int .i64 0, .slice none 0 0] 42)) (heap_alloc_new w (.cells #[.int .i64 N, .int .i64 (E : Int), .slice A n c] 42)))
  have HB := Lib.hid (heap2 w (.cells #[.int .i64 N, .int .i64 (E : Int), .slice A n c] 42) (.cells #[.int .i64 0, .int .i64 0, .slice none 0 0] 42))
  have HL := Lib.hid (lookS_no c (rowS_no h hf) hd hn N (E : Int) i hi)
  clear h hf hd
  go_enter Try.func23, Try.ntmps23
  go_wp2_with fail
  refine HL.out.mono ?_
  rintro e w1 ⟨rfl, hf⟩
  have hf2 := hf.no_trans (Fr.alloc No w1 (.cells #[.int .i64 0, .int .i64 0, .slice none 0 0] 30))
  have HF2 := Lib.hid hf2
  have HC0 := Lib.hid (blk_no hf2 HB0.out)
  have HC := Lib.hid (blk_no hf2 HB.out)
  clear hf hf2
  have p0 := blk_cell HC0.out 0
  have p1 := blk_cell HC0.out 1
  have p2 := blk_cell HC0.out 2
  have q0 := blk_cell HC.out 0
  have q1 := blk_cell HC.out 1
  have q2 := blk_cell HC.out 2
  have f0 := blk_free HC.out 0
  have f1 := blk_free HC.out 1
  have f2 := blk_free HC.out 2
  go_wp2_with fail
  refine bodyPost_ret (results_cell_tmp_row (p := 4) rfl _ _ (w.heap.size + 1) 42 #[.int .i64 N, .int .i64 (E : Int), .slice A n c] (0, 0) _ rfl (set3_blk HC.out _ _ _) Try.underlying42 rfl (by kernel_rfl)) rfl ?_
  exact ⟨rfl, fr_new (HF.out.no_trans HF2.out) (set3_fr _ _ _ _ _) (fun i hi => by omega)⟩
set_option maxRecDepth 100000 in
theorem copyS_ok {w : World} {A : Option Addr} {n : Nat} {H : List St} (c : Nat) (h : RowOf w 4 (StAt w) A n H) (hd : Dsc H) (hn : n ≤ 4000) (N : Int) (E : Nat) (hE : ∀ x ∈ H, x.t ≤ E) (hE2 : E ≤ 9000) {E1 : Nat} (hE1 : E + 1 = E1) (p : Int) {i : Nat} (hi : fpos n p = (i : Int)) {x : St} (hx : H[i]? = some x) :
    Calls Try.prog 23 #[.agg #[.int .i64 N, .int .i64 (E : Int), .slice A n c], .int .i64 p] w (Joined w n H N E1 x.g.fr x.g.to x.g.n x.g.l) := by
  have hf := (Fr.alloc No w (.cells #[.int .i64 N, .int .i64 (E : Int), .slice A n c] 42)).no_trans (Fr.alloc No _ (.cells #[.int .i64 0, .int .i64 0, .slice none 0 0] 42))
  have HF := Lib.hid hf
  have HR := Lib.hid h
  have HB0 := Lib.hid (blk_no (Fr.alloc No _ (.cells #[.int .i64 0, .int .i64 0, .slice none 0 0] 42)) (heap_alloc_new w (.cells #[.int .i64 N, .int .i64 (E : Int), .slice A n c] 42)))
  have HB := Lib.hid (heap2 w (.cells #[.int .i64 N, .int .i64 (E : Int), .slice A n c] 42) (.cells #[.int .i64 0, .int .i64 0, .slice none 0 0] 42))
  have HL := Lib.hid (lookS_yes c (rowS_no h hf) hd (by omega) N (E : Int) p hi hx)
  have HJ := Lib.hid (fun W (hW : Fr No w W) => joins_any c (rowS_no h hW) hn N E hE hE2 hE1 x.g.fr x.g.to x.g.A x.g.n x.g.c x.g.l (rowS_data (rowS_no h hW) x (List.mem_of_getElem? hx)).2)
  clear h hf hd hE hE1 hx
  go_enter Try.func23, Try.ntmps23
  go_wp2_with fail
  refine HL.out.mono ?_
  rintro e w1 ⟨rfl, hf⟩
  have hf2 := hf.no_trans (Fr.alloc No w1 (.cells #[.int .i64 x.g.fr, .int .i64 x.g.to, .slice x.g.A x.g.n x.g.c] 30))
  have HF2 := Lib.hid (HF.out.no_trans hf2)
  have HC0 := Lib.hid (blk_no hf2 HB0.out)
  have HC := Lib.hid (blk_no hf2 HB.out)
  clear hf hf2
  have p0 := blk_cell HC0.out 0
  have p1 := blk_cell HC0.out 1
  have p2 := blk_cell HC0.out 2
  go_wp2_with fail
  refine (HJ.out _ HF2.out).mono ?_
  intro e w2 hj
  obtain ⟨A', c', B', cb', rfl, hj'⟩ := hj
  have HJ1 := Lib.hid (show Joined _ n H N E1 x.g.fr x.g.to x.g.n x.g.l _ w2 from ⟨A', c', B', cb', rfl, hj'⟩)
  have HB1 := Lib.hid (blk_no hj'.2.2.2.2 HC.out)
  have HSZ := Lib.hid (Array.getElem?_eq_some_iff.1 HC.out).1
  clear hj' p0 p1 p2
  have q0 := blk_cell HB1.out 0
  have q1 := blk_cell HB1.out 1
  have q2 := blk_cell HB1.out 2
  have f0 := blk_free HB1.out 0
  have f1 := blk_free HB1.out 1
  have f2 := blk_free HB1.out 2
  go_wp2_with fail
  refine bodyPost_ret (results_cell_tmp_row (p := 4) rfl _ _ (w.heap.size + 1) 42 #[.int .i64 N, .int .i64 (E1 : Int), .slice A' (n + 1) c'] (0, 0) _ rfl (set3_blk HB1.out _ _ _) Try.underlying42 rfl (by kernel_rfl)) rfl ?_
  exact joined_keep HR.out HF2.out HJ1.out (set3_fr _ _ _ _ _) (fun i hi => ⟨by omega, by have := HSZ.out; omega⟩)
end Go.Proofs.Ytndanonhkjgmhaa

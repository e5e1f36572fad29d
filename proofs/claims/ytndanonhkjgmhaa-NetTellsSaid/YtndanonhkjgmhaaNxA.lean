/-
  The document's net: its heap in a world; ahead, Flying, find. No statement of the seat is proved here.
-/
import Derived.Test.YtndanonhkjgmhaaNtG
import Derived.Deep.RegionHeld3
import Derived.Deep.CutBlock
namespace Go.Proofs.Ytndanonhkjgmhaa
open Go.RowKit

/-- What was sent to the document's net, and when. -/
structure St where
  t : Nat
  g : Gr
def stCells (x : St) : List Value := [.int .i64 (x.t : Int), .int .i64 x.g.fr, .int .i64 x.g.to, .slice x.g.A x.g.n x.g.c]
def stsCells (L : List St) : List Value := L.flatMap stCells
theorem stsCells_length (l : List St) : (stsCells l).length = l.length * 4 := flat_length (f := stCells) (s := 4) (fun _ => rfl) l
theorem stsCells_append (l m : List St) : stsCells (l ++ m) = stsCells l ++ stsCells m := by simp [stsCells]
theorem stsCells_at (l : List St) (j r : Nat) {g : St} (hj : l[j]? = some g) (hr : r < 4) : (stsCells l)[j * 4 + r]? = (stCells g)[r]? := flat_at (f := stCells) (s := 4) (fun _ => rfl) l j r hj hr
theorem stCells_one (g : St) : ∀ u ∈ stCells g, u.oneCell' = true := by
  intro u hu
  simp only [stCells, List.mem_cons, List.not_mem_nil, or_false] at hu
  rcases hu with rfl | rfl | rfl | rfl <;> rfl
theorem stsCells_one (l : List St) : ∀ u ∈ stsCells l, u.oneCell' = true := by
  intro u hu
  obtain ⟨x, _, hx⟩ := List.mem_flatMap.1 hu
  exact stCells_one x u hx
def StAt (W : World) (a : Addr) (x : St) : Prop := W.cell? a = some (.int .i64 (x.t : Int)) ∧ GrAt W (a.add 1) x.g
theorem StAt.no {W W' : World} {b o : Nat} {x : St} (h : StAt W ⟨b, o, none⟩ x) (hb : b < W.heap.size) (hf : Fr No W W') : StAt W' ⟨b, o, none⟩ x := by
  refine ⟨(hf.cell (p := ⟨b, o, none⟩) hb (fun e => e)).trans h.1, ?_⟩
  have := h.2
  rw [Addr.add_lit] at this ⊢
  exact this.no hb hf
theorem StAt.at_ {W : World} {b o : Nat} {x : St} (h : StAt W ⟨b, o, none⟩ x) : W.cell? ⟨b, o, none⟩ = some (.int .i64 (x.t : Int)) ∧ W.cell? ⟨b, o + 1, none⟩ = some (.int .i64 x.g.fr) ∧ W.cell? ⟨b, o + 1 + 1, none⟩ = some (.int .i64 x.g.to) ∧ W.cell? ⟨b, o + 1 + 2, none⟩ = some (.slice x.g.A x.g.n x.g.c) ∧ x.g.n ≤ x.g.c ∧ Rd W W.heap.size x.g.A x.g.n x.g.l := by
  have := h.2
  rw [Addr.add_lit] at this
  obtain ⟨a, b, c⟩ := this.at_
  exact ⟨h.1, a, b, c, this.2.2.2⟩
theorem rowS_no {W W' : World} {A : Option Addr} {n : Nat} {xs : List St} (h : RowOf W 4 (StAt W) A n xs) (hf : Fr No W W') : RowOf W' 4 (StAt W') A n xs := by
  refine ⟨h.1, fun hn => ?_⟩
  obtain ⟨b, o, e, hb, hc⟩ := h.2 hn
  exact ⟨b, o, e, Nat.lt_of_lt_of_le hb hf.size, fun j hj => (hc j hj).no hb hf⟩
theorem rowS_nil (W : World) (A : Option Addr) : RowOf W 4 (StAt W) A 0 [] := ⟨rfl, fun e => by omega⟩

/-! ### counting -/
theorem cntA_succ {p : St → Bool} {H : List St} {k : Nat} {x : St} (hx : H[k]? = some x) : ((H.take (k + 1)).filter p).length = ((H.take k).filter p).length + if p x then 1 else 0 := by
  rw [List.take_add_one, hx, List.filter_append, List.length_append]
  cases h : p x <;> simp [h]
/-- The later ones ahead. -/
abbrev Dsc (H : List St) : Prop := H.Pairwise fun a b => b.t < a.t
theorem ahead_at {H : List St} (hd : Dsc H) : ∀ {i : Nat} {x : St}, H[i]? = some x → (H.filter fun y => decide ((y.t : Int) < (x.t : Int))).length + i + 1 = H.length := by
  induction H with
  | nil => intro i x h; cases h
  | cons a H ih =>
    intro i x h
    have hp := List.pairwise_cons.1 hd
    cases i with
    | zero =>
      have e : a = x := by simpa using h
      subst e
      have : H.filter (fun y => decide ((y.t : Int) < (a.t : Int))) = H := by
        rw [List.filter_eq_self]
        intro y hy
        have := hp.1 y hy
        exact decide_eq_true (by omega)
      rw [List.filter_cons, if_neg (by simp), this]
      rfl
    | succ i =>
      have h' : H[i]? = some x := by simpa using h
      have hx := hp.1 x (List.mem_of_getElem? h')
      rw [List.filter_cons, if_neg (by simp; omega), List.length_cons, ← ih hp.2 h']
      omega
theorem ahead_all {H : List St} {E : Nat} (hE : ∀ x ∈ H, x.t ≤ E) : (H.filter fun y => decide ((y.t : Int) < ((E + 1 : Nat) : Int))).length = H.length := by
  rw [List.filter_eq_self.2]
  intro y hy
  have := hE y hy
  exact decide_eq_true (by omega)

/-! ### calls -/
set_option maxRecDepth 100000 in
theorem ahead_any {w : World} {A : Option Addr} {n : Nat} {H : List St} (c : Nat) (h : RowOf w 4 (StAt w) A n H) (hn : n ≤ 10000) (N E when : Int) :
    Calls Try.prog 44 #[.agg #[.int .i64 N, .int .i64 E, .slice A n c], .int .i64 when] w fun e w' =>
      e = .returned (.int .i64 ((H.filter fun x => decide ((x.t : Int) < when)).length : Nat)) ∧ Fr No w w' := by
  have hf := Fr.alloc No w (.cells #[.int .i64 N, .int .i64 E, .slice A n c] 42)
  have hb := heap_alloc_new w (.cells #[.int .i64 N, .int .i64 E, .slice A n c] 42)
  have HR := Lib.hid (rowS_no h hf)
  have HLN := Lib.hid h.1
  have HF := Lib.hid hf
  have q2 := blk_cell hb 2
  have q2 : (w.alloc (.cells #[.int .i64 N, .int .i64 E, .slice A n c] 42)).cell? ⟨w.heap.size, 2, none⟩ = some (.slice A n c) := q2
  clear h hf hb
  go_enter Try.func44, Try.ntmps44
  go_wp2_with fail
  generalize w.alloc (.cells #[.int .i64 N, .int .i64 E, .slice A n c] 42) = wB at *
  go_loopw [5, 6] (fun v5 v6 wr => ∃ k : Nat, k ≤ n ∧ v5 = .int .i64 ((((H.take k).filter fun x => decide ((x.t : Int) < when)).length : Nat) : Int) ∧ v6 = .int .i64 (k : Int) ∧ wr = wB) (fun _ v6 _ => n - (intOf v6).toNat)
  case atStart => exact ⟨0, by omega, rfl, rfl, rfl⟩
  case round =>
    obtain ⟨k, hk, rfl, rfl, rfl⟩ := hrel
    obtain ⟨q, HQ⟩ : ∃ q, Hid (((H.take k).filter fun x => decide ((x.t : Int) < when)).length = q) := ⟨_, rfl⟩
    have hqk : q ≤ k := by
      rw [← HQ.out]
      refine Nat.le_trans (List.length_filter_le _ _) ?_
      rw [List.length_take]
      omega
    rw [HQ.out]
    by_cases hkn : k < n
    · have hkI : (k : Int) < (n : Int) := by omega
      have hk0 : (0 : Int) ≤ (k : Int) := by omega
      have hwk : IntKind.i64.wrap ((k : Int) + 1) = ((k + 1 : Nat) : Int) := by
        rw [show ((k : Int) + 1) = ((k + 1 : Nat) : Int) by omega]
        exact IntWalk.i64_in _ (by omega)
      have hwq : IntKind.i64.wrap ((q : Int) + 1) = ((q + 1 : Nat) : Int) := by
        rw [show ((q : Int) + 1) = ((q + 1 : Nat) : Int) by omega]
        exact IntWalk.i64_in _ (by omega)
      obtain ⟨b, o, rfl, hb, hc⟩ := HR.out.2 (by omega)
      have hkl : k < H.length := by rw [HLN.out]; exact hkn
      have hx := (hc k hkl).at_
      have HX := Lib.hid (List.getElem?_eq_getElem hkl)
      clear hc
      generalize H[k] = x at *
      obtain ⟨y0, _⟩ := hx
      by_cases hlt : (x.t : Int) < when
      · have HQ2 : Hid (((H.take (k + 1)).filter fun x => decide ((x.t : Int) < when)).length = q + 1) := by
          show _ = _
          rw [cntA_succ HX.out, HQ.out, if_pos (decide_eq_true hlt)]
        go_wp2_with fail
        go_roundw
        case rel => exact ⟨k + 1, by omega, by rw [HQ2.out] <;> rfl, by go_num, by first | rfl | trivial⟩
        case measure => simp [intOf]; omega
      · have HQ2 : Hid (((H.take (k + 1)).filter fun x => decide ((x.t : Int) < when)).length = q) := by
          show _ = _
          rw [cntA_succ HX.out, HQ.out, if_neg (by rw [decide_eq_true_iff]; exact hlt)]
          rfl
        go_wp2_with fail
        go_roundw
        case rel => exact ⟨k + 1, by omega, by rw [HQ2.out], by go_num, by first | rfl | trivial⟩
        case measure => simp [intOf]; omega
    · have hkn2 : k = n := by omega
      have hkI : ¬ ((k : Int) < (n : Int)) := by omega
      have HQ2 : Hid ((H.filter fun x => decide ((x.t : Int) < when)).length = q) := by
        have := HQ.out
        rw [List.take_of_length_le (by rw [HLN.out]; omega)] at this
        exact this
      go_wp2_with fail
      go_ret
      exact ⟨by rw [HQ2.out]; rfl, HF.out⟩
set_option maxRecDepth 100000 in
theorem flyS_any {w : World} {A : Option Addr} {n : Nat} {H : List St} (c : Nat) (h : RowOf w 4 (StAt w) A n H) (hn : n ≤ 10000) (N : Int) (E : Nat) (hE : ∀ x ∈ H, x.t ≤ E) (hE2 : E ≤ 10000) :
    Calls Try.prog 28 #[.agg #[.int .i64 N, .int .i64 (E : Int), .slice A n c]] w fun e w' => e = .returned (.int .i64 (n : Int)) ∧ Fr No w w' := by
  have hf := Fr.alloc No w (.cells #[.int .i64 N, .int .i64 (E : Int), .slice A n c] 42)
  have HA := Lib.hid (ahead_any c (rowS_no h hf) hn N (E : Int) ((E + 1 : Nat) : Int))
  have HF := Lib.hid hf
  have HL := Lib.hid ((ahead_all hE).trans h.1)
  have hwE : IntKind.i64.wrap ((E : Int) + 1) = ((E + 1 : Nat) : Int) := by
    rw [show ((E : Int) + 1) = ((E + 1 : Nat) : Int) by omega]
    exact IntWalk.i64_in _ (by omega)
  rw [HL.out] at HA
  clear h hf hE
  go_enter Try.func28, Try.ntmps28
  go_wp2_with fail
  refine HA.out.mono ?_
  rintro e w1 ⟨rfl, hf⟩
  have HF1 := Lib.hid hf
  clear hf
  go_wp2_with fail
  go_ret
  exact ⟨rfl, HF.out.no_trans HF1.out⟩
theorem none_succ {n k : Nat} {i : Int} (h : ∀ j, j < k → ((n - 1 - j : Nat) : Int) ≠ i) (hk : ((n - 1 - k : Nat) : Int) ≠ i) : ∀ j, j < k + 1 → ((n - 1 - j : Nat) : Int) ≠ i := by
  intro j hj
  rcases Nat.lt_or_ge j k with e | e
  · exact h j e
  · have : j = k := by omega
    subst this
    exact hk
/-- Where in the heap what has a place in the row lies. -/
def fpos (n : Nat) (i : Int) : Int := if 0 ≤ i ∧ i < (n : Int) then (n : Int) - 1 - i else -1
set_option maxRecDepth 100000 in
theorem find_any {w : World} {A : Option Addr} {n : Nat} {H : List St} (c : Nat) (h : RowOf w 4 (StAt w) A n H) (hd : Dsc H) (hn : n ≤ 10000) (N E i : Int) :
    Calls Try.prog 42 #[.agg #[.int .i64 N, .int .i64 E, .slice A n c], .int .i64 i] w fun e w' => e = .returned (.int .i64 (fpos n i)) ∧ Fr No w w' := by
  have hf := Fr.alloc No w (.cells #[.int .i64 N, .int .i64 E, .slice A n c] 42)
  have HB := Lib.hid (heap_alloc_new w (.cells #[.int .i64 N, .int .i64 E, .slice A n c] 42))
  have HR := Lib.hid (rowS_no h hf)
  have HLN := Lib.hid h.1
  have HF := Lib.hid hf
  have HD := Lib.hid hd
  clear h hf hd
  go_enter Try.func42, Try.ntmps42
  go_wp2_with fail
  generalize w.alloc (.cells #[.int .i64 N, .int .i64 E, .slice A n c] 42) = wB at *
  generalize w.heap.size = B at *
  go_loopw [5] (fun v5 wr => ∃ k : Nat, k ≤ n ∧ v5 = .int .i64 (k : Int) ∧ Fr No wB wr ∧ ∀ j, j < k → ((n - 1 - j : Nat) : Int) ≠ i) (fun v5 _ => n - (intOf v5).toNat)
  case atStart => exact ⟨0, by omega, rfl, Fr.refl _ _, fun j hj => by omega⟩
  case round =>
    obtain ⟨k, hk, rfl, hfr, hno⟩ := hrel
    have HFR := Lib.hid hfr
    have HNO := Lib.hid hno
    clear hfr hno
    have HBR := Lib.hid (blk_no HFR.out HB.out)
    have q2 : wr.cell? ⟨B, 2, none⟩ = some (.slice A n c) := blk_cell HBR.out 2
    by_cases hkn : k < n
    · have hkI : (k : Int) < (n : Int) := by omega
      have hk0 : (0 : Int) ≤ (k : Int) := by omega
      have hwk : IntKind.i64.wrap ((k : Int) + 1) = ((k + 1 : Nat) : Int) := by
        rw [show ((k : Int) + 1) = ((k + 1 : Nat) : Int) by omega]
        exact IntWalk.i64_in _ (by omega)
      have HRR := Lib.hid (rowS_no HR.out HFR.out)
      have HRD := Lib.hid (rowS_no HRR.out (Fr.drew No wr))
      obtain ⟨b, o, rfl, hb, hc⟩ := HRR.out.2 (by omega)
      have hkl : k < H.length := by rw [HLN.out]; exact hkn
      have hx := (hc k hkl).at_
      have HX := Lib.hid (List.getElem?_eq_getElem hkl)
      clear hc
      generalize H[k] = x at *
      obtain ⟨y0, _⟩ := hx
      have hat := ahead_at HD.out HX.out
      rw [HLN.out] at hat
      have HA := Lib.hid (ahead_any c HRD.out hn N E (x.t : Int))
      obtain ⟨m, HM⟩ : ∃ m, Hid ((H.filter fun y => decide ((y.t : Int) < (x.t : Int))).length = m) := ⟨_, rfl⟩
      rw [HM.out] at hat HA
      have p0 : wr.drew.cell? ⟨B, 0, none⟩ = some (.int .i64 N) := blk_cell HBR.out 0
      have p1 : wr.drew.cell? ⟨B, 1, none⟩ = some (.int .i64 E) := blk_cell HBR.out 1
      have p2 : wr.drew.cell? ⟨B, 2, none⟩ = some (.slice (some ⟨b, o, none⟩) n c) := q2
      have p3 : wr.drew.cell? ⟨b, o + k * 4, none⟩ = some (.int .i64 (x.t : Int)) := y0
      have HKP : Hid (∀ W, Fr No wr.drew W → W.cell? ⟨B, 0, none⟩ = some (.int .i64 N) ∧ W.cell? ⟨B, 1, none⟩ = some (.int .i64 E) ∧ W.cell? ⟨B, 2, none⟩ = some (.slice (some ⟨b, o, none⟩) n c) ∧ W.cell? ⟨b, o + k * 4, none⟩ = some (.int .i64 (x.t : Int))) := by
        intro W hW
        have hB : B < wr.drew.heap.size := (Array.getElem?_eq_some_iff.1 HBR.out).1
        exact ⟨(hW.cell (p := ⟨B, 0, none⟩) hB (fun e => e)).trans p0, (hW.cell (p := ⟨B, 1, none⟩) hB (fun e => e)).trans p1, (hW.cell (p := ⟨B, 2, none⟩) hB (fun e => e)).trans p2, (hW.cell (p := ⟨b, o + k * 4, none⟩) hb (fun e => e)).trans p3⟩
      clear hb HRR HRD
      go_upto_region 4 with fail
      go_region_held3 (fun W => W.cell? ⟨B, 0, none⟩ = some (.int .i64 N) ∧ W.cell? ⟨B, 1, none⟩ = some (.int .i64 E) ∧ W.cell? ⟨B, 2, none⟩ = some (.slice (some ⟨b, o, none⟩) n c) ∧ W.cell? ⟨b, o + k * 4, none⟩ = some (.int .i64 (x.t : Int)))
        (first | exact ⟨p0, p1, p2, p3⟩ | exact hkp)
        (first | (go_at_call 44; refine HA.out.mono ?_; rintro e w5 ⟨rfl, hf5⟩; have HF5 := Lib.hid hf5; have hkp := HKP.out w5 hf5; clear hf5))
      by_cases hm : (m : Int) = i
      · have hz : Hid (fpos n i = (k : Int)) := by
          show _ = _
          unfold fpos
          rw [if_pos (by omega)]
          omega
        go_wp2_with fail
        go_ret
        exact ⟨by rw [hz.out]; rfl, (HF.out.no_trans HFR.out).no_trans ((Fr.drew No wr).no_trans HF5.out)⟩
      · go_wp2_with fail
        go_roundw
        case rel => exact ⟨k + 1, by omega, by go_num, HFR.out.no_trans ((Fr.drew No wr).no_trans HF5.out), none_succ HNO.out (by rw [show n - 1 - k = m by omega]; exact hm)⟩
        case measure => simp [intOf]; omega
    · have hkn2 : k = n := by omega
      have hkI : ¬ ((k : Int) < (n : Int)) := by omega
      have hz : Hid (fpos n i = -1) := by
        show _ = _
        unfold fpos
        rw [if_neg]
        rintro ⟨h0, h1⟩
        have := HNO.out (n - 1 - i.toNat) (by omega)
        omega
      go_wp2_with fail
      go_ret
      exact ⟨by rw [hz.out]; rfl, HF.out.no_trans HFR.out⟩
end Go.Proofs.Ytndanonhkjgmhaa

/-
  The walk of ItemsStill. No statement of the seat is proved here.
-/
import Derived.Test.YtjaklhfcgcjmmaaDoorItF
import Derived.Test.YtjaklhfcgcjmmaaDoorSlO
namespace Go.Proofs.YtjaklhfcgcjmmaaDoor
open Go.RowKit Go.Deep

/-- Cells of n slots in one block from lo on, which may be written to. -/
def OwC (lo : Nat) (w : World) (A : Option Addr) (n : Nat) : Prop := 0 < n → ∃ b cs, A = some ⟨b, 0, none⟩ ∧ lo ≤ b ∧ w.heap[b]? = some (.cells cs 25 (0, 0)) ∧ cs.size = n * 2
theorem OwC.no {lo lo' : Nat} {w w' : World} {A : Option Addr} {n : Nat} (h : OwC lo w A n) (hl : lo' ≤ lo) (hf : Fr No w w') : OwC lo' w' A n := fun h0 => by
  obtain ⟨b, cs, e, h1, h2, h3⟩ := h h0
  exact ⟨b, cs, e, Nat.le_trans hl h1, blk_no hf h2, h3⟩
/-- The block of a slice. -/
def Bk (A : Option Addr) (i : Nat) : Prop := ∃ b, A = some b ∧ b.block = i
theorem RdS.fr {F : Nat → Prop} {w w' : World} {A : Option Addr} {n : Nat} {l : List (Nat × Int)} (h : RdS w A n l) (hf : Fr F w w') (hF : ∀ b, A = some b → ¬ F b.block) : RdS w' A n l := by
  refine ⟨h.1, fun hn => ?_⟩
  obtain ⟨b, o, rfl, hb, hc⟩ := h.2 hn
  refine ⟨b, o, rfl, Nat.lt_of_lt_of_le hb hf.size, fun j hj => ?_⟩
  have q : ∀ k, w'.cell? ⟨b, k, none⟩ = w.cell? ⟨b, k, none⟩ := fun k => hf.cell (p := ⟨b, k, none⟩) hb (hF ⟨b, o, none⟩ rfl)
  rw [q, q]
  exact hc j hj
set_option maxRecDepth 100000 in
/-- What Recipe answers, of whatever number: the same, whenever it is asked. -/
theorem recipe_u (n : Int) : ∃ (l : List (Nat × Int)) (q0 : Nat) (q1 : Int) (ok : Bool), l.length ≤ 2 ∧ ∀ W, Calls Tryd.prog 8 #[.int .i64 n] W fun e w' => ∃ A, e = .returned (.tuple #[.slice A l.length l.length, .agg #[.int .u8 (q0 : Int), .int .i64 q1], .bool ok]) ∧
    OwC W.heap.size w' A l.length ∧ RdS w' A l.length l ∧ Fr No W w' ∧ (∀ i, Bk A i → W.heap.size ≤ i ∧ i < w'.heap.size) := by
  rcases (show (n < 0 ∨ 7 ≤ n) ∨ (0 ≤ n ∧ n < 7) by omega) with h | ⟨h0, h7⟩
  · refine ⟨[], 0, 0, false, by decide, fun W => (recipe_no h).mono ?_⟩
    rintro e w1 ⟨rfl, hf⟩
    exact ⟨none, rfl, fun h => absurd h (by decide), RdS.nil _ _, hf, fun i ⟨b, e, _⟩ => by cases e⟩
  · obtain ⟨k, rfl⟩ := Int.eq_ofNat_of_zero_le h0
    have hk : k < 7 := by omega
    have hm : ∀ j : Fin 7, (ofR j.val).length ≤ 2 := by decide
    refine ⟨ofR k, (mkR k).1, (mkR k).2, true, hm ⟨k, hk⟩, fun W => (recipe_yes hk).mono ?_⟩
    rintro e w1 ⟨b, rfl, hlo, hb, hf⟩
    exact ⟨some ⟨b, 0, none⟩, rfl, fun _ => ⟨b, _, rfl, hlo, hb, by simpa using slC_len (ofR k)⟩, RdS.blk hb, hf, fun i ⟨x, e, hi⟩ => by injection e with e; subst e; rw [← hi]; exact ⟨hlo, (Array.getElem?_eq_some_iff.1 hb).1⟩⟩
section
variable {w : World}
set_option maxRecDepth 100000 in
set_option maxHeartbeats 4000000 in
theorem still_walk (ht : ItT w) (i : Nat) (hi : i < 256) (n : Int) (t : Nat) (htt : t < 256) : Calls Tryd.prog 7 #[.int .u8 (i : Int), .int .i64 n, .int .u8 (t : Int)] w fun e w' => e = .returned (.bool true) ∧ Below w.heap.size w w' := by
  obtain ⟨st, hs⟩ : ∃ s, stI i = s := ⟨_, rfl⟩
  obtain ⟨nm, hn⟩ : ∃ s, nmI i = s := ⟨_, rfl⟩
  obtain ⟨l, q0, q1, ok, hl, hr⟩ := recipe_u n
  have HA := Lib.hid (awake_w ht)
  have HS := Lib.hid (stack_w ht hi hs)
  have HN := Lib.hid (name_w ht hi hn)
  have HS2 : Hid (∀ (_ : Unit) W, Fr No w W → Calls Tryd.prog 10 #[.int .u8 (i : Int)] W fun e w' => e = .returned (.int .i64 st) ∧ Fr No w w' ∧ Fr No W w') := fun _ W hW => (stack_any (ht.no hW) hi).mono (fun _ _ ⟨h1, h2⟩ => ⟨by rw [h1, hs], hW.no_trans h2, h2⟩)
  have HN2 : Hid (∀ (_ : Unit) W, Fr No w W → Calls Tryd.prog 16 #[.int .u8 (i : Int)] W fun e w' => e = .returned (.string nm) ∧ Fr No w w' ∧ Fr No W w') := fun _ W hW => (name_any (ht.no hW) hi).mono (fun _ _ ⟨h1, h2⟩ => ⟨by rw [h1, hn], hW.no_trans h2, h2⟩)
  have e1 : (st == st) = true := by simp
  have e4 : (nm.toList == nm.toList) = true := by simp
  have e5 : ((q0 : Int) == (q0 : Int)) = true := by simp
  have e6 : (q1 == q1) = true := by simp
  have e7 : (ok == ok) = true := by simp
  have e8 : (ok != ok) = false := by simp
  have HR := Lib.hid hr
  have HF := Lib.hid (Fr.refl No w)
  have HT := Lib.hid ht
  clear ht hs hn hr
  obtain ⟨m, hm⟩ : ∃ m, l.length = m := ⟨_, rfl⟩
  rw [hm] at HR hl
  go_enter Tryd.func7, Tryd.ntmps7
  go_wp2_with (first
    | (go_at_call 10; refine (HS.out _ HF.out).mono ?_; rintro e w1 ⟨rfl, hf⟩; have HF := Lib.hid hf; clear hf)
    | (go_at_call 16; refine (HN.out _ HF.out).mono ?_; rintro e w2 ⟨rfl, hf⟩; have HF := Lib.hid hf; clear hf)
    | (go_at_call 8; refine (HR.out _).mono ?_; rintro e w3 ⟨A, rfl, ho, hx, hf, hk⟩; have HO := Lib.hid ho; have HX := Lib.hid hx; have HF2 := Lib.hid (HF.out.no_trans hf); have HK := Lib.hid (fun i hi => And.intro (Nat.le_trans HF.out.size (hk i hi).1) (hk i hi).2); clear ho hx hf hk)
    | (at_builtin; refine wpList_append_sl _ rfl (.tmp 29) (.tmp 30) rfl (lo := w3.heap.size + 1) (l := []) rfl (OwS.made _ _ (World.size_alloc _ _)) A m m l rfl ((HX.out.no (Fr.alloc No _ _)).no (Fr.alloc No _ _)) (by simp; omega) (by rw [World.size_alloc, World.size_alloc]; omega) ?_; intro v' w4 ho hg; have HO4 := Lib.hid ho; have HG4 := Lib.hid hg; clear ho hg))
  obtain ⟨AF, cF, hv, _⟩ := HO4.out.sl
  subst hv
  obtain ⟨T, hT⟩ : ∃ T, T = w3.heap.size := ⟨_, rfl⟩
  have hg4 : Fr (fun k => k = T + 1) _ w4 := Fr.grown (F := fun k => k = T + 1) HG4.out (fun k hk => by injection hk with hk; rw [hT]; exact hk.symm)
  have hTw : w.heap.size ≤ T := by rw [hT]; exact HF2.out.size
  have f34 : Fr No w w4 := (HF2.out.no_trans ((Fr.alloc No w3 _).no_trans (Fr.alloc No _ _))).then_new hg4 (fun i e => by have e : i = _ := e; omega)
  have f3 : Fr No w3 w4 := ((Fr.alloc No w3 _).no_trans (Fr.alloc No _ _)).then_new hg4 (fun i e => by have e : i = _ := e; omega)
  have hbT : w4.heap[T]? = some (.cells #[.int .u8 (q0 : Int), .int .i64 q1] 25 (0, 0)) := by
    rw [hg4.block T (by rw [World.size_alloc, World.size_alloc]; omega) (by omega), hT]
    exact blk_no (Fr.alloc No _ _) (heap_alloc_new w3 _)
  have hlo : ∀ b, AF = some b → T + 1 ≤ b.block := fun b hb => by
    have e := HO4.out.lt b.block (by rw [hb]; rfl)
    rw [hT]; exact e.1
  have HAF4 : ∀ b, AF = some b → b.block < w4.heap.size := fun b hb => (HO4.out.lt b.block (by rw [hb]; rfl)).2
  rw [show (([] : List (Nat × Int)) ++ l).length = m from hm] at HO4 ⊢
  rw [List.nil_append] at HO4
  have HX4 := Lib.hid HO4.out.rd
  have hC4 : OwC w.heap.size w4 A m := fun h0 => by
    obtain ⟨b, cs, e, h1, h2, h3⟩ := HO.out h0
    exact ⟨b, cs, e, Nat.le_trans HF.out.size h1, blk_no f3 h2, h3⟩
  have HST : Hid (∀ i, Bk A i → w.heap.size ≤ i ∧ i ≠ T ∧ ∀ b, AF = some b → b.block ≠ i) := fun i hi => by
    have := HK.out i hi
    exact ⟨this.1, by omega, fun b hb e => by have := hlo b hb; omega⟩
  have HLO := Lib.hid hlo
  have HTT := Lib.hid (And.intro hTw hT)
  have HBT := Lib.hid hbT
  have HF4 := Lib.hid f34
  have HC4 := Lib.hid hC4
  clear hg4 hbT f34 f3 hC4 hlo hTw HK HO HX HG4 HO4 HF2 HF
  obtain ⟨N, hN, hN2⟩ : ∃ N : Nat, ((N : Int) = 1 + (t : Int) % 20) ∧ N ≤ 21 := ⟨1 + t % 20, by omega, by omega⟩
  have HAF : Hid (∀ b, AF = some b → b.block < w4.heap.size) := HAF4
  rw [← hT]
  clear hT HAF4
  go_loopw [10, 36] (fun v10 v36 wr => ∃ (j : Nat) (A : Option Addr), j ≤ N ∧ v36 = .int .i64 (j : Int) ∧ v10 = .slice A m m ∧ OwC w.heap.size wr A m ∧ wr.heap[T]? = some (.cells #[.int .u8 (q0 : Int), .int .i64 q1] 25 (0, 0)) ∧ RdS wr AF m l ∧ (∀ i, Bk A i → w.heap.size ≤ i ∧ i ≠ T ∧ ∀ b, AF = some b → b.block ≠ i) ∧ (∀ b, AF = some b → b.block < wr.heap.size) ∧ Fr No w wr) (fun _ v36 _ => N - (intOf v36).toNat)
  case atStart => exact ⟨0, A, by omega, rfl, rfl, HC4.out, HBT.out, HX4.out, HST.out, HAF.out, HF4.out⟩
  case round =>
    obtain ⟨j, A, hj, rfl, rfl, ho, hbT, hx, hst, haf, hf⟩ := hrel
    have HAF := Lib.hid haf
    have HO := Lib.hid ho
    have HBT := Lib.hid hbT
    have HX := Lib.hid hx
    have HST := Lib.hid hst
    have HF := Lib.hid hf
    clear ho hbT hx hst hf haf HX4 HC4 HF4
    by_cases hlt : j < N
    · have hwj : IntKind.i64.wrap ((j : Int) + 1) = ((j + 1 : Nat) : Int) := by
        rw [show ((j : Int) + 1) = ((j + 1 : Nat) : Int) by omega]
        exact IntWalk.i64_in _ (by omega)
      go_wp2_with fail
      obtain ⟨wo, hwo⟩ : ∃ u, u = wr := ⟨_, rfl⟩
      rw [← hwo] at HO HBT HX HF HAF ⊢
      clear hwo
      go_loopw [40] (fun v40 wx => ∃ r : Nat, r ≤ m ∧ v40 = .int .i64 (r : Int) ∧ OwC w.heap.size wx A m ∧ Fr (Bk A) wo wx) (fun v40 _ => m - (intOf v40).toNat)
      case atStart => exact ⟨0, by omega, rfl, HO.out, Fr.refl _ _⟩
      case round =>
        obtain ⟨r, hr, rfl, ho, hf⟩ := hrel
        have HFX := Lib.hid hf
        by_cases hrm : r < m
        · obtain ⟨b, cs, rfl, hlo, hb, hcs⟩ := ho (by omega)
          have hwr : IntKind.i64.wrap ((r : Int) + 1) = ((r + 1 : Nat) : Int) := by
            rw [show ((r : Int) + 1) = ((r + 1 : Nat) : Int) by omega]
            exact IntWalk.i64_in _ (by omega)
          have c0 := (blk_cell hb (r * 2)).trans (Array.getElem?_eq_getElem (by omega))
          have c1 := (blk_cell hb (r * 2 + 1)).trans (Array.getElem?_eq_getElem (by omega))
          have z0 := blk_free hb (r * 2)
          have z1 := blk_free hb (r * 2 + 1)
          have HB := Lib.hid hb
          have HCS := Lib.hid hcs
          have HLO2 := Lib.hid hlo
          clear hf hb ho hlo
          generalize cs[r * 2]'_ = u0 at *
          generalize cs[r * 2 + 1]'_ = u1 at *
          clear hcs
          go_wp2_with fail
          go_roundw
          case rel => exact ⟨r + 1, by omega, by go_num, fun _ => ⟨b, _, rfl, HLO2.out, heap_cells_set _ b (r * 2 + 1) _ _ (.int .i64 (-1)) (heap_cells_set wr b (r * 2) _ _ (.int .u8 200) HB.out), by simpa using HCS.out⟩, HFX.out.trans ((Fr.setCell (F := Bk (some ⟨b, 0, none⟩)) wr ⟨b, r * 2, none⟩ (.int .u8 200) ⟨_, rfl, rfl⟩).trans (Fr.setCell (F := Bk (some ⟨b, 0, none⟩)) _ ⟨b, r * 2 + 1, none⟩ (.int .i64 (-1)) ⟨_, rfl, rfl⟩) (fun _ _ e => e)) (fun _ _ e => e)⟩
          case measure => simp [intOf]; omega
        · have hrm2 : r = m := by omega
          subst hrm2
          have hT' := (HFX.out.block T (Array.getElem?_eq_some_iff.1 HBT.out).1 (fun h => (HST.out _ h).2.1 rfl)).trans HBT.out
          have hx' := HX.out.fr HFX.out (fun b hb h => (HST.out _ h).2.2 b hb rfl)
          have hf' := HF.out.then_new HFX.out (fun i h => (HST.out i h).1)
          have HAF := Lib.hid (fun b hb => Nat.lt_of_lt_of_le (HAF.out b hb) HFX.out.size)
          have HBT := Lib.hid hT'
          have HX := Lib.hid hx'
          have HF := Lib.hid hf'
          clear ho hf hT' hx' hf' HO HFX
          go_wp2_with (first
            | (go_at_call 8; refine (HR.out _).mono ?_; rintro e w6 ⟨A2, rfl, ho, hx, hf, hk⟩; have HO := Lib.hid ho; have HX2 := Lib.hid hx; have HX := Lib.hid (HX.out.no hf); have HTL := Lib.hid (And.intro (Array.getElem?_eq_some_iff.1 HBT.out).1 hf.size); have HBT := Lib.hid (blk_no hf HBT.out); have HK := Lib.hid (fun i hi => (hk i hi).1); have HSZ := Lib.hid HF.out.size; have HF := Lib.hid (HF.out.no_trans hf); clear ho hx hf hk)
            | (go_at_call 20; refine (same_yes (HX2.out.no (Fr.alloc No _ _)) (HX.out.no (Fr.alloc No _ _)) _ _ (by omega)).mono ?_; rintro e w8 ⟨rfl, hf⟩; have hb16 := blk_no hf (heap_alloc_new w6 _); have hf8 := (Fr.alloc No w6 _).no_trans hf; have hb11 := blk_no hf8 HBT.out; have HF8 := Lib.hid hf8; have HF := Lib.hid (HF.out.no_trans hf8); have k0 := blk_cell hb16 0; have k1 := blk_cell hb16 1; have d0 := blk_cell hb11 0; have d1 := blk_cell hb11 1; simp at k0 k1 d0 d1; clear hf hf8 hb16 hb11)
            | (go_at_call 10; refine (HS2.out () _ HF.out).mono ?_; rintro e w9 ⟨rfl, hf, hg⟩; have HF := Lib.hid hf; have HG9 := Lib.hid hg; clear hf hg)
            | (go_at_call 16; refine (HN2.out () _ HF.out).mono ?_; rintro e w10 ⟨rfl, hf, hg⟩; have HF := Lib.hid hf; have HG10 := Lib.hid hg; clear hf hg))
          go_roundw
          case rel =>
            have hf := (HF8.out.no_trans HG9.out).no_trans HG10.out
            exact ⟨j + 1, A2, by omega, by go_num, rfl, HO.out.no HSZ.out hf, blk_no hf HBT.out, HX.out.no hf, fun i hi => by
              have h1 := HK.out i hi
              have h2 := HSZ.out
              have h3 := HTL.out.1
              have h4 := HAF.out
              exact ⟨by omega, by omega, fun b hb e => by have := h4 b hb; omega⟩, fun b hb => Nat.lt_of_lt_of_le (HAF.out b hb) (Nat.le_trans HTL.out.2 hf.size), HF.out⟩
          case measure => simp [intOf]; omega
    · have hjN : j = N := by omega
      subst hjN
      go_wp2_with (refine (HA.out _ HF.out).mono ?_; rintro e w9 ⟨rfl, hf⟩; have HF9 := Lib.hid hf; clear hf)
      go_ret
      exact ⟨rfl, HF9.out.noBelow⟩
end
end Go.Proofs.YtjaklhfcgcjmmaaDoor

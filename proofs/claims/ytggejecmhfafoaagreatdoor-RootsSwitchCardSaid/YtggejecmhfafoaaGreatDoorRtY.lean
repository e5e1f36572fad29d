/-
  Several texts in one: RtB, RtC, RtD, RtE, RtF, RtG. No statement of the seat is proved here.
-/
import Derived.Test.YtggejecmhfafoaaGreatDoorRtA
import Derived.Test.YtggejecmhfafoaaGreatDoorDmA
import Derived.Deep.RegionLaw
namespace Go.Proofs.YtggejecmhfafoaaGreatDoor
open Go.RowKit

def vK (l : List UInt8) (k j : Nat) : Nat := if j < k then (gk l j).1 else 0
def okK (l : List UInt8) (k : Nat) : Prop := ∀ j, j < k → (gk l j).2.2 = 0 ∧ (gk l j).1 ≤ top
theorem okK_succ {l : List UInt8} {k : Nat} (h : okK l k) (h1 : (gk l k).2.2 = 0) (h2 : (gk l k).1 ≤ top) : okK l (k + 1) := fun j hj => by
  by_cases e : j = k
  · subst e; exact ⟨h1, h2⟩
  · exact h j (by omega)
theorem rdR_no {l : List UInt8} (hm : l.take 4 = mgc) {k : Nat} (hk : k < 3) (h : okK l k) (hb : (gk l k).2.2 ≠ 0 ∨ top < (gk l k).1) : rdR l = (Rn.zero, false) := by
  unfold rdR
  rw [if_neg (show ¬ (l.take 4 ≠ mgc) from fun h => h hm)]
  match k, hk with
  | 0, _ => exact if_pos hb
  | 1, _ =>
    have h0 := h 0 (by omega)
    rw [if_neg (show ¬ ((gk l 0).2.2 ≠ 0 ∨ top < (gk l 0).1) by omega)]
    exact if_pos hb
  | 2, _ =>
    have h0 := h 0 (by omega)
    have h1 := h 1 (by omega)
    rw [if_neg (show ¬ ((gk l 0).2.2 ≠ 0 ∨ top < (gk l 0).1) by omega), if_neg (show ¬ ((gk l 1).2.2 ≠ 0 ∨ top < (gk l 1).1) by omega)]
    exact if_pos hb
theorem rdR_end {l : List UInt8} (hm : l.take 4 = mgc) (h : okK l 3) : rdR l = if (getB l (atK l 3) 1048576).2.2 ≠ 0 ∨ (getB l (atK l 3) 1048576).2.1 ≠ l.length ∨ (gk l 0).1 = 0 then (Rn.zero, false)
    else (⟨(gk l 0).1, (gk l 1).1, (gk l 2).1, (getB l (atK l 3) 1048576).1⟩, true) := by
  have h0 := h 0 (by omega)
  have h1 := h 1 (by omega)
  have h2 := h 2 (by omega)
  unfold rdR
  rw [if_neg (show ¬ (l.take 4 ≠ mgc) from fun h => h hm), if_neg (show ¬ ((gk l 0).2.2 ≠ 0 ∨ top < (gk l 0).1) by omega), if_neg (show ¬ ((gk l 1).2.2 ≠ 0 ∨ top < (gk l 1).1) by omega), if_neg (show ¬ ((gk l 2).2.2 ≠ 0 ∨ top < (gk l 2).1) by omega)]
def vcells (l : List UInt8) (k : Nat) : Array Value := #[.int .i64 (vK l k 0 : Int), .int .i64 (vK l k 1 : Int), .int .i64 (vK l k 2 : Int), .slice none 0 0]
theorem vcells_set (l : List UInt8) (k : Nat) (h : k < 3) : (vcells l k).setIfInBounds k (.int .i64 ((gk l k).1 : Int)) = vcells l (k + 1) := by
  match k, h with
  | 0, _ => rfl
  | 1, _ => rfl
  | 2, _ => rfl
theorem vcells_at (l : List UInt8) (k : Nat) (h : k < 3) : (vcells l k)[k]? = some (.int .i64 0) := by
  match k, h with
  | 0, _ => rfl
  | 1, _ => rfl
  | 2, _ => rfl
/-- What parse answers. -/
def Pars (w : World) (r : Rn × Bool) (e : Ending) (w' : World) : Prop :=
  ∃ A n c, e = .returned (.tuple #[.agg #[.int .i64 (r.1.s : Int), .int .i64 (r.1.t : Int), .int .i64 (r.1.c : Int), .slice A n c], .bool r.2]) ∧ Rd w' w'.heap.size A n r.1.l ∧ Below w.heap.size w w'
theorem pars_zero {w w' : World} (h : Below w.heap.size w w') : Pars w (Rn.zero, false) (.returned (.tuple #[.agg #[.int .i64 0, .int .i64 0, .int .i64 0, .slice none 0 0], .bool false])) w' := ⟨none, 0, 0, rfl, Rd.nil, h⟩
def ParsN (w : World) (r : Rn × Bool) (e : Ending) (w' : World) : Prop :=
  ∃ A n c, e = .returned (.tuple #[.agg #[.int .i64 (r.1.s : Int), .int .i64 (r.1.t : Int), .int .i64 (r.1.c : Int), .slice A n c], .bool r.2]) ∧ Rd w' w'.heap.size A n r.1.l ∧ Below w.heap.size w w' ∧ (∀ a, A = some a → w.heap.size ≤ a.block)
theorem pars_zeroN {w w' : World} (h : Below w.heap.size w w') : ParsN w (Rn.zero, false) (.returned (.tuple #[.agg #[.int .i64 0, .int .i64 0, .int .i64 0, .slice none 0 0], .bool false])) w' := ⟨none, 0, 0, rfl, Rd.nil, h, fun _ e => by cases e⟩
theorem four_setR {w : World} {R : Nat} {a b c d : Value} {T : TypeId} (h : w.heap[R]? = some (.cells #[a, b, c, d] T (0, 0))) (x y z u : Value) :
    ((((w.setCell ⟨R, 0, none⟩ x).setCell ⟨R, 1, none⟩ y).setCell ⟨R, 2, none⟩ z).setCell ⟨R, 3, none⟩ u).heap[R]? = some (.cells #[x, y, z, u] T (0, 0)) ∧ Below R w ((((w.setCell ⟨R, 0, none⟩ x).setCell ⟨R, 1, none⟩ y).setCell ⟨R, 2, none⟩ z).setCell ⟨R, 3, none⟩ u) := by
  refine ⟨?_, ((((Below.refl R w).setCell (p := ⟨R, 0, none⟩) (Nat.le_refl _) _).setCell (p := ⟨R, 1, none⟩) (Nat.le_refl _) _).setCell (p := ⟨R, 2, none⟩) (Nat.le_refl _) _).setCell (p := ⟨R, 3, none⟩) (Nat.le_refl _) _⟩
  have hcs : ∀ (w : World) (k : Nat) (cs : Array Value) (v : Value), w.heap[R]? = some (.cells cs T (0, 0)) → (w.setCell ⟨R, k, none⟩ v).heap[R]? = some (.cells (cs.setIfInBounds k v) T (0, 0)) := fun w k cs v h => by
    have hl := (Array.getElem?_eq_some_iff.1 h)
    simp only [World.setCell, Array.getElem?_modify, h]
    simp
  have := hcs _ 3 _ u (hcs _ 2 _ z (hcs _ 1 _ y (hcs _ 0 _ x h)))
  rw [this]
  rfl
theorem rd_offR {F : Nat → Prop} {w w' : World} (hf : Fr F w w') {A : Option Addr} {n : Nat} {l : List UInt8} (hr : Rd w w.heap.size A n l) (hA : 0 < n → ∀ a, A = some a → ¬ F a.block) : Rd w' w'.heap.size A n l := by
  refine ⟨hr.1, fun hn => ?_⟩
  obtain ⟨b', o, e, hb, hc⟩ := hr.2 hn
  exact ⟨b', o, e, Nat.lt_of_lt_of_le hb hf.size, fun i hi => hf.cell (hc i hi) (fun hh => (hA hn ⟨b', o, none⟩ e) hh)⟩
/-- No byte lies in a block of a root. -/
theorem rd_noroot {W : World} {A B : Option Addr} {n m c K : Nat} {l : List UInt8} {x y z : Int} {T : TypeId} {fr : Nat × Nat} (h : Rd W W.heap.size A n l) (hb : W.heap[K]? = some (.cells #[.int .i64 x, .int .i64 y, .int .i64 z, .slice B m c] T fr)) (hn : 0 < n) (a : Addr) (ha : A = some a) : a.block ≠ K := by
  intro e
  obtain ⟨b, o, h1, _, hc⟩ := h.2 hn
  rw [h1] at ha
  injection ha with ha
  subst ha
  have e : b = K := e
  subst e
  have h2 := hc 0 (by rw [h.1]; exact hn)
  unfold World.cell? at h2
  rw [hb] at h2
  rcases o with _ | _ | _ | _ | o <;> simp at h2
set_option maxHeartbeats 4000000 in
set_option maxRecDepth 100000 in
theorem parse_anyN (l : List UInt8) (A : Option Addr) (n c : Nat) (w : World) (hr : Rd w w.heap.size A n l) (hn : n ≤ 20000) (hc : n ≤ c) :
    Calls Tryz.prog 65 #[.slice A n c] w (ParsN w (rdR l)) := by
  have HLN := Lib.hid (show l.length = n from hr.1)
  have H := Lib.hid hr
  have hP0 := heap_alloc_new w (.cells #[.int .i64 0, .int .i64 0, .int .i64 0, .slice none 0 0] 30)
  have hB0 := (Below.refl w.heap.size w).alloc (Nat.le_refl _) (.cells #[.int .i64 0, .int .i64 0, .int .i64 0, .slice none 0 0] 30)
  have hS0 : (w.alloc (.cells #[.int .i64 0, .int .i64 0, .int .i64 0, .slice none 0 0] 30)).heap.size = w.heap.size + 1 := World.size_alloc _ _
  obtain ⟨Q, HQ⟩ : ∃ Q : Ending → World → Prop, Hid (ParsN w (rdR l) = Q) := ⟨_, rfl⟩
  rw [HQ.out]
  by_cases h4 : n < 4
  · have hz : rdR l = (Rn.zero, false) := by
      have hne : l.take 4 ≠ mgc := fun e => by
        have h1 := congrArg List.length e
        rw [List.length_take] at h1
        have h2 : mgc.length = 4 := rfl
        have := HLN.out
        omega
      unfold rdR
      rw [if_pos hne]
    have HZ := Lib.hid hz
    clear hz hr hn hc
    go_enter Tryz.func65, Tryz.ntmps65
    go_wp2_with fail
    refine bodyPost_ret (results_cell_tmp_row (p := 2) rfl _ _ w.heap.size 30 #[.int .i64 0, .int .i64 0, .int .i64 0, .slice none 0 0] (0, 0) _ rfl hP0 Tryz.underlying30 rfl (by kernel_rfl)) rfl ?_
    rw [← HQ.out, HZ.out]
    exact pars_zeroN hB0
  · obtain ⟨A1, c1, s1, d1, _⟩ := pre_rule (4 : Int) (hi := 4) (by omega) hr hc (by omega)
    have st := str_rule c1 (d1.alloc (Nat.le_refl _) (.cells #[.int .i64 0, .int .i64 0, .int .i64 0, .slice none 0 0] 30))
    have hn4 : ¬ ((n : Int) < 4) := by omega
    by_cases hm : l.take 4 = mgc
    · rw [hm] at st
      have hmg : (mgc == [72, 83, 82, 49]) = true := rfl
      have HM := Lib.hid hm
      have HNC := Lib.hid (And.intro hn hc)
      clear hm hr hn hc d1 h4
      go_enter Tryz.func65, Tryz.ntmps65
      go_upto_region 3 with fail
      obtain ⟨P, hP⟩ : ∃ P, w.heap.size = P := ⟨_, rfl⟩
      obtain ⟨w1, hw1⟩ : ∃ u, w.alloc (.cells #[.int .i64 0, .int .i64 0, .int .i64 0, .slice none 0 0] 30) = u := ⟨_, rfl⟩
      rw [hw1] at hP0 hB0 hS0 ⊢
      rw [hP] at hP0 hB0 hS0 ⊢
      have HP := Lib.hid hP
      have HB0 := Lib.hid hB0
      have HP0 := Lib.hid hP0
      have hR1 := heap_alloc_new w1 (.cells #[.int .i64 0, .int .i64 0, .int .i64 0, .slice none 0 0] 30)
      have hB1 := (Below.refl w1.heap.size w1).alloc (Nat.le_refl _) (.cells #[.int .i64 0, .int .i64 0, .int .i64 0, .slice none 0 0] 30)
      have hS1 : (w1.alloc (.cells #[.int .i64 0, .int .i64 0, .int .i64 0, .slice none 0 0] 30)).heap.size = w1.heap.size + 1 := World.size_alloc _ _
      clear hw1 hP hB0 hP0 st s1 hmg hn4
      go_upto_region 5 with fail
      obtain ⟨R, hR⟩ : ∃ R, w1.heap.size = R := ⟨_, rfl⟩
      obtain ⟨w2, hw2⟩ : ∃ u, w1.alloc (.cells #[.int .i64 0, .int .i64 0, .int .i64 0, .slice none 0 0] 30) = u := ⟨_, rfl⟩
      rw [hw2] at hR1 hB1 hS1 ⊢
      rw [hR] at hR1 hB1 hS1
      first | rw [hR] | rw [show P + 1 = R by omega]
      have HRP := Lib.hid (show R = P + 1 by omega)
      clear hS0
      have HB1 := Lib.hid hB1
      have HR1 := Lib.hid hR1
      have hG2 := heap_alloc_new w2 (.cells #[.pointer (some ⟨R, 0, none⟩), .pointer (some ⟨R, 1, none⟩), .pointer (some ⟨R, 2, none⟩)] 107)
      have hB2 := (Below.refl w2.heap.size w2).alloc (Nat.le_refl _) (.cells #[.pointer (some ⟨R, 0, none⟩), .pointer (some ⟨R, 1, none⟩), .pointer (some ⟨R, 2, none⟩)] 107)
      have hS2 : (w2.alloc (.cells #[.pointer (some ⟨R, 0, none⟩), .pointer (some ⟨R, 1, none⟩), .pointer (some ⟨R, 2, none⟩)] 107)).heap.size = w2.heap.size + 1 := World.size_alloc _ _
      clear hw2 hR hB1 hR1
      go_upto_region 6 with fail
      obtain ⟨G, hG⟩ : ∃ G, w2.heap.size = G := ⟨_, rfl⟩
      obtain ⟨w3, hw3⟩ : ∃ u, w2.alloc (.cells #[.pointer (some ⟨R, 0, none⟩), .pointer (some ⟨R, 1, none⟩), .pointer (some ⟨R, 2, none⟩)] 107) = u := ⟨_, rfl⟩
      rw [hw3] at hG2 hB2 hS2 ⊢
      rw [hG] at hG2 hB2 hS2
      first | rw [hG] | rw [show R + 1 = G by omega]
      have HSZ := Lib.hid (show R = P + 1 ∧ G = P + 2 ∧ w3.heap.size = P + 3 by have := HRP.out; omega)
      have HG3 := Lib.hid hG2
      have HR3 := Lib.hid ((hB2.block R (by omega)).trans HR1.out)
      have hRP := HRP.out
      have HP3 := Lib.hid ((hB2.block P (by omega)).trans ((HB1.out.block P (by omega)).trans HP0.out))
      have HW3 := Lib.hid (show Below P w w3 from (HB0.out.trans (HB1.out.mono (show P ≤ R by omega))).trans (hB2.mono (show P ≤ G by omega)))
      have HGC : Hid (∀ j, j < 3 → w3.cell? ⟨G, j, none⟩ = some (.pointer (some ⟨R, j, none⟩))) := fun j hj => by
        unfold World.cell?
        rw [hG2]
        match j, hj with
        | 0, _ => rfl
        | 1, _ => rfl
        | 2, _ => rfl
      clear hw3 hG hG2 hB2 hS2 hS1 hRP
      go_wp2_with fail
      go_loopw [5, 29] (fun v5 v29 wr => ∃ k : Nat, k ≤ 3 ∧ v5 = .int .i64 (atK l k : Int) ∧ v29 = .int .i64 (k : Int) ∧ okK l k ∧ wr.heap[R]? = some (.cells (vcells l k) 30 (0, 0)) ∧ Fr (fun j => j = R) w3 wr) (fun _ v29 _ => 3 - (intOf v29).toNat)
      case atStart => exact ⟨0, by omega, rfl, rfl, fun j hj => by omega, HR3.out, Fr.refl _ _⟩
      case round =>
        obtain ⟨k, hk, rfl, rfl, hok, hRr, hfr⟩ := hrel
        have HOK := Lib.hid hok
        have HRR := Lib.hid hRr
        have HFR := Lib.hid hfr
        have HBW := Lib.hid (show Below P w wr from HW3.out.trans (hfr.below (by have := HSZ.out; omega) (fun k e => by have := HSZ.out; omega)))
        have HRD := Lib.hid (show Rd wr w.heap.size A n l from H.out.below (by rw [HP.out]; exact HBW.out))
        clear hok hRr hfr
        by_cases hlt : k < 3
        · have hltI : (k : Int) < 3 := by omega
          have hk0 : (0 : Int) ≤ (k : Int) := by omega
          have c0 := HFR.out.cell (HGC.out k hlt) (show G ≠ R by have := HSZ.out; omega)
          obtain ⟨x, a, er, hg⟩ : ∃ x a er, gk l k = (x, a, er) := ⟨_, _, _, rfl⟩
          have HG := Lib.hid hg
          have HX63 := Lib.hid (show x < 2 ^ 64 by have h1 := getU_lt l (atK l k); rw [← gk_at, hg] at h1; exact h1)
          have hgu := getuint_any l A n c w.heap.size (atK l k : Int) wr HRD.out (by have := HNC.out.1; omega) HNC.out.2
          rw [← gk_at, hg] at hgu
          have HGU := Lib.hid (show Calls Tryz.prog 75 #[.slice A n c, .int .i64 (atK l k : Int)] wr fun e w' => e = .returned (.tuple #[.int .u64 (x : Int), .int .i64 (a : Int), .int .i64 (er : Int)]) ∧ wr = w' from hgu)
          clear hg hgu
          go_wp2_with fail
          refine HGU.out.mono ?_
          rintro e w4 ⟨rfl, rfl⟩
          by_cases he : er = 0
          · subst he
            by_cases hx : x ≤ top
            · have HX := Lib.hid hx
              have hxd : decide ((9007199254740992 : Int) < (x : Int)) = false := by rw [decide_eq_false_iff_not]; unfold top at hx; omega
              have hwx : IntKind.i64.wrap (x : Int) = (x : Int) := IntWalk.i64_in _ (by unfold top at hx; omega)
              have r0 : wr.cell? ⟨R, k, none⟩ = some (.int .i64 0) := by unfold World.cell?; rw [HRR.out]; exact vcells_at l k hlt
              have y0 : wr.frozen? ⟨R, k, none⟩ = false := by unfold World.frozen?; rw [HRR.out]; simp
              have hwk : IntKind.i64.wrap ((k : Int) + 1) = ((k + 1 : Nat) : Int) := by
                rw [show ((k : Int) + 1) = ((k + 1 : Nat) : Int) by omega]
                exact IntWalk.i64_in _ (by omega)
              have HSET := Lib.hid (show (wr.setCell ⟨R, k, none⟩ (.int .i64 (x : Int))).heap[R]? = some (.cells (vcells l (k + 1)) 30 (0, 0)) by
                have h1 := heap_cells_set wr R k _ _ (.int .i64 (x : Int)) HRR.out
                have h2 := vcells_set l k hlt
                rw [HG.out] at h2
                rw [← h2]
                exact h1)
              have HOK2 := Lib.hid (okK_succ HOK.out (by rw [HG.out]) (by rw [HG.out]; exact HX.out))
              have HAT := Lib.hid (show atK l (k + 1) = a by show (gk l k).2.1 = a; rw [HG.out])
              clear hx
              go_wp2_with fail
              go_roundw
              case rel => exact ⟨k + 1, by omega, by rw [HAT.out], by go_num, HOK2.out, HSET.out, HFR.out.trans (Fr.setCell wr ⟨R, k, none⟩ _ (F := fun j => j = R) rfl) (fun _ _ e => e)⟩
              case measure => simp [intOf]; omega
            · have HNO := Lib.hid (rdR_no HM.out hlt HOK.out (by rw [HG.out]; right; show top < x; omega))
              have hxd : decide ((9007199254740992 : Int) < (x : Int)) = true := by rw [decide_eq_true_eq]; unfold top at hx; omega
              clear hx
              have hPr := (HFR.out.block P (by have := HSZ.out; omega) (by have := HSZ.out; omega)).trans HP3.out
              have p0 : wr.cell? ⟨P, 0, none⟩ = some (.int .i64 0) := by unfold World.cell?; rw [hPr]; rfl
              have p1 : wr.cell? ⟨P, 1, none⟩ = some (.int .i64 0) := by unfold World.cell?; rw [hPr]; rfl
              have p2 : wr.cell? ⟨P, 2, none⟩ = some (.int .i64 0) := by unfold World.cell?; rw [hPr]; rfl
              have p3 : wr.cell? ⟨P, 3, none⟩ = some (.slice none 0 0) := by unfold World.cell?; rw [hPr]; rfl
              have z0 : wr.frozen? ⟨P, 0, none⟩ = false := by unfold World.frozen?; rw [hPr]; rfl
              have z1 : wr.frozen? ⟨P, 1, none⟩ = false := by unfold World.frozen?; rw [hPr]; rfl
              have z2 : wr.frozen? ⟨P, 2, none⟩ = false := by unfold World.frozen?; rw [hPr]; rfl
              have z3 : wr.frozen? ⟨P, 3, none⟩ = false := by unfold World.frozen?; rw [hPr]; rfl
              go_wp2_with fail
              refine bodyPost_ret (results_cell_tmp_row (p := 2) rfl _ _ P 30 #[.int .i64 0, .int .i64 0, .int .i64 0, .slice none 0 0] (0, 0) _ rfl (four_setR hPr _ _ _ _).1 Tryz.underlying30 rfl (by kernel_rfl)) rfl ?_
              rw [← HQ.out, HNO.out]
              exact pars_zeroN (by rw [HP.out]; exact HBW.out.trans (four_setR hPr _ _ _ _).2)
          · have HNO := Lib.hid (rdR_no HM.out hlt HOK.out (by rw [HG.out]; left; exact he))
            have heb : ((er : Int) != 0) = true := by rw [bne_iff_ne]; omega
            clear he
            have hPr := (HFR.out.block P (by have := HSZ.out; omega) (by have := HSZ.out; omega)).trans HP3.out
            have p0 : wr.cell? ⟨P, 0, none⟩ = some (.int .i64 0) := by unfold World.cell?; rw [hPr]; rfl
            have p1 : wr.cell? ⟨P, 1, none⟩ = some (.int .i64 0) := by unfold World.cell?; rw [hPr]; rfl
            have p2 : wr.cell? ⟨P, 2, none⟩ = some (.int .i64 0) := by unfold World.cell?; rw [hPr]; rfl
            have p3 : wr.cell? ⟨P, 3, none⟩ = some (.slice none 0 0) := by unfold World.cell?; rw [hPr]; rfl
            have z0 : wr.frozen? ⟨P, 0, none⟩ = false := by unfold World.frozen?; rw [hPr]; rfl
            have z1 : wr.frozen? ⟨P, 1, none⟩ = false := by unfold World.frozen?; rw [hPr]; rfl
            have z2 : wr.frozen? ⟨P, 2, none⟩ = false := by unfold World.frozen?; rw [hPr]; rfl
            have z3 : wr.frozen? ⟨P, 3, none⟩ = false := by unfold World.frozen?; rw [hPr]; rfl
            go_wp2_with fail
            refine bodyPost_ret (results_cell_tmp_row (p := 2) rfl _ _ P 30 #[.int .i64 0, .int .i64 0, .int .i64 0, .slice none 0 0] (0, 0) _ rfl (four_setR hPr _ _ _ _).1 Tryz.underlying30 rfl (by kernel_rfl)) rfl ?_
            rw [← HQ.out, HNO.out]
            exact pars_zeroN (by rw [HP.out]; exact HBW.out.trans (four_setR hPr _ _ _ _).2)
        · have hk3 : k = 3 := by omega
          subst hk3
          have HPW := Lib.hid (show P < wr.heap.size ∧ R < wr.heap.size ∧ R ≠ P by have := HSZ.out; have := HFR.out.size; omega)
          have HPX : Hid (∀ W, Below wr.heap.size wr W → W.heap[P]? = some (.cells #[.int .i64 0, .int .i64 0, .int .i64 0, .slice none 0 0] 30 (0, 0))) := fun W hW =>
            (hW.block P HPW.out.1).trans ((HFR.out.block P (by have := HSZ.out; omega) (by have := HSZ.out; omega)).trans HP3.out)
          have hgb := gbN_any l A n c (atK l 3 : Int) 1048576 wr (HRD.out.more (by have := HBW.out.size; omega)) (by have := HNC.out.1; omega) HNC.out.2 (by omega)
          obtain ⟨m, q, er, hg⟩ : ∃ m q er, getB l (atK l 3) 1048576 = (m, q, er) := ⟨_, _, _, rfl⟩
          rw [hg] at hgb
          have HGB := Lib.hid hgb
          have hend := rdR_end HM.out HOK.out
          rw [hg] at hend
          simp only at hend
          obtain ⟨n1, hn1⟩ : ∃ x, (gk l 0).1 = x := ⟨_, rfl⟩
          obtain ⟨n2, hn2⟩ : ∃ x, (gk l 1).1 = x := ⟨_, rfl⟩
          obtain ⟨n3, hn3⟩ : ∃ x, (gk l 2).1 = x := ⟨_, rfl⟩
          have HTP := Lib.hid (show n1 ≤ top ∧ n2 ≤ top ∧ n3 ≤ top from ⟨hn1 ▸ (HOK.out 0 (by omega)).2, hn2 ▸ (HOK.out 1 (by omega)).2, hn3 ▸ (HOK.out 2 (by omega)).2⟩)
          have hvc : vcells l 3 = #[.int .i64 (n1 : Int), .int .i64 (n2 : Int), .int .i64 (n3 : Int), .slice none 0 0] := by
            rw [← hn1, ← hn2, ← hn3]
            rfl
          have HRX : Hid (∀ W, Below wr.heap.size wr W → W.heap[R]? = some (.cells #[.int .i64 (n1 : Int), .int .i64 (n2 : Int), .int .i64 (n3 : Int), .slice none 0 0] 30 (0, 0))) := fun W hW => by
            rw [← hvc]
            exact (hW.block R HPW.out.2.1).trans HRR.out
          rw [hn1, hn2, hn3] at hend
          have HEND := Lib.hid hend
          clear hg hgb hend hn1 hn2 hn3 hvc hlt
          go_wp2_with fail
          refine HGB.out.mono ?_
          rintro e w5 ⟨A5, n5, c5, rfl, hrd5, hb5, hnw5⟩
          have HNW := Lib.hid hnw5
          clear hnw5
          have HD5 := Lib.hid hrd5
          have HB5 := Lib.hid hb5
          clear hrd5 hb5
          simp only
          by_cases he : er = 0
          · subst he
            by_cases hq : q = l.length
            · have hqn : q = n := hq.trans HLN.out
              subst hqn
              have hR5 := HRX.out w5 HB5.out
              have HLQ := Lib.hid hq
              clear hq
              have u0 : w5.cell? ⟨R, 0, none⟩ = some (.int .i64 (n1 : Int)) := by unfold World.cell?; rw [hR5]; rfl
              have u1 : w5.cell? ⟨R, 1, none⟩ = some (.int .i64 (n2 : Int)) := by unfold World.cell?; rw [hR5]; rfl
              have u2 : w5.cell? ⟨R, 2, none⟩ = some (.int .i64 (n3 : Int)) := by unfold World.cell?; rw [hR5]; rfl
              have u3 : w5.cell? ⟨R, 3, none⟩ = some (.slice none 0 0) := by unfold World.cell?; rw [hR5]; rfl
              go_wp2_with fail
              refine (isright_any n1 n2 n3 none 0 0 w5).mono ?_
              rintro e w6 ⟨rfl, hb6⟩
              have HB6 := Lib.hid (HB5.out.trans (hb6.mono HB5.out.size))
              have HB56 := Lib.hid hb6
              clear hb6 hR5 u0 u1 u2 u3
              by_cases hz : n1 = 0
              · have hrg : rgt n1 n2 n3 = false := by
                  unfold rgt
                  rw [decide_eq_false (by omega)]
                  rfl
                have HNO := Lib.hid (show rdR l = (Rn.zero, false) by rw [HEND.out, if_pos (.inr (.inr hz))])
                rw [hrg]
                clear hrg hz
                have hPr := HPX.out w6 HB6.out
                have p0 : w6.cell? ⟨P, 0, none⟩ = some (.int .i64 0) := by unfold World.cell?; rw [hPr]; rfl
                have p1 : w6.cell? ⟨P, 1, none⟩ = some (.int .i64 0) := by unfold World.cell?; rw [hPr]; rfl
                have p2 : w6.cell? ⟨P, 2, none⟩ = some (.int .i64 0) := by unfold World.cell?; rw [hPr]; rfl
                have p3 : w6.cell? ⟨P, 3, none⟩ = some (.slice none 0 0) := by unfold World.cell?; rw [hPr]; rfl
                have z0 : w6.frozen? ⟨P, 0, none⟩ = false := by unfold World.frozen?; rw [hPr]; rfl
                have z1 : w6.frozen? ⟨P, 1, none⟩ = false := by unfold World.frozen?; rw [hPr]; rfl
                have z2 : w6.frozen? ⟨P, 2, none⟩ = false := by unfold World.frozen?; rw [hPr]; rfl
                have z3 : w6.frozen? ⟨P, 3, none⟩ = false := by unfold World.frozen?; rw [hPr]; rfl
                go_wp2_with fail
                refine bodyPost_ret (results_cell_tmp_row (p := 2) rfl _ _ P 30 #[.int .i64 0, .int .i64 0, .int .i64 0, .slice none 0 0] (0, 0) _ rfl (four_setR hPr _ _ _ _).1 Tryz.underlying30 rfl (by kernel_rfl)) rfl ?_
                rw [← HQ.out, HNO.out]
                exact pars_zeroN (by rw [HP.out]; exact (HBW.out.trans ((HB6.out).mono (by have := HPW.out; omega))).trans (four_setR hPr _ _ _ _).2)
              · have hrg : rgt n1 n2 n3 = true := by
                  have := HTP.out
                  unfold top at this
                  unfold rgt
                  rw [decide_eq_true (by omega), decide_eq_true (by omega), decide_eq_true (by omega)]
                  rfl
                have HYS := Lib.hid (show rdR l = (⟨n1, n2, n3, m⟩, true) by rw [HEND.out, if_neg (by have := HLQ.out; omega)])
                rw [hrg]
                clear hrg hz
                have hR6 := HRX.out w6 HB6.out
                have u0 : w6.cell? ⟨R, 0, none⟩ = some (.int .i64 (n1 : Int)) := by unfold World.cell?; rw [hR6]; rfl
                have u1 : w6.cell? ⟨R, 1, none⟩ = some (.int .i64 (n2 : Int)) := by unfold World.cell?; rw [hR6]; rfl
                have u2 : w6.cell? ⟨R, 2, none⟩ = some (.int .i64 (n3 : Int)) := by unfold World.cell?; rw [hR6]; rfl
                have u3 : w6.cell? ⟨R, 3, none⟩ = some (.slice none 0 0) := by unfold World.cell?; rw [hR6]; rfl
                have y3 : w6.frozen? ⟨R, 3, none⟩ = false := by unfold World.frozen?; rw [hR6]; rfl
                go_upto_region 17 with fail
                have hR7 := heap_cells_set w6 R 3 _ _ (.slice A5 n5 c5) hR6
                have hP7 := (Below.heap_setCell w6 ⟨R, 3, none⟩ (.slice A5 n5 c5) P (fun e => HPW.out.2.2 e.symm)).trans (HPX.out w6 HB6.out)
                have hb7 : Below R w6 (w6.setCell ⟨R, 3, none⟩ (.slice A5 n5 c5)) := (Below.refl R w6).setCell (p := ⟨R, 3, none⟩) (Nat.le_refl _) _
                have hf7 : Fr (fun k => k = R) w6 (w6.setCell ⟨R, 3, none⟩ (.slice A5 n5 c5)) := Fr.setCell w6 ⟨R, 3, none⟩ _ (F := fun k => k = R) rfl
                obtain ⟨w7, hw7⟩ : ∃ u, w6.setCell ⟨R, 3, none⟩ (.slice A5 n5 c5) = u := ⟨_, rfl⟩
                rw [hw7] at hR7 hP7 hb7 hf7 ⊢
                have HF7 := Lib.hid hf7
                clear hf7
                have HB7 := Lib.hid hb7
                have u0 : w7.cell? ⟨R, 0, none⟩ = some (.int .i64 (n1 : Int)) := by unfold World.cell?; rw [hR7]; rfl
                have u1 : w7.cell? ⟨R, 1, none⟩ = some (.int .i64 (n2 : Int)) := by unfold World.cell?; rw [hR7]; rfl
                have u2 : w7.cell? ⟨R, 2, none⟩ = some (.int .i64 (n3 : Int)) := by unfold World.cell?; rw [hR7]; rfl
                have u3 : w7.cell? ⟨R, 3, none⟩ = some (.slice A5 n5 c5) := by unfold World.cell?; rw [hR7]; rfl
                have p0 : w7.cell? ⟨P, 0, none⟩ = some (.int .i64 0) := by unfold World.cell?; rw [hP7]; rfl
                have p1 : w7.cell? ⟨P, 1, none⟩ = some (.int .i64 0) := by unfold World.cell?; rw [hP7]; rfl
                have p2 : w7.cell? ⟨P, 2, none⟩ = some (.int .i64 0) := by unfold World.cell?; rw [hP7]; rfl
                have p3 : w7.cell? ⟨P, 3, none⟩ = some (.slice none 0 0) := by unfold World.cell?; rw [hP7]; rfl
                have z0 : w7.frozen? ⟨P, 0, none⟩ = false := by unfold World.frozen?; rw [hP7]; rfl
                have z1 : w7.frozen? ⟨P, 1, none⟩ = false := by unfold World.frozen?; rw [hP7]; rfl
                have z2 : w7.frozen? ⟨P, 2, none⟩ = false := by unfold World.frozen?; rw [hP7]; rfl
                have z3 : w7.frozen? ⟨P, 3, none⟩ = false := by unfold World.frozen?; rw [hP7]; rfl
                have h4 := four_setR hP7 (.int .i64 (n1 : Int)) (.int .i64 (n2 : Int)) (.int .i64 (n3 : Int)) (.slice A5 n5 c5)
                have H4 := Lib.hid h4
                clear h4 hw7 hb7
                go_wp2_with fail
                refine bodyPost_ret (results_cell_tmp_row (p := 2) rfl _ _ P 30 #[.int .i64 (n1 : Int), .int .i64 (n2 : Int), .int .i64 (n3 : Int), .slice A5 n5 c5] (0, 0) _ rfl H4.out.1 Tryz.underlying30 rfl (by kernel_rfl)) rfl ?_
                rw [← HQ.out, HYS.out]
                refine ⟨A5, n5, c5, rfl, ?_, ?_, fun a ha => by have h1 := HNW.out a ha; have h2 := HPW.out.1; have h3 := HP.out; omega⟩
                · have hf : Fr (fun k => k = P ∨ k = R) w5 ((((w7.setCell ⟨P, 0, none⟩ (.int .i64 (n1 : Int))).setCell ⟨P, 1, none⟩ (.int .i64 (n2 : Int))).setCell ⟨P, 2, none⟩ (.int .i64 (n3 : Int))).setCell ⟨P, 3, none⟩ (.slice A5 n5 c5)) :=
                    (((((Fr.of_below HB56.out).trans HF7.out (fun _ _ e => .inr e)).trans (Fr.setCell w7 ⟨P, 0, none⟩ _ (F := fun k => k = P) rfl) (fun _ _ e => .inl e)).trans (Fr.setCell _ ⟨P, 1, none⟩ _ (F := fun k => k = P) rfl) (fun _ _ e => .inl e)).trans (Fr.setCell _ ⟨P, 2, none⟩ _ (F := fun k => k = P) rfl) (fun _ _ e => .inl e)).trans (Fr.setCell _ ⟨P, 3, none⟩ _ (F := fun k => k = P) rfl) (fun _ _ e => .inl e)
                  refine rd_offR hf HD5.out (fun h0 a ha e => ?_)
                  rcases e with e | e
                  · exact rd_noroot HD5.out (HPX.out w5 HB5.out) h0 a ha e
                  · exact rd_noroot HD5.out (HRX.out w5 HB5.out) h0 a ha e
                · rw [HP.out]
                  exact ((HBW.out.trans (HB6.out.mono (by have := HPW.out; omega))).trans (HB7.out.mono (by have := HSZ.out; omega))).trans H4.out.2
            · have hqb : ((q : Int) != (n : Int)) = true := by rw [bne_iff_ne]; have := HLN.out; omega
              have HNO := Lib.hid (show rdR l = (Rn.zero, false) by rw [HEND.out, if_pos (.inr (.inl hq))])
              clear hq
              have hPr := HPX.out w5 HB5.out
              have p0 : w5.cell? ⟨P, 0, none⟩ = some (.int .i64 0) := by unfold World.cell?; rw [hPr]; rfl
              have p1 : w5.cell? ⟨P, 1, none⟩ = some (.int .i64 0) := by unfold World.cell?; rw [hPr]; rfl
              have p2 : w5.cell? ⟨P, 2, none⟩ = some (.int .i64 0) := by unfold World.cell?; rw [hPr]; rfl
              have p3 : w5.cell? ⟨P, 3, none⟩ = some (.slice none 0 0) := by unfold World.cell?; rw [hPr]; rfl
              have z0 : w5.frozen? ⟨P, 0, none⟩ = false := by unfold World.frozen?; rw [hPr]; rfl
              have z1 : w5.frozen? ⟨P, 1, none⟩ = false := by unfold World.frozen?; rw [hPr]; rfl
              have z2 : w5.frozen? ⟨P, 2, none⟩ = false := by unfold World.frozen?; rw [hPr]; rfl
              have z3 : w5.frozen? ⟨P, 3, none⟩ = false := by unfold World.frozen?; rw [hPr]; rfl
              go_wp2_with fail
              refine bodyPost_ret (results_cell_tmp_row (p := 2) rfl _ _ P 30 #[.int .i64 0, .int .i64 0, .int .i64 0, .slice none 0 0] (0, 0) _ rfl (four_setR hPr _ _ _ _).1 Tryz.underlying30 rfl (by kernel_rfl)) rfl ?_
              rw [← HQ.out, HNO.out]
              exact pars_zeroN (by rw [HP.out]; exact (HBW.out.trans ((HB5.out).mono (by have := HPW.out; omega))).trans (four_setR hPr _ _ _ _).2)
          · have heb : ((er : Int) != 0) = true := by rw [bne_iff_ne]; omega
            have HNO := Lib.hid (show rdR l = (Rn.zero, false) by rw [HEND.out, if_pos (.inl he)])
            clear he
            have hPr := HPX.out w5 HB5.out
            have p0 : w5.cell? ⟨P, 0, none⟩ = some (.int .i64 0) := by unfold World.cell?; rw [hPr]; rfl
            have p1 : w5.cell? ⟨P, 1, none⟩ = some (.int .i64 0) := by unfold World.cell?; rw [hPr]; rfl
            have p2 : w5.cell? ⟨P, 2, none⟩ = some (.int .i64 0) := by unfold World.cell?; rw [hPr]; rfl
            have p3 : w5.cell? ⟨P, 3, none⟩ = some (.slice none 0 0) := by unfold World.cell?; rw [hPr]; rfl
            have z0 : w5.frozen? ⟨P, 0, none⟩ = false := by unfold World.frozen?; rw [hPr]; rfl
            have z1 : w5.frozen? ⟨P, 1, none⟩ = false := by unfold World.frozen?; rw [hPr]; rfl
            have z2 : w5.frozen? ⟨P, 2, none⟩ = false := by unfold World.frozen?; rw [hPr]; rfl
            have z3 : w5.frozen? ⟨P, 3, none⟩ = false := by unfold World.frozen?; rw [hPr]; rfl
            go_wp2_with fail
            refine bodyPost_ret (results_cell_tmp_row (p := 2) rfl _ _ P 30 #[.int .i64 0, .int .i64 0, .int .i64 0, .slice none 0 0] (0, 0) _ rfl (four_setR hPr _ _ _ _).1 Tryz.underlying30 rfl (by kernel_rfl)) rfl ?_
            rw [← HQ.out, HNO.out]
            exact pars_zeroN (by rw [HP.out]; exact (HBW.out.trans ((HB5.out).mono (by have := HPW.out; omega))).trans (four_setR hPr _ _ _ _).2)
    · have hz : rdR l = (Rn.zero, false) := by
        unfold rdR
        rw [if_pos hm]
      have HZ := Lib.hid hz
      have hne : (l.take 4 == [72, 83, 82, 49]) = false := beq_eq_false_iff_ne.2 hm
      clear hz hr hn hc d1 h4 hm
      go_enter Tryz.func65, Tryz.ntmps65
      go_wp2_with fail
      refine bodyPost_ret (results_cell_tmp_row (p := 2) rfl _ _ w.heap.size 30 #[.int .i64 0, .int .i64 0, .int .i64 0, .slice none 0 0] (0, 0) _ rfl hP0 Tryz.underlying30 rfl (by kernel_rfl)) rfl ?_
      rw [← HQ.out, HZ.out]
      exact pars_zeroN hB0
theorem parse_any (l : List UInt8) (A : Option Addr) (n c : Nat) (w : World) (hr : Rd w w.heap.size A n l) (hn : n ≤ 20000) (hc : n ≤ c) :
    Calls Tryz.prog 65 #[.slice A n c] w (Pars w (rdR l)) :=
  (parse_anyN l A n c w hr hn hc).mono fun _ _ ⟨A, n, c, h1, h2, h3, _⟩ => ⟨A, n, c, h1, h2, h3⟩
/-- Unseal, and that its answer is no longer than its room. -/
theorem un_anyC (l : List UInt8) (A : Option Addr) (n c : Nat) (w : World) (hr : Rd w w.heap.size A n l) (hn : n ≤ 20000) (hc : n ≤ c) (ht : Tab w) :
    Calls Tryz.prog 64 #[.slice A n c] w fun e w' => ∃ A n c, e = .returned (.tuple #[.slice A n c, .int .i64 ((unS l).2 : Int)]) ∧ Rd w' w'.heap.size A n (unS l).1 ∧ Below w.heap.size w w' ∧ n ≤ c := by
  have hl := hr.len
  by_cases h4 : n < 4
  · refine (unseal_short A n c w h4).mono ?_
    rintro e w' ⟨rfl, rfl⟩
    have : unS l = ([], 11) := by unfold unS; rw [if_pos (by omega)]
    rw [this]
    exact ⟨none, 0, 0, rfl, Rd.nil, Below.refl _ _, Nat.le_refl _⟩
  · by_cases he : crc (l.take (n - 4)) = numB (l.drop (n - 4))
    · refine (unseal_good l A n c w hr hc (by omega) (by omega) ht he).mono ?_
      rintro e w' ⟨v, rfl, hp⟩
      obtain ⟨v2, hv, ho, hb⟩ := hp
      injection hv with hv
      subst hv
      obtain ⟨A', c', hv, hc', _⟩ := own_shape ho
      subst hv
      have : unS l = (l.take (n - 4), 0) := by unfold unS; rw [hl, if_neg h4, if_pos he]
      rw [this]
      exact ⟨A', _, c', rfl, Rd.own ho, hb, hc'⟩
    · refine (unseal_bad l A n c _ w hr hc (by omega) (by omega) ht he).mono ?_
      rintro e w' ⟨rfl, rfl⟩
      have : unS l = ([], 12) := by unfold unS; rw [hl, if_neg h4, if_neg he]
      rw [this]
      exact ⟨none, 0, 0, rfl, Rd.nil, Below.refl _ _, Nat.le_refl _⟩
theorem unS_len (l : List UInt8) : (unS l).1.length ≤ l.length := by
  unfold unS
  split
  · simp
  · split
    · show (l.take _).length ≤ _
      rw [List.length_take]
      omega
    · simp
/-- What Parse answers. -/
def Prsd (w : World) (r : Rn × Nat) (e : Ending) (w' : World) : Prop :=
  ∃ A n c, e = .returned (.tuple #[.agg #[.int .i64 (r.1.s : Int), .int .i64 (r.1.t : Int), .int .i64 (r.1.c : Int), .slice A n c], .int .i64 (r.2 : Int)]) ∧ Rd w' w'.heap.size A n r.1.l ∧ Below w.heap.size w w'
theorem prsd_zero {w w' : World} {x : Nat} (h : Below w.heap.size w w') : Prsd w (Rn.zero, x) (.returned (.tuple #[.agg #[.int .i64 0, .int .i64 0, .int .i64 0, .slice none 0 0], .int .i64 (x : Int)])) w' := ⟨none, 0, 0, rfl, Rd.nil, h⟩
def PrsdN (w : World) (r : Rn × Nat) (e : Ending) (w' : World) : Prop :=
  ∃ A n c, e = .returned (.tuple #[.agg #[.int .i64 (r.1.s : Int), .int .i64 (r.1.t : Int), .int .i64 (r.1.c : Int), .slice A n c], .int .i64 (r.2 : Int)]) ∧ Rd w' w'.heap.size A n r.1.l ∧ Below w.heap.size w w' ∧ (∀ a, A = some a → w.heap.size ≤ a.block)
theorem prsd_zeroN {w w' : World} {x : Nat} (h : Below w.heap.size w w') : PrsdN w (Rn.zero, x) (.returned (.tuple #[.agg #[.int .i64 0, .int .i64 0, .int .i64 0, .slice none 0 0], .int .i64 (x : Int)])) w' := ⟨none, 0, 0, rfl, Rd.nil, h, fun _ e => by cases e⟩
set_option maxHeartbeats 4000000 in
set_option maxRecDepth 100000 in
theorem Parse_anyN (l : List UInt8) (A : Option Addr) (n c : Nat) (w : World) (hr : Rd w w.heap.size A n l) (hn : n ≤ 20000) (hc : n ≤ c) (ht : Tab w) :
    Calls Tryz.prog 51 #[.slice A n c] w (PrsdN w (prs l)) := by
  have hP0 := heap_alloc_new w (.cells #[.int .i64 0, .int .i64 0, .int .i64 0, .slice none 0 0] 30)
  have hB0 := (Below.refl w.heap.size w).alloc (Nat.le_refl _) (.cells #[.int .i64 0, .int .i64 0, .int .i64 0, .slice none 0 0] 30)
  have hS0 : (w.alloc (.cells #[.int .i64 0, .int .i64 0, .int .i64 0, .slice none 0 0] 30)).heap.size = w.heap.size + 1 := World.size_alloc _ _
  have HU := Lib.hid (un_anyC l A n c (w.alloc (.cells #[.int .i64 0, .int .i64 0, .int .i64 0, .slice none 0 0] 30)) ((hr.below hB0).more (by omega)) hn hc (ht.keep hB0 ht.pos))
  obtain ⟨Q, HQ⟩ : ∃ Q : Ending → World → Prop, Hid (PrsdN w (prs l) = Q) := ⟨_, rfl⟩
  rw [HQ.out]
  obtain ⟨P, HP⟩ : ∃ P, Hid (w.heap.size = P) := ⟨_, rfl⟩
  rw [HP.out] at hP0 hB0 hS0
  have HP0 := Lib.hid hP0
  have HB0 := Lib.hid hB0
  have HS0 := Lib.hid hS0
  have HLEN := Lib.hid (show l.length ≤ 20000 by rw [hr.1]; exact hn)
  clear hr hc hn ht hP0 hB0 hS0
  go_enter Tryz.func51, Tryz.ntmps51
  go_wp2_with fail
  refine HU.out.mono ?_
  rintro e w1 ⟨A1, n1, c1, rfl, hr1, hb1, hc1⟩
  rw [HP.out]
  rw [HS0.out] at hb1
  have hP1 := (hb1.block P (by omega)).trans HP0.out
  have HB1 := Lib.hid (HB0.out.trans (hb1.mono (by omega)))
  have HS1 := Lib.hid (show P < w1.heap.size by have := hb1.size; have := HS0.out; omega)
  obtain ⟨m, er, hu⟩ : ∃ m er, unS l = (m, er) := ⟨_, _, rfl⟩
  have hml : m.length ≤ 20000 := by
    have h1 := unS_len l
    rw [hu] at h1
    have h2 : m.length ≤ l.length := h1
    have := HLEN.out
    omega
  rw [hu] at hr1 ⊢
  have HUL := Lib.hid hu
  have hpa := parse_anyN m A1 n1 c1 w1 hr1 (by rw [← hr1.1]; exact hml) hc1
  have HPA := Lib.hid hpa
  have HP1 := Lib.hid hP1
  simp only
  clear hr1 hb1 hc1 hu hml hpa
  by_cases he : er = 0
  · subst he
    clear hP1
    go_wp2_with fail
    refine HPA.out.mono ?_
    rintro e w2 ⟨A2, n2, c2, rfl, hr2, hb2, hnw2⟩
    have HNW := Lib.hid hnw2
    clear hnw2
    have hP1 := (hb2.block P HS1.out).trans HP1.out
    have HB2 := Lib.hid (HB1.out.trans (hb2.mono (by have := HS1.out; omega)))
    have HR2 := Lib.hid hr2
    have HP2 := Lib.hid hP1
    have hfx := Fr.alloc No w2 (.cells #[.int .i64 ((rdR m).1.s : Int), .int .i64 ((rdR m).1.t : Int), .int .i64 ((rdR m).1.c : Int), .slice A2 n2 c2] 30)
    have hgx := heap_alloc_new w2 (.cells #[.int .i64 ((rdR m).1.s : Int), .int .i64 ((rdR m).1.t : Int), .int .i64 ((rdR m).1.c : Int), .slice A2 n2 c2] 30)
    clear hb2 hr2
    go_upto_region 5 with fail
    obtain ⟨G, hG⟩ : ∃ G, w2.heap.size = G := ⟨_, rfl⟩
    obtain ⟨w3, hw3⟩ : ∃ u, w2.alloc (.cells #[.int .i64 ((rdR m).1.s : Int), .int .i64 ((rdR m).1.t : Int), .int .i64 ((rdR m).1.c : Int), .slice A2 n2 c2] 30) = u := ⟨_, rfl⟩
    rw [hw3] at hfx hgx ⊢
    rw [hG] at hgx ⊢
    have HFX := Lib.hid hfx
    have HGX := Lib.hid hgx
    have hP1 := (hfx.block P (Array.getElem?_eq_some_iff.1 HP2.out).1 (fun e => e)).trans HP2.out
    have HGP := Lib.hid (show P < G by rw [← hG]; exact (Array.getElem?_eq_some_iff.1 HP2.out).1)
    have u0 : w3.cell? ⟨G, 0, none⟩ = some (.int .i64 ((rdR m).1.s : Int)) := by unfold World.cell?; rw [hgx]; rfl
    have u1 : w3.cell? ⟨G, 1, none⟩ = some (.int .i64 ((rdR m).1.t : Int)) := by unfold World.cell?; rw [hgx]; rfl
    have u2 : w3.cell? ⟨G, 2, none⟩ = some (.int .i64 ((rdR m).1.c : Int)) := by unfold World.cell?; rw [hgx]; rfl
    have u3 : w3.cell? ⟨G, 3, none⟩ = some (.slice A2 n2 c2) := by unfold World.cell?; rw [hgx]; rfl
    clear hw3 hG hfx hgx
    cases hok : (rdR m).2 with
    | false =>
      have HE := Lib.hid (show prs l = (Rn.zero, 10) by unfold prs; rw [HUL.out]; simp only; rw [if_neg (by simp), hok]; rfl)
      clear hok u0 u1 u2 u3
      have p0 : w3.cell? ⟨P, 0, none⟩ = some (.int .i64 0) := by unfold World.cell?; rw [hP1]; rfl
      have p1 : w3.cell? ⟨P, 1, none⟩ = some (.int .i64 0) := by unfold World.cell?; rw [hP1]; rfl
      have p2 : w3.cell? ⟨P, 2, none⟩ = some (.int .i64 0) := by unfold World.cell?; rw [hP1]; rfl
      have p3 : w3.cell? ⟨P, 3, none⟩ = some (.slice none 0 0) := by unfold World.cell?; rw [hP1]; rfl
      have z0 : w3.frozen? ⟨P, 0, none⟩ = false := by unfold World.frozen?; rw [hP1]; rfl
      have z1 : w3.frozen? ⟨P, 1, none⟩ = false := by unfold World.frozen?; rw [hP1]; rfl
      have z2 : w3.frozen? ⟨P, 2, none⟩ = false := by unfold World.frozen?; rw [hP1]; rfl
      have z3 : w3.frozen? ⟨P, 3, none⟩ = false := by unfold World.frozen?; rw [hP1]; rfl
      go_wp2_with fail
      refine bodyPost_ret (results_cell_tmp_row (p := 2) rfl _ _ P 30 #[.int .i64 0, .int .i64 0, .int .i64 0, .slice none 0 0] (0, 0) _ rfl (four_setR hP1 _ _ _ _).1 Tryz.underlying30 rfl (by kernel_rfl)) rfl ?_
      rw [← HQ.out, HE.out]
      exact prsd_zeroN (x := 10) (by rw [HP.out]; exact (HB2.out.trans (HFX.out.noBelow.mono (Nat.le_of_lt (Array.getElem?_eq_some_iff.1 HP2.out).1))).trans (four_setR hP1 _ _ _ _).2)
    | true =>
      have HE := Lib.hid (show prs l = ((rdR m).1, 0) by unfold prs; rw [HUL.out]; simp only; rw [if_neg (by simp), hok]; rfl)
      clear hok
      have p0 : w3.cell? ⟨P, 0, none⟩ = some (.int .i64 0) := by unfold World.cell?; rw [hP1]; rfl
      have p1 : w3.cell? ⟨P, 1, none⟩ = some (.int .i64 0) := by unfold World.cell?; rw [hP1]; rfl
      have p2 : w3.cell? ⟨P, 2, none⟩ = some (.int .i64 0) := by unfold World.cell?; rw [hP1]; rfl
      have p3 : w3.cell? ⟨P, 3, none⟩ = some (.slice none 0 0) := by unfold World.cell?; rw [hP1]; rfl
      have z0 : w3.frozen? ⟨P, 0, none⟩ = false := by unfold World.frozen?; rw [hP1]; rfl
      have z1 : w3.frozen? ⟨P, 1, none⟩ = false := by unfold World.frozen?; rw [hP1]; rfl
      have z2 : w3.frozen? ⟨P, 2, none⟩ = false := by unfold World.frozen?; rw [hP1]; rfl
      have z3 : w3.frozen? ⟨P, 3, none⟩ = false := by unfold World.frozen?; rw [hP1]; rfl
      have hrd3 := rd_offR HFX.out HR2.out (fun _ _ _ e => e)
      have HRD3 := Lib.hid hrd3
      clear hrd3
      have H4 := Lib.hid (four_setR hP1 (.int .i64 ((rdR m).1.s : Int)) (.int .i64 ((rdR m).1.t : Int)) (.int .i64 ((rdR m).1.c : Int)) (.slice A2 n2 c2))
      have HP3 := Lib.hid hP1
      go_wp2_with fail
      refine bodyPost_ret (results_cell_tmp_row (p := 2) rfl _ _ P 30 #[.int .i64 ((rdR m).1.s : Int), .int .i64 ((rdR m).1.t : Int), .int .i64 ((rdR m).1.c : Int), .slice A2 n2 c2] (0, 0) _ rfl H4.out.1 Tryz.underlying30 rfl (by kernel_rfl)) rfl ?_
      rw [← HQ.out, HE.out]
      refine ⟨A2, n2, c2, rfl, ?_, ?_, fun a ha => by have h1 := HNW.out a ha; have h2 := HS1.out; have h3 := HP.out; omega⟩
      · have hf : Fr (fun k => k = P) w3 ((((w3.setCell ⟨P, 0, none⟩ (.int .i64 ((rdR m).1.s : Int))).setCell ⟨P, 1, none⟩ (.int .i64 ((rdR m).1.t : Int))).setCell ⟨P, 2, none⟩ (.int .i64 ((rdR m).1.c : Int))).setCell ⟨P, 3, none⟩ (.slice A2 n2 c2)) :=
          (((Fr.setCell w3 ⟨P, 0, none⟩ _ (F := fun k => k = P) rfl).trans (Fr.setCell _ ⟨P, 1, none⟩ _ (F := fun k => k = P) rfl) (fun _ _ e => e)).trans (Fr.setCell _ ⟨P, 2, none⟩ _ (F := fun k => k = P) rfl) (fun _ _ e => e)).trans (Fr.setCell _ ⟨P, 3, none⟩ _ (F := fun k => k = P) rfl) (fun _ _ e => e)
        exact rd_offR hf HRD3.out (fun h0 a ha e => rd_noroot HRD3.out HP3.out h0 a ha e)
      · rw [HP.out]
        exact (HB2.out.trans (HFX.out.noBelow.mono (Nat.le_of_lt (Array.getElem?_eq_some_iff.1 HP2.out).1))).trans H4.out.2
  · have HE := Lib.hid (show prs l = (Rn.zero, er) by unfold prs; rw [HUL.out]; simp only; rw [if_pos he])
    have heb : ((er : Int) != 0) = true := by rw [bne_iff_ne]; omega
    clear he
    have p0 : w1.cell? ⟨P, 0, none⟩ = some (.int .i64 0) := by unfold World.cell?; rw [hP1]; rfl
    have p1 : w1.cell? ⟨P, 1, none⟩ = some (.int .i64 0) := by unfold World.cell?; rw [hP1]; rfl
    have p2 : w1.cell? ⟨P, 2, none⟩ = some (.int .i64 0) := by unfold World.cell?; rw [hP1]; rfl
    have p3 : w1.cell? ⟨P, 3, none⟩ = some (.slice none 0 0) := by unfold World.cell?; rw [hP1]; rfl
    have z0 : w1.frozen? ⟨P, 0, none⟩ = false := by unfold World.frozen?; rw [hP1]; rfl
    have z1 : w1.frozen? ⟨P, 1, none⟩ = false := by unfold World.frozen?; rw [hP1]; rfl
    have z2 : w1.frozen? ⟨P, 2, none⟩ = false := by unfold World.frozen?; rw [hP1]; rfl
    have z3 : w1.frozen? ⟨P, 3, none⟩ = false := by unfold World.frozen?; rw [hP1]; rfl
    go_wp2_with fail
    refine bodyPost_ret (results_cell_tmp_row (p := 2) rfl _ _ P 30 #[.int .i64 0, .int .i64 0, .int .i64 0, .slice none 0 0] (0, 0) _ rfl (four_setR hP1 _ _ _ _).1 Tryz.underlying30 rfl (by kernel_rfl)) rfl ?_
    rw [← HQ.out, HE.out]
    exact prsd_zeroN (x := er) (by rw [HP.out]; exact HB1.out.trans (four_setR hP1 _ _ _ _).2)
theorem Parse_any (l : List UInt8) (A : Option Addr) (n c : Nat) (w : World) (hr : Rd w w.heap.size A n l) (hn : n ≤ 20000) (hc : n ≤ c) (ht : Tab w) :
    Calls Tryz.prog 51 #[.slice A n c] w (Prsd w (prs l)) :=
  (Parse_anyN l A n c w hr hn hc ht).mono fun _ _ ⟨A, n, c, h1, h2, h3, _⟩ => ⟨A, n, c, h1, h2, h3⟩
end Go.Proofs.YtggejecmhfafoaaGreatDoor
namespace Go.Proofs.YtggejecmhfafoaaGreatDoor
open Go.RowKit Go.Maps

/-- The name of the root's file of a last digit. -/
def nmR (d : Nat) : List UInt8 := [114, 111, 111, 116, UInt8.ofNat (48 + d)]
def dgt (d : Nat) : ByteArray := ⟨#[UInt8.ofNat (48 + d)]⟩
theorem nmR_size (d : Nat) : (⟨(nmR d).toArray⟩ : ByteArray).size ≤ maxLen := by
  have e : (⟨(nmR d).toArray⟩ : ByteArray).size = 5 := rfl
  unfold maxLen
  omega
set_option maxRecDepth 100000 in
theorem small_bit (d : Nat) (h : d < 2) (w : World) : Calls Tryz.prog 77 #[.int .i64 (d : Int)] w fun e w' => e = .returned (.string (dgt d)) ∧ w = w' := by
  have hd : d = 0 ∨ d = 1 := by omega
  rcases hd with rfl | rfl
  · go_enter Tryz.func77, Tryz.ntmps77
    go_wp2_with fail
    go_ret
    exact ⟨rfl, rfl⟩
  · go_enter Tryz.func77, Tryz.ntmps77
    go_wp2_with fail
    go_ret
    exact ⟨rfl, rfl⟩
set_option maxRecDepth 100000 in
theorem format_bit (d : Nat) (h : d < 2) (w : World) : Calls Tryz.prog 69 #[.int .i64 (d : Int), .int .i64 10] w fun e w' => e = .returned (.string (dgt d)) ∧ w = w' := by
  have C := Lib.hid (small_bit d h w)
  have h1 : (0 : Int) ≤ (d : Int) := by omega
  have h2 : (d : Int) < 100 := by omega
  go_enter Tryz.func69, Tryz.ntmps69
  go_wp2_with fail
  refine C.out.mono ?_
  rintro e w' ⟨rfl, rfl⟩
  go_wp2_with fail
  go_ret
  exact ⟨rfl, rfl⟩
set_option maxRecDepth 100000 in
theorem itoa_in (d : Nat) (h : d < 2) (w : World) : Calls Tryz.prog 59 #[.int .i64 (d : Int)] w fun e w' => e = .returned (.string (dgt d)) ∧ w = w' := by
  have C := Lib.hid (format_bit d h w)
  clear h
  go_enter Tryz.func59, Tryz.ntmps59
  go_wp2_with fail
  refine C.out.mono ?_
  rintro e w' ⟨rfl, rfl⟩
  go_wp2_with fail
  go_ret
  exact ⟨rfl, rfl⟩
set_option maxRecDepth 100000 in
theorem itoa_bit (d : Nat) (h : d < 2) (w : World) : Calls Tryz.prog 46 #[.int .i64 (d : Int)] w fun e w' => e = .returned (.string (dgt d)) ∧ w = w' := by
  have C := Lib.hid (itoa_in d h w)
  clear h
  go_enter Tryz.func46, Tryz.ntmps46
  go_wp2_with fail
  refine C.out.mono ?_
  rintro e w' ⟨rfl, rfl⟩
  go_wp2_with fail
  go_ret
  exact ⟨rfl, rfl⟩
set_option maxRecDepth 100000 in
theorem filename_any (n : Nat) (w : World) : Calls Tryz.prog 21 #[.int .i64 (n : Int)] w fun e w' => e = .returned (.string ⟨(nmR (n % 2)).toArray⟩) ∧ w = w' := by
  have hm : (n : Int) % 2 = ((n % 2 : Nat) : Int) := by omega
  have C := Lib.hid (itoa_bit (n % 2) (by omega) w)
  have hd : n % 2 = 0 ∨ n % 2 = 1 := by omega
  obtain ⟨d, hdd⟩ : ∃ d, n % 2 = d := ⟨_, rfl⟩
  rw [hdd] at C hd hm ⊢
  clear hdd
  go_enter Tryz.func21, Tryz.ntmps21
  go_wp2_with fail
  rw [hm]
  refine C.out.mono ?_
  rintro e w' ⟨rfl, rfl⟩
  clear hm
  rcases hd with rfl | rfl
  · go_wp2_with fail
    go_ret
    exact ⟨rfl, rfl⟩
  · go_wp2_with fail
    go_ret
    exact ⟨rfl, rfl⟩
end Go.Proofs.YtggejecmhfafoaaGreatDoor
namespace Go.Proofs.YtggejecmhfafoaaGreatDoor
open Go.RowKit Go.Maps

/-- What the file of a last digit has: the root, the error. -/
def rfA (S : Ab) (d : Nat) : Rn × Int :=
  if S.err (nmR d) = 13 then (Rn.zero, 0) else if S.err (nmR d) ≠ 0 then (Rn.zero, S.err (nmR d))
  else if (prs (aold (nmR d) S.fs).bs).2 ≠ 0 ∨ (prs (aold (nmR d) S.fs).bs).1.s % 2 ≠ d then (Rn.zero, 0) else ((prs (aold (nmR d) S.fs).bs).1, 0)
def Rfp (w : World) (r : Rn × Int) (e : Ending) (w' : World) : Prop :=
  ∃ A n c, e = .returned (.tuple #[.agg #[.int .i64 (r.1.s : Int), .int .i64 (r.1.t : Int), .int .i64 (r.1.c : Int), .slice A n c], .int .i64 r.2]) ∧ Rd w' w'.heap.size A n r.1.l ∧ Below w.heap.size w w'
theorem rfp_zero {w w' : World} {x : Int} (h : Below w.heap.size w w') : Rfp w (Rn.zero, x) (.returned (.tuple #[.agg #[.int .i64 0, .int .i64 0, .int .i64 0, .slice none 0 0], .int .i64 x])) w' := ⟨none, 0, 0, rfl, Rd.nil, h⟩
/-- What readFile answers: its blob lies in new memory. -/
def RfpN (w : World) (r : Rn × Int) (e : Ending) (w' : World) : Prop :=
  ∃ A n c, e = .returned (.tuple #[.agg #[.int .i64 (r.1.s : Int), .int .i64 (r.1.t : Int), .int .i64 (r.1.c : Int), .slice A n c], .int .i64 r.2]) ∧ Rd w' w'.heap.size A n r.1.l ∧ Below w.heap.size w w' ∧ (∀ a, A = some a → w.heap.size ≤ a.block)
theorem rfp_zeroN {w w' : World} {x : Int} (h : Below w.heap.size w w') : RfpN w (Rn.zero, x) (.returned (.tuple #[.agg #[.int .i64 0, .int .i64 0, .int .i64 0, .slice none 0 0], .int .i64 x])) w' := ⟨none, 0, 0, rfl, Rd.nil, h, fun _ e => by cases e⟩
set_option maxHeartbeats 4000000 in
set_option maxRecDepth 100000 in
theorem readfile_anyN {w : World} {D M : Nat} {s : St} (h : Dsk w D M s) (ht : Tab w) (hl : ∀ f ∈ s.fs, f.bs.length ≤ 20000) (d : Nat) (hd : d < 2) :
    Calls Tryz.prog 27 #[.pointer (some ⟨D, 0, none⟩), .int .i64 (d : Int)] w (RfpN w (rfA s.ab d)) := by
  have hP0 := heap_alloc_new w (.cells #[.int .i64 0, .int .i64 0, .int .i64 0, .slice none 0 0] 30)
  have hB0 := (Below.refl w.heap.size w).alloc (Nat.le_refl _) (.cells #[.int .i64 0, .int .i64 0, .int .i64 0, .slice none 0 0] 30)
  have hS0 : (w.alloc (.cells #[.int .i64 0, .int .i64 0, .int .i64 0, .slice none 0 0] 30)).heap.size = w.heap.size + 1 := World.size_alloc _ _
  have hD0 := h.no (Fr.alloc No w (.cells #[.int .i64 0, .int .i64 0, .int .i64 0, .slice none 0 0] 30))
  have hT0 := ht.keep hB0 ht.pos
  have HTP := Lib.hid ht.pos
  have HFN := Lib.hid (fun W => filename_any d W)
  rw [show d % 2 = d by omega] at HFN
  obtain ⟨w0, hw0⟩ : ∃ u, w.alloc (.cells #[.int .i64 0, .int .i64 0, .int .i64 0, .slice none 0 0] 30) = u := ⟨_, rfl⟩
  obtain ⟨Q, HQ⟩ : ∃ Q : Ending → World → Prop, Hid (RfpN w (rfA s.ab d) = Q) := ⟨_, rfl⟩
  rw [HQ.out]
  obtain ⟨P, HP⟩ : ∃ P, Hid (w.heap.size = P) := ⟨_, rfl⟩
  rw [HP.out] at hP0 hB0 hS0 HTP
  rw [hw0] at hP0 hB0 hS0 hD0 hT0
  have HW0 := Lib.hid hw0
  have HP0 := Lib.hid hP0
  have HB0 := Lib.hid hB0
  have HS0 := Lib.hid hS0
  have HD0 := Lib.hid hD0
  have HT0 := Lib.hid hT0
  have HL := Lib.hid hl
  have HDD := Lib.hid hd
  have her := err_ab s (nmR d)
  clear h ht hl hP0 hB0 hS0 hD0 hT0 hw0
  have hall : ∀ (X : Int) (Y : St), True := fun _ _ => trivial
  go_enter Tryz.func27, Tryz.ntmps27
  go_upto_region 1 with fail
  rw [HW0.out, HP.out]
  go_wp2_with fail
  refine (HFN.out _).mono ?_
  rintro e w1 ⟨rfl, rfl⟩
  by_cases he : s.err (nmR d) = 0
  · obtain ⟨hfl, f, hfn, hold⟩ := err_some (s := s) (nm := nmR d) he
    have HRD := Lib.hid (read_ok HD0.out ⟨(nmR d).toArray⟩ (nmR_size d) hfl f hfn)
    obtain ⟨r, er, hp⟩ : ∃ r er, prs f.bs = (r, er) := ⟨_, _, rfl⟩
    have hbs : (aold (nmR d) s.ab.fs).bs = f.bs := by
      have h1 := old_ab (nmR d) s.fs
      have h2 : s.ab.fs = s.fs.map Fl.ab := rfl
      rw [h2, h1, hold]
      rfl
    have HRF := Lib.hid (show rfA s.ab d = if er ≠ 0 ∨ r.s % 2 ≠ d then (Rn.zero, 0) else (r, 0) by
      unfold rfA
      rw [her, he, hbs, hp]
      rfl)
    have HLF := Lib.hid (HL.out f (fnd_mem hfn).1)
    have HPR := Lib.hid hp
    clear hfl hfn hold hbs hp he her hall hd
    go_wp2_with fail
    refine HRD.out.mono ?_
    rintro e w2 ⟨v2, rfl, ho2, hf2⟩
    obtain ⟨A2, c2, rfl, hc2, _⟩ := own_shape ho2
    have HB2 := Lib.hid (HB0.out.trans (hf2.noBelow.mono (by have := HS0.out; omega)))
    have HT2 := Lib.hid (HT0.out.keep hf2.noBelow HT0.out.pos)
    have hP2 := (hf2.block P (by have := HS0.out; omega) (fun e => e)).trans HP0.out
    have HP2 := Lib.hid hP2
    have hpa := Parse_anyN f.bs A2 f.bs.length c2 w2 (Rd.own ho2) HLF.out hc2 HT2.out
    rw [HPR.out] at hpa
    have HPA := Lib.hid hpa
    have HZ2 := Lib.hid (show P < w2.heap.size from (Array.getElem?_eq_some_iff.1 hP2).1)
    clear ho2 hf2 hP2 hpa
    go_wp2_with fail
    refine HPA.out.mono ?_
    rintro e w3 ⟨A3, n3, c3, rfl, hr3, hb3, hnw3⟩
    have HNW := Lib.hid hnw3
    clear hnw3
    simp only
    have hP3 := (hb3.block P HZ2.out).trans HP2.out
    have HB3 := Lib.hid (HB2.out.trans (hb3.mono (Nat.le_of_lt HZ2.out)))
    have HR3 := Lib.hid hr3
    have HP3 := Lib.hid hP3
    have hfx := Fr.alloc No w3 (.cells #[.int .i64 (r.s : Int), .int .i64 (r.t : Int), .int .i64 (r.c : Int), .slice A3 n3 c3] 30)
    have hgx := heap_alloc_new w3 (.cells #[.int .i64 (r.s : Int), .int .i64 (r.t : Int), .int .i64 (r.c : Int), .slice A3 n3 c3] 30)
    clear hb3 hr3 hP3
    go_upto_region 7 with fail
    obtain ⟨G, hG⟩ : ∃ G, w3.heap.size = G := ⟨_, rfl⟩
    obtain ⟨w4, hw4⟩ : ∃ u, w3.alloc (.cells #[.int .i64 (r.s : Int), .int .i64 (r.t : Int), .int .i64 (r.c : Int), .slice A3 n3 c3] 30) = u := ⟨_, rfl⟩
    rw [hw4] at hfx hgx ⊢
    rw [hG] at hgx ⊢
    have HFX := Lib.hid hfx
    have hP1 := (hfx.block P (Array.getElem?_eq_some_iff.1 HP3.out).1 (fun e => e)).trans HP3.out
    have u0 : w4.cell? ⟨G, 0, none⟩ = some (.int .i64 (r.s : Int)) := by unfold World.cell?; rw [hgx]; rfl
    have u1 : w4.cell? ⟨G, 1, none⟩ = some (.int .i64 (r.t : Int)) := by unfold World.cell?; rw [hgx]; rfl
    have u2 : w4.cell? ⟨G, 2, none⟩ = some (.int .i64 (r.c : Int)) := by unfold World.cell?; rw [hgx]; rfl
    have u3 : w4.cell? ⟨G, 3, none⟩ = some (.slice A3 n3 c3) := by unfold World.cell?; rw [hgx]; rfl
    have HBX := Lib.hid (show Below P w w4 from HB3.out.trans (hfx.noBelow.mono (Nat.le_of_lt (Array.getElem?_eq_some_iff.1 HP3.out).1)))
    clear hw4 hG hfx hgx
    have p0 : w4.cell? ⟨P, 0, none⟩ = some (.int .i64 0) := by unfold World.cell?; rw [hP1]; rfl
    have p1 : w4.cell? ⟨P, 1, none⟩ = some (.int .i64 0) := by unfold World.cell?; rw [hP1]; rfl
    have p2 : w4.cell? ⟨P, 2, none⟩ = some (.int .i64 0) := by unfold World.cell?; rw [hP1]; rfl
    have p3 : w4.cell? ⟨P, 3, none⟩ = some (.slice none 0 0) := by unfold World.cell?; rw [hP1]; rfl
    have z0 : w4.frozen? ⟨P, 0, none⟩ = false := by unfold World.frozen?; rw [hP1]; rfl
    have z1 : w4.frozen? ⟨P, 1, none⟩ = false := by unfold World.frozen?; rw [hP1]; rfl
    have z2 : w4.frozen? ⟨P, 2, none⟩ = false := by unfold World.frozen?; rw [hP1]; rfl
    have z3 : w4.frozen? ⟨P, 3, none⟩ = false := by unfold World.frozen?; rw [hP1]; rfl
    by_cases hbad : er ≠ 0 ∨ r.s % 2 ≠ d
    · have HE := Lib.hid (show rfA s.ab d = (Rn.zero, 0) by rw [HRF.out, if_pos hbad])
      by_cases he : er = 0
      · subst he
        have hq : (((r.s : Int) % 2) != (d : Int)) = true := by
          rw [bne_iff_ne]
          have := hbad.resolve_left (by simp)
          omega
        clear hbad
        go_wp2_with fail
        refine bodyPost_ret (results_cell_tmp_row (p := 4) rfl _ _ P 30 #[.int .i64 0, .int .i64 0, .int .i64 0, .slice none 0 0] (0, 0) _ rfl (four_setR hP1 _ _ _ _).1 Tryz.underlying30 rfl (by kernel_rfl)) rfl ?_
        rw [← HQ.out, HE.out]
        exact rfp_zeroN (x := 0) (by rw [HP.out]; exact (HBX.out).trans (four_setR hP1 _ _ _ _).2)
      · have heb : ((er : Int) != 0) = true := by rw [bne_iff_ne]; omega
        clear he hbad
        go_wp2_with fail
        refine bodyPost_ret (results_cell_tmp_row (p := 4) rfl _ _ P 30 #[.int .i64 0, .int .i64 0, .int .i64 0, .slice none 0 0] (0, 0) _ rfl (four_setR hP1 _ _ _ _).1 Tryz.underlying30 rfl (by kernel_rfl)) rfl ?_
        rw [← HQ.out, HE.out]
        exact rfp_zeroN (x := 0) (by rw [HP.out]; exact (HBX.out).trans (four_setR hP1 _ _ _ _).2)
    · have HE := Lib.hid (show rfA s.ab d = (r, 0) by rw [HRF.out, if_neg hbad])
      have he : er = 0 := by omega
      subst he
      have hq : (((r.s : Int) % 2) != (d : Int)) = false := by
        rw [bne_eq_false_iff_eq]
        omega
      have HRD4 := Lib.hid (rd_offR HFX.out HR3.out (fun _ _ _ e => e))
      have H4 := Lib.hid (four_setR hP1 (.int .i64 (r.s : Int)) (.int .i64 (r.t : Int)) (.int .i64 (r.c : Int)) (.slice A3 n3 c3))
      have HP4 := Lib.hid hP1
      clear hbad
      go_wp2_with fail
      refine bodyPost_ret (results_cell_tmp_row (p := 4) rfl _ _ P 30 #[.int .i64 (r.s : Int), .int .i64 (r.t : Int), .int .i64 (r.c : Int), .slice A3 n3 c3] (0, 0) _ rfl H4.out.1 Tryz.underlying30 rfl (by kernel_rfl)) rfl ?_
      rw [← HQ.out, HE.out]
      refine ⟨A3, n3, c3, rfl, ?_, by rw [HP.out]; exact HBX.out.trans H4.out.2, fun a ha => by have h1 := HNW.out a ha; have h2 := HZ2.out; have h3 := HP.out; omega⟩
      have hf : Fr (fun k => k = P) w4 ((((w4.setCell ⟨P, 0, none⟩ (.int .i64 (r.s : Int))).setCell ⟨P, 1, none⟩ (.int .i64 (r.t : Int))).setCell ⟨P, 2, none⟩ (.int .i64 (r.c : Int))).setCell ⟨P, 3, none⟩ (.slice A3 n3 c3)) :=
        (((Fr.setCell w4 ⟨P, 0, none⟩ _ (F := fun k => k = P) rfl).trans (Fr.setCell _ ⟨P, 1, none⟩ _ (F := fun k => k = P) rfl) (fun _ _ e => e)).trans (Fr.setCell _ ⟨P, 2, none⟩ _ (F := fun k => k = P) rfl) (fun _ _ e => e)).trans (Fr.setCell _ ⟨P, 3, none⟩ _ (F := fun k => k = P) rfl) (fun _ _ e => e)
      exact rd_offR hf HRD4.out (fun h0 a ha e => rd_noroot HRD4.out HP4.out h0 a ha e)
  · have HRD := Lib.hid (read_bad HD0.out ⟨(nmR d).toArray⟩ (nmR_size d) he)
    obtain ⟨x, hx⟩ : ∃ x, s.err (nmR d) = x := ⟨_, rfl⟩
    have HRD2 : Hid (Calls Tryz.prog 50 #[.pointer (some ⟨D, 0, none⟩), .string ⟨(nmR d).toArray⟩] w0 fun e w' => e = .returned (.tuple #[.slice none 0 0, .int .i64 x]) ∧ Fr No w0 w') := by
      have h1 := HRD.out
      rw [show s.err (⟨(nmR d).toArray⟩ : ByteArray).data.toList = x from hx] at h1
      exact h1
    rw [hx] at her he
    have HER := Lib.hid her
    clear hx HRD her hall hd
    go_wp2_with fail
    refine HRD2.out.mono ?_
    rintro e w2 ⟨rfl, hf2⟩
    have HB2 := Lib.hid (HB0.out.trans (hf2.noBelow.mono (by have := HS0.out; omega)))
    have hP1 := (hf2.block P (by have := HS0.out; omega) (fun e => e)).trans HP0.out
    clear hf2
    have p0 : w2.cell? ⟨P, 0, none⟩ = some (.int .i64 0) := by unfold World.cell?; rw [hP1]; rfl
    have p1 : w2.cell? ⟨P, 1, none⟩ = some (.int .i64 0) := by unfold World.cell?; rw [hP1]; rfl
    have p2 : w2.cell? ⟨P, 2, none⟩ = some (.int .i64 0) := by unfold World.cell?; rw [hP1]; rfl
    have p3 : w2.cell? ⟨P, 3, none⟩ = some (.slice none 0 0) := by unfold World.cell?; rw [hP1]; rfl
    have z0 : w2.frozen? ⟨P, 0, none⟩ = false := by unfold World.frozen?; rw [hP1]; rfl
    have z1 : w2.frozen? ⟨P, 1, none⟩ = false := by unfold World.frozen?; rw [hP1]; rfl
    have z2 : w2.frozen? ⟨P, 2, none⟩ = false := by unfold World.frozen?; rw [hP1]; rfl
    have z3 : w2.frozen? ⟨P, 3, none⟩ = false := by unfold World.frozen?; rw [hP1]; rfl
    by_cases h13 : x = 13
    · subst h13
      have HE := Lib.hid (show rfA s.ab d = (Rn.zero, 0) by unfold rfA; rw [HER.out, if_pos rfl])
      clear he
      go_wp2_with fail
      refine bodyPost_ret (results_cell_tmp_row (p := 4) rfl _ _ P 30 #[.int .i64 0, .int .i64 0, .int .i64 0, .slice none 0 0] (0, 0) _ rfl (four_setR hP1 _ _ _ _).1 Tryz.underlying30 rfl (by kernel_rfl)) rfl ?_
      rw [← HQ.out, HE.out]
      exact rfp_zeroN (x := 0) (by rw [HP.out]; exact (HB2.out).trans (four_setR hP1 _ _ _ _).2)
    · have HE := Lib.hid (show rfA s.ab d = (Rn.zero, x) by unfold rfA; rw [HER.out, if_neg h13, if_pos he])
      have h1 : (x == 13) = false := by rw [beq_eq_false_iff_ne]; exact h13
      have h2 : (x != 0) = true := by rw [bne_iff_ne]; exact he
      clear he h13
      go_wp2_with fail
      refine bodyPost_ret (results_cell_tmp_row (p := 4) rfl _ _ P 30 #[.int .i64 0, .int .i64 0, .int .i64 0, .slice none 0 0] (0, 0) _ rfl (four_setR hP1 _ _ _ _).1 Tryz.underlying30 rfl (by kernel_rfl)) rfl ?_
      rw [← HQ.out, HE.out]
      exact rfp_zeroN (x := x) (by rw [HP.out]; exact (HB2.out).trans (four_setR hP1 _ _ _ _).2)
theorem readfile_any {w : World} {D M : Nat} {s : St} (h : Dsk w D M s) (ht : Tab w) (hl : ∀ f ∈ s.fs, f.bs.length ≤ 20000) (d : Nat) (hd : d < 2) :
    Calls Tryz.prog 27 #[.pointer (some ⟨D, 0, none⟩), .int .i64 (d : Int)] w (Rfp w (rfA s.ab d)) :=
  (readfile_anyN h ht hl d hd).mono fun _ _ ⟨A, n, c, h1, h2, h3, _⟩ => ⟨A, n, c, h1, h2, h3⟩
end Go.Proofs.YtggejecmhfafoaaGreatDoor
namespace Go.Proofs.YtggejecmhfafoaaGreatDoor
open Go.RowKit Go.Maps

/-- Three results, the first of which lies in a cell. -/
theorem results_cell_tmp2_row {P : Program} {fn : Func} {p u v : Tmp} {ty : TypeId} (h : fn.results = #[.cell p ty, .tmp u, .tmp v]) (tmps : Array Value) (w : World) (g : Nat) (t : TypeId) (cs : Array Value) (fr : Nat × Nat) (d : TypeDesc)
    (hp : tmps.getD p undef = .pointer (some ⟨g, 0, none⟩)) (hg : w.heap[g]? = some (.cells cs t fr))
    (hu : P.underlying ty = some d) (hd : (match d with | .struct _ | .array _ _ => true | _ => false) = true) (hi : (P.info? ty).map (·.size) = some cs.size) :
    (results fn tmps).run P w = .ok (.tuple #[.agg cs, tmps.getD u undef, tmps.getD v undef]) w := by
  have e : (results fn tmps).run P w = ((asAddr (tmps.getD p undef)).run P w).andThen fun a w₁ => ((loadVar ty a).run P w₁).andThen fun x w₂ => .ok (.tuple #[x, tmps.getD u undef, tmps.getD v undef]) w₂ := by
    simp only [results, h]
    simp [Sem.run_bind, Result.andThen]
  rw [e, hp]
  simp [asAddr, run_loadVar_row w g t ty cs fr d hg hu hd hi]
def pickR (c b : Rn) : Rn := if c.s < b.s then b else c
def cntR (S : Ab) : Nat → Rn
  | 0 => Rn.zero
  | k + 1 => pickR (cntR S k) (rfA S k).1
/-- What Read answers: the root, whether there is one, the error. -/
def rdA (S : Ab) : Rn × Bool × Int :=
  if (rfA S 0).2 ≠ 0 then (Rn.zero, false, (rfA S 0).2) else if (rfA S 1).2 ≠ 0 then (Rn.zero, false, (rfA S 1).2) else (cntR S 2, decide (0 < (cntR S 2).s), 0)
theorem rdA_bad {S : Ab} {k : Nat} (hk : k < 2) (h : ∀ j, j < k → (rfA S j).2 = 0) (hb : (rfA S k).2 ≠ 0) : rdA S = (Rn.zero, false, (rfA S k).2) := by
  unfold rdA
  match k, hk with
  | 0, _ => exact if_pos hb
  | 1, _ =>
    rw [if_neg (show ¬ ((rfA S 0).2 ≠ 0) from fun e => e (h 0 (by omega)))]
    exact if_pos hb
theorem rdA_end {S : Ab} (h : ∀ j, j < 2 → (rfA S j).2 = 0) : rdA S = (cntR S 2, decide (0 < (cntR S 2).s), 0) := by
  unfold rdA
  rw [if_neg (show ¬ ((rfA S 0).2 ≠ 0) from fun e => e (h 0 (by omega))), if_neg (show ¬ ((rfA S 1).2 ≠ 0) from fun e => e (h 1 (by omega)))]
def Rdp (w : World) (r : Rn × Bool × Int) (e : Ending) (w' : World) : Prop :=
  ∃ A n c, e = .returned (.tuple #[.agg #[.int .i64 (r.1.s : Int), .int .i64 (r.1.t : Int), .int .i64 (r.1.c : Int), .slice A n c], .bool r.2.1, .int .i64 r.2.2]) ∧ Rd w' w'.heap.size A n r.1.l ∧ Below w.heap.size w w'
/-- What Read answers: the blob lies in new memory. -/
def RdpN (w : World) (r : Rn × Bool × Int) (e : Ending) (w' : World) : Prop :=
  ∃ A n c, e = .returned (.tuple #[.agg #[.int .i64 (r.1.s : Int), .int .i64 (r.1.t : Int), .int .i64 (r.1.c : Int), .slice A n c], .bool r.2.1, .int .i64 r.2.2]) ∧ Rd w' w'.heap.size A n r.1.l ∧ Below w.heap.size w w' ∧ (∀ a, A = some a → w.heap.size ≤ a.block)
set_option maxHeartbeats 8000000 in
set_option maxRecDepth 100000 in
theorem read_anyN {w : World} {D M : Nat} {s : St} (h : Dsk w D M s) (ht : Tab w) (hl : ∀ f ∈ s.fs, f.bs.length ≤ 20000) :
    Calls Tryz.prog 11 #[.pointer (some ⟨D, 0, none⟩)] w (RdpN w (rdA s.ab)) := by
  have hf1 := Fr.alloc No w (.cells #[.int .i64 0, .int .i64 0, .int .i64 0, .slice none 0 0] 30)
  have hf2 := Fr.alloc No (w.alloc (.cells #[.int .i64 0, .int .i64 0, .int .i64 0, .slice none 0 0] 30)) (.cells #[.int .i64 0, .int .i64 0, .int .i64 0, .slice none 0 0] 30)
  have hb1 : ((w.alloc (.cells #[.int .i64 0, .int .i64 0, .int .i64 0, .slice none 0 0] 30)).alloc (.cells #[.int .i64 0, .int .i64 0, .int .i64 0, .slice none 0 0] 30)).heap[w.heap.size]? = some (.cells #[.int .i64 0, .int .i64 0, .int .i64 0, .slice none 0 0] 30 (0, 0)) :=
    (Below.heap_alloc _ _ _ (by simp)).trans (heap_alloc_new w _)
  have hb2 := heap2R w (.cells #[.int .i64 0, .int .i64 0, .int .i64 0, .slice none 0 0] 30) (.cells #[.int .i64 0, .int .i64 0, .int .i64 0, .slice none 0 0] 30)
  have H := Lib.hid h
  have HT := Lib.hid ht
  have HL := Lib.hid hl
  have HTP := Lib.hid ht.pos
  obtain ⟨S, HS⟩ : ∃ S, Hid (s.ab = S) := ⟨_, rfl⟩
  rw [HS.out]
  obtain ⟨Q, HQ⟩ : ∃ Q : Ending → World → Prop, Hid (RdpN w (rdA S) = Q) := ⟨_, rfl⟩
  rw [HQ.out]
  obtain ⟨P, hP⟩ : ∃ P, w.heap.size = P := ⟨_, rfl⟩
  have hf12 := hf1.no_trans hf2
  clear h ht hl hf1 hf2
  go_enter Tryz.func11, Tryz.ntmps11
  go_upto_region 3 with fail
  obtain ⟨w2, hw2⟩ : ∃ u, (w.alloc (.cells #[.int .i64 0, .int .i64 0, .int .i64 0, .slice none 0 0] 30)).alloc (.cells #[.int .i64 0, .int .i64 0, .int .i64 0, .slice none 0 0] 30) = u := ⟨_, rfl⟩
  rw [hw2] at hf12 hb1 hb2 ⊢
  rw [hP] at hb1 hb2
  try rw [hP]
  obtain ⟨C, hC⟩ : ∃ C, P + 1 = C := ⟨_, rfl⟩
  rw [hC] at hb2 ⊢
  have HF12 := Lib.hid hf12
  have HB1 := Lib.hid hb1
  have HB2 := Lib.hid hb2
  have HPC := Lib.hid (show w.heap.size = P ∧ P + 1 = C ∧ C < w2.heap.size from ⟨hP, hC, (Array.getElem?_eq_some_iff.1 hb2).1⟩)
  clear hw2 hP hC hf12 hb1 hb2
  go_wp2_with fail
  go_loopw [9] (fun v9 wr => ∃ (k : Nat) (A : Option Addr) (n c : Nat), k ≤ 2 ∧ v9 = .int .i64 (k : Int) ∧ (∀ j, j < k → (rfA S j).2 = 0) ∧ wr.heap[C]? = some (.cells #[.int .i64 ((cntR S k).s : Int), .int .i64 ((cntR S k).t : Int), .int .i64 ((cntR S k).c : Int), .slice A n c] 30 (0, 0)) ∧
      Rd wr wr.heap.size A n (cntR S k).l ∧ Fr (fun j => j = C) w2 wr ∧ (∀ a, A = some a → P ≤ a.block)) (fun v9 _ => 2 - (intOf v9).toNat)
  case atStart => exact ⟨0, none, 0, 0, by omega, rfl, fun j hj => by omega, HB2.out, Rd.nil, Fr.refl _ _, fun _ e => by cases e⟩
  case round =>
    obtain ⟨k, A, n, c, hk, rfl, hok, hCr, hrd, hfr, hnw⟩ := hrel
    have HNA := Lib.hid hnw
    clear hnw
    have HOK := Lib.hid hok
    have HCR := Lib.hid hCr
    have HRD := Lib.hid hrd
    have HFR := Lib.hid hfr
    have HBW := Lib.hid (show Below P w wr by
      have h1 := HF12.out.noBelow
      rw [HPC.out.1] at h1
      exact h1.trans (hfr.below (by have := HPC.out; omega) (fun k e => by have := HPC.out; omega)))
    have hPr := (hfr.block P (by have := HPC.out; omega) (by have := HPC.out; omega)).trans HB1.out
    have HPR := Lib.hid hPr
    clear hok hCr hrd hfr hPr
    by_cases hlt : k < 2
    · have hltI : (k : Int) < 2 := by omega
      have hDr : Dsk wr D M s := (H.out.no HF12.out).keep HFR.out (fun j hj e => by have := H.out.foot_lt hj; have := HPC.out; omega)
      have hrf := readfile_anyN hDr (HT.out.keep HBW.out (by rw [← HPC.out.1]; exact HTP.out)) HL.out k hlt
      rw [HS.out] at hrf
      obtain ⟨r, er, hr⟩ : ∃ r er, rfA S k = (r, er) := ⟨_, _, rfl⟩
      rw [hr] at hrf
      have HRF := Lib.hid hrf
      have HRK := Lib.hid hr
      clear hDr hrf hr
      go_wp2_with fail
      refine HRF.out.mono ?_
      rintro e w4 ⟨A4, n4, c4, rfl, hr4, hb4, hnw4⟩
      have HN4 := Lib.hid (fun a ha => (Nat.le_trans (by have h1 := HPC.out; have h2 := HFR.out.size; omega) (hnw4 a ha) : P ≤ a.block))
      clear hnw4
      simp only
      have HR4 := Lib.hid hr4
      have HB4 := Lib.hid hb4
      have hfx := Fr.alloc No w4 (.cells #[.int .i64 (r.s : Int), .int .i64 (r.t : Int), .int .i64 (r.c : Int), .slice A4 n4 c4] 30)
      have hgx := heap_alloc_new w4 (.cells #[.int .i64 (r.s : Int), .int .i64 (r.t : Int), .int .i64 (r.c : Int), .slice A4 n4 c4] 30)
      clear hr4 hb4
      go_upto_region 6 with fail
      obtain ⟨G, hG⟩ : ∃ G, w4.heap.size = G := ⟨_, rfl⟩
      obtain ⟨w5, hw5⟩ : ∃ u, w4.alloc (.cells #[.int .i64 (r.s : Int), .int .i64 (r.t : Int), .int .i64 (r.c : Int), .slice A4 n4 c4] 30) = u := ⟨_, rfl⟩
      rw [hw5] at hfx hgx ⊢
      rw [hG] at hgx ⊢
      have HF5 := Lib.hid (show Fr No wr w5 from (Fr.of_below HB4.out).no_trans hfx)
      have HR5 := Lib.hid (rd_offR hfx HR4.out (fun _ _ _ e => e))
      have HGX := Lib.hid hgx
      have HGC := Lib.hid (show C < G by have h1 := (Array.getElem?_eq_some_iff.1 HCR.out).1; have := HB4.out.size; omega)
      clear hw5 hG hfx
      have u0 : w5.cell? ⟨G, 0, none⟩ = some (.int .i64 (r.s : Int)) := by unfold World.cell?; rw [hgx]; rfl
      have u1 : w5.cell? ⟨G, 1, none⟩ = some (.int .i64 (r.t : Int)) := by unfold World.cell?; rw [hgx]; rfl
      have u2 : w5.cell? ⟨G, 2, none⟩ = some (.int .i64 (r.c : Int)) := by unfold World.cell?; rw [hgx]; rfl
      have u3 : w5.cell? ⟨G, 3, none⟩ = some (.slice A4 n4 c4) := by unfold World.cell?; rw [hgx]; rfl
      clear hgx
      by_cases he : er = 0
      · subst he
        have hC5 := (HF5.out.block C (Array.getElem?_eq_some_iff.1 HCR.out).1 (fun e => e)).trans HCR.out
        have HC5 := Lib.hid hC5
        obtain ⟨m, hm⟩ : ∃ m, cntR S k = m := ⟨_, rfl⟩
        rw [hm] at hC5 HC5
        have HM := Lib.hid hm
        have d0 : w5.cell? ⟨C, 0, none⟩ = some (.int .i64 (m.s : Int)) := by unfold World.cell?; rw [hC5]; rfl
        have d1 : w5.cell? ⟨C, 1, none⟩ = some (.int .i64 (m.t : Int)) := by unfold World.cell?; rw [hC5]; rfl
        have d2 : w5.cell? ⟨C, 2, none⟩ = some (.int .i64 (m.c : Int)) := by unfold World.cell?; rw [hC5]; rfl
        have d3 : w5.cell? ⟨C, 3, none⟩ = some (.slice A n c) := by unfold World.cell?; rw [hC5]; rfl
        have y0 : w5.frozen? ⟨C, 0, none⟩ = false := by unfold World.frozen?; rw [hC5]; rfl
        have y1 : w5.frozen? ⟨C, 1, none⟩ = false := by unfold World.frozen?; rw [hC5]; rfl
        have y2 : w5.frozen? ⟨C, 2, none⟩ = false := by unfold World.frozen?; rw [hC5]; rfl
        have y3 : w5.frozen? ⟨C, 3, none⟩ = false := by unfold World.frozen?; rw [hC5]; rfl
        have hwk : IntKind.i64.wrap ((k : Int) + 1) = ((k + 1 : Nat) : Int) := by
          rw [show ((k : Int) + 1) = ((k + 1 : Nat) : Int) by omega]
          exact IntWalk.i64_in _ (by omega)
        have HOK2 := Lib.hid (show ∀ j, j < k + 1 → (rfA S j).2 = 0 from fun j hj => by
          by_cases e : j = k
          · subst e; rw [HRK.out]
          · exact HOK.out j (by omega))
        have HCN := Lib.hid (show cntR S (k + 1) = if m.s < r.s then r else m by
          show pickR (cntR S k) (rfA S k).1 = _
          rw [HM.out, HRK.out]
          rfl)
        have HFR5 := Lib.hid (show Fr (fun j => j = C) w2 w5 from HFR.out.trans HF5.out (fun _ _ e => e.elim))
        clear hC5 hm
        by_cases hgt : m.s < r.s
        · have hgd : decide ((m.s : Int) < (r.s : Int)) = true := by rw [decide_eq_true_eq]; omega
          have hgd2 : decide (m.s < r.s) = true := decide_eq_true hgt
          have hcn := HCN.out
          rw [if_pos hgt] at hcn
          have HCN2 := Lib.hid hcn
          have H4 := Lib.hid (four_setR HC5.out (.int .i64 (r.s : Int)) (.int .i64 (r.t : Int)) (.int .i64 (r.c : Int)) (.slice A4 n4 c4))
          have hf4 : Fr (fun j => j = C) w5 ((((w5.setCell ⟨C, 0, none⟩ (.int .i64 (r.s : Int))).setCell ⟨C, 1, none⟩ (.int .i64 (r.t : Int))).setCell ⟨C, 2, none⟩ (.int .i64 (r.c : Int))).setCell ⟨C, 3, none⟩ (.slice A4 n4 c4)) :=
            (((Fr.setCell w5 ⟨C, 0, none⟩ _ (F := fun k => k = C) rfl).trans (Fr.setCell _ ⟨C, 1, none⟩ _ (F := fun k => k = C) rfl) (fun _ _ e => e)).trans (Fr.setCell _ ⟨C, 2, none⟩ _ (F := fun k => k = C) rfl) (fun _ _ e => e)).trans (Fr.setCell _ ⟨C, 3, none⟩ _ (F := fun k => k = C) rfl) (fun _ _ e => e)
          have HF4 := Lib.hid hf4
          clear hcn hf4
          go_wp2_with fail
          go_roundw
          case rel =>
            refine ⟨k + 1, A4, n4, c4, by omega, by go_num, HOK2.out, ?_, ?_, HFR5.out.trans HF4.out (fun _ _ e => e), HN4.out⟩
            · rw [HCN2.out]; exact H4.out.1
            · rw [HCN2.out]; exact rd_offR HF4.out HR5.out (fun h0 a ha e => rd_noroot HR5.out HC5.out h0 a ha e)
          case measure => simp [intOf]; omega
        · have hgd : decide ((m.s : Int) < (r.s : Int)) = false := by rw [decide_eq_false_iff_not]; omega
          have hgd2 : decide (m.s < r.s) = false := decide_eq_false hgt
          have hcn := HCN.out
          rw [if_neg hgt] at hcn
          have HCN2 := Lib.hid hcn
          clear hcn
          go_wp2_with fail
          go_roundw
          case rel =>
            refine ⟨k + 1, A, n, c, by omega, by go_num, HOK2.out, ?_, ?_, HFR5.out, HNA.out⟩
            · rw [HCN2.out]; exact HC5.out
            · rw [HCN2.out]
              have h1 := rd_offR HF5.out HRD.out (fun _ _ _ e => e)
              rw [HM.out] at h1
              exact h1
          case measure => simp [intOf]; omega
      · have HE := Lib.hid (show rdA S = (Rn.zero, false, er) by
          have h1 := rdA_bad hlt HOK.out (by rw [HRK.out]; exact he)
          rw [HRK.out] at h1
          exact h1)
        have heb : (er != 0) = true := by rw [bne_iff_ne]; exact he
        have hP5 := (HF5.out.block P (Array.getElem?_eq_some_iff.1 HPR.out).1 (fun e => e)).trans HPR.out
        clear he
        have p0 : w5.cell? ⟨P, 0, none⟩ = some (.int .i64 0) := by unfold World.cell?; rw [hP5]; rfl
        have p1 : w5.cell? ⟨P, 1, none⟩ = some (.int .i64 0) := by unfold World.cell?; rw [hP5]; rfl
        have p2 : w5.cell? ⟨P, 2, none⟩ = some (.int .i64 0) := by unfold World.cell?; rw [hP5]; rfl
        have p3 : w5.cell? ⟨P, 3, none⟩ = some (.slice none 0 0) := by unfold World.cell?; rw [hP5]; rfl
        have z0 : w5.frozen? ⟨P, 0, none⟩ = false := by unfold World.frozen?; rw [hP5]; rfl
        have z1 : w5.frozen? ⟨P, 1, none⟩ = false := by unfold World.frozen?; rw [hP5]; rfl
        have z2 : w5.frozen? ⟨P, 2, none⟩ = false := by unfold World.frozen?; rw [hP5]; rfl
        have z3 : w5.frozen? ⟨P, 3, none⟩ = false := by unfold World.frozen?; rw [hP5]; rfl
        go_wp2_with fail
        refine bodyPost_ret (results_cell_tmp2_row (p := 2) rfl _ _ P 30 #[.int .i64 0, .int .i64 0, .int .i64 0, .slice none 0 0] (0, 0) _ rfl (four_setR hP5 _ _ _ _).1 Tryz.underlying30 rfl (by kernel_rfl)) rfl ?_
        rw [← HQ.out, HE.out]
        exact ⟨none, 0, 0, rfl, Rd.nil, by rw [HPC.out.1]; exact (HBW.out.trans (HF5.out.noBelow.mono (Nat.le_of_lt (Array.getElem?_eq_some_iff.1 HPR.out).1))).trans (four_setR hP5 _ _ _ _).2, fun _ e => by cases e⟩
    · have hk2 : k = 2 := by omega
      subst hk2
      have HE := Lib.hid (rdA_end HOK.out)
      obtain ⟨m, hm⟩ : ∃ m, cntR S 2 = m := ⟨_, rfl⟩
      rw [hm] at HE HCR HRD
      clear hm hlt
      go_upto_region 11 with fail
      obtain ⟨u0, HU0⟩ : ∃ u, Hid (wr.drew = u) := ⟨_, rfl⟩
      have hxu : Fr No wr u0 := by rw [← HU0.out]; exact Fr.drew No wr
      have hCu := (hxu.block C (Array.getElem?_eq_some_iff.1 HCR.out).1 (fun e => e)).trans HCR.out
      have hPu := (hxu.block P (Array.getElem?_eq_some_iff.1 HPR.out).1 (fun e => e)).trans HPR.out
      have HXU := Lib.hid hxu
      have HCU := Lib.hid hCu
      have HPU := Lib.hid hPu
      have HQW : Hid (∀ W, Fr (fun k => k = P) u0 W → W.cell? ⟨C, 0, none⟩ = some (.int .i64 (m.s : Int)) ∧ W.cell? ⟨C, 1, none⟩ = some (.int .i64 (m.t : Int)) ∧ W.cell? ⟨C, 2, none⟩ = some (.int .i64 (m.c : Int)) ∧ W.cell? ⟨C, 3, none⟩ = some (.slice A n c)) := fun W hW => by
        have hb := (hW.block C (Array.getElem?_eq_some_iff.1 HCU.out).1 (by have := HPC.out; omega)).trans HCU.out
        exact ⟨by unfold World.cell?; rw [hb]; rfl, by unfold World.cell?; rw [hb]; rfl, by unfold World.cell?; rw [hb]; rfl, by unfold World.cell?; rw [hb]; rfl⟩
      have hbd : decide ((0 : Int) < (m.s : Int)) = decide (0 < m.s) := by
        by_cases h0 : 0 < m.s
        · rw [decide_eq_true h0, decide_eq_true (by omega)]
        · rw [decide_eq_false h0, decide_eq_false (by omega)]
      have p0 : u0.cell? ⟨P, 0, none⟩ = some (.int .i64 0) := by unfold World.cell?; rw [hPu]; rfl
      have p1 : u0.cell? ⟨P, 1, none⟩ = some (.int .i64 0) := by unfold World.cell?; rw [hPu]; rfl
      have p2 : u0.cell? ⟨P, 2, none⟩ = some (.int .i64 0) := by unfold World.cell?; rw [hPu]; rfl
      have p3 : u0.cell? ⟨P, 3, none⟩ = some (.slice none 0 0) := by unfold World.cell?; rw [hPu]; rfl
      have z0 : u0.frozen? ⟨P, 0, none⟩ = false := by unfold World.frozen?; rw [hPu]; rfl
      have z1 : u0.frozen? ⟨P, 1, none⟩ = false := by unfold World.frozen?; rw [hPu]; rfl
      have z2 : u0.frozen? ⟨P, 2, none⟩ = false := by unfold World.frozen?; rw [hPu]; rfl
      have z3 : u0.frozen? ⟨P, 3, none⟩ = false := by unfold World.frozen?; rw [hPu]; rfl
      have H4 := Lib.hid (four_setR hPu (.int .i64 (m.s : Int)) (.int .i64 (m.t : Int)) (.int .i64 (m.c : Int)) (.slice A n c))
      have HF4 : Hid (Fr (fun k => k = P) u0 ((((u0.setCell ⟨P, 0, none⟩ (.int .i64 (m.s : Int))).setCell ⟨P, 1, none⟩ (.int .i64 (m.t : Int))).setCell ⟨P, 2, none⟩ (.int .i64 (m.c : Int))).setCell ⟨P, 3, none⟩ (.slice A n c))) :=
        (((Fr.setCell u0 ⟨P, 0, none⟩ _ (F := fun k => k = P) rfl).trans (Fr.setCell _ ⟨P, 1, none⟩ _ (F := fun k => k = P) rfl) (fun _ _ e => e)).trans (Fr.setCell _ ⟨P, 2, none⟩ _ (F := fun k => k = P) rfl) (fun _ _ e => e)).trans (Fr.setCell _ ⟨P, 3, none⟩ _ (F := fun k => k = P) rfl) (fun _ _ e => e)
      clear hxu hCu hPu
      refine wp_region_held_drew (S := fun W => Fr (fun k => k = P) u0 W) (by kernel_rfl) (by rw [HU0.out]; exact Fr.refl _ _) (fun hHeld => ?_)
      rw [HU0.out] at hHeld ⊢
      refine wpAnyH_take (i := 0) (oi := _) (v := .agg #[.int .i64 (m.s : Int), .int .i64 (m.t : Int), .int .i64 (m.c : Int), .slice A n c]) rfl (by kernel_rfl) (by kernel_rfl) (by kernel_rfl) (fun _ _ _ h => h) (Or.inl ⟨by rfl, fun W hS => by obtain ⟨q0, q1, q2, q3⟩ := HQW.out W hS; go_simp⟩) hHeld ?_
      try simp only [Act.put, List.getElem_toArray, List.getElem_cons_zero, List.setIfInBounds_toArray, List.set_cons_zero, List.set_cons_succ]
      refine wpAnyH_take (i := 1) (oi := _) (v := .pointer (some ⟨C, 0, none⟩)) rfl (by kernel_rfl) (by kernel_rfl) (by kernel_rfl) (fun _ _ _ h => h) (Or.inl ⟨by rfl, fun W hS => by rfl⟩) hHeld ?_
      try simp only [Act.put, List.getElem_toArray, List.getElem_cons_zero, List.getElem_cons_succ, List.setIfInBounds_toArray, List.set_cons_zero, List.set_cons_succ]
      refine wpAnyH_take (i := 2) (oi := _) (v := .int .i64 (m.s : Int)) rfl (by kernel_rfl) (by kernel_rfl) (by kernel_rfl) (fun _ _ _ h => h) (Or.inl ⟨by rfl, fun W hS => by obtain ⟨q0, q1, q2, q3⟩ := HQW.out W hS; go_simp⟩) hHeld ?_
      try simp only [Act.put, List.getElem_toArray, List.getElem_cons_zero, List.getElem_cons_succ, List.setIfInBounds_toArray, List.set_cons_zero, List.set_cons_succ]
      refine wpAnyH_take (i := 3) (oi := _) (v := .bool (decide (0 < m.s))) rfl (by kernel_rfl) (by kernel_rfl) (by kernel_rfl) (fun _ _ _ h => h) (Or.inl ⟨by rfl, fun W hS => by rw [← hbd]; go_simp⟩) hHeld ?_
      try simp only [Act.put, List.getElem_toArray, List.getElem_cons_zero, List.getElem_cons_succ, List.setIfInBounds_toArray, List.set_cons_zero, List.set_cons_succ]
      refine wpAnyH_ready (rs := [4]) (by kernel_rfl) (by simp) ?_
      refine AllReadyH.cons (o := _) rfl (fun K hK => ?_) AllReadyH.nil
      rw [if_pos (by rfl)]
      go_wp2_with fail
      refine hK.out _ _ (hHeld.trans HF4.out (fun _ _ e => e)) (fun hHeld => ?_)
      clear hK K
      try simp only [Act.put, List.getElem_toArray, List.getElem_cons_zero, List.getElem_cons_succ, List.setIfInBounds_toArray, List.set_cons_zero, List.set_cons_succ]
      refine wpAnyH_take (i := 5) (oi := _) (v := .bool (decide (0 < m.s))) rfl (by kernel_rfl) (by kernel_rfl) (by kernel_rfl) (fun _ _ _ h => h) (Or.inl ⟨by rfl, fun W hS => by rfl⟩) hHeld ?_
      try simp only [Act.put, List.getElem_toArray, List.getElem_cons_zero, List.getElem_cons_succ, List.setIfInBounds_toArray, List.set_cons_zero, List.set_cons_succ]
      refine wpAnyH_take (i := 6) (oi := _) (v := .int .i64 0) rfl (by kernel_rfl) (by kernel_rfl) (by kernel_rfl) (fun _ _ _ h => h) (Or.inl ⟨by rfl, fun W hS => by rfl⟩) hHeld ?_
      try simp only [Act.put, List.getElem_toArray, List.getElem_cons_zero, List.getElem_cons_succ, List.setIfInBounds_toArray, List.set_cons_zero, List.set_cons_succ]
      refine wpAnyH_done (by kernel_rfl) ?_ _
      clear hHeld
      go_wp2_with fail
      refine bodyPost_ret (results_cell_tmp2_row (p := 2) rfl _ _ P 30 #[.int .i64 (m.s : Int), .int .i64 (m.t : Int), .int .i64 (m.c : Int), .slice A n c] (0, 0) _ rfl H4.out.1 Tryz.underlying30 rfl (by kernel_rfl)) rfl ?_
      rw [← HQ.out, HE.out]
      have hru := rd_offR HXU.out HRD.out (fun _ _ _ e => e)
      exact ⟨A, n, c, rfl, rd_offR HF4.out hru (fun h0 a ha e => rd_noroot hru HPU.out h0 a ha e), by rw [HPC.out.1]; exact (HBW.out.trans (HXU.out.noBelow.mono (Nat.le_of_lt (Array.getElem?_eq_some_iff.1 HPR.out).1))).trans H4.out.2, fun a ha => by rw [HPC.out.1]; exact HNA.out a ha⟩
theorem read_any {w : World} {D M : Nat} {s : St} (h : Dsk w D M s) (ht : Tab w) (hl : ∀ f ∈ s.fs, f.bs.length ≤ 20000) :
    Calls Tryz.prog 11 #[.pointer (some ⟨D, 0, none⟩)] w (Rdp w (rdA s.ab)) :=
  (read_anyN h ht hl).mono fun _ _ ⟨A, n, c, h1, h2, h3, _⟩ => ⟨A, n, c, h1, h2, h3⟩
end Go.Proofs.YtggejecmhfafoaaGreatDoor
namespace Go.Proofs.YtggejecmhfafoaaGreatDoor
open Go.RowKit Go.Maps

/-- The name of a root that does not count yet. -/
def nmN : List UInt8 := [114, 111, 111, 116, 46, 110, 101, 119]
def nmNb : ByteArray := ⟨#[114, 111, 111, 116, 46, 110, 101, 119]⟩
theorem nmN_list : nmNb.data.toList = nmN := rfl
theorem nmN_size : nmNb.size ≤ maxLen := by
  have e : nmNb.size = 8 := rfl
  unfold maxLen
  omega
/-- A file is removed, if it is there. -/
def rmA (S : Ab) (nm : List UInt8) : Int × Ab := if (S.remove nm).1 = 13 then (0, (S.remove nm).2) else S.remove nm
set_option maxRecDepth 100000 in
theorem rmif_any {w : World} {D M : Nat} {s : St} (h : Dsk w D M s) (nm : ByteArray) (hs : nm.size ≤ maxLen) :
    Calls Tryz.prog 40 #[.pointer (some ⟨D, 0, none⟩), .string nm] w (Abs D M w s (rmA s.ab nm.data.toList)) := by
  have C := Lib.hid (remove_ab h nm hs)
  obtain ⟨x, S', hx⟩ : ∃ x S', s.ab.remove nm.data.toList = (x, S') := ⟨_, _, rfl⟩
  rw [hx] at C
  have HR := Lib.hid (show rmA s.ab nm.data.toList = if x = 13 then (0, S') else (x, S') by unfold rmA; rw [hx])
  clear h hs hx
  go_enter Tryz.func40, Tryz.ntmps40
  go_wp2_with fail
  refine C.out.mono ?_
  rintro e w1 ⟨s1, rfl, hN, hab⟩
  have HN := Lib.hid hN
  have HA := Lib.hid hab
  clear hN hab
  simp only
  by_cases h13 : x = 13
  · have HR2 := Lib.hid (show rmA s.ab nm.data.toList = (0, S') by rw [HR.out, if_pos h13])
    have hb : (x != 13) = false := by rw [bne_eq_false_iff_eq]; exact h13
    clear h13
    go_wp2_with fail
    go_ret
    exact ⟨s1, by rw [HR2.out]; rfl, HN.out, by rw [HR2.out]; exact HA.out⟩
  · have hb : (x != 13) = true := by rw [bne_iff_ne]; exact h13
    have HR2 := Lib.hid (show rmA s.ab nm.data.toList = (x, S') by rw [HR.out, if_neg h13])
    clear h13
    go_wp2_with fail
    go_ret
    exact ⟨s1, by rw [HR2.out]; rfl, HN.out, by rw [HR2.out]; exact HA.out⟩
set_option maxRecDepth 100000 in
theorem step1_any {w : World} {D M B0 : Nat} {s : St} (h : Dsk w D M s) (h0 : w.cell? ⟨B0, 0, none⟩ = some (.pointer (some ⟨D, 0, none⟩))) :
    Calls Tryz.prog 39 #[.pointer (some ⟨B0, 0, none⟩)] w (Abs D M w s (rmA s.ab nmN)) := by
  have C := Lib.hid (rmif_any h nmNb nmN_size)
  clear h
  go_enter Tryz.func39, Tryz.ntmps39
  go_wp2_with fail
  refine C.out.mono ?_
  rintro e w1 ⟨s1, rfl, hN, hab⟩
  have HN := Lib.hid hN
  clear hN
  simp only
  go_wp2_with fail
  go_ret
  exact ⟨s1, rfl, HN.out, hab⟩
set_option maxRecDepth 100000 in
theorem step2_any {w : World} {D M B0 B1 n c : Nat} {B : Option Addr} {l : List UInt8} {s : St} (h : Dsk w D M s) (h0 : w.cell? ⟨B0, 0, none⟩ = some (.pointer (some ⟨D, 0, none⟩))) (h1 : w.cell? ⟨B1, 0, none⟩ = some (.slice B n c)) (hr : Rd w w.heap.size B n l) :
    Calls Tryz.prog 41 #[.pointer (some ⟨B0, 0, none⟩), .pointer (some ⟨B1, 0, none⟩)] w (Abs D M w s (s.ab.append nmN l)) := by
  have C := Lib.hid (append_ab h nmNb nmN_size B n c l hr)
  clear h hr
  go_enter Tryz.func41, Tryz.ntmps41
  go_wp2_with fail
  refine C.out.mono ?_
  rintro e w1 ⟨s1, rfl, hN, hab⟩
  have HN := Lib.hid hN
  clear hN
  simp only
  go_wp2_with fail
  go_ret
  exact ⟨s1, rfl, HN.out, hab⟩
set_option maxRecDepth 100000 in
theorem step3_any {w : World} {D M B0 : Nat} {s : St} (h : Dsk w D M s) (h0 : w.cell? ⟨B0, 0, none⟩ = some (.pointer (some ⟨D, 0, none⟩))) :
    Calls Tryz.prog 42 #[.pointer (some ⟨B0, 0, none⟩)] w (Abs D M w s (s.ab.sync nmN)) := by
  have C := Lib.hid (sync_ab h nmNb nmN_size)
  clear h
  go_enter Tryz.func42, Tryz.ntmps42
  go_wp2_with fail
  refine C.out.mono ?_
  rintro e w1 ⟨s1, rfl, hN, hab⟩
  have HN := Lib.hid hN
  clear hN
  simp only
  go_wp2_with fail
  go_ret
  exact ⟨s1, rfl, HN.out, hab⟩
set_option maxRecDepth 100000 in
theorem step4_any {w : World} {D M B0 B1 : Nat} {s : St} (nm : ByteArray) (hs : nm.size ≤ maxLen) (h : Dsk w D M s) (h0 : w.cell? ⟨B0, 0, none⟩ = some (.pointer (some ⟨D, 0, none⟩))) (h1 : w.cell? ⟨B1, 0, none⟩ = some (.string nm)) :
    Calls Tryz.prog 44 #[.pointer (some ⟨B0, 0, none⟩), .pointer (some ⟨B1, 0, none⟩)] w (Abs D M w s (s.ab.rename nmN nm.data.toList)) := by
  have C := Lib.hid (rename_ab h nmNb nm nmN_size hs)
  clear h hs
  go_enter Tryz.func44, Tryz.ntmps44
  go_wp2_with fail
  refine C.out.mono ?_
  rintro e w1 ⟨s1, rfl, hN, hab⟩
  have HN := Lib.hid hN
  clear hN
  simp only
  go_wp2_with fail
  go_ret
  exact ⟨s1, rfl, HN.out, hab⟩
/-- The k-th step of writing a file, and the first k. -/
def stA (nm l : List UInt8) : Nat → Ab → Int × Ab
  | 0, S => rmA S nmN
  | 1, S => S.append nmN l
  | 2, S => S.sync nmN
  | _, S => S.rename nmN nm
def wfA (nm l : List UInt8) (S : Ab) : Nat → Int × Ab
  | 0 => (0, S)
  | k + 1 => if (wfA nm l S k).1 ≠ 0 then wfA nm l S k else stA nm l k (wfA nm l S k).2
theorem wfA_stop {nm l : List UInt8} {S : Ab} {k : Nat} (h : (wfA nm l S k).1 ≠ 0) : ∀ j, k ≤ j → wfA nm l S j = wfA nm l S k
  | 0, hj => by rw [show k = 0 by omega]
  | j + 1, hj => by
    by_cases e : k = j + 1
    · rw [e]
    · have h1 := wfA_stop h j (by omega)
      show (if (wfA nm l S j).1 ≠ 0 then wfA nm l S j else _) = _
      rw [h1, if_pos h]
/-- The steps as they stand in memory. -/
def fnR (B0 B1 B2 : Nat) : Nat → Value
  | 0 => .func (.func 39) #[] #[.pointer (some ⟨B0, 0, none⟩)]
  | 1 => .func (.func 41) #[] #[.pointer (some ⟨B0, 0, none⟩), .pointer (some ⟨B2, 0, none⟩)]
  | 2 => .func (.func 42) #[] #[.pointer (some ⟨B0, 0, none⟩)]
  | _ => .func (.func 44) #[] #[.pointer (some ⟨B0, 0, none⟩), .pointer (some ⟨B1, 0, none⟩)]
theorem nx_cell {D M : Nat} {w w' : World} {s s' : St} (hN : Nx D M w s w' s') {p : Addr} {v : Value} (hc : w.cell? p = some v) (h : ¬ foot D M s.fs p.block) : w'.cell? p = some v := hN.2.1.cell hc h
set_option maxHeartbeats 4000000 in
set_option maxRecDepth 100000 in
theorem writefile_any {w : World} {D M : Nat} {s : St} (h : Dsk w D M s) (nm : ByteArray) (hs : nm.size ≤ maxLen) (B : Option Addr) (n c : Nat) (l : List UInt8) (hr : Rd w w.heap.size B n l) (hB : 0 < n → ∀ a, B = some a → ¬ foot D M s.fs a.block) :
    Calls Tryz.prog 20 #[.pointer (some ⟨D, 0, none⟩), .string nm, .slice B n c] w (Abs D M w s (wfA nm.data.toList l s.ab 4)) := by
  have H := Lib.hid h
  have HR := Lib.hid hr
  have HB := Lib.hid hB
  have HS := Lib.hid hs
  obtain ⟨w1, HW1⟩ : ∃ u, Hid ((((w.alloc (.cells #[.pointer (some ⟨D, 0, none⟩)] 24)).alloc (.cells #[.string nm] 9)).alloc (.cells #[.slice B n c] 28)).alloc (.cells #[.func (.func 39) #[] #[.pointer (some ⟨w.heap.size, 0, none⟩)], .func (.func 41) #[] #[.pointer (some ⟨w.heap.size, 0, none⟩), .pointer (some ⟨w.heap.size + 1 + 1, 0, none⟩)], .func (.func 42) #[] #[.pointer (some ⟨w.heap.size, 0, none⟩)], .func (.func 44) #[] #[.pointer (some ⟨w.heap.size, 0, none⟩), .pointer (some ⟨w.heap.size + 1, 0, none⟩)]] 68) = u) := ⟨_, rfl⟩
  have HF1 : Hid (Fr No w w1) := by
    rw [← HW1.out]
    exact (((Fr.alloc No w _).no_trans (Fr.alloc No _ _)).no_trans (Fr.alloc No _ _)).no_trans (Fr.alloc No _ _)
  have HSZ : Hid (w1.heap.size = w.heap.size + 4) := by
    show w1.heap.size = w.heap.size + 4
    rw [← HW1.out, World.size_alloc, World.size_alloc, World.size_alloc, World.size_alloc]
  have HB0 : Hid (w1.heap[w.heap.size]? = some (.cells #[.pointer (some ⟨D, 0, none⟩)] 24 (0, 0))) := by
    show _ = _
    rw [← HW1.out]
    exact (Below.heap_alloc _ _ _ (by simp; omega)).trans ((Below.heap_alloc _ _ _ (by simp; omega)).trans ((Below.heap_alloc _ _ _ (by simp)).trans (heap_alloc_new w _)))
  have HB1 : Hid (w1.heap[w.heap.size + 1]? = some (.cells #[.string nm] 9 (0, 0))) := by
    show _ = _
    rw [← HW1.out]
    exact (Below.heap_alloc _ _ _ (by simp)).trans ((Below.heap_alloc _ _ _ (by simp)).trans (heap2R w _ _))
  have HB2 : Hid (w1.heap[w.heap.size + 1 + 1]? = some (.cells #[.slice B n c] 28 (0, 0))) := by
    show _ = _
    rw [← HW1.out]
    have h2 := heap2R (w.alloc (.cells #[.pointer (some ⟨D, 0, none⟩)] 24)) (.cells #[.string nm] 9) (.cells #[.slice B n c] 28)
    rw [World.size_alloc] at h2
    exact (Below.heap_alloc _ _ _ (by simp)).trans h2
  have HB3 : Hid (∀ k, k < 4 → w1.cell? ⟨w.heap.size + 1 + 1 + 1, k, none⟩ = some (fnR w.heap.size (w.heap.size + 1) (w.heap.size + 1 + 1) k)) := fun k hk => by
    rw [← HW1.out]
    have h2 := heap2R ((w.alloc (.cells #[.pointer (some ⟨D, 0, none⟩)] 24)).alloc (.cells #[.string nm] 9)) (.cells #[.slice B n c] 28) (.cells #[fnR w.heap.size (w.heap.size + 1) (w.heap.size + 1 + 1) 0, fnR w.heap.size (w.heap.size + 1) (w.heap.size + 1 + 1) 1, fnR w.heap.size (w.heap.size + 1) (w.heap.size + 1 + 1) 2, fnR w.heap.size (w.heap.size + 1) (w.heap.size + 1 + 1) 3] 68)
    rw [World.size_alloc, World.size_alloc] at h2
    unfold World.cell?
    have e : ∀ v : Obj, (((((w.alloc (.cells #[.pointer (some ⟨D, 0, none⟩)] 24)).alloc (.cells #[.string nm] 9)).alloc (.cells #[.slice B n c] 28)).alloc v).heap[w.heap.size + 1 + 1 + 1]?) = some v := fun v => by
      have h3 := heap2R ((w.alloc (.cells #[.pointer (some ⟨D, 0, none⟩)] 24)).alloc (.cells #[.string nm] 9)) (.cells #[.slice B n c] 28) v
      rw [World.size_alloc, World.size_alloc] at h3
      exact h3
    simp only [e]
    match k, hk with
    | 0, _ => rfl
    | 1, _ => rfl
    | 2, _ => rfl
    | 3, _ => rfl
  clear h hr hB hs
  go_enter Tryz.func20, Tryz.ntmps20
  go_upto_region 3 with fail
  rw [HW1.out]
  obtain ⟨P, HP⟩ : ∃ P, Hid (w.heap.size = P) := ⟨_, rfl⟩
  rw [HP.out] at HSZ HB0 HB1 HB2 HB3 ⊢
  obtain ⟨Q1, HQ1⟩ : ∃ Q, Hid (P + 1 = Q) := ⟨_, rfl⟩
  rw [HQ1.out] at HB1 HB2 HB3 ⊢
  obtain ⟨Q2, HQ2⟩ : ∃ Q, Hid (Q1 + 1 = Q) := ⟨_, rfl⟩
  rw [HQ2.out] at HB2 HB3 ⊢
  obtain ⟨Q3, HQ3⟩ : ∃ Q, Hid (Q2 + 1 = Q) := ⟨_, rfl⟩
  rw [HQ3.out] at HB3 ⊢
  have HNF : Hid (∀ j, P ≤ j → ¬ foot D M s.fs j) := fun j hj hk => by have := H.out.foot_lt hk; have := HP.out; omega
  go_wp2_with fail
  go_loopw [18] (fun v18 wr => ∃ (k : Nat) (s1 : St), k ≤ 4 ∧ v18 = .int .i64 (k : Int) ∧ (wfA nm.data.toList l s.ab k).1 = 0 ∧ Nx D M w1 s wr s1 ∧ s1.ab = (wfA nm.data.toList l s.ab k).2) (fun v18 _ => 4 - (intOf v18).toNat)
  case atStart => exact ⟨0, s, by omega, rfl, rfl, Nx.refl (H.out.no HF1.out), rfl⟩
  case round =>
    obtain ⟨k, s1, hk, rfl, hz, hN, hab⟩ := hrel
    have HN := Lib.hid hN
    have HZ := Lib.hid hz
    have HA := Lib.hid hab
    have HD := Lib.hid hN.1
    have HRB := Lib.hid (rd_offR hN.2.1 (rd_offR HF1.out HR.out (fun _ _ _ e => e)) (fun h0 a ha => HB.out h0 a ha))
    have b0 : wr.cell? ⟨P, 0, none⟩ = some (.pointer (some ⟨D, 0, none⟩)) := nx_cell hN (by unfold World.cell?; rw [HB0.out]; rfl) (HNF.out P (Nat.le_refl _))
    have b1 : wr.cell? ⟨Q1, 0, none⟩ = some (.string nm) := nx_cell hN (by unfold World.cell?; rw [HB1.out]; rfl) (HNF.out Q1 (by have := HQ1.out; omega))
    have b2 : wr.cell? ⟨Q2, 0, none⟩ = some (.slice B n c) := nx_cell hN (by unfold World.cell?; rw [HB2.out]; rfl) (HNF.out Q2 (by have := HQ1.out; have := HQ2.out; omega))
    by_cases hlt : k < 4
    · have b3 := nx_cell hN (HB3.out k hlt) (HNF.out Q3 (by have := HQ1.out; have := HQ2.out; have := HQ3.out; omega))
      clear hN hz hab
      have hk4 : k = 0 ∨ k = 1 ∨ k = 2 ∨ k = 3 := by omega
      rcases hk4 with rfl | rfl | rfl | rfl
      · simp only [fnR] at b3
        have HSTEP := Lib.hid (show Calls Tryz.prog _ _ wr (Abs D M wr s1 (stA nm.data.toList l 0 s1.ab)) from step1_any HD.out b0)
        obtain ⟨x, S', hx⟩ : ∃ x S', stA nm.data.toList l 0 s1.ab = (x, S') := ⟨_, _, rfl⟩
        rw [hx] at HSTEP
        have HX := Lib.hid hx
        clear hx b0 b1 b2
        go_wp2_with fail
        refine HSTEP.out.mono ?_
        rintro e w5 ⟨s5, rfl, hN5, hab5⟩
        have HN5 := Lib.hid (HN.out.trans hN5)
        have HA5 := Lib.hid hab5
        have HK := Lib.hid (show wfA nm.data.toList l s.ab 1 = (x, S') by
          show (if (wfA nm.data.toList l s.ab 0).1 ≠ 0 then wfA nm.data.toList l s.ab 0 else stA nm.data.toList l 0 (wfA nm.data.toList l s.ab 0).2) = _
          rw [if_neg (fun e => e HZ.out), ← HA.out]
          exact HX.out)
        clear hN5 hab5
        simp only
        by_cases h0 : x = 0
        · subst h0
          go_wp2_with fail
          go_roundw
          case rel => exact ⟨1, s5, by omega, by go_num, by rw [HK.out], HN5.out, by rw [HK.out]; exact HA5.out⟩
          case measure => simp [intOf]
        · have hb : (x != 0) = true := by rw [bne_iff_ne]; exact h0
          have HST := Lib.hid (show wfA nm.data.toList l s.ab 4 = (x, S') by rw [← HK.out]; exact wfA_stop (by rw [HK.out]; exact h0) 4 (by omega))
          clear h0
          go_wp2_with fail
          go_ret
          exact ⟨s5, by rw [HST.out]; rfl, (Nx.no H.out HF1.out).trans HN5.out, by rw [HST.out]; exact HA5.out⟩
      · simp only [fnR] at b3
        have HSTEP := Lib.hid (show Calls Tryz.prog _ _ wr (Abs D M wr s1 (stA nm.data.toList l 1 s1.ab)) from step2_any HD.out b0 b2 HRB.out)
        obtain ⟨x, S', hx⟩ : ∃ x S', stA nm.data.toList l 1 s1.ab = (x, S') := ⟨_, _, rfl⟩
        rw [hx] at HSTEP
        have HX := Lib.hid hx
        clear hx b0 b1 b2
        go_wp2_with fail
        refine HSTEP.out.mono ?_
        rintro e w5 ⟨s5, rfl, hN5, hab5⟩
        have HN5 := Lib.hid (HN.out.trans hN5)
        have HA5 := Lib.hid hab5
        have HK := Lib.hid (show wfA nm.data.toList l s.ab 2 = (x, S') by
          show (if (wfA nm.data.toList l s.ab 1).1 ≠ 0 then wfA nm.data.toList l s.ab 1 else stA nm.data.toList l 1 (wfA nm.data.toList l s.ab 1).2) = _
          rw [if_neg (fun e => e HZ.out), ← HA.out]
          exact HX.out)
        clear hN5 hab5
        simp only
        by_cases h0 : x = 0
        · subst h0
          go_wp2_with fail
          go_roundw
          case rel => exact ⟨2, s5, by omega, by go_num, by rw [HK.out], HN5.out, by rw [HK.out]; exact HA5.out⟩
          case measure => simp [intOf]
        · have hb : (x != 0) = true := by rw [bne_iff_ne]; exact h0
          have HST := Lib.hid (show wfA nm.data.toList l s.ab 4 = (x, S') by rw [← HK.out]; exact wfA_stop (by rw [HK.out]; exact h0) 4 (by omega))
          clear h0
          go_wp2_with fail
          go_ret
          exact ⟨s5, by rw [HST.out]; rfl, (Nx.no H.out HF1.out).trans HN5.out, by rw [HST.out]; exact HA5.out⟩
      · simp only [fnR] at b3
        have HSTEP := Lib.hid (show Calls Tryz.prog _ _ wr (Abs D M wr s1 (stA nm.data.toList l 2 s1.ab)) from step3_any HD.out b0)
        obtain ⟨x, S', hx⟩ : ∃ x S', stA nm.data.toList l 2 s1.ab = (x, S') := ⟨_, _, rfl⟩
        rw [hx] at HSTEP
        have HX := Lib.hid hx
        clear hx b0 b1 b2
        go_wp2_with fail
        refine HSTEP.out.mono ?_
        rintro e w5 ⟨s5, rfl, hN5, hab5⟩
        have HN5 := Lib.hid (HN.out.trans hN5)
        have HA5 := Lib.hid hab5
        have HK := Lib.hid (show wfA nm.data.toList l s.ab 3 = (x, S') by
          show (if (wfA nm.data.toList l s.ab 2).1 ≠ 0 then wfA nm.data.toList l s.ab 2 else stA nm.data.toList l 2 (wfA nm.data.toList l s.ab 2).2) = _
          rw [if_neg (fun e => e HZ.out), ← HA.out]
          exact HX.out)
        clear hN5 hab5
        simp only
        by_cases h0 : x = 0
        · subst h0
          go_wp2_with fail
          go_roundw
          case rel => exact ⟨3, s5, by omega, by go_num, by rw [HK.out], HN5.out, by rw [HK.out]; exact HA5.out⟩
          case measure => simp [intOf]
        · have hb : (x != 0) = true := by rw [bne_iff_ne]; exact h0
          have HST := Lib.hid (show wfA nm.data.toList l s.ab 4 = (x, S') by rw [← HK.out]; exact wfA_stop (by rw [HK.out]; exact h0) 4 (by omega))
          clear h0
          go_wp2_with fail
          go_ret
          exact ⟨s5, by rw [HST.out]; rfl, (Nx.no H.out HF1.out).trans HN5.out, by rw [HST.out]; exact HA5.out⟩
      · simp only [fnR] at b3
        have HSTEP := Lib.hid (show Calls Tryz.prog _ _ wr (Abs D M wr s1 (stA nm.data.toList l 3 s1.ab)) from step4_any nm HS.out HD.out b0 b1)
        obtain ⟨x, S', hx⟩ : ∃ x S', stA nm.data.toList l 3 s1.ab = (x, S') := ⟨_, _, rfl⟩
        rw [hx] at HSTEP
        have HX := Lib.hid hx
        clear hx b0 b1 b2
        go_wp2_with fail
        refine HSTEP.out.mono ?_
        rintro e w5 ⟨s5, rfl, hN5, hab5⟩
        have HN5 := Lib.hid (HN.out.trans hN5)
        have HA5 := Lib.hid hab5
        have HK := Lib.hid (show wfA nm.data.toList l s.ab 4 = (x, S') by
          show (if (wfA nm.data.toList l s.ab 3).1 ≠ 0 then wfA nm.data.toList l s.ab 3 else stA nm.data.toList l 3 (wfA nm.data.toList l s.ab 3).2) = _
          rw [if_neg (fun e => e HZ.out), ← HA.out]
          exact HX.out)
        clear hN5 hab5
        simp only
        by_cases h0 : x = 0
        · subst h0
          go_wp2_with fail
          go_roundw
          case rel => exact ⟨4, s5, by omega, by go_num, by rw [HK.out], HN5.out, by rw [HK.out]; exact HA5.out⟩
          case measure => simp [intOf]
        · have hb : (x != 0) = true := by rw [bne_iff_ne]; exact h0
          have HST := Lib.hid (show wfA nm.data.toList l s.ab 4 = (x, S') from HK.out)
          clear h0
          go_wp2_with fail
          go_ret
          exact ⟨s5, by rw [HST.out]; rfl, (Nx.no H.out HF1.out).trans HN5.out, by rw [HST.out]; exact HA5.out⟩
    · have hk4 : k = 4 := by omega
      subst hk4
      clear hN hz hab b0 b1 b2 hlt
      go_wp2_with fail
      go_ret
      exact ⟨s1, by rw [HZ.out]; rfl, (Nx.no H.out HF1.out).trans HN.out, HA.out⟩
end Go.Proofs.YtggejecmhfafoaaGreatDoor
namespace Go.Proofs.YtggejecmhfafoaaGreatDoor
open Go.RowKit Go.Maps

theorem rfA_top (S : Ab) (d : Nat) : (rfA S d).1.s ≤ top := by
  unfold rfA
  split
  · exact Nat.zero_le _
  · split
    · exact Nat.zero_le _
    · split
      · exact Nat.zero_le _
      · rename_i h
        obtain ⟨r, e, hp⟩ : ∃ r e, prs (aold (nmR d) S.fs).bs = (r, e) := ⟨_, _, rfl⟩
        rw [hp] at h ⊢
        have he : e = 0 := by
          have h2 : ¬ (e ≠ 0 ∨ r.s % 2 ≠ d) := h
          omega
        subst he
        exact ((right_iff r).1 (prs_tells _ r hp).1).2.1
theorem cntR_top (S : Ab) : ∀ k, (cntR S k).s ≤ top
  | 0 => Nat.zero_le _
  | k + 1 => by
    show (pickR (cntR S k) (rfA S k).1).s ≤ top
    unfold pickR
    split
    · exact rfA_top S k
    · exact cntR_top S k
theorem rdA_top (S : Ab) : (rdA S).1.s ≤ top := by
  unfold rdA
  split
  · exact Nat.zero_le _
  · split
    · exact Nat.zero_le _
    · exact cntR_top S 2
/-- What Write does: the root, the error; the disk. -/
def wrA (S : Ab) (t c : Int) (l : List UInt8) : (Rn × Int) × Ab :=
  if (rdA S).2.2 ≠ 0 then ((Rn.zero, (rdA S).2.2), S)
  else if rgt (((rdA S).1.s + 1 : Nat) : Int) t c = false then ((Rn.zero, 2), S)
  else if (wfA (nmR (((rdA S).1.s + 1) % 2)) (Rn.bytes ⟨(rdA S).1.s + 1, t.toNat, c.toNat, l⟩) S 4).1 ≠ 0 then ((Rn.zero, (wfA (nmR (((rdA S).1.s + 1) % 2)) (Rn.bytes ⟨(rdA S).1.s + 1, t.toNat, c.toNat, l⟩) S 4).1), (wfA (nmR (((rdA S).1.s + 1) % 2)) (Rn.bytes ⟨(rdA S).1.s + 1, t.toNat, c.toNat, l⟩) S 4).2)
  else ((⟨(rdA S).1.s + 1, t.toNat, c.toNat, l⟩, 0), (wfA (nmR (((rdA S).1.s + 1) % 2)) (Rn.bytes ⟨(rdA S).1.s + 1, t.toNat, c.toNat, l⟩) S 4).2)
def Wrp (D M : Nat) (w : World) (s : St) (r : (Rn × Int) × Ab) (e : Ending) (w' : World) : Prop :=
  ∃ s' A n c, e = .returned (.tuple #[.agg #[.int .i64 (r.1.1.s : Int), .int .i64 (r.1.1.t : Int), .int .i64 (r.1.1.c : Int), .slice A n c], .int .i64 r.1.2]) ∧ Rd w' w'.heap.size A n r.1.1.l ∧ Nx D M w s w' s' ∧ s'.ab = r.2
theorem wrp_zero {D M : Nat} {w w' : World} {s s' : St} {x : Int} {S : Ab} (hN : Nx D M w s w' s') (ha : s'.ab = S) :
    Wrp D M w s ((Rn.zero, x), S) (.returned (.tuple #[.agg #[.int .i64 0, .int .i64 0, .int .i64 0, .slice none 0 0], .int .i64 x])) w' := ⟨s', none, 0, 0, rfl, Rd.nil, hN, ha⟩
/-- What Write answers: the blob lies in new memory. -/
def WrpN (D M : Nat) (w : World) (s : St) (r : (Rn × Int) × Ab) (e : Ending) (w' : World) : Prop :=
  ∃ s' A n c, e = .returned (.tuple #[.agg #[.int .i64 (r.1.1.s : Int), .int .i64 (r.1.1.t : Int), .int .i64 (r.1.1.c : Int), .slice A n c], .int .i64 r.1.2]) ∧ Rd w' w'.heap.size A n r.1.1.l ∧ Nx D M w s w' s' ∧ s'.ab = r.2 ∧ (∀ a, A = some a → w.heap.size ≤ a.block)
theorem wrp_zeroN {D M : Nat} {w w' : World} {s s' : St} {x : Int} {S : Ab} (hN : Nx D M w s w' s') (ha : s'.ab = S) :
    WrpN D M w s ((Rn.zero, x), S) (.returned (.tuple #[.agg #[.int .i64 0, .int .i64 0, .int .i64 0, .slice none 0 0], .int .i64 x])) w' := ⟨s', none, 0, 0, rfl, Rd.nil, hN, ha, fun _ e => by cases e⟩
/-- What happens in blocks of the call's own leaves a disk alone. -/
theorem nx_below {D M : Nat} {w w' : World} {s : St} (h : Dsk w D M s) (hb : Below w.heap.size w w') : Nx D M w s w' s := Nx.no h (Fr.of_below hb)
theorem four_setF (w : World) (R : Nat) (x y z u : Value) : Fr (fun k => k = R) w ((((w.setCell ⟨R, 0, none⟩ x).setCell ⟨R, 1, none⟩ y).setCell ⟨R, 2, none⟩ z).setCell ⟨R, 3, none⟩ u) :=
  (((Fr.setCell w ⟨R, 0, none⟩ _ (F := fun k => k = R) rfl).trans (Fr.setCell _ ⟨R, 1, none⟩ _ (F := fun k => k = R) rfl) (fun _ _ e => e)).trans (Fr.setCell _ ⟨R, 2, none⟩ _ (F := fun k => k = R) rfl) (fun _ _ e => e)).trans (Fr.setCell _ ⟨R, 3, none⟩ _ (F := fun k => k = R) rfl) (fun _ _ e => e)
/-- A block of the call's own, turned behind a disk's calls. -/
theorem nx_set {D M : Nat} {w w1 w2 : World} {s s1 : St} {P R : Nat} (hN : Nx D M w s w1 s1) (hP : w.heap.size = P) (hR : P ≤ R) (hF : ¬ foot D M s1.fs R) (hf : Fr (fun k => k = R) w1 w2) : Nx D M w s w2 s1 :=
  ⟨hN.1.keep hf (fun k hk e => hF (e ▸ hk)), hN.2.1.trans hf (fun i hi e => by have e : i = R := e; omega), hN.2.2⟩
set_option maxHeartbeats 8000000 in
set_option maxRecDepth 100000 in
theorem write_anyN {w : World} {D M : Nat} {s : St} (h : Dsk w D M s) (ht : Tab w) (hl : ∀ f ∈ s.fs, f.bs.length ≤ 20000) (a t c : Int) (A : Option Addr) (n k : Nat) (l : List UInt8) (hr : Rd w w.heap.size A n l) (hn : n ≤ 10000)
    (hA : 0 < n → ∀ a, A = some a → ¬ foot D M s.fs a.block) :
    Calls Tryz.prog 8 #[.pointer (some ⟨D, 0, none⟩), .agg #[.int .i64 a, .int .i64 t, .int .i64 c, .slice A n k]] w (WrpN D M w s (wrA s.ab t c l)) := by
  have hf1 := Fr.alloc No w (.cells #[.int .i64 a, .int .i64 t, .int .i64 c, .slice A n k] 30)
  have hf2 := Fr.alloc No (w.alloc (.cells #[.int .i64 a, .int .i64 t, .int .i64 c, .slice A n k] 30)) (.cells #[.int .i64 0, .int .i64 0, .int .i64 0, .slice none 0 0] 30)
  have hb1 : ((w.alloc (.cells #[.int .i64 a, .int .i64 t, .int .i64 c, .slice A n k] 30)).alloc (.cells #[.int .i64 0, .int .i64 0, .int .i64 0, .slice none 0 0] 30)).heap[w.heap.size]? = some (.cells #[.int .i64 a, .int .i64 t, .int .i64 c, .slice A n k] 30 (0, 0)) :=
    (Below.heap_alloc _ _ _ (by simp)).trans (heap_alloc_new w _)
  have hb2 := heap2R w (.cells #[.int .i64 a, .int .i64 t, .int .i64 c, .slice A n k] 30) (.cells #[.int .i64 0, .int .i64 0, .int .i64 0, .slice none 0 0] 30)
  have H := Lib.hid h
  have HT := Lib.hid ht
  have HL := Lib.hid hl
  have HTP := Lib.hid ht.pos
  have HR := Lib.hid hr
  have HA := Lib.hid hA
  have HN := Lib.hid hn
  have HTOP := Lib.hid (rdA_top s.ab)
  obtain ⟨S, HS⟩ : ∃ S, Hid (s.ab = S) := ⟨_, rfl⟩
  rw [HS.out] at HTOP ⊢
  obtain ⟨Q, HQ⟩ : ∃ Q : Ending → World → Prop, Hid (WrpN D M w s (wrA S t c l) = Q) := ⟨_, rfl⟩
  rw [HQ.out]
  have hf12 := hf1.no_trans hf2
  clear h ht hl hr hA hn hf1 hf2
  go_enter Tryz.func8, Tryz.ntmps8
  go_upto_region 1 with fail
  obtain ⟨w2, hw2⟩ : ∃ u, (w.alloc (.cells #[.int .i64 a, .int .i64 t, .int .i64 c, .slice A n k] 30)).alloc (.cells #[.int .i64 0, .int .i64 0, .int .i64 0, .slice none 0 0] 30) = u := ⟨_, rfl⟩
  rw [hw2] at hf12 hb1 hb2 ⊢
  obtain ⟨P, hP⟩ : ∃ P, w.heap.size = P := ⟨_, rfl⟩
  rw [hP] at hb1 hb2 ⊢
  obtain ⟨R, hRR⟩ : ∃ R, P + 1 = R := ⟨_, rfl⟩
  rw [hRR] at hb2 ⊢
  have HF2 := Lib.hid hf12
  have HB1 := Lib.hid hb1
  have HB2 := Lib.hid hb2
  have HPR := Lib.hid (show w.heap.size = P ∧ P + 1 = R ∧ R < w2.heap.size from ⟨hP, hRR, (Array.getElem?_eq_some_iff.1 hb2).1⟩)
  have hrd := read_any (H.out.no HF2.out) (HT.out.keep HF2.out.noBelow HTP.out) HL.out
  rw [HS.out] at hrd
  obtain ⟨m, ok, er, hm⟩ : ∃ m ok er, rdA S = (m, ok, er) := ⟨_, _, _, rfl⟩
  rw [hm] at hrd HTOP
  have HM := Lib.hid hm
  have HRD := Lib.hid hrd
  clear hw2 hP hRR hf12 hb1 hb2 hrd hm
  go_wp2_with fail
  refine HRD.out.mono ?_
  rintro e w3 ⟨A3, n3, c3, rfl, hr3, hb3⟩
  simp only
  have HF3 := Lib.hid (HF2.out.no_trans (Fr.of_below hb3))
  have hfx := Fr.alloc No w3 (.cells #[.int .i64 (m.s : Int), .int .i64 (m.t : Int), .int .i64 (m.c : Int), .slice A3 n3 c3] 30)
  have hgx := heap_alloc_new w3 (.cells #[.int .i64 (m.s : Int), .int .i64 (m.t : Int), .int .i64 (m.c : Int), .slice A3 n3 c3] 30)
  have HB3 := Lib.hid hb3
  clear hr3 hb3
  go_upto_region 2 with fail
  obtain ⟨G, hG⟩ : ∃ G, w3.heap.size = G := ⟨_, rfl⟩
  obtain ⟨w4, hw4⟩ : ∃ u, w3.alloc (.cells #[.int .i64 (m.s : Int), .int .i64 (m.t : Int), .int .i64 (m.c : Int), .slice A3 n3 c3] 30) = u := ⟨_, rfl⟩
  rw [hw4] at hfx hgx ⊢
  rw [hG] at hgx ⊢
  have HF4 := Lib.hid (HF3.out.no_trans hfx)
  have hP4 := (hfx.block P (by have := HPR.out; have := HB3.out.size; omega) (fun e => e)).trans ((HB3.out.block P (by have := HPR.out; omega)).trans HB1.out)
  have hR4 := (hfx.block R (by have := HPR.out; have := HB3.out.size; omega) (fun e => e)).trans ((HB3.out.block R (by have := HPR.out; omega)).trans HB2.out)
  have HG4 := Lib.hid hgx
  have HP4 := Lib.hid hP4
  have HR4 := Lib.hid hR4
  have HGZ := Lib.hid (show R < G ∧ G < w4.heap.size by have h1 := (Array.getElem?_eq_some_iff.1 hgx).1; have := HPR.out; have := HB3.out.size; omega)
  clear hw4 hG hfx
  by_cases he : er = 0
  · subst he
    have u0 : w4.cell? ⟨G, 0, none⟩ = some (.int .i64 (m.s : Int)) := by unfold World.cell?; rw [hgx]; rfl
    have c0 : w4.cell? ⟨P, 0, none⟩ = some (.int .i64 a) := by unfold World.cell?; rw [hP4]; rfl
    have y0 : w4.frozen? ⟨P, 0, none⟩ = false := by unfold World.frozen?; rw [hP4]; rfl
    have hms : m.s ≤ 9007199254740992 := HTOP.out
    obtain ⟨q, hq⟩ : ∃ q : Nat, m.s + 1 = q := ⟨_, rfl⟩
    have hws : IntKind.i64.wrap ((m.s : Int) + 1) = (q : Int) := by
      rw [show ((m.s : Int) + 1) = (q : Int) by omega]
      exact IntWalk.i64_in _ (by omega)
    have HQM := Lib.hid hq
    clear hms hgx hP4 hR4 hq
    go_upto_region 5 with fail
    have hP5 := heap_cells_set w4 P 0 _ _ (.int .i64 (q : Int)) HP4.out
    have hR5 := (Below.heap_setCell w4 ⟨P, 0, none⟩ (.int .i64 (q : Int)) R (show R ≠ P by have := HPR.out; omega)).trans HR4.out
    have hb5 : Below P w4 (w4.setCell ⟨P, 0, none⟩ (.int .i64 (q : Int))) := (Below.refl P w4).setCell (p := ⟨P, 0, none⟩) (Nat.le_refl _) _
    obtain ⟨w5, hw5⟩ : ∃ u, w4.setCell ⟨P, 0, none⟩ (.int .i64 (q : Int)) = u := ⟨_, rfl⟩
    rw [hw5] at hP5 hR5 hb5 ⊢
    have HB5 := Lib.hid (show Below P w w5 by
      have h1 := HF4.out.noBelow
      rw [HPR.out.1] at h1
      exact h1.trans hb5)
    have HP5 : Hid (w5.heap[P]? = some (.cells #[.int .i64 (q : Int), .int .i64 t, .int .i64 c, .slice A n k] 30 (0, 0))) := hP5
    have HR5 := Lib.hid hR5
    have HRL5 := Lib.hid (show Rd w5 w5.heap.size A n l from (HR.out.below (by rw [HPR.out.1]; exact HB5.out)).more (by have := HB5.out.size; omega))
    have HT5 := Lib.hid (HT.out.keep HB5.out (by rw [← HPR.out.1]; exact HTP.out))
    have HS5 := Lib.hid (show R < w5.heap.size from (Array.getElem?_eq_some_iff.1 hR5).1)
    clear hw5 hP5 hR5 hb5 u0 c0 y0 hws
    have c0 : w5.cell? ⟨P, 0, none⟩ = some (.int .i64 (q : Int)) := by unfold World.cell?; rw [HP5.out]; rfl
    have c1 : w5.cell? ⟨P, 1, none⟩ = some (.int .i64 t) := by unfold World.cell?; rw [HP5.out]; rfl
    have c2 : w5.cell? ⟨P, 2, none⟩ = some (.int .i64 c) := by unfold World.cell?; rw [HP5.out]; rfl
    have c3 : w5.cell? ⟨P, 3, none⟩ = some (.slice A n k) := by unfold World.cell?; rw [HP5.out]; rfl
    cases hg : rgt (q : Int) t c with
    | false =>
      have HBB := Lib.hid (bytes_bad (q : Int) t c A n k w5 hg)
      have HE := Lib.hid (show wrA S t c l = ((Rn.zero, 2), S) by
        unfold wrA
        rw [HM.out]
        simp only
        rw [if_neg (by simp), HQM.out, if_pos hg])
      clear hg
      go_wp2_with fail
      refine HBB.out.mono ?_
      rintro e w6 ⟨rfl, hb6⟩
      have hR6 := (hb6.block R HS5.out).trans HR5.out
      have HB6 := Lib.hid (HB5.out.trans (hb6.mono (by have := HPR.out; have := HS5.out; omega)))
      clear hb6 c0 c1 c2 c3
      have p0 : w6.cell? ⟨R, 0, none⟩ = some (.int .i64 0) := by unfold World.cell?; rw [hR6]; rfl
      have p1 : w6.cell? ⟨R, 1, none⟩ = some (.int .i64 0) := by unfold World.cell?; rw [hR6]; rfl
      have p2 : w6.cell? ⟨R, 2, none⟩ = some (.int .i64 0) := by unfold World.cell?; rw [hR6]; rfl
      have p3 : w6.cell? ⟨R, 3, none⟩ = some (.slice none 0 0) := by unfold World.cell?; rw [hR6]; rfl
      have z0 : w6.frozen? ⟨R, 0, none⟩ = false := by unfold World.frozen?; rw [hR6]; rfl
      have z1 : w6.frozen? ⟨R, 1, none⟩ = false := by unfold World.frozen?; rw [hR6]; rfl
      have z2 : w6.frozen? ⟨R, 2, none⟩ = false := by unfold World.frozen?; rw [hR6]; rfl
      have z3 : w6.frozen? ⟨R, 3, none⟩ = false := by unfold World.frozen?; rw [hR6]; rfl
      go_wp2_with fail
      refine bodyPost_ret (results_cell_tmp_row (p := 4) rfl _ _ R 30 #[.int .i64 0, .int .i64 0, .int .i64 0, .slice none 0 0] (0, 0) _ rfl (four_setR hR6 _ _ _ _).1 Tryz.underlying30 rfl (by kernel_rfl)) rfl ?_
      rw [← HQ.out, HE.out]
      exact wrp_zeroN (nx_below H.out (by rw [HPR.out.1]; exact HB6.out.trans ((four_setR hR6 _ _ _ _).2.mono (by have := HPR.out; omega)))) HS.out
    | true =>
      have hrg : 1 ≤ (q : Int) ∧ (q : Int) ≤ 9007199254740992 ∧ 0 ≤ t ∧ t ≤ 9007199254740992 ∧ 0 ≤ c ∧ c ≤ 9007199254740992 := by
        unfold rgt at hg
        simp only [Bool.and_eq_true, decide_eq_true_eq] at hg
        omega
      obtain ⟨t', ht'⟩ : ∃ t', t.toNat = t' := ⟨_, rfl⟩
      obtain ⟨c', hc'⟩ : ∃ c', c.toNat = c' := ⟨_, rfl⟩
      have et : t = (t' : Int) := by omega
      have ec : c = (c' : Int) := by omega
      obtain ⟨r, hrr⟩ : ∃ r : Rn, (⟨q, t', c', l⟩ : Rn) = r := ⟨_, rfl⟩
      have hright : r.right = true := by
        rw [← hrr]
        refine (right_iff _).2 ?_
        show 1 ≤ q ∧ q ≤ 9007199254740992 ∧ t' ≤ 9007199254740992 ∧ c' ≤ 9007199254740992
        omega
      have hbo := bytes_ok r hright A n k w5 (by rw [← hrr]; exact HRL5.out) HN.out HT5.out
      have HBO : Hid (Calls Tryz.prog 19 #[.agg #[.int .i64 (q : Int), .int .i64 t, .int .i64 c, .slice A n k]] w5 fun e w' => ∃ v, e = .returned (.tuple #[v, .int .i64 0]) ∧ Put w5.heap.size w5 r.bytes (.returned v) w') := by
        have h1 := hbo
        rw [← hrr] at h1
        rw [et, ec, ← hrr]
        exact h1
      have HWR := Lib.hid (show wrA S t c l = if (wfA (nmR (q % 2)) r.bytes S 4).1 ≠ 0 then ((Rn.zero, (wfA (nmR (q % 2)) r.bytes S 4).1), (wfA (nmR (q % 2)) r.bytes S 4).2) else ((r, 0), (wfA (nmR (q % 2)) r.bytes S 4).2) by
        unfold wrA
        rw [HM.out]
        simp only
        rw [if_neg (by simp), HQM.out, if_neg (by rw [hg]; simp), ht', hc', hrr])
      have HRV := Lib.hid (show r.s = q ∧ (r.t : Int) = t ∧ (r.c : Int) = c ∧ r.l = l by rw [← hrr]; exact ⟨rfl, et.symm, ec.symm, rfl⟩)
      have HFN := Lib.hid (fun W => filename_any q W)
      clear hg hrg ht' hc' et ec hrr hright hbo
      go_wp2_with fail
      refine HBO.out.mono ?_
      rintro e w6 ⟨v6, rfl, v6', hv6, ho6, hb6⟩
      injection hv6 with hv6
      subst hv6
      obtain ⟨LB, HLB⟩ : ∃ L, Hid (r.bytes = L) := ⟨_, rfl⟩
      rw [HLB.out] at ho6 HWR
      obtain ⟨mb, HMB⟩ : ∃ m, Hid (LB.length = m) := ⟨_, rfl⟩
      obtain ⟨A6, c6, hv, hc6, _⟩ := own_shape ho6
      rw [HMB.out] at hv hc6
      subst hv
      have hrd6 : Rd w6 w6.heap.size A6 mb LB := Rd.own (by rw [HMB.out] at ho6; exact ho6)
      have HNB6 := Lib.hid (show 0 < mb → ∀ a, A6 = some a → ¬ foot D M s.fs a.block from fun _ a ha hk => by
        have h1 := H.out.foot_lt hk
        subst ha
        have h2 := (ho6.lt a.block rfl).1
        have := HB5.out.size
        omega)
      have HB6 := Lib.hid (HB5.out.trans (hb6.mono (by have := HPR.out; have := HS5.out; omega)))
      have hP6 := (hb6.block P (by have := HPR.out; have := HS5.out; omega)).trans HP5.out
      have hR6 := (hb6.block R HS5.out).trans HR5.out
      have HP6 := Lib.hid hP6
      have HR6 := Lib.hid hR6
      have HD6 := Lib.hid (H.out.no (Fr.of_below (by rw [HPR.out.1]; exact HB6.out)))
      have hwf := writefile_any HD6.out ⟨(nmR (q % 2)).toArray⟩ (nmR_size _) A6 mb c6 LB hrd6 HNB6.out
      rw [HS.out] at hwf
      have HWF : Hid (Calls Tryz.prog 20 #[.pointer (some ⟨D, 0, none⟩), .string ⟨(nmR (q % 2)).toArray⟩, .slice A6 mb c6] w6 (Abs D M w6 s (wfA (nmR (q % 2)) LB S 4))) := hwf
      obtain ⟨x, S', hx⟩ : ∃ x S', wfA (nmR (q % 2)) LB S 4 = (x, S') := ⟨_, _, rfl⟩
      rw [hx] at HWF HWR
      clear hx ho6 hb6 hrd6 hwf hP6 hR6 c0 c1 c2 c3 hc6
      have c0 : w6.cell? ⟨P, 0, none⟩ = some (.int .i64 (q : Int)) := by unfold World.cell?; rw [HP6.out]; rfl
      go_wp2_with fail
      refine (HFN.out _).mono ?_
      rintro e w7 ⟨rfl, rfl⟩
      go_wp2_with fail
      refine HWF.out.mono ?_
      rintro e w7 ⟨s7, rfl, hN7, hab7⟩
      simp only
      have hFP : ∀ j, P ≤ j → ¬ foot D M s.fs j := fun j hj hk => by have := H.out.foot_lt hk; have := HPR.out; omega
      have hP7 := (hN7.2.1.block P (Array.getElem?_eq_some_iff.1 HP6.out).1 (hFP P (Nat.le_refl _))).trans HP6.out
      have hR7 := (hN7.2.1.block R (Array.getElem?_eq_some_iff.1 HR6.out).1 (hFP R (by have := HPR.out; omega))).trans HR6.out
      have HN7 := Lib.hid (show Nx D M w s w7 s7 from (nx_below H.out (by rw [HPR.out.1]; exact HB6.out)).trans hN7)
      have HA7 := Lib.hid hab7
      have HRF := Lib.hid (show (¬ foot D M s7.fs P) ∧ ¬ foot D M s7.fs R from ⟨fun hk => by
        rcases hN7.2.2 P hk with e | e
        · exact hFP P (Nat.le_refl _) e
        · have := (Array.getElem?_eq_some_iff.1 HP6.out).1; omega, fun hk => by
        rcases hN7.2.2 R hk with e | e
        · exact hFP R (by have := HPR.out; omega) e
        · have := (Array.getElem?_eq_some_iff.1 HR6.out).1; omega⟩)
      have HRL7 := Lib.hid (show Rd w7 w7.heap.size A n l from rd_offR HN7.out.2.1 HR.out (fun h0 a ha => HA.out h0 a ha))
      have HP7 := Lib.hid hP7
      have HR7 := Lib.hid hR7
      clear hN7 hab7 hFP c0
      by_cases h0 : x = 0
      · subst h0
        have HE := Lib.hid (show wrA S t c l = ((r, 0), S') by rw [HWR.out]; simp)
        have c0 : w7.cell? ⟨P, 0, none⟩ = some (.int .i64 (q : Int)) := by unfold World.cell?; rw [hP7]; rfl
        have c1 : w7.cell? ⟨P, 1, none⟩ = some (.int .i64 t) := by unfold World.cell?; rw [hP7]; rfl
        have c2 : w7.cell? ⟨P, 2, none⟩ = some (.int .i64 c) := by unfold World.cell?; rw [hP7]; rfl
        have c3 : w7.cell? ⟨P, 3, none⟩ = some (.slice A n k) := by unfold World.cell?; rw [hP7]; rfl
        have y3 : w7.frozen? ⟨P, 3, none⟩ = false := by unfold World.frozen?; rw [hP7]; rfl
        have HO := Lib.hid (World.ownsRow_nil w7 w7.heap.size 5 1)
        clear hP7 hR7
        go_upto_region 12 with (at_builtin; (refine wpList_append_rd _ rfl (.const (.slice none 0 0)) (.tmp 45) rfl w7.heap.size w7.heap.size _ [] rfl HO.out _ _ _ l rfl HRL7.out (by simp; have := HN.out; omega) (by simp) ?_; intro v8 w8 hown8 hgrow8; have hown9 : w8.ownsRow w7.heap.size 5 1 v8 l.length (bvs l) := hown8; have hb8 : Below w7.heap.size w7 w8 := (Below.refl _ _).grown hgrow8 (Nat.le_refl _) (fun g hg => (HO.out.lt g hg).1); obtain ⟨nl, HNL⟩ : ∃ nl, Hid (l.length = nl) := ⟨_, rfl⟩; rw [HNL.out] at hown9; obtain ⟨A8, c8, rfl, _, _⟩ := own_shape hown9; have HO8 := Lib.hid hown9; have HB8 := Lib.hid hb8; have HP8 := Lib.hid ((hb8.block P (Array.getElem?_eq_some_iff.1 HP7.out).1).trans HP7.out); have y3 : w8.frozen? ⟨P, 3, none⟩ = false := (by unfold World.frozen?; rw [HP8.out]; rfl); have c3 : w8.cell? ⟨P, 3, none⟩ = some (.slice A n k) := (by unfold World.cell?; rw [HP8.out]; rfl); clear hown8 hgrow8 hown9 hb8))
        have hP9 := heap_cells_set w8 P 3 _ _ (.slice A8 nl c8) HP8.out
        have hf9 := Fr.setCell w8 ⟨P, 3, none⟩ (.slice A8 nl c8) (F := fun i => i = P) rfl
        obtain ⟨w9, hw9⟩ : ∃ u, w8.setCell ⟨P, 3, none⟩ (.slice A8 nl c8) = u := ⟨_, rfl⟩
        rw [hw9] at hP9 hf9 ⊢
        have hP9' : w9.heap[P]? = some (.cells #[.int .i64 (q : Int), .int .i64 t, .int .i64 c, .slice A8 nl c8] 30 (0, 0)) := hP9
        have HF9 := Lib.hid hf9
        have HP9 := Lib.hid hP9'
        clear hw9 hf9 hP9 c0 c1 c2 c3 y3
        have c0 : w9.cell? ⟨P, 0, none⟩ = some (.int .i64 (q : Int)) := by unfold World.cell?; rw [HP9.out]; rfl
        have c1 : w9.cell? ⟨P, 1, none⟩ = some (.int .i64 t) := by unfold World.cell?; rw [HP9.out]; rfl
        have c2 : w9.cell? ⟨P, 2, none⟩ = some (.int .i64 c) := by unfold World.cell?; rw [HP9.out]; rfl
        have c3 : w9.cell? ⟨P, 3, none⟩ = some (.slice A8 nl c8) := by unfold World.cell?; rw [HP9.out]; rfl
        have hR8 := (HB8.out.block R (Array.getElem?_eq_some_iff.1 HR7.out).1).trans HR7.out
        have hR9 := (HF9.out.block R (Array.getElem?_eq_some_iff.1 hR8).1 (fun e => by have e : R = P := e; have := HPR.out; omega)).trans hR8
        have p0 : w9.cell? ⟨R, 0, none⟩ = some (.int .i64 0) := by unfold World.cell?; rw [hR9]; rfl
        have p1 : w9.cell? ⟨R, 1, none⟩ = some (.int .i64 0) := by unfold World.cell?; rw [hR9]; rfl
        have p2 : w9.cell? ⟨R, 2, none⟩ = some (.int .i64 0) := by unfold World.cell?; rw [hR9]; rfl
        have p3 : w9.cell? ⟨R, 3, none⟩ = some (.slice none 0 0) := by unfold World.cell?; rw [hR9]; rfl
        have z0 : w9.frozen? ⟨R, 0, none⟩ = false := by unfold World.frozen?; rw [hR9]; rfl
        have z1 : w9.frozen? ⟨R, 1, none⟩ = false := by unfold World.frozen?; rw [hR9]; rfl
        have z2 : w9.frozen? ⟨R, 2, none⟩ = false := by unfold World.frozen?; rw [hR9]; rfl
        have z3 : w9.frozen? ⟨R, 3, none⟩ = false := by unfold World.frozen?; rw [hR9]; rfl
        clear hP9' hR8
        go_wp2_with fail
        refine bodyPost_ret (results_cell_tmp_row (p := 4) rfl _ _ R 30 #[.int .i64 (q : Int), .int .i64 t, .int .i64 c, .slice A8 nl c8] (0, 0) _ rfl (four_setR hR9 _ _ _ _).1 Tryz.underlying30 rfl (by kernel_rfl)) rfl ?_
        rw [← HQ.out, HE.out]
        have hz : R < w7.heap.size := (Array.getElem?_eq_some_iff.1 HR7.out).1
        have hrd8 : Rd w8 w8.heap.size A8 nl l := Rd.own HO8.out
        have hoff : ∀ a, A8 = some a → w7.heap.size ≤ a.block := fun a ha => by
          have h1 := HO8.out
          subst ha
          exact (h1.lt a.block rfl).1
        have hf10 := four_setF w9 R (.int .i64 (q : Int)) (.int .i64 t) (.int .i64 c) (.slice A8 nl c8)
        have hrd9 := rd_offR HF9.out hrd8 (fun _ a ha e => by have e : a.block = P := e; have := hoff a ha; have := HPR.out; omega)
        have hrd10 := rd_offR hf10 hrd9 (fun _ a ha e => by have e : a.block = R := e; have := hoff a ha; omega)
        have hN8 := HN7.out.trans (nx_below HN7.out.1 HB8.out)
        have hN9 := nx_set hN8 HPR.out.1 (Nat.le_refl _) HRF.out.1 HF9.out
        have hN10 := nx_set hN9 HPR.out.1 (by have := HPR.out; omega) HRF.out.2 hf10
        refine ⟨s7, A8, nl, c8, ?_, ?_, hN10, HA7.out, fun a ha => Nat.le_trans HN7.out.2.1.size (hoff a ha)⟩
        · show _ = Ending.returned (.tuple #[.agg #[.int .i64 (r.s : Int), .int .i64 (r.t : Int), .int .i64 (r.c : Int), .slice A8 nl c8], .int .i64 0])
          rw [HRV.out.1, HRV.out.2.1, HRV.out.2.2.1]
          rfl
        · show Rd _ _ A8 nl r.l
          rw [HRV.out.2.2.2]
          exact hrd10
      · have hb : (x != 0) = true := by rw [bne_iff_ne]; exact h0
        have HE := Lib.hid (show wrA S t c l = ((Rn.zero, x), S') by rw [HWR.out, if_pos h0])
        clear h0
        have p0 : w7.cell? ⟨R, 0, none⟩ = some (.int .i64 0) := by unfold World.cell?; rw [hR7]; rfl
        have p1 : w7.cell? ⟨R, 1, none⟩ = some (.int .i64 0) := by unfold World.cell?; rw [hR7]; rfl
        have p2 : w7.cell? ⟨R, 2, none⟩ = some (.int .i64 0) := by unfold World.cell?; rw [hR7]; rfl
        have p3 : w7.cell? ⟨R, 3, none⟩ = some (.slice none 0 0) := by unfold World.cell?; rw [hR7]; rfl
        have z0 : w7.frozen? ⟨R, 0, none⟩ = false := by unfold World.frozen?; rw [hR7]; rfl
        have z1 : w7.frozen? ⟨R, 1, none⟩ = false := by unfold World.frozen?; rw [hR7]; rfl
        have z2 : w7.frozen? ⟨R, 2, none⟩ = false := by unfold World.frozen?; rw [hR7]; rfl
        have z3 : w7.frozen? ⟨R, 3, none⟩ = false := by unfold World.frozen?; rw [hR7]; rfl
        go_wp2_with fail
        refine bodyPost_ret (results_cell_tmp_row (p := 4) rfl _ _ R 30 #[.int .i64 0, .int .i64 0, .int .i64 0, .slice none 0 0] (0, 0) _ rfl (four_setR hR7 _ _ _ _).1 Tryz.underlying30 rfl (by kernel_rfl)) rfl ?_
        rw [← HQ.out, HE.out]
        exact wrp_zeroN (nx_set HN7.out HPR.out.1 (by have := HPR.out; omega) HRF.out.2 (four_setF w7 R _ _ _ _)) HA7.out
  · have HE := Lib.hid (show wrA S t c l = ((Rn.zero, er), S) by
      unfold wrA
      rw [HM.out]
      simp only
      rw [if_pos he])
    have heb : (er != 0) = true := by rw [bne_iff_ne]; exact he
    clear he hP4
    have p0 : w4.cell? ⟨R, 0, none⟩ = some (.int .i64 0) := by unfold World.cell?; rw [hR4]; rfl
    have p1 : w4.cell? ⟨R, 1, none⟩ = some (.int .i64 0) := by unfold World.cell?; rw [hR4]; rfl
    have p2 : w4.cell? ⟨R, 2, none⟩ = some (.int .i64 0) := by unfold World.cell?; rw [hR4]; rfl
    have p3 : w4.cell? ⟨R, 3, none⟩ = some (.slice none 0 0) := by unfold World.cell?; rw [hR4]; rfl
    have z0 : w4.frozen? ⟨R, 0, none⟩ = false := by unfold World.frozen?; rw [hR4]; rfl
    have z1 : w4.frozen? ⟨R, 1, none⟩ = false := by unfold World.frozen?; rw [hR4]; rfl
    have z2 : w4.frozen? ⟨R, 2, none⟩ = false := by unfold World.frozen?; rw [hR4]; rfl
    have z3 : w4.frozen? ⟨R, 3, none⟩ = false := by unfold World.frozen?; rw [hR4]; rfl
    go_wp2_with fail
    refine bodyPost_ret (results_cell_tmp_row (p := 4) rfl _ _ R 30 #[.int .i64 0, .int .i64 0, .int .i64 0, .slice none 0 0] (0, 0) _ rfl (four_setR hR4 _ _ _ _).1 Tryz.underlying30 rfl (by kernel_rfl)) rfl ?_
    rw [← HQ.out, HE.out]
    exact wrp_zeroN (nx_below H.out ((HF4.out.noBelow).trans ((four_setR hR4 _ _ _ _).2.mono (by have := HPR.out; omega)))) HS.out
theorem write_any {w : World} {D M : Nat} {s : St} (h : Dsk w D M s) (ht : Tab w) (hl : ∀ f ∈ s.fs, f.bs.length ≤ 20000) (a t c : Int) (A : Option Addr) (n k : Nat) (l : List UInt8) (hr : Rd w w.heap.size A n l) (hn : n ≤ 10000)
    (hA : 0 < n → ∀ a, A = some a → ¬ foot D M s.fs a.block) :
    Calls Tryz.prog 8 #[.pointer (some ⟨D, 0, none⟩), .agg #[.int .i64 a, .int .i64 t, .int .i64 c, .slice A n k]] w (Wrp D M w s (wrA s.ab t c l)) :=
  (write_anyN h ht hl a t c A n k l hr hn hA).mono fun _ _ ⟨s', A, n, c, h1, h2, h3, h4, _⟩ => ⟨s', A, n, c, h1, h2, h3, h4⟩
end Go.Proofs.YtggejecmhfafoaaGreatDoor

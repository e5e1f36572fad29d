/-
  The closures of Read: a number, an item, a slot read. No statement of the seat is proved here.
-/
import Derived.Test.YtefopgdmadgheaaDoorChRb
import Derived.Deep.CutBlock
import Derived.Deep.RegionHeld3
namespace Go.Proofs.YtefopgdmadgheaaDoor
open Go.RowKit Go.Deep

/-- The two blocks that reading turns. -/
def F2 (Pa Pf : Nat) (b : Nat) : Prop := b = Pa ∨ b = Pf
/-- Where reading stands: behind so many numbers. -/
structure NumAt (w : World) (B0 U Pa Pf : Nat) (A : Option Addr) (n c : Nat) (l : List UInt8) (i : Nat) : Prop where
  u : w.heap[U]? = some (.cells #[.slice A n c] 31 (0, 0))
  a : w.heap[Pa]? = some (.cells #[.int .i64 ((stN l i).1 : Int)] 3 (0, 0))
  f : w.heap[Pf]? = some (.cells #[.bool (stN l i).2] 4 (0, 0))
  rd : Rd w B0 A n l
  sz : B0 ≤ w.heap.size
  hn : n ≤ 500000
  hc : n ≤ c
  b : B0 ≤ U ∧ B0 ≤ Pa ∧ B0 ≤ Pf ∧ Pa ≠ Pf ∧ U ≠ Pa ∧ U ≠ Pf
section
variable {w w' : World} {B0 U Pa Pf n c i : Nat} {A : Option Addr} {l : List UInt8}
theorem NumAt.fr (h : NumAt w B0 U Pa Pf A n c l i) {F : Nat → Prop} (hf : Fr F w w') (hF : ∀ b, F b → B0 ≤ b ∧ b ≠ U ∧ b ≠ Pa ∧ b ≠ Pf) : NumAt w' B0 U Pa Pf A n c l i :=
  ⟨hf.blk h.u (fun e => (hF _ e).2.1 rfl), hf.blk h.a (fun e => (hF _ e).2.2.1 rfl), hf.blk h.f (fun e => (hF _ e).2.2.2 rfl), h.rd.keep (fun p hp => hf.cell (by have := h.sz; omega) (fun e => by have := (hF _ e).1; omega)), Nat.le_trans h.sz hf.size, h.hn, h.hc, h.b⟩
theorem NumAt.no (h : NumAt w B0 U Pa Pf A n c l i) (hf : Fr No w w') : NumAt w' B0 U Pa Pf A n c l i := h.fr hf (fun _ e => e.elim)
/-- One number on, of what stands behind it. -/
theorem NumAt.next (h : NumAt w B0 U Pa Pf A n c l i) (hf : Fr (F2 Pa Pf) w w') (ha : w'.heap[Pa]? = some (.cells #[.int .i64 ((stN l (i + 1)).1 : Int)] 3 (0, 0))) (hff : w'.heap[Pf]? = some (.cells #[.bool (stN l (i + 1)).2] 4 (0, 0))) : NumAt w' B0 U Pa Pf A n c l (i + 1) :=
  ⟨hf.blk h.u (fun e => by rcases e with e | e; exact h.b.2.2.2.2.1 e; exact h.b.2.2.2.2.2 e), ha, hff, h.rd.keep (fun p hp => hf.cell (by have := h.sz; omega) (fun e => by have := h.b; rcases e with e | e <;> omega)), Nat.le_trans h.sz hf.size, h.hn, h.hc, h.b⟩
set_option maxRecDepth 100000 in
set_option maxHeartbeats 1600000 in
theorem num_any (h : NumAt w B0 U Pa Pf A n c l i) : Calls Tryd.prog 17 #[.pointer (some ⟨U, 0, none⟩), .pointer (some ⟨Pa, 0, none⟩), .pointer (some ⟨Pf, 0, none⟩)] w
    fun e w' => e = .returned (.int .i64 (vN l i : Int)) ∧ NumAt w' B0 U Pa Pf A n c l (i + 1) ∧ Fr (F2 Pa Pf) w w' := by
  have c0 : w.cell? ⟨U, 0, none⟩ = some (.slice A n c) := (blk_cell h.u 0).trans (by simp)
  have c1 : w.cell? ⟨Pa, 0, none⟩ = some (.int .i64 ((stN l i).1 : Int)) := (blk_cell h.a 0).trans (by simp)
  have c2 : w.cell? ⟨Pf, 0, none⟩ = some (.bool (stN l i).2) := (blk_cell h.f 0).trans (by simp)
  have z1 := blk_free h.a 0
  have z2 := blk_free h.f 0
  have HG := Lib.hid (getuint_any l A n c B0 ((stN l i).1 : Int) w h.rd h.hn h.hc)
  have HN : Hid (∀ w', Fr (F2 Pa Pf) w w' → ∀ st : Nat × Bool, (nxB l (stN l i)).2 = st → w'.heap[Pa]? = some (.cells #[.int .i64 (st.1 : Int)] 3 (0, 0)) → w'.heap[Pf]? = some (.cells #[.bool st.2] 4 (0, 0)) → NumAt w' B0 U Pa Pf A n c l (i + 1)) := Lib.hid (fun w' hf st hst h1 h2 => by
    have e : stN l (i + 1) = st := hst
    exact h.next hf (by rw [e]; exact h1) (by rw [e]; exact h2))
  have HA := Lib.hid h.a
  have HF := Lib.hid h.f
  have hne := h.b.2.2.2.1
  unfold vN
  clear h
  generalize stN l i = st at *
  obtain ⟨a, fl⟩ := st
  dsimp only at c1 c2 HG HA HF
  obtain ⟨g, hg⟩ : ∃ g, getU l (a : Int) = g := ⟨_, rfl⟩
  rw [hg] at HG
  obtain ⟨r, q, er⟩ := g
  unfold tup at HG
  dsimp only at HG
  have ta : ∀ (b : Bool), Fr (F2 Pa Pf) w (w.setCell ⟨Pf, 0, none⟩ (.bool b)) := fun b => Fr.setCell w ⟨Pf, 0, none⟩ _ (.inr rfl)
  have tb : ∀ (b : Bool), (w.setCell ⟨Pf, 0, none⟩ (.bool b)).heap[Pf]? = some (.cells #[.bool b] 4 (0, 0)) := fun b => by rw [heap_cells_set w Pf 0 _ _ _ HF.out]; rfl
  have tc : ∀ (b : Bool), (w.setCell ⟨Pf, 0, none⟩ (.bool b)).heap[Pa]? = some (.cells #[.int .i64 (a : Int)] 3 (0, 0)) := fun b => (Fr.setCell (F := fun i => i = Pf) w ⟨Pf, 0, none⟩ (.bool b) rfl).blk HA.out hne
  have HT := Lib.hid (And.intro ta (And.intro tb tc))
  clear ta tb tc
  have hbad : (fl = true ∨ er ≠ 0 ∨ 255 < r) → nxB l (a, fl) = (0, (a, true)) := fun h => nxB_bad (by dsimp only; rw [hg]; exact h)
  have hok : ¬ (fl = true ∨ er ≠ 0 ∨ 255 < r) → nxB l (a, fl) = (r, (q, false)) := fun h => by rw [nxB_ok (by dsimp only; rw [hg]; exact h)]; dsimp only; rw [hg]
  have hcase : fl = true ∨ (fl = false ∧ er ≠ 0) ∨ (fl = false ∧ er = 0 ∧ 255 < r) ∨ (fl = false ∧ er = 0 ∧ ¬ 255 < r) := by
    cases fl
    · by_cases e : er = 0
      · by_cases e2 : 255 < r
        · exact .inr (.inr (.inl ⟨rfl, e, e2⟩))
        · exact .inr (.inr (.inr ⟨rfl, e, e2⟩))
      · exact .inr (.inl ⟨rfl, e⟩)
    · exact .inl rfl
  rcases hcase with rfl | ⟨rfl, he⟩ | ⟨rfl, rfl, hr⟩ | ⟨rfl, rfl, hr⟩
  · have HX := Lib.hid (hbad (.inl rfl))
    clear hbad hok hg
    go_enter Tryd.func17, Tryd.ntmps17
    go_wp2_with fail
    refine HG.out.mono ?_
    rintro e w1 ⟨rfl, rfl⟩
    have x1 := HT.out.2.1 true
    have x2 := (blk_cell x1 0).trans (by simp : _ = some (.bool true))
    go_wp2_with fail
    go_ret
    rw [HX.out]
    exact ⟨rfl, HN.out _ (HT.out.1 true) _ (by rw [HX.out]) (HT.out.2.2 true) x1, HT.out.1 true⟩
  · have HX := Lib.hid (hbad (.inr (.inl he)))
    have he2 : ((er : Int) == 0) = false := by rw [beq_eq_false_iff_ne]; omega
    have he3 : ((er : Int) != 0) = true := by rw [bne_iff_ne]; omega
    clear hbad hok hg
    go_enter Tryd.func17, Tryd.ntmps17
    go_wp2_with fail
    refine HG.out.mono ?_
    rintro e w1 ⟨rfl, rfl⟩
    have x1 := HT.out.2.1 true
    have x2 := (blk_cell x1 0).trans (by simp : _ = some (.bool true))
    go_wp2_with fail
    go_ret
    rw [HX.out]
    exact ⟨rfl, HN.out _ (HT.out.1 true) _ (by rw [HX.out]) (HT.out.2.2 true) x1, HT.out.1 true⟩
  · have HX := Lib.hid (hbad (.inr (.inr hr)))
    have hr2 : (r : Int) > 255 := by omega
    clear hbad hok hg hr
    go_enter Tryd.func17, Tryd.ntmps17
    go_wp2_with fail
    refine HG.out.mono ?_
    rintro e w1 ⟨rfl, rfl⟩
    have x1 := HT.out.2.1 true
    have x2 := (blk_cell x1 0).trans (by simp : _ = some (.bool true))
    go_wp2_with fail
    go_ret
    rw [HX.out]
    exact ⟨rfl, HN.out _ (HT.out.1 true) _ (by rw [HX.out]) (HT.out.2.2 true) x1, HT.out.1 true⟩
  · have HX := Lib.hid (hok (by simp; omega))
    have hr2 : decide (255 < (r : Int)) = false := decide_eq_false (by omega)
    have hw : IntKind.i64.wrap (r : Int) = (r : Int) := IntWalk.i64_in _ (by omega)
    clear hbad hok hg hr
    go_enter Tryd.func17, Tryd.ntmps17
    go_wp2_with fail
    refine HG.out.mono ?_
    rintro e w1 ⟨rfl, rfl⟩
    have x1 := HT.out.2.1 false
    have x2 := (blk_cell x1 0).trans (by simp : _ = some (.bool false))
    have x3 := HT.out.2.2 false
    have x4 := (blk_cell x3 0).trans (by simp : _ = some (.int .i64 (a : Int)))
    have x5 := blk_free x3 0
    go_wp2_with fail
    go_ret
    have f2 : Fr (fun i => i = Pa) (w.setCell ⟨Pf, 0, none⟩ (.bool false)) ((w.setCell ⟨Pf, 0, none⟩ (.bool false)).setCell ⟨Pa, 0, none⟩ (.int .i64 (q : Int))) := Fr.setCell _ ⟨Pa, 0, none⟩ _ rfl
    have f3 : Fr (F2 Pa Pf) w ((w.setCell ⟨Pf, 0, none⟩ (.bool false)).setCell ⟨Pa, 0, none⟩ (.int .i64 (q : Int))) := (HT.out.1 false).trans f2 (fun i _ e => .inl e)
    rw [HX.out]
    exact ⟨rfl, HN.out _ f3 _ (by rw [HX.out]) (by rw [heap_cells_set _ Pa 0 _ _ _ x3]; rfl) (f2.blk x1 (fun e => hne e.symm)), f3⟩
/-- The reader of numbers, as a value. -/
def numF (U Pa Pf : Nat) : Value := .func (.func 17) #[] #[.pointer (some ⟨U, 0, none⟩), .pointer (some ⟨Pa, 0, none⟩), .pointer (some ⟨Pf, 0, none⟩)]
def itemF (Q1 : Nat) : Value := .func (.func 43) #[] #[.pointer (some ⟨Q1, 0, none⟩)]
def slotF (Q3 Q1 : Nat) : Value := .func (.func 44) #[] #[.pointer (some ⟨Q3, 0, none⟩), .pointer (some ⟨Q1, 0, none⟩)]
set_option maxRecDepth 100000 in
theorem item_any {Q1 : Nat} (h : NumAt w B0 U Pa Pf A n c l i) (hq : w.heap[Q1]? = some (.cells #[numF U Pa Pf] 57 (0, 0))) : Calls Tryd.prog 43 #[.pointer (some ⟨Q1, 0, none⟩)] w
    fun e w' => e = .returned (.int .u8 (vN l i : Int)) ∧ NumAt w' B0 U Pa Pf A n c l (i + 1) ∧ Fr (F2 Pa Pf) w w' := by
  have HN := Lib.hid (num_any h)
  have c0 := (blk_cell hq 0).trans (by simp : _ = some (numF U Pa Pf))
  have hle := vN_le l i
  generalize vN l i = v at *
  have hw : IntKind.u8.wrap (v : Int) = (v : Int) := by rw [IntKind.wrap_u8]; omega
  unfold numF at c0
  clear hq h
  go_enter Tryd.func43, Tryd.ntmps43
  go_wp2_with fail
  refine HN.out.mono ?_
  rintro e w1 ⟨rfl, h1, hf⟩
  have H1 := Lib.hid h1
  have HF := Lib.hid hf
  clear h1 hf
  go_wp2_with fail
  go_ret
  exact ⟨rfl, H1.out, HF.out⟩
set_option maxRecDepth 100000 in
set_option maxHeartbeats 1600000 in
theorem rslot_any {Q1 Q3 : Nat} (h : NumAt w B0 U Pa Pf A n c l i) (hq : w.heap[Q1]? = some (.cells #[numF U Pa Pf] 57 (0, 0))) (hq3 : w.heap[Q3]? = some (.cells #[itemF Q1] 83 (0, 0))) : Calls Tryd.prog 44 #[.pointer (some ⟨Q3, 0, none⟩), .pointer (some ⟨Q1, 0, none⟩)] w
    fun e w' => e = .returned (.agg #[.int .u8 (vN l i : Int), .int .i64 (vN l (i + 1) : Int)]) ∧ NumAt w' B0 U Pa Pf A n c l (i + 2) ∧ Fr (F2 Pa Pf) w w' := by
  have hb := heap_alloc_new w (.cells #[.int .u8 0, .int .i64 0] 29)
  have hfa := Fr.alloc No w (.cells #[.int .u8 0, .int .i64 0] 29)
  have h1 := h.no hfa
  have hq' := blk_no hfa hq
  have hq3' := blk_no hfa hq3
  have hPf := (Array.getElem?_eq_some_iff.1 h.f).1
  have hPa := (Array.getElem?_eq_some_iff.1 h.a).1
  have hsz := h.sz
  have hU := (Array.getElem?_eq_some_iff.1 h.u).1
  have HFA := Lib.hid hfa
  have hw3 : Hid (Q1 ≠ w.heap.size ∧ Q3 ≠ w.heap.size ∧ Pa ≠ w.heap.size ∧ Pf ≠ w.heap.size ∧ U ≠ w.heap.size ∧ B0 ≤ w.heap.size) := Lib.hid (by have h1 := (Array.getElem?_eq_some_iff.1 hq).1; have h2 := (Array.getElem?_eq_some_iff.1 hq3).1; omega)
  have hn1 : Hid (Q1 ≠ Pa ∧ Q1 ≠ Pf ∧ Q3 ≠ Pa ∧ Q3 ≠ Pf) := Lib.hid (by
    have ne : ∀ {x y : Nat} {a b : Value} {t t' : TypeId}, w.heap[x]? = some (.cells #[a] t (0, 0)) → w.heap[y]? = some (.cells #[b] t' (0, 0)) → t ≠ t' → x ≠ y := fun h1 h2 hne e => by
      rw [e, h2] at h1
      injection h1 with h1
      injection h1 with _ h1 _
      exact hne h1.symm
    exact ⟨ne hq h.a (by decide), ne hq h.f (by decide), ne hq3 h.a (by decide), ne hq3 h.f (by decide)⟩)
  clear h hq hq3 hfa hPf hPa hsz hU
  obtain ⟨v0, hv0⟩ : ∃ v, vN l i = v := ⟨_, rfl⟩
  obtain ⟨v1, hv1⟩ : ∃ v, vN l (i + 1) = v := ⟨_, rfl⟩
  rw [hv0, hv1]
  have HV := Lib.hid (And.intro hv0 hv1)
  clear hv0 hv1
  go_enter Tryd.func44, Tryd.ntmps44
  go_upto_region 1 with fail
  obtain ⟨R, hR⟩ : ∃ R, w.heap.size = R := ⟨_, rfl⟩
  rw [hR] at hb hw3 ⊢
  have HR := Lib.hid hR
  clear hR
  generalize w.alloc (.cells #[.int .u8 0, .int .i64 0] 29) = w0 at *
  have HB := Lib.hid hb
  have H1 := Lib.hid h1
  have HS : Hid (∀ W, Fr (fun b => F2 Pa Pf b ∨ b = R) w0 W → W.cell? ⟨Q3, 0, none⟩ = some (itemF Q1) ∧ W.cell? ⟨Q1, 0, none⟩ = some (numF U Pa Pf)) := Lib.hid (fun W hW => ⟨(blk_cell (hW.blk hq3' (fun e => by have := hn1.out; have := hw3.out; rcases e with (e | e) | e <;> omega)) 0).trans (by simp), (blk_cell (hW.blk hq' (fun e => by have := hn1.out; have := hw3.out; rcases e with (e | e) | e <;> omega)) 0).trans (by simp)⟩)
  have HQ : Hid (∀ W, Fr (F2 Pa Pf) w0 W → W.heap[Q1]? = some (.cells #[numF U Pa Pf] 57 (0, 0)) ∧ W.heap[R]? = some (.cells #[.int .u8 0, .int .i64 0] 29 (0, 0))) := Lib.hid (fun W hW => ⟨hW.blk hq' (fun e => by have := hn1.out; rcases e with e | e <;> omega), hW.blk hb (fun e => by have := hw3.out; rcases e with e | e <;> omega)⟩)
  clear hb h1 hq' hq3'
  have HI := Lib.hid (item_any (H1.out.no (Fr.drew No w0)) (HQ.out _ (Fr.drew No w0).any).1)
  have HNX := Lib.hid (fun W (hW : NumAt W B0 U Pa Pf A n c l (i + 1)) => num_any hW)
  rw [HV.out.1] at HI
  rw [HV.out.2] at HNX
  unfold itemF numF at HS
  have d0 := HS.out w0 (Fr.refl _ _)
  have dd := HS.out w0.drew (Fr.drew _ w0)
  go_region_held3 (fun W => W.cell? ⟨Q3, 0, none⟩ = some (.func (.func 43) #[] #[.pointer (some ⟨Q1, 0, none⟩)]) ∧ W.cell? ⟨Q1, 0, none⟩ = some (.func (.func 17) #[] #[.pointer (some ⟨U, 0, none⟩), .pointer (some ⟨Pa, 0, none⟩), .pointer (some ⟨Pf, 0, none⟩)]))
    (first | exact d7 | exact d6 | exact d5 | exact dd | exact d0)
    (first
      | (go_at_call 43; refine HI.out.mono ?_; rintro e w5 ⟨rfl, h5, hf⟩; have HF5 := Lib.hid (((Fr.drew No w0).any (F := F2 Pa Pf)).trans hf (fun _ _ e => e)); have H5 := Lib.hid h5; have d5 := HS.out w5 (HF5.out.mono (fun _ _ e => .inl e)); clear hf h5)
      | (go_at_call 17; refine (HNX.out _ H5.out).mono ?_; rintro e w6 ⟨rfl, h6, hf⟩; have HF6 := Lib.hid (HF5.out.trans hf (fun _ _ e => e)); have H6 := Lib.hid h6; have d6 := HS.out w6 (HF6.out.mono (fun _ _ e => .inl e)); have hR6 := (HQ.out _ HF6.out).2; have x0 := (blk_cell hR6 0).trans (by simp : _ = some (.int .u8 0)); have x1 := (blk_cell hR6 1).trans (by simp : _ = some (.int .i64 0)); have y0 := blk_free hR6 0; have y1 := blk_free hR6 1; have HB6 := Lib.hid hR6; have d7 := HS.out ((w6.setCell ⟨R, 0, none⟩ (.int .u8 (v0 : Int))).setCell ⟨R, 1, none⟩ (.int .i64 (v1 : Int))) (((HF6.out.mono (fun _ _ e => .inl e)).trans (Fr.setCell (F := fun b => b = R) w6 ⟨R, 0, none⟩ _ rfl) (fun _ _ e => .inr e)).trans (Fr.setCell (F := fun b => b = R) _ ⟨R, 1, none⟩ _ rfl) (fun _ _ e => .inr e)); clear hf h6 hR6))
  have hs0 : Fr (fun b => b = R) w6 (w6.setCell ⟨R, 0, none⟩ (.int .u8 (v0 : Int))) := Fr.setCell w6 ⟨R, 0, none⟩ _ rfl
  have hs1 : Fr (fun b => b = R) (w6.setCell ⟨R, 0, none⟩ (.int .u8 (v0 : Int))) ((w6.setCell ⟨R, 0, none⟩ (.int .u8 (v0 : Int))).setCell ⟨R, 1, none⟩ (.int .i64 (v1 : Int))) := Fr.setCell _ ⟨R, 1, none⟩ _ rfl
  have HSS := Lib.hid (hs0.trans hs1 (fun _ _ e => e))
  have HBL : Hid (((w6.setCell ⟨R, 0, none⟩ (.int .u8 (v0 : Int))).setCell ⟨R, 1, none⟩ (.int .i64 (v1 : Int))).heap[R]? = some (.cells #[.int .u8 (v0 : Int), .int .i64 (v1 : Int)] 29 (0, 0))) := Lib.hid (by rw [heap_cells_set _ R 1 _ _ _ (heap_cells_set _ R 0 _ _ _ HB6.out)]; rfl)
  clear hs0 hs1 d0 dd d5 d6 d7 x0 x1 y0 y1
  go_wp2_with fail
  refine bodyPost_ret (results_cell_row (p := 2) rfl _ _ R 29 #[.int .u8 (v0 : Int), .int .i64 (v1 : Int)] (0, 0) _ rfl HBL.out Tryd.underlying29 rfl (by kernel_rfl)) rfl ?_
  refine ⟨rfl, H6.out.fr HSS.out (fun b e => by have e' : b = R := e; have := hw3.out; omega), ?_⟩
  exact ((HFA.out.any.trans HF6.out (fun _ _ e => e)).then_new HSS.out (fun b e => by have e' : b = R := e; have := HR.out; omega))
end
end Go.Proofs.YtefopgdmadgheaaDoor

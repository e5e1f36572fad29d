/-
  The chapter's examples: awake. No statement of the seat is proved here.
-/
import Derived.Test.YtefopgdmadgheaaDoorChS
import Derived.Test.YtefopgdmadgheaaDoorChU
import Derived.Test.YtefopgdmadgheaaDoorSl
namespace Go.Proofs.YtefopgdmadgheaaDoor
open Go.RowKit Go.Deep

/-- Bytes of items. -/
def byCk (d : Ck) : Bool := d.cs.all (fun i => decide (i < 256)) && d.hs.all (fun h => decide (h.2.1 < 256)) && d.bs.all (fun b => b.2.all (fun s => decide (s.1 < 256)))
theorem ByC.dec {d : Ck} (h : byCk d = true) : ByC d := by
  unfold byCk at h
  simp only [Bool.and_eq_true, List.all_eq_true, decide_eq_true_eq] at h
  exact ⟨h.1.1, h.1.2, h.2⟩
def ckE0 : Ck := ⟨0, 0, List.replicate 64 0, [], []⟩
def ckE1 : Ck := ⟨0, 0, (List.replicate 64 0).set 5 9, [], [(5, rep6)]⟩
def bagX : List (Nat × Int) := rep6.set 0 (3, 1)
def ckE2 : Ck := ⟨0, 0, (List.replicate 64 0).set 5 9, [], [(5, bagX)]⟩
theorem ckE0_r : rgtC ckE0 = true := by decide +kernel
theorem ckE1_r : rgtC ckE1 = true := by decide +kernel
theorem ckE2_r : rgtC ckE2 = true := by decide +kernel
theorem ckE0_b : ByC ckE0 := ByC.dec (by decide +kernel)
theorem ckE1_b : ByC ckE1 := ByC.dec (by decide +kernel)
theorem ckE2_b : ByC ckE2 := ByC.dec (by decide +kernel)
theorem set_ex1 : setE ckE0 5 9 = 0 := by decide +kernel
theorem set_ex2 : setL ckE0 5 9 = ckE1 := by
  unfold setL
  rw [if_pos set_ex1]
  kernel_rfl
theorem bagX_by : By bagX := fun s hs => by
  have h : bagX.all (fun s => decide (s.1 < 256)) = true := by decide +kernel
  rw [List.all_eq_true] at h
  exact of_decide_eq_true (h s hs)
theorem box_ex1 : hasB ckE1.cs 5 = true := by decide +kernel
theorem box_ex2 : bagAt ckE1.bs 5 = rep6 := by decide +kernel
theorem fill_ex1 : fillE ckE1 5 bagX = 0 := by decide +kernel
theorem fill_ex2 : fillCk ckE1 5 bagX = ckE2 := by
  unfold fillCk
  rw [if_pos fill_ex1]
  kernel_rfl
theorem set_ex3 : setE ckE2 5 0 = 104 := by decide +kernel
theorem bytes_ex : ckB ckE0 = List.replicate 67 0 := by
  have v0 : varint 0 = [0] := by rw [varint_small (by decide)]; rfl
  have e : ckB ckE0 = varint 0 ++ (varint 0 ++ (csB (List.replicate 64 0) ++ (varint 0 ++ ([] ++ [])))) := rfl
  rw [e, v0]
  decide +kernel
section
variable {w w' : World} {lo : Nat} {C : Ch}
set_option maxRecDepth 100000 in
set_option maxHeartbeats 1600000 in
theorem empty_any : Calls Tryd.prog 15 #[] w fun e w' => ∃ b, e = .returned (Ch.val ⟨0, 0, some ⟨b, 0, none⟩, 64, 64, List.replicate 64 0, none, 0, 0, [], none, 0, 0, []⟩) ∧ OwC w.heap.size w' ⟨0, 0, some ⟨b, 0, none⟩, 64, 64, List.replicate 64 0, none, 0, 0, [], none, 0, 0, []⟩ ∧ Fr No w w' := by
  obtain ⟨i0, hi, hz0, hz1, hz2⟩ := info_parts info_itm
  have hmk : ∀ W : World, (Instr.makeSlice 22 (.int .i64 64) (.int .i64 64)).run Tryd.prog W = .ok (.slice (some ⟨W.heap.size, 0, none⟩) 64 64) (W.alloc (.cells (madeCells #[.int .u8 0] (64 * 1)) 27)) := fun W => by
    have hr := run_make (P := Tryd.prog) W 22 27 i0 _ Tryd.underlying22 hi hz0 .i64 .i64 64 64 (by omega) (Int.le_refl _) (by rw [hz2]; omega) (by omega)
    rw [hz1] at hr
    exact hr
  have hcells : (madeCells #[Value.int .u8 0] (64 * 1)).toList = itL (List.replicate 64 0) := by kernel_rfl
  have hcsz : (madeCells #[Value.int .u8 0] (64 * 1)).size = 64 := by kernel_rfl
  obtain ⟨zl, hzl⟩ : ∃ zl, List.replicate 64 0 = zl := ⟨_, rfl⟩
  rw [hzl] at hcells ⊢
  clear hzl
  have hzll : (itL zl).length = 64 := by rw [← hcells, Array.length_toList]; exact hcsz
  have HC := Lib.hid (And.intro hcells hcsz)
  clear hcells hcsz hi hz0 hz1 hz2
  have hb1 := heap_alloc_new w (.cells #[.int .i64 0, .int .i64 0, .slice (some ⟨w.heap.size + 1, 0, none⟩) 64 64, .slice none 0 0, .slice none 0 0] 26)
  have f1 := Fr.alloc No w (.cells #[.int .i64 0, .int .i64 0, .slice (some ⟨w.heap.size + 1, 0, none⟩) 64 64, .slice none 0 0, .slice none 0 0] 26)
  generalize madeCells #[Value.int .u8 0] (64 * 1) = cs at *
  have hb2 := heap_alloc_new (w.alloc (.cells #[.int .i64 0, .int .i64 0, .slice (some ⟨w.heap.size + 1, 0, none⟩) 64 64, .slice none 0 0, .slice none 0 0] 26)) (.cells cs 27)
  have f2 := Fr.alloc No (w.alloc (.cells #[.int .i64 0, .int .i64 0, .slice (some ⟨w.heap.size + 1, 0, none⟩) 64 64, .slice none 0 0, .slice none 0 0] 26)) (.cells cs 27)
  rw [World.size_alloc] at hb2
  have hb1' := blk_no f2 hb1
  have HFW := Lib.hid (f1.no_trans f2)
  have HO : Hid (OwC w.heap.size ((w.alloc (.cells #[.int .i64 0, .int .i64 0, .slice (some ⟨w.heap.size + 1, 0, none⟩) 64 64, .slice none 0 0, .slice none 0 0] 26)).alloc (.cells cs 27)) ⟨0, 0, some ⟨w.heap.size + 1, 0, none⟩, 64, 64, zl, none, 0, 0, [], none, 0, 0, []⟩) := Lib.hid ⟨⟨show (itL zl).length = 64 * 1 from hzll, .inr ⟨_, 64, _, rfl, by omega, hb2, Nat.le_refl _, by unfold maxLen; omega, by rw [HC.out.2], by rw [HC.out.1]; exact List.take_of_length_le (show (itL zl).length ≤ 64 * 1 from Nat.le_of_eq hzll)⟩⟩, World.ownsRow_nil _ _ _ _, World.ownsRow_nil _ _ _ _, fun b hb => by cases hb⟩
  have HB1 := Lib.hid hb1'
  clear hb1 f1 f2 hb2 hb1' HC
  go_enter Tryd.func15, Tryd.ntmps15
  go_wp2_with fail
  refine bodyPost_ret (results_cell_row (p := 0) rfl _ _ w.heap.size 26 #[.int .i64 0, .int .i64 0, .slice (some ⟨w.heap.size + 1, 0, none⟩) 64 64, .slice none 0 0, .slice none 0 0] (0, 0) _ rfl HB1.out Tryd.underlying26 rfl (by kernel_rfl)) rfl ?_
  exact ⟨w.heap.size + 1, rfl, HO.out, HFW.out⟩
set_option maxRecDepth 100000 in
theorem bequal_yes {A A' : Option Addr} {n n' c c' : Nat} {l : List UInt8} (h : Rd w w.heap.size A n l) (h' : Rd w w.heap.size A' n' l) : Calls Tryd.prog 8 #[.slice A n c, .slice A' n' c'] w fun e w' => e = .returned (.bool true) ∧ Fr No w w' := by
  have H1 := Lib.hid (str_rule c h)
  have H2 := Lib.hid (str_rule c' h')
  clear h h'
  go_enter Tryd.func8, Tryd.ntmps8
  go_wp2_with (first | rw [H1.out] | rw [H2.out])
  go_ret
  exact ⟨rfl, Fr.refl _ _⟩
theorem OwC.keep {F : Nat → Prop} (h : OwC lo w C) (hf : Fr F w w') (hF : ∀ i, F i → w.heap.size ≤ i) : OwC lo w' C := by
  have ap : ∀ {e : TypeId} {size m lo' : Nat} {v : Value} {L : List Value}, w.ownsRow lo' e size v m L → ∀ q, v.ownBlock = some q → ¬ F q := fun h' q hq e => by have h1 := (h'.lt q hq).2; have h2 := hF q e; omega
  exact ⟨own_fr h.o1 hf (ap h.o1), own_fr h.o2 hf (ap h.o2), own_fr h.o3 hf (ap h.o3), fun b hb => ⟨(h.o4 b hb).1, own_fr (h.o4 b hb).2 hf (ap (h.o4 b hb).2)⟩⟩
/-- The first slot written. -/
theorem own_first0 {A : Option Addr} {c : Nat} (h : OwS lo w (.slice A 6 c) rep6) : ∃ b, A = some ⟨b, 0, none⟩ ∧ lo ≤ b ∧ w.frozen? ⟨b, 0, none⟩ = false ∧ w.frozen? ⟨b, 1, none⟩ = false ∧ (∃ u, w.cell? ⟨b, 0, none⟩ = some u) ∧ (∃ u, w.cell? ⟨b, 1, none⟩ = some u) ∧ (∃ cur, w.heap[b]? = some (.cells cur 29 (0, 0))) ∧
    OwS lo ((w.setCell ⟨b, 0, none⟩ (.int .u8 3)).setCell ⟨b, 1, none⟩ (.int .i64 1)) (.slice A 6 c) bagX ∧ Fr (fun i => i = b) w ((w.setCell ⟨b, 0, none⟩ (.int .u8 3)).setCell ⟨b, 1, none⟩ (.int .i64 1)) := by
  have h0 : w.ownsRow lo 29 2 (.slice A 6 c) 6 (slC rep6) := h
  obtain ⟨b, hA, hlo, _, hz0, hu0, hset0, hfr0⟩ := own_setk h0 0 (by omega)
  obtain ⟨b', hA', _, _, hz1, hu1, _, _⟩ := own_setk h0 1 (by omega)
  rw [hA] at hA'
  injection hA' with hA'
  injection hA' with hA'
  subst hA'
  obtain ⟨b2, hA2, _, _, _, _, hset1, hfr1⟩ := own_setk (hset0 (.int .u8 3)) 1 (by omega)
  rw [hA] at hA2
  injection hA2 with hA2
  injection hA2 with hA2
  subst hA2
  refine ⟨b, hA, hlo, hz0, hz1, hu0, hu1, own_type h0 (by rw [hA]; rfl), ?_, (hfr0 _).trans (hfr1 _) (fun _ _ e => e)⟩
  have := hset1 (.int .i64 1)
  have e : ((slC rep6).set 0 (.int .u8 3)).set 1 (.int .i64 1) = slC bagX := by kernel_rfl
  rw [e] at this
  exact this
set_option maxRecDepth 100000 in
set_option maxHeartbeats 6400000 in
theorem chawake_any (ht : ItT w) : Calls Tryd.prog 5 #[] w fun e w' => e = .returned (.bool true) ∧ Fr No w w' := by
  have HEM := Lib.hid (fun W => empty_any (w := W))
  have HBY : Hid (∀ W b lo, Fr No w W → OwC lo W ⟨0, 0, some ⟨b, 0, none⟩, 64, 64, List.replicate 64 0, none, 0, 0, [], none, 0, 0, []⟩ → Calls Tryd.prog 7 #[.agg #[.int .i64 0, .int .i64 0, .slice (some ⟨b, 0, none⟩) 64 64, .slice none 0 0, .slice none 0 0]] W fun e w' => ∃ A c, e = .returned (.tuple #[.slice A 67 c, .int .i64 0]) ∧ Rd w' w'.heap.size A 67 (List.replicate 67 0) ∧ Fr No W w') := Lib.hid (fun W b lo hW ho => by
    refine (bytes_ok (C := ⟨0, 0, some ⟨b, 0, none⟩, 64, 64, List.replicate 64 0, none, 0, 0, [], none, 0, 0, []⟩) (ht.no hW) (ho.inC ckE0_b) ckE0_r).mono ?_
    rintro e w' ⟨A, n, c, rfl, hn, hown, hf⟩
    have e1 : ckB (Ch.ck ⟨0, 0, some ⟨b, 0, none⟩, 64, 64, List.replicate 64 0, none, 0, 0, [], none, 0, 0, []⟩) = List.replicate 67 0 := bytes_ex
    rw [e1] at hn hown
    rw [List.length_replicate] at hn hown
    subst hn
    exact ⟨A, c, rfl, Rd.own hown, hf⟩)
  have HS1 : Hid (∀ W b lo, Fr No w W → OwC lo W ⟨0, 0, some ⟨b, 0, none⟩, 64, 64, List.replicate 64 0, none, 0, 0, [], none, 0, 0, []⟩ → Calls Tryd.prog 13 #[.agg #[.int .i64 0, .int .i64 0, .slice (some ⟨b, 0, none⟩) 64 64, .slice none 0 0, .slice none 0 0], .int .i64 5, .int .u8 9] W (CkE W ckE1 0)) := Lib.hid (fun W b lo hW ho => by
    have := set_any (C := ⟨0, 0, some ⟨b, 0, none⟩, 64, 64, List.replicate 64 0, none, 0, 0, [], none, 0, 0, []⟩) (ht.no hW) (ho.inC ckE0_b) ckE0_r 5 (i := 9) (by omega)
    have e1 : setE (Ch.ck ⟨0, 0, some ⟨b, 0, none⟩, 64, 64, List.replicate 64 0, none, 0, 0, [], none, 0, 0, []⟩) 5 9 = 0 := set_ex1
    have e2 : setL (Ch.ck ⟨0, 0, some ⟨b, 0, none⟩, 64, 64, List.replicate 64 0, none, 0, 0, [], none, 0, 0, []⟩) 5 9 = ckE1 := set_ex2
    rw [e1, e2] at this
    exact this)
  have HBX : Hid (∀ W C lo, Fr No w W → C.ck = ckE1 → OwC lo W C → Calls Tryd.prog 16 #[C.val, .int .i64 5] W (BoxP W true rep6)) := Lib.hid (fun W C lo hW hc ho => by
    have := box_any (C := C) (ht.no hW) (ho.inC (by rw [hc]; exact ckE1_b)) (by rw [hc]; exact ckE1_r) 5
    have e1 : hasB C.cs 5 = true := by have : C.cs = ckE1.cs := congrArg Ck.cs hc; rw [this]; exact box_ex1
    rw [hc, box_ex2, e1] at this
    exact this)
  have HFL : Hid (∀ W C lo A c, Fr No w W → C.ck = ckE1 → OwC lo W C → RdS W A 6 bagX → Calls Tryd.prog 14 #[C.val, .int .i64 5, .slice A 6 c] W (CkE W ckE2 0)) := Lib.hid (fun W C lo A c hW hc ho hx => by
    have := fill_any (C := C) (ht.no hW) (ho.inC (by rw [hc]; exact ckE1_b)) (by rw [hc]; exact ckE1_r) 5 hx bagX_by c (by omega)
    rw [hc, fill_ex1, fill_ex2] at this
    exact this)
  have HS2 : Hid (∀ W C lo, Fr No w W → C.ck = ckE2 → OwC lo W C → Calls Tryd.prog 13 #[C.val, .int .i64 5, .int .u8 0] W fun e w' => ∃ D : Ch, e = .returned (.tuple #[D.val, .int .i64 104]) ∧ Fr No W w') := Lib.hid (fun W C lo hW hc ho => by
    have := set_any (C := C) (ht.no hW) (ho.inC (by rw [hc]; exact ckE2_b)) (by rw [hc]; exact ckE2_r) 5 (i := 0) (by omega)
    rw [hc, set_ex3] at this
    exact this.mono (fun e w' ⟨D, h1, _, _, h4⟩ => ⟨D, h1, h4⟩))
  clear ht
  go_enter Tryd.func5, Tryd.ntmps5
  go_wp2_with fail
  refine (HEM.out _).mono ?_
  rintro e w1 ⟨b1, rfl, ho, hf⟩
  have HO1 := Lib.hid ho
  have HF1 := Lib.hid hf
  clear ho hf
  go_wp2_with fail
  refine (HBY.out _ _ _ HF1.out HO1.out).mono ?_
  rintro e w2 ⟨Ab, cb, rfl, hr, hf⟩
  have HRB := Lib.hid hr
  have HF2 := Lib.hid (HF1.out.no_trans hf)
  clear hr hf HO1 HF1
  go_wp2_with fail
  refine (HEM.out _).mono ?_
  rintro e w3 ⟨b3, rfl, ho, hf⟩
  have HO3 := Lib.hid ho
  have HF3 := Lib.hid (HF2.out.no_trans hf)
  have HRB3 := Lib.hid ((HRB.out.below hf.noBelow).more hf.size)
  clear ho hf HF2 HRB
  go_wp2_with fail
  refine (HS1.out _ _ _ HF3.out HO3.out).mono ?_
  rintro e w4 ⟨C1, rfl, hc1, ho, hf⟩
  have HO4 := Lib.hid ho
  have HF4 := Lib.hid (HF3.out.no_trans hf)
  have HRB4 := Lib.hid ((HRB3.out.below hf.noBelow).more hf.size)
  have HC1 := Lib.hid hc1
  clear ho hf HF3 HRB3 HO3 hc1
  obtain ⟨x, y, A1, n1, c1, cs, A2, n2, c2, hps, A3, n3, c3, bs⟩ := C1
  dsimp only [Ch.val]
  have hfa := Fr.alloc No w4 (.cells #[.int .i64 x, .int .i64 y, .slice A1 n1 c1, .slice A2 n2 c2, .slice A3 n3 c3] 26)
  have hb5 := heap_alloc_new w4 (.cells #[.int .i64 x, .int .i64 y, .slice A1 n1 c1, .slice A2 n2 c2, .slice A3 n3 c3] 26)
  have HO5 := Lib.hid (HO4.out.no hfa)
  have HF5 := Lib.hid (HF4.out.no_trans hfa)
  have HRB5 := Lib.hid ((HRB4.out.below hfa.noBelow).more hfa.size)
  go_upto_region 3 with fail
  obtain ⟨G, hG⟩ : ∃ G, w4.heap.size = G := ⟨_, rfl⟩
  rw [hG] at hb5 ⊢
  generalize w4.alloc (.cells #[.int .i64 x, .int .i64 y, .slice A1 n1 c1, .slice A2 n2 c2, .slice A3 n3 c3] 26) = w5 at *
  clear hfa HF4 HRB4 hG
  have HB5 := Lib.hid hb5
  obtain ⟨g0, g1, g2, g3, g4⟩ := cells5 hb5
  clear hb5
  go_wp2_with fail
  refine (HBX.out _ ⟨x, y, A1, n1, c1, cs, A2, n2, c2, hps, A3, n3, c3, bs⟩ _ HF5.out HC1.out HO5.out).mono ?_
  rintro e w6 ⟨Al, nl, cl, ll, rfl, hl, hn, ho, hf⟩
  rw [if_pos rfl] at hl
  subst hl
  obtain rfl : nl = 6 := hn
  have HL6 := Lib.hid ho
  have HF6 := Lib.hid (HF5.out.no_trans hf)
  have HF56 := Lib.hid hf
  have HO6 := Lib.hid (HO5.out.no hf)
  have HRB6 := Lib.hid ((HRB5.out.below hf.noBelow).more hf.size)
  clear ho hf HRB5 g0 g1 g2 g3 g4 HO4
  have HEQ := Lib.hid (fun W (hW : Fr No w6 W) A' c' (h' : Rd W W.heap.size A' 67 (List.replicate 67 0)) => bequal_yes (w := W) (c := cb) (c' := c') ((HRB6.out.below hW.noBelow).more hW.size) h')
  obtain ⟨i0, hi, hz0, hz1, hz2⟩ := info_parts info_u8
  have hmk : ∀ W : World, (Instr.makeSlice 31 (.int .i64 67) (.int .i64 67)).run Tryd.prog W = .ok (.slice (some ⟨W.heap.size, 0, none⟩) 67 67) (W.alloc (.cells (madeCells #[.int .u8 0] (67 * 1)) 5)) := fun W => by
    have hr := run_make (P := Tryd.prog) W 31 5 i0 _ Tryd.underlying31 hi hz0 .i64 .i64 67 67 (by omega) (Int.le_refl _) (by rw [hz2]; omega) (by omega)
    rw [hz1] at hr
    exact hr
  have hcells : (madeCells #[Value.int .u8 0] (67 * 1)).toList = bvs (List.replicate 67 0) := by kernel_rfl
  have HRZ : Hid (Rd (w6.alloc (.cells (madeCells #[.int .u8 0] (67 * 1)) 5)) (w6.heap.size + 1) (some ⟨w6.heap.size, 0, none⟩) 67 (List.replicate 67 0)) := Lib.hid (by
    have := Rd.new w6 (List.replicate 67 0) _ hcells (0, 0)
    rw [List.length_replicate] at this
    exact this)
  have HFZ := Lib.hid (Fr.alloc No w6 (.cells (madeCells #[.int .u8 0] (67 * 1)) 5))
  have HE7 := Lib.hid (HEQ.out _ HFZ.out (some ⟨w6.heap.size, 0, none⟩) 67 (by rw [World.size_alloc]; exact HRZ.out))
  clear hcells hi hz0 hz1 hz2 HRZ HEQ
  generalize madeCells #[Value.int .u8 0] (67 * 1) = zc at *
  go_upto_region 7 with (refine HE7.out.mono ?_; rintro e w7 ⟨rfl, hf⟩; have HF7 := Lib.hid (HFZ.out.no_trans hf); obtain ⟨bl, hbA, hblo, z0, z1, ⟨v0, y0⟩, ⟨v1, y1⟩, hty, ho8, hf8⟩ := own_first0 (HL6.out.no HF7.out); subst hbA; have HO8 := Lib.hid ho8; have HF8 := Lib.hid hf8; have HTY := Lib.hid hty; have HLO := Lib.hid hblo; clear hf ho8 hf8 hty hblo HE7)
  have q58 := ((HF56.out.no_trans HF7.out).any (F := fun i => i = bl)).trans HF8.out (fun _ _ e => e)
  have HO8c := Lib.hid (HO5.out.keep q58 (fun i e => by have e' : i = bl := e; rw [e']; exact HLO.out))
  have hb8 := q58.blk HB5.out (fun (e : G = bl) => by have h1 := (Array.getElem?_eq_some_iff.1 HB5.out).1; have h2 := HLO.out; omega)
  have HF08 := Lib.hid (HF5.out.then_new q58 (fun i e => by have e' : i = bl := e; rw [e']; exact Nat.le_trans HF5.out.size HLO.out))
  clear HO5 HO6 HF5 HF6 HF56 HF7 HF8 HL6 HRB6 HTY q58 z0 z1 y0 y1 HFZ hmk
  generalize (w7.setCell ⟨bl, 0, none⟩ (.int .u8 3)).setCell ⟨bl, 1, none⟩ (.int .i64 1) = w8 at *
  obtain ⟨g0, g1, g2, g3, g4⟩ := cells5 hb8
  clear hb8
  go_wp2_with fail
  refine (HFL.out _ ⟨x, y, A1, n1, c1, cs, A2, n2, c2, hps, A3, n3, c3, bs⟩ _ _ _ HF08.out HC1.out HO8c.out HO8.out.rd).mono ?_
  rintro e w9 ⟨C2, rfl, hc2, ho, hf⟩
  have HO9 := Lib.hid ho
  have HF9 := Lib.hid (HF08.out.no_trans hf)
  have HC2 := Lib.hid hc2
  clear ho hf hc2 HF08 HO8c HO8 HC1 g0 g1 g2 g3 g4 HLO
  obtain ⟨x', y', A1', n1', c1', cs', A2', n2', c2', hps', A3', n3', c3', bs'⟩ := C2
  dsimp only [Ch.val]
  have hfa := Fr.alloc No w9 (.cells #[.int .i64 x', .int .i64 y', .slice A1' n1' c1', .slice A2' n2' c2', .slice A3' n3' c3'] 26)
  have hb10 := heap_alloc_new w9 (.cells #[.int .i64 x', .int .i64 y', .slice A1' n1' c1', .slice A2' n2' c2', .slice A3' n3' c3'] 26)
  have HO10 := Lib.hid (HO9.out.no hfa)
  have HF10 := Lib.hid (HF9.out.no_trans hfa)
  go_upto_region 8 with fail
  obtain ⟨H, hH⟩ : ∃ H, w9.heap.size = H := ⟨_, rfl⟩
  rw [hH] at hb10 ⊢
  generalize w9.alloc (.cells #[.int .i64 x', .int .i64 y', .slice A1' n1' c1', .slice A2' n2' c2', .slice A3' n3' c3'] 26) = w10 at *
  clear hfa HO9 HF9
  obtain ⟨g0, g1, g2, g3, g4⟩ := cells5 hb10
  clear hb10
  go_wp2_with fail
  refine (HS2.out _ ⟨x', y', A1', n1', c1', cs', A2', n2', c2', hps', A3', n3', c3', bs'⟩ _ HF10.out HC2.out HO10.out).mono ?_
  rintro e w11 ⟨⟨x3, y3, A13, n13, c13, cs3, A23, n23, c23, hps3, A33, n33, c33, bs3⟩, rfl, hf⟩
  have HF11 := Lib.hid (HF10.out.no_trans hf)
  clear hf
  dsimp only [Ch.val]
  go_wp2_with fail
  go_ret
  exact ⟨rfl, HF11.out.no_trans (Fr.alloc _ _ _)⟩
end
end Go.Proofs.YtefopgdmadgheaaDoor

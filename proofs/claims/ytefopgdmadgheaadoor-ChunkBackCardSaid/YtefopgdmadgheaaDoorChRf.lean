/-
  Read of any bytes. No statement of the seat is proved here.
-/
import Derived.Test.YtefopgdmadgheaaDoorChRe
import Derived.Test.YtefopgdmadgheaaDoorChD
namespace Go.Proofs.YtefopgdmadgheaaDoor
open Go.RowKit Go.Deep

/-- What Read tells. -/
def RdP (w : World) (l : List UInt8) (e : Ending) (w' : World) : Prop :=
  (rdOk l = true ∧ ∃ C : Ch, e = .returned (.tuple #[C.val, .int .i64 0]) ∧ C.ck = ofV (vN l) ∧ OwC w.heap.size w' C ∧ Fr No w w') ∨
  (rdOk l = false ∧ e = .returned (.tuple #[.agg #[.int .i64 0, .int .i64 0, .slice none 0 0, .slice none 0 0, .slice none 0 0], .int .i64 101]) ∧ Fr No w w')
section
variable {w w' : World} {n c : Nat} {A : Option Addr} {l : List UInt8}
set_option maxRecDepth 100000 in
set_option maxHeartbeats 3200000 in
theorem Read_any (ht : ItT w) (hr : Rd w w.heap.size A n l) (hn : n ≤ 500000) (hc : n ≤ c) : Calls Tryd.prog 6 #[.slice A n c] w (RdP w l) := by
  have hb0 := heap_alloc_new w (.cells #[.slice A n c] 31)
  have hb1 := heap_alloc_new (w.alloc (.cells #[.slice A n c] 31)) (.cells #[.int .i64 0, .int .i64 0, .slice none 0 0, .slice none 0 0, .slice none 0 0] 26)
  have hb2 := heap_alloc_new ((w.alloc (.cells #[.slice A n c] 31)).alloc (.cells #[.int .i64 0, .int .i64 0, .slice none 0 0, .slice none 0 0, .slice none 0 0] 26)) (.cells #[.int .i64 0] 3)
  have hb3 := heap_alloc_new (((w.alloc (.cells #[.slice A n c] 31)).alloc (.cells #[.int .i64 0, .int .i64 0, .slice none 0 0, .slice none 0 0, .slice none 0 0] 26)).alloc (.cells #[.int .i64 0] 3)) (.cells #[.bool false] 4)
  have f0 := Fr.alloc No w (.cells #[.slice A n c] 31)
  have f1 := Fr.alloc No (w.alloc (.cells #[.slice A n c] 31)) (.cells #[.int .i64 0, .int .i64 0, .slice none 0 0, .slice none 0 0, .slice none 0 0] 26)
  have f2 := Fr.alloc No ((w.alloc (.cells #[.slice A n c] 31)).alloc (.cells #[.int .i64 0, .int .i64 0, .slice none 0 0, .slice none 0 0, .slice none 0 0] 26)) (.cells #[.int .i64 0] 3)
  have f3 := Fr.alloc No (((w.alloc (.cells #[.slice A n c] 31)).alloc (.cells #[.int .i64 0, .int .i64 0, .slice none 0 0, .slice none 0 0, .slice none 0 0] 26)).alloc (.cells #[.int .i64 0] 3)) (.cells #[.bool false] 4)
  rw [World.size_alloc] at hb1
  rw [World.size_alloc, World.size_alloc] at hb2
  rw [World.size_alloc, World.size_alloc, World.size_alloc] at hb3
  obtain ⟨D, hD⟩ : ∃ D, w.heap.size = D := ⟨_, rfl⟩
  rw [hD] at hb0 hb1 hb2 hb3
  have HDW := Lib.hid hD
  have hff := f0.no_trans (f1.no_trans (f2.no_trans f3))
  have HF4 := Lib.hid hff
  have HLEN := Lib.hid hr.len
  have HN4 : Hid (NumAt ((((w.alloc (.cells #[.slice A n c] 31)).alloc (.cells #[.int .i64 0, .int .i64 0, .slice none 0 0, .slice none 0 0, .slice none 0 0] 26)).alloc (.cells #[.int .i64 0] 3)).alloc (.cells #[.bool false] 4)) D D (D + 1 + 1) (D + 1 + 1 + 1) A n c l 0) := Lib.hid ⟨blk_no (f1.no_trans (f2.no_trans f3)) hb0, blk_no f3 hb2, hb3, (by have := hr.keep (w' := ((((w.alloc (.cells #[.slice A n c] 31)).alloc (.cells #[.int .i64 0, .int .i64 0, .slice none 0 0, .slice none 0 0, .slice none 0 0] 26)).alloc (.cells #[.int .i64 0] 3)).alloc (.cells #[.bool false] 4))) (fun p hp => hff.cell hp (fun e => e)); rw [hD] at this; exact this), by have := hff.size; omega, hn, hc, by omega⟩
  have HR4 := Lib.hid (blk_no (f2.no_trans f3) hb1)
  have HT := Lib.hid ht
  have HRD := Lib.hid (read_any HN4.out)
  unfold numF at HRD
  clear hr hn hc ht hb0 hb1 hb2 hb3 f0 f1 f2 f3 hff
  go_enter Tryd.func6, Tryd.ntmps6
  go_upto_region 2 with fail
  clear hD
  generalize (((w.alloc (.cells #[.slice A n c] 31)).alloc (.cells #[.int .i64 0, .int .i64 0, .slice none 0 0, .slice none 0 0, .slice none 0 0] 26)).alloc (.cells #[.int .i64 0] 3)).alloc (.cells #[.bool false] 4) = w4 at *
  go_wp2_with fail
  refine HRD.out.mono ?_
  rintro e w5 ⟨C, rfl, hck, ho, hn5, hf5⟩
  obtain ⟨x, y, A1, n1, c1, cs, A2, n2, c2, hps, A3, n3, c3, bs⟩ := C
  dsimp only [Ch.val]
  have hfa := Fr.alloc No w5 (.cells #[.int .i64 x, .int .i64 y, .slice A1 n1 c1, .slice A2 n2 c2, .slice A3 n3 c3] 26)
  have hb6 := heap_alloc_new w5 (.cells #[.int .i64 x, .int .i64 y, .slice A1 n1 c1, .slice A2 n2 c2, .slice A3 n3 c3] 26)
  have HN6 := Lib.hid (hn5.no hfa)
  have HO6 := Lib.hid (ho.no hfa)
  have HR6 := Lib.hid (blk_no hfa (hf5.blk HR4.out (f2_chunk HN4.out HR4.out)))
  have HF6 : Hid (Fr No w (w5.alloc (.cells #[.int .i64 x, .int .i64 y, .slice A1 n1 c1, .slice A2 n2 c2, .slice A3 n3 c3] 26))) := Lib.hid ((HF4.out.then_new hf5 (fun b e => by have := HDW.out; rcases e with e | e <;> omega)).no_trans hfa)
  have HCK := Lib.hid hck
  clear hck ho hn5 hf5 hfa HRD HN4 HR4
  go_upto_region 4 with fail
  obtain ⟨E, hE⟩ : ∃ E, w5.heap.size = E := ⟨_, rfl⟩
  rw [hE] at hb6 ⊢
  clear hE
  generalize w5.alloc (.cells #[.int .i64 x, .int .i64 y, .slice A1 n1 c1, .slice A2 n2 c2, .slice A3 n3 c3] 26) = w6 at *
  have HB6 := Lib.hid hb6
  clear hb6
  have HRG : Hid (rdOk l = (!(stN l (totV (vN l))).2 && ((stN l (totV (vN l))).1 == n) && rgtC (ofV (vN l)))) := Lib.hid (by unfold rdOk; rw [HLEN.out])
  obtain ⟨p0, p1, p2, p3, p4⟩ := cells5 HB6.out
  have k1 := (blk_cell HN6.out.f 0).trans (by simp : _ = some (.bool (stN l (totV (vN l))).2))
  have k2 := (blk_cell HN6.out.a 0).trans (by simp : _ = some (.int .i64 ((stN l (totV (vN l))).1 : Int)))
  have k3 := (blk_cell HN6.out.u 0).trans (by simp : _ = some (.slice A n c))
  have hor : ∃ st, stN l (totV (vN l)) = st := ⟨_, rfl⟩
  obtain ⟨st, hst⟩ := hor
  rw [hst] at HRG k1 k2
  clear hst
  obtain ⟨a, fl⟩ := st
  dsimp only at HRG k1 k2
  cases fl
  · by_cases ha : a = n
    · subst ha
      have hrt := cright_any (C := ⟨x, y, A1, n1, c1, cs, A2, n2, c2, hps, A3, n3, c3, bs⟩) (HT.out.no HF6.out) HO6.out.rd (by rw [HCK.out]; exact ofV_by l) (HO6.out.inC (by rw [HCK.out]; exact ofV_by l)).sm (own_cap HO6.out.o3)
      rw [HCK.out] at hrt
      dsimp only [Ch.val] at hrt
      obtain ⟨bq, hbq⟩ : ∃ bq, rgtC (ofV (vN l)) = bq := ⟨_, rfl⟩
      rw [hbq] at hrt HRG
      have HRT := Lib.hid hrt
      clear hrt hbq
      cases bq
      · have HOK : Hid (rdOk l = false) := Lib.hid (by rw [HRG.out]; simp)
        go_wp2_with fail
        refine HRT.out.mono ?_
        rintro e w7 ⟨rfl, hf7⟩
        have HF7 := Lib.hid (HF6.out.no_trans hf7)
        have HR7 := Lib.hid (blk_no hf7 HR6.out)
        clear hf7 p0 p1 p2 p3 p4 k1 k2 k3
        obtain ⟨r0, r1, r2, r3, r4⟩ := cells5 HR7.out
        obtain ⟨z0, z1, z2, z3, z4⟩ := free5 HR7.out
        go_wp2_with fail
        have q := set5_fr w7 (D + 1) (.int .i64 0) (.int .i64 0) (.slice none 0 0) (.slice none 0 0) (.slice none 0 0)
        refine bodyPost_ret (results_cell_tmp_rowC (p := 2) rfl _ _ (D + 1) 26 #[.int .i64 0, .int .i64 0, .slice none 0 0, .slice none 0 0, .slice none 0 0] (0, 0) _ rfl (set5_heap HR7.out _ _ _ _ _) Tryd.underlying26 rfl (by kernel_rfl)) rfl ?_
        exact .inr ⟨HOK.out, rfl, HF7.out.then_new q (fun b e => by have e' : b = D + 1 := e; have := HDW.out; omega)⟩
      · have HOK : Hid (rdOk l = true) := Lib.hid (by rw [HRG.out]; simp)
        go_wp2_with fail
        refine HRT.out.mono ?_
        rintro e w7 ⟨rfl, hf7⟩
        have HF7 := Lib.hid (HF6.out.no_trans hf7)
        have HR7 := Lib.hid (blk_no hf7 HR6.out)
        have HO7 := Lib.hid (HO6.out.no hf7)
        have HB7 := Lib.hid (blk_no hf7 HB6.out)
        clear hf7 p0 p1 p2 p3 p4 k1 k2 k3
        obtain ⟨p0, p1, p2, p3, p4⟩ := cells5 HB7.out
        obtain ⟨r0, r1, r2, r3, r4⟩ := cells5 HR7.out
        obtain ⟨z0, z1, z2, z3, z4⟩ := free5 HR7.out
        go_wp2_with fail
        have q := set5_fr w7 (D + 1) (.int .i64 x) (.int .i64 y) (.slice A1 n1 c1) (.slice A2 n2 c2) (.slice A3 n3 c3)
        refine bodyPost_ret (results_cell_tmp_rowC (p := 2) rfl _ _ (D + 1) 26 #[.int .i64 x, .int .i64 y, .slice A1 n1 c1, .slice A2 n2 c2, .slice A3 n3 c3] (0, 0) _ rfl (set5_heap HR7.out _ _ _ _ _) Tryd.underlying26 rfl (by kernel_rfl)) rfl ?_
        refine .inl ⟨HOK.out, ⟨x, y, A1, n1, c1, cs, A2, n2, c2, hps, A3, n3, c3, bs⟩, rfl, HCK.out, ?_, HF7.out.then_new q (fun b e => by have e' : b = D + 1 := e; have := HDW.out; omega)⟩
        exact (HO7.out.low (by have := HF4.out.size; omega)).at_ HR7.out q
    · have HOK : Hid (rdOk l = false) := Lib.hid (by rw [HRG.out, show (a == n) = false from beq_eq_false_iff_ne.2 ha]; simp)
      have hne : ((a : Int) == (n : Int)) = false := by rw [beq_eq_false_iff_ne]; omega
      have hne2 : ((a : Int) != (n : Int)) = true := by rw [bne_iff_ne]; omega
      clear p0 p1 p2 p3 p4
      obtain ⟨r0, r1, r2, r3, r4⟩ := cells5 HR6.out
      obtain ⟨z0, z1, z2, z3, z4⟩ := free5 HR6.out
      go_wp2_with fail
      have q := set5_fr w6 (D + 1) (.int .i64 0) (.int .i64 0) (.slice none 0 0) (.slice none 0 0) (.slice none 0 0)
      refine bodyPost_ret (results_cell_tmp_rowC (p := 2) rfl _ _ (D + 1) 26 #[.int .i64 0, .int .i64 0, .slice none 0 0, .slice none 0 0, .slice none 0 0] (0, 0) _ rfl (set5_heap HR6.out _ _ _ _ _) Tryd.underlying26 rfl (by kernel_rfl)) rfl ?_
      exact .inr ⟨HOK.out, rfl, HF6.out.then_new q (fun b e => by have e' : b = D + 1 := e; have := HDW.out; omega)⟩
  · have HOK : Hid (rdOk l = false) := Lib.hid (by rw [HRG.out]; simp)
    clear p0 p1 p2 p3 p4
    obtain ⟨r0, r1, r2, r3, r4⟩ := cells5 HR6.out
    obtain ⟨z0, z1, z2, z3, z4⟩ := free5 HR6.out
    go_wp2_with fail
    have q := set5_fr w6 (D + 1) (.int .i64 0) (.int .i64 0) (.slice none 0 0) (.slice none 0 0) (.slice none 0 0)
    refine bodyPost_ret (results_cell_tmp_rowC (p := 2) rfl _ _ (D + 1) 26 #[.int .i64 0, .int .i64 0, .slice none 0 0, .slice none 0 0, .slice none 0 0] (0, 0) _ rfl (set5_heap HR6.out _ _ _ _ _) Tryd.underlying26 rfl (by kernel_rfl)) rfl ?_
    exact .inr ⟨HOK.out, rfl, HF6.out.then_new q (fun b e => by have e' : b = D + 1 := e; have := HDW.out; omega)⟩
end
end Go.Proofs.YtefopgdmadgheaaDoor

/-
  The walk of ChunkBack. No statement of the seat is proved here.
-/
import Derived.Test.YtefopgdmadgheaaDoorChRf
import Derived.Test.YtefopgdmadgheaaDoorChLm
import Derived.Test.YtefopgdmadgheaaDoorChSm
import Derived.Test.YtefopgdmadgheaaDoorChZ
import Derived.Test.YtefopgdmadgheaaDoorChV
namespace Go.Proofs.YtefopgdmadgheaaDoor
open Go.RowKit Go.Deep

theorem setE_out {d : Ck} {cell : Int} {i : Nat} (h : ¬ (0 ≤ cell ∧ cell < 64)) : setL d cell i = d := by
  unfold setL
  rw [if_neg]
  unfold setE plcC
  have : (decide (0 ≤ cell) && decide (cell < 64)) = false := by
    rw [Bool.and_eq_false_iff]
    by_cases h0 : 0 ≤ cell
    · exact .inr (decide_eq_false (fun h1 => h ⟨h0, h1⟩))
    · exact .inl (decide_eq_false h0)
  simp [this]
theorem Rgt.setI {d : Ck} (r : Rgt d) (cell : Int) (i : Nat) : Rgt (setL d cell i) := by
  by_cases h : 0 ≤ cell ∧ cell < 64
  · obtain ⟨a, rfl⟩ : ∃ a : Nat, cell = (a : Int) := ⟨cell.toNat, by omega⟩
    exact r.set a i
  · rw [setE_out h]; exact r
theorem ByC.setI {d : Ck} (hb : ByC d) (cell : Int) {i : Nat} (hi : i < 256) : ByC (setL d cell i) := by
  by_cases h : 0 ≤ cell ∧ cell < 64
  · obtain ⟨a, rfl⟩ : ∃ a : Nat, cell = (a : Int) := ⟨cell.toNat, by omega⟩
    exact hb.set a hi
  · rw [setE_out h]; exact hb
theorem lift_len (d : Ck) (c : Int) : (liftL d c).hs.length + (liftS d c).length = d.hs.length := by
  unfold liftL liftS
  rw [List.length_map]
  dsimp only
  generalize d.hs = l
  induction l with
  | nil => rfl
  | cons h l ih =>
    by_cases e : h.1 == c
    · simp only [List.filter_cons, e, Bool.not_true, Bool.false_eq_true, if_false, if_true, List.length_cons]
      omega
    · have e' : (h.1 == c) = false := by simpa using e
      simp only [List.filter_cons, e', Bool.not_false, Bool.false_eq_true, if_false, if_true, List.length_cons]
      omega
theorem varint_two {n : Nat} (h : n ≤ 255) : (varint n).length ≤ 2 := by
  by_cases h1 : n < 128
  · rw [varint_small h1]; exact Nat.le_succ 1
  · rw [varint, if_neg h1, varint_small (by omega)]
    exact Nat.le_refl _
theorem ckB_small {d : Ck} (r : Rgt d) (hb : ByC d) : (ckB d).length ≤ 500000 := by
  rw [ckB_nums (rgt_iff.2 r)]
  have hle := nums_le (rgt_iff.2 r) hb
  have hl : (numsOf d).length ≤ 67 + 3 * 32 + 12 * 64 := by
    have e : ofV (fun j => (numsOf d).getD j 0) = d := ofV_of (rgt_iff.2 r) _ (fun j x hj => by rw [List.getD_eq_getElem?_getD, hj]; rfl)
    have h1 := congrArg List.length (nums_ofV (fun j => (numsOf d).getD j 0))
    rw [e] at h1
    simp only [List.length_map, List.length_range] at h1
    rw [h1]
    have h2 : ∀ l : List Nat, nine l ≤ l.length := fun l => by
      induction l with
      | nil => exact Nat.le_refl _
      | cons i l ih =>
        show (if i = 9 then nine l + 1 else nine l) ≤ l.length + 1
        split <;> omega
    have h3 := h2 (csV (fun j => (numsOf d).getD j 0))
    rw [csV_len] at h3
    have h4 : (numsOf d).getD 66 0 ≤ 32 := by
      have h5 : (hsV (fun j => (numsOf d).getD j 0) ((numsOf d).getD 66 0)) = d.hs := congrArg Ck.hs e
      have h6 := congrArg List.length h5
      rw [hsV_len] at h6
      have := r.hl
      omega
    unfold totV
    dsimp only
    omega
  have h3 : ∀ ns : List Nat, (∀ n ∈ ns, n ≤ 255) → (ns.flatMap varint).length ≤ 2 * ns.length := fun ns => by
    induction ns with
    | nil => intro _; exact Nat.le_refl _
    | cons n ns ih =>
      intro h
      have h4 := ih (fun m hm => h m (List.mem_cons_of_mem _ hm))
      have h5 := varint_two (h n (List.mem_cons_self ..))
      rw [List.flatMap_cons, List.length_append, List.length_cons]
      omega
  have := h3 _ hle
  omega
/-- A row of the call's own, whatever cell is written. -/
theorem own_any_set {w : World} {lo : Nat} {e : TypeId} {size m : Nat} {v : Value} {cells : List Value} (h : w.ownsRow lo e size v m cells) (g r : Nat) (u : Value) : ∃ cells', (w.setCell ⟨g, r, none⟩ u).ownsRow lo e size v m cells' := by
  by_cases hg : v.ownBlock = some g
  · rcases h.2 with ⟨hv, h0⟩ | ⟨g', cap, cur, hv, hlo, hh, hnc, hcm, hsz, htk⟩
    · rw [hv] at hg; cases hg
    · rw [hv] at hg
      injection hg with hg
      subst hg
      refine ⟨(cur.setIfInBounds r u).toList.take (m * size), ?_, .inr ⟨g', cap, _, hv, hlo, heap_cells_set w g' r _ _ u hh, hnc, hcm, by simpa using hsz, rfl⟩⟩
      rw [List.length_take, Array.length_toList, Array.size_setIfInBounds, hsz]
      exact Nat.min_eq_left (Nat.mul_le_mul_right _ hnc)
  · exact ⟨cells, own_fr h (Fr.setCell (F := fun i => i = g) w ⟨g, r, none⟩ u rfl) (fun k hk e => hg (by rw [← (show k = g from e)]; exact hk))⟩
section
variable {w w' : World} {C : Ch}
theorem cells6 {W : World} {D : Nat} {a b c d e f : Value} {T : TypeId} (h : W.heap[D]? = some (.cells #[a, b, c, d, e, f] T (0, 0))) :
    W.cell? ⟨D, 0, none⟩ = some a ∧ W.cell? ⟨D, 1, none⟩ = some b ∧ W.cell? ⟨D, 2, none⟩ = some c ∧ W.cell? ⟨D, 3, none⟩ = some d ∧ W.cell? ⟨D, 4, none⟩ = some e ∧ W.cell? ⟨D, 5, none⟩ = some f :=
  ⟨(blk_cell h 0).trans (by simp), (blk_cell h 1).trans (by simp), (blk_cell h 2).trans (by simp), (blk_cell h 3).trans (by simp), (blk_cell h 4).trans (by simp), (blk_cell h 5).trans (by simp)⟩
/-- Read's answer in one form. -/
theorem RdP.both {l : List UInt8} {e : Ending} (h : RdP w l e w') : ∃ (C1 : Ch) (er : Int), e = .returned (.tuple #[C1.val, .int .i64 er]) ∧ ((er = 0 ∧ rdOk l = true ∧ C1.ck = ofV (vN l)) ∨ (er = 101 ∧ rdOk l = false)) ∧ OwC w.heap.size w' C1 ∧ Fr No w w' := by
  rcases h with ⟨h1, C1, rfl, h2, h3, h4⟩ | ⟨h1, rfl, h4⟩
  · exact ⟨C1, 0, rfl, .inl ⟨rfl, h1, h2⟩, h3, h4⟩
  · exact ⟨⟨0, 0, none, 0, 0, [], none, 0, 0, [], none, 0, 0, []⟩, 101, rfl, .inr ⟨rfl, h1⟩, ⟨World.ownsRow_nil _ _ _ _, World.ownsRow_nil _ _ _ _, World.ownsRow_nil _ _ _ _, fun b hb => by cases hb⟩, h4⟩
set_option maxRecDepth 100000 in
set_option maxHeartbeats 12800000 in
theorem back_walk (ht : ItT w) (h : InC w C) (cl : Int) (it s : Nat) (hit : it < 256) (hs : s < 256) (sm : Int) {Ab : Option Addr} {nb cb : Nat} {lb : List (Nat × Int)} (hxb : RdS w Ab nb lb) (hlb : By lb) {Ax : Option Addr} {nx cx : Nat} {lx : List UInt8} (hx : Rd w w.heap.size Ax nx lx) (hcx : nx ≤ cx) :
    Calls Tryd.prog 3 #[C.val, .agg #[.int .i64 cl, .int .u8 (it : Int), .int .u8 (s : Int), .int .i64 sm, .slice Ab nb cb, .slice Ax nx cx]] w fun e w' => e = .returned (.bool true) ∧ Fr No w w' := by
  have HT := Lib.hid ht
  have HIN := Lib.hid h
  have HXB := Lib.hid hxb
  have HLB := Lib.hid hlb
  have HX := Lib.hid hx
  have HA := Lib.hid (fun W (hW : Fr No w W) => chawake_any (ht.no hW))
  have HGR := Lib.hid (fun W (hW : Fr No w W) => great_any (h.no hW).rd h.sm)
  obtain ⟨x, y, A1, n1, c1, cs, A2, n2, c2, hps, A3, n3, c3, bs⟩ := C
  dsimp only [Ch.val] at HGR ⊢
  have hb0 := heap_alloc_new w (.cells #[.int .i64 x, .int .i64 y, .slice A1 n1 c1, .slice A2 n2 c2, .slice A3 n3 c3] 26)
  have f0 := Fr.alloc No w (.cells #[.int .i64 x, .int .i64 y, .slice A1 n1 c1, .slice A2 n2 c2, .slice A3 n3 c3] 26)
  have hb1 := heap_alloc_new (w.alloc (.cells #[.int .i64 x, .int .i64 y, .slice A1 n1 c1, .slice A2 n2 c2, .slice A3 n3 c3] 26)) (.cells #[.int .i64 cl, .int .u8 (it : Int), .int .u8 (s : Int), .int .i64 sm, .slice Ab nb cb, .slice Ax nx cx] 33)
  have f1 := Fr.alloc No (w.alloc (.cells #[.int .i64 x, .int .i64 y, .slice A1 n1 c1, .slice A2 n2 c2, .slice A3 n3 c3] 26)) (.cells #[.int .i64 cl, .int .u8 (it : Int), .int .u8 (s : Int), .int .i64 sm, .slice Ab nb cb, .slice Ax nx cx] 33)
  rw [World.size_alloc] at hb1
  replace hb0 := blk_no f1 hb0
  have HF := Lib.hid (f0.no_trans f1)
  clear ht h hxb hlb hx f0 f1
  go_enter Tryd.func3, Tryd.ntmps3
  go_upto_region 1 with fail
  obtain ⟨D, hD⟩ : ∃ D, w.heap.size = D := ⟨_, rfl⟩
  rw [hD] at hb0 hb1 ⊢
  have HDW := Lib.hid hD
  clear hD
  generalize (w.alloc (.cells #[.int .i64 x, .int .i64 y, .slice A1 n1 c1, .slice A2 n2 c2, .slice A3 n3 c3] 26)).alloc (.cells #[.int .i64 cl, .int .u8 (it : Int), .int .u8 (s : Int), .int .i64 sm, .slice Ab nb cb, .slice Ax nx cx] 33) = w1 at *
  have HB0 := Lib.hid hb0
  have HB1 := Lib.hid hb1
  clear hb0 hb1
  obtain ⟨g0, g1, g2, g3, g4⟩ := cells5 HB0.out
  go_wp2_with fail
  refine (HGR.out _ HF.out).mono ?_
  rintro e w2 ⟨g, rfl, hf⟩
  have HFa := Lib.hid hf
  clear hf g0 g1 g2 g3 g4 HGR
  obtain ⟨k0, k1, k2, k3, k4, k5⟩ := cells6 (blk_no HFa.out HB1.out)
  have HAW1 := Lib.hid (HA.out w2 (HF.out.no_trans HFa.out))
  have hcase : g = true ∨ (g = false ∧ (nb : Int) > 300) ∨ (g = false ∧ ¬ (nb : Int) > 300 ∧ (nx : Int) > 5000) ∨ (g = false ∧ ¬ (nb : Int) > 300 ∧ ¬ (nx : Int) > 5000) := by cases g <;> simp <;> omega
  rcases hcase with rfl | ⟨rfl, h1⟩ | ⟨rfl, h1, h2⟩ | ⟨rfl, h1, h2⟩
  · go_wp2_with fail
    refine HAW1.out.mono ?_
    rintro e w3 ⟨rfl, hf⟩
    go_wp2_with fail
    go_ret
    exact ⟨rfl, (HF.out.no_trans HFa.out).no_trans hf⟩
  · go_wp2_with fail
    refine HAW1.out.mono ?_
    rintro e w3 ⟨rfl, hf⟩
    go_wp2_with fail
    go_ret
    exact ⟨rfl, (HF.out.no_trans HFa.out).no_trans hf⟩
  · go_wp2_with fail
    refine HAW1.out.mono ?_
    rintro e w3 ⟨rfl, hf⟩
    go_wp2_with fail
    go_ret
    exact ⟨rfl, (HF.out.no_trans HFa.out).no_trans hf⟩
  · have HNB : Hid (nb ≤ 300 ∧ nx ≤ 5000) := Lib.hid (by omega)
    clear HAW1
    go_upto_region 3 with fail
    clear h1 h2
    obtain ⟨wa, hwa⟩ : ∃ wa, wa = w2 := ⟨_, rfl⟩
    subst hwa
    have HRD := Lib.hid (Read_any (HT.out.no (HF.out.no_trans HFa.out)) ((HX.out.below (HF.out.no_trans HFa.out).noBelow).more (HF.out.no_trans HFa.out).size) (by have := HNB.out; omega) hcx)
    go_wp2_with fail
    refine HRD.out.mono ?_
    rintro e w3 hrd
    obtain ⟨⟨x1, y1, B1, m1, d1, cs1, B2, m2, d2, hs1, B3, m3, d3, bs1⟩, er, rfl, her, ho, hf⟩ := hrd.both
    dsimp only [Ch.val]
    have hfa := Fr.alloc No w3 (.cells #[.int .i64 x1, .int .i64 y1, .slice B1 m1 d1, .slice B2 m2 d2, .slice B3 m3 d3] 26)
    have hb4 := heap_alloc_new w3 (.cells #[.int .i64 x1, .int .i64 y1, .slice B1 m1 d1, .slice B2 m2 d2, .slice B3 m3 d3] 26)
    have HER := Lib.hid her
    have HO4 := Lib.hid (ho.no hfa)
    have HFb := Lib.hid (HFa.out.no_trans (hf.no_trans hfa))
    clear hrd her ho hf hfa HRD k0 k1 k2 k3 k4 k5 HFa
    go_upto_region 4 with fail
    obtain ⟨P1, hP1⟩ : ∃ P1, w3.heap.size = P1 := ⟨_, rfl⟩
    rw [hP1] at hb4 ⊢
    clear hP1
    generalize w3.alloc (.cells #[.int .i64 x1, .int .i64 y1, .slice B1 m1 d1, .slice B2 m2 d2, .slice B3 m3 d3] 26) = w4 at *
    have HB4 := Lib.hid hb4
    clear hb4
    obtain ⟨be, hbe⟩ : ∃ be, (er == 0) = be := ⟨_, rfl⟩
    go_upto_if 45 with fail
    try rw [hbe]
    have HBE := Lib.hid hbe
    clear hbe
    go_cut [7, 8] from 46 to 64 (fun _ _ W => Fr No w4 W)
    case first =>
      have her := HER.out
      rcases her with ⟨rfl, hok, hck⟩ | ⟨rfl, _⟩
      · obtain rfl : be = true := by have := HBE.out; simpa using this.symm
        have hrg : rgtC (ofV (vN lx)) = true := by
          unfold rdOk at hok
          simp only [Bool.and_eq_true] at hok
          exact hok.2
        have hby := rd_bytes hok
        have hin := HO4.out.inC (by rw [hck]; exact ofV_by lx)
        have hbk := bytes_ok (HT.out.no (HF.out.no_trans HFb.out)) hin (by rw [hck]; exact hrg)
        rw [hck] at hbk
        have HBK := Lib.hid hbk
        have HRT : Hid (∀ W, Fr No w4 W → Calls Tryd.prog 9 #[.agg #[.int .i64 x1, .int .i64 y1, .slice B1 m1 d1, .slice B2 m2 d2, .slice B3 m3 d3]] W fun e w' => e = .returned (.bool true) ∧ Fr No W w') := Lib.hid (fun W hW => by
          have := cright_any ((HT.out.no (HF.out.no_trans HFb.out)).no hW) (hin.no hW).rd hin.bt hin.sm hin.cap
          rw [hck, hrg] at this
          exact this)
        have HBY := Lib.hid hby
        clear hok hck hrg hby hin hbk
        dsimp only [Ch.val] at HBK
        obtain ⟨g0, g1, g2, g3, g4⟩ := cells5 HB4.out
        go_wp2_with fail
        refine HBK.out.mono ?_
        rintro e w5 ⟨Ay, ny, cy, rfl, hny, hoy, hf5⟩
        rw [HBY.out] at hny hoy
        have hlx := HX.out.len
        obtain rfl : ny = nx := by omega
        rw [hlx] at hoy
        have HRY := Lib.hid (Rd.own hoy)
        have HF5 := Lib.hid hf5
        have HRX := Lib.hid ((HX.out.below (HF.out.no_trans (HFb.out.no_trans hf5)).noBelow).more (HF.out.no_trans (HFb.out.no_trans hf5)).size)
        have HEQ := Lib.hid (bequal_yes (c := cy) (c' := cx) HRY.out HRX.out)
        clear hny hoy hlx hf5 g0 g1 g2 g3 g4 HBK HBY
        obtain ⟨g0, g1, g2, g3, g4⟩ := cells5 (blk_no HF5.out HB4.out)
        obtain ⟨k0, k1, k2, k3, k4, k5⟩ := cells6 (blk_no (HFb.out.no_trans HF5.out) HB1.out)
        go_wp2_with fail
        refine HEQ.out.mono ?_
        rintro e w6 ⟨rfl, hf6⟩
        have HF6 := Lib.hid (HF5.out.no_trans hf6)
        clear hf6 g0 g1 g2 g3 g4 k0 k1 k2 k3 k4 k5 HEQ
        obtain ⟨g0, g1, g2, g3, g4⟩ := cells5 (blk_no HF6.out HB4.out)
        go_wp2_with fail
        refine (HRT.out _ HF6.out).mono ?_
        rintro e w7 ⟨rfl, hf7⟩
        have HF7 := Lib.hid (HF6.out.no_trans hf7)
        clear hf7 g0 g1 g2 g3 g4
        go_wp2_with fail
        go_meet
        exact HF7.out
      · obtain rfl : be = false := by have := HBE.out; simpa using this.symm
        go_wp2_with fail
        go_meet
        exact Fr.refl _ _
    case rest =>
    have HFc := Lib.hid (HFb.out.no_trans hcut)
    clear hcut HFb HBE HER HO4 HB4
    have HRI := Lib.hid (fun W (hW : Fr No w W) => cright_any (HT.out.no hW) (HIN.out.no hW).rd HIN.out.bt HIN.out.sm HIN.out.cap)
    obtain ⟨q, hq⟩ : ∃ q, rgtC (Ch.ck ⟨x, y, A1, n1, c1, cs, A2, n2, c2, hps, A3, n3, c3, bs⟩) = q := ⟨_, rfl⟩
    rw [hq] at HRI
    dsimp only [Ch.val] at HRI
    have HFw := Lib.hid (HF.out.no_trans HFc.out)
    obtain ⟨g0, g1, g2, g3, g4⟩ := cells5 (blk_no HFc.out HB0.out)
    cases q
    · have hbn := bytes_no (HT.out.no HFw.out) (HIN.out.no HFw.out) hq
      dsimp only [Ch.val] at hbn
      have HBN := Lib.hid hbn
      clear hbn hq
      go_wp2_with fail
      refine HBN.out.mono ?_
      rintro e w5 ⟨rfl, hf5⟩
      have HF5 := Lib.hid hf5
      clear hf5 g0 g1 g2 g3 g4
      obtain ⟨g0, g1, g2, g3, g4⟩ := cells5 (blk_no (HFc.out.no_trans HF5.out) HB0.out)
      go_wp2_with fail
      refine (HRI.out _ (HFw.out.no_trans HF5.out)).mono ?_
      rintro e w6 ⟨rfl, hf6⟩
      have HF6 := Lib.hid (HF5.out.no_trans hf6)
      clear hf6
      go_wp2_with fail
      refine (HA.out _ (HFw.out.no_trans HF6.out)).mono ?_
      rintro e w7 ⟨rfl, hf7⟩
      go_wp2_with fail
      go_ret
      exact ⟨rfl, (HFw.out.no_trans HF6.out).no_trans hf7⟩
    · have hbk := bytes_ok (HT.out.no HFw.out) (HIN.out.no HFw.out) hq
      dsimp only [Ch.val] at hbk
      have HBK := Lib.hid hbk
      have HQ := Lib.hid hq
      clear hbk hq
      go_wp2_with fail
      refine HBK.out.mono ?_
      rintro e w5 ⟨Ay, ny, cy, rfl, hny, hoy, hf5⟩
      have HBR := Lib.hid (bytes_rd HQ.out HIN.out.bt)
      have TW := Lib.hid (HFw.out.no_trans hf5)
      have TD := Lib.hid (HFc.out.no_trans hf5)
      have HRY := Lib.hid (Rd.own (by rw [← hny] at hoy; exact hoy))
      have HCY : Hid (ny ≤ cy) := Lib.hid (own_cap (by rw [← hny] at hoy; exact hoy))
      have HNYS : Hid (ny ≤ 500000) := Lib.hid (by rw [hny]; exact ckB_small (rgt_iff.1 HQ.out) HIN.out.bt)
      have hrd := Read_any (HT.out.no TW.out) HRY.out HNYS.out HCY.out
      have HRD := Lib.hid hrd
      clear hrd hny hoy hf5 HBK HFc HFw g0 g1 g2 g3 g4
      go_wp2_with fail
      refine HRD.out.mono ?_
      rintro e w6 hrd
      obtain ⟨⟨x2, y2, A21, n21, c21, cs2, A22, n22, c22, hp2, A23, n23, c23, bs2⟩, er, rfl, her, ho, hf⟩ := hrd.both
      obtain ⟨rfl, hck⟩ : er = 0 ∧ _ = _ := by
        rcases her with ⟨h1, _, h2⟩ | ⟨_, h2⟩
        · exact ⟨h1, h2.trans HBR.out.2⟩
        · rw [HBR.out.1] at h2; cases h2
      dsimp only [Ch.val]
      clear hrd her
      have hfa := Fr.alloc No w6 (.cells #[.int .i64 x2, .int .i64 y2, .slice A21 n21 c21, .slice A22 n22 c22, .slice A23 n23 c23] 26)
      have hb := heap_alloc_new w6 (.cells #[.int .i64 x2, .int .i64 y2, .slice A21 n21 c21, .slice A22 n22 c22, .slice A23 n23 c23] 26)
      have HO2 := Lib.hid (ho.no hfa)
      have HCK2 := Lib.hid hck
      have hft := hf.no_trans hfa
      replace TW := Lib.hid (TW.out.no_trans hft)
      replace TD := Lib.hid (TD.out.no_trans hft)
      clear hck ho hf hfa hft
      go_upto_region 12 with fail
      obtain ⟨P2, hP⟩ : ∃ P2, w6.heap.size = P2 := ⟨_, rfl⟩
      rw [hP] at hb ⊢
      have HPS2 := Lib.hid hP
      clear hP
      generalize w6.alloc (.cells #[.int .i64 x2, .int .i64 y2, .slice A21 n21 c21, .slice A22 n22 c22, .slice A23 n23 c23] 26) = v2 at *
      have HB2 := Lib.hid hb
      clear hb
      have T2 := Lib.hid (Fr.refl No v2)
      have HSM := Lib.hid (chsame_yes (C := (⟨x, y, A1, n1, c1, cs, A2, n2, c2, hps, A3, n3, c3, bs⟩ : Ch)) (E := ⟨x2, y2, A21, n21, c21, cs2, A22, n22, c22, hp2, A23, n23, c23, bs2⟩) (HIN.out.rd.no TW.out) HO2.out.rd HCK2.out.symm (by have := (HIN.out.small (rgt_iff.1 HQ.out)).1; dsimp only at this ⊢; omega) (by have := (HIN.out.small (rgt_iff.1 HQ.out)).2.1; dsimp only at this ⊢; omega) (by have := (HIN.out.small (rgt_iff.1 HQ.out)).2.2.1; dsimp only at this ⊢; omega) (fun b hb => by have := (rgt_iff.1 HQ.out).br b.bp (List.mem_map_of_mem hb); have e : b.bp.2 = b.l := rfl; rw [e] at this; omega))
      dsimp only [Ch.val] at HSM
      obtain ⟨g0, g1, g2, g3, g4⟩ := cells5 (blk_no TD.out HB0.out)
      obtain ⟨q0, q1, q2, q3, q4⟩ := cells5 (blk_no T2.out HB2.out)
      go_wp2_with fail
      refine HSM.out.mono ?_
      rintro e w7 ⟨rfl, hf⟩
      clear g0 g1 g2 g3 g4 q0 q1 q2 q3 q4 HSM
      replace TW := Lib.hid (TW.out.no_trans hf)
      replace TD := Lib.hid (TD.out.no_trans hf)
      replace T2 := Lib.hid (T2.out.no_trans hf)
      clear hf
      have hdr := drop_any (C := (⟨x, y, A1, n1, c1, cs, A2, n2, c2, hps, A3, n3, c3, bs⟩ : Ch)) (HT.out.no TW.out) (HIN.out.no TW.out) HQ.out cl hs sm
      dsimp only [Ch.val] at hdr
      have HDR := Lib.hid hdr
      clear hdr
      obtain ⟨g0, g1, g2, g3, g4⟩ := cells5 (blk_no TD.out HB0.out)
      obtain ⟨k0, k1, k2, k3, k4, k5⟩ := cells6 (blk_no TD.out HB1.out)
      go_wp2_with fail
      refine HDR.out.mono ?_
      rintro e w8 ⟨⟨x3, y3, A31, n31, c31, cs3, A32, n32, c32, hp3, A33, n33, c33, bs3⟩, rfl, hck, ho, hf⟩
      dsimp only [Ch.val]
      clear g0 g1 g2 g3 g4 k0 k1 k2 k3 k4 k5 HDR
      have hfa := Fr.alloc No w8 (.cells #[.int .i64 x3, .int .i64 y3, .slice A31 n31 c31, .slice A32 n32 c32, .slice A33 n33 c33] 26)
      have hb := heap_alloc_new w8 (.cells #[.int .i64 x3, .int .i64 y3, .slice A31 n31 c31, .slice A32 n32 c32, .slice A33 n33 c33] 26)
      have HO3 := Lib.hid (ho.no hfa)
      have HCK3 := Lib.hid hck
      have hft := hf.no_trans hfa
      replace TW := Lib.hid (TW.out.no_trans hft)
      replace TD := Lib.hid (TD.out.no_trans hft)
      replace T2 := Lib.hid (T2.out.no_trans hft)
      clear hck ho hf hfa hft
      go_upto_region 15 with fail
      obtain ⟨P3, hP⟩ : ∃ P3, w8.heap.size = P3 := ⟨_, rfl⟩
      rw [hP] at hb ⊢
      have HPS3 := Lib.hid hP
      clear hP
      generalize w8.alloc (.cells #[.int .i64 x3, .int .i64 y3, .slice A31 n31 c31, .slice A32 n32 c32, .slice A33 n33 c33] 26) = v3 at *
      have HB3 := Lib.hid hb
      clear hb
      have T3 := Lib.hid (Fr.refl No v3)
      have HR3 : Hid (Rgt (Ch.ck ⟨x3, y3, A31, n31, c31, cs3, A32, n32, c32, hp3, A33, n33, c33, bs3⟩) ∧ ByC (Ch.ck ⟨x3, y3, A31, n31, c31, cs3, A32, n32, c32, hp3, A33, n33, c33, bs3⟩)) := Lib.hid (by rw [HCK3.out]; exact ⟨(rgt_iff.1 HQ.out).drop _ _, HIN.out.bt.drop _ hs⟩)
      have hli := lift_any (C := ⟨x3, y3, A31, n31, c31, cs3, A32, n32, c32, hp3, A33, n33, c33, bs3⟩) (HT.out.no TW.out) (HO3.out.inC HR3.out.2) (rgt_iff.2 HR3.out.1) cl
      dsimp only [Ch.val] at hli
      have HLI := Lib.hid hli
      clear hli
      obtain ⟨q0, q1, q2, q3, q4⟩ := cells5 (blk_no T3.out HB3.out)
      obtain ⟨k0, k1, k2, k3, k4, k5⟩ := cells6 (blk_no TD.out HB1.out)
      go_wp2_with fail
      refine HLI.out.mono ?_
      rintro e w9 ⟨⟨x4, y4, A41, n41, c41, cs4, A42, n42, c42, hp4, A43, n43, c43, bs4⟩, Ag, ng, cg, rfl, hng, hck, ho, _, hf⟩
      dsimp only [Ch.val]
      clear q0 q1 q2 q3 q4 k0 k1 k2 k3 k4 k5 HLI
      have HNG := Lib.hid hng
      clear hng
      have hfa := Fr.alloc No w9 (.cells #[.int .i64 x4, .int .i64 y4, .slice A41 n41 c41, .slice A42 n42 c42, .slice A43 n43 c43] 26)
      have hb := heap_alloc_new w9 (.cells #[.int .i64 x4, .int .i64 y4, .slice A41 n41 c41, .slice A42 n42 c42, .slice A43 n43 c43] 26)
      have HO4 := Lib.hid (ho.no hfa)
      have HCK4 := Lib.hid hck
      have hft := hf.no_trans hfa
      replace TW := Lib.hid (TW.out.no_trans hft)
      replace TD := Lib.hid (TD.out.no_trans hft)
      replace T2 := Lib.hid (T2.out.no_trans hft)
      replace T3 := Lib.hid (T3.out.no_trans hft)
      clear hck ho hf hfa hft
      go_upto_region 16 with fail
      obtain ⟨P4, hP⟩ : ∃ P4, w9.heap.size = P4 := ⟨_, rfl⟩
      rw [hP] at hb ⊢
      have HPS4 := Lib.hid hP
      clear hP
      generalize w9.alloc (.cells #[.int .i64 x4, .int .i64 y4, .slice A41 n41 c41, .slice A42 n42 c42, .slice A43 n43 c43] 26) = v4 at *
      have HB4 := Lib.hid hb
      clear hb
      have T4 := Lib.hid (Fr.refl No v4)
      have HR4 : Hid (Rgt (Ch.ck ⟨x4, y4, A41, n41, c41, cs4, A42, n42, c42, hp4, A43, n43, c43, bs4⟩) ∧ ByC (Ch.ck ⟨x4, y4, A41, n41, c41, cs4, A42, n42, c42, hp4, A43, n43, c43, bs4⟩)) := Lib.hid (by rw [HCK4.out]; exact ⟨HR3.out.1.lift _, HR3.out.2.lift _⟩)
      have hse := set_any (C := (⟨x, y, A1, n1, c1, cs, A2, n2, c2, hps, A3, n3, c3, bs⟩ : Ch)) (HT.out.no TW.out) (HIN.out.no TW.out) HQ.out cl hit
      dsimp only [Ch.val] at hse
      have HSE := Lib.hid hse
      clear hse
      obtain ⟨g0, g1, g2, g3, g4⟩ := cells5 (blk_no TD.out HB0.out)
      obtain ⟨k0, k1, k2, k3, k4, k5⟩ := cells6 (blk_no TD.out HB1.out)
      have HS5 := Lib.hid (And.intro T2.out.size (And.intro TW.out.size TD.out.size))
      go_wp2_with fail
      refine HSE.out.mono ?_
      rintro e w10 ⟨⟨x5, y5, A51, n51, c51, cs5, A52, n52, c52, hp5, A53, n53, c53, bs5⟩, rfl, hck, ho, hf⟩
      dsimp only [Ch.val]
      clear g0 g1 g2 g3 g4 k0 k1 k2 k3 k4 k5 HSE
      have hfa := Fr.alloc No w10 (.cells #[.int .i64 x5, .int .i64 y5, .slice A51 n51 c51, .slice A52 n52 c52, .slice A53 n53 c53] 26)
      have hb := heap_alloc_new w10 (.cells #[.int .i64 x5, .int .i64 y5, .slice A51 n51 c51, .slice A52 n52 c52, .slice A53 n53 c53] 26)
      have HO5 := Lib.hid (ho.no hfa)
      have HCK5 := Lib.hid hck
      have hft := hf.no_trans hfa
      replace TW := Lib.hid (TW.out.no_trans hft)
      replace TD := Lib.hid (TD.out.no_trans hft)
      replace T2 := Lib.hid (T2.out.no_trans hft)
      replace T3 := Lib.hid (T3.out.no_trans hft)
      replace T4 := Lib.hid (T4.out.no_trans hft)
      clear hck ho hf hfa hft
      go_upto_region 17 with fail
      obtain ⟨P5, hP⟩ : ∃ P5, w10.heap.size = P5 := ⟨_, rfl⟩
      rw [hP] at hb ⊢
      have HPS5 := Lib.hid hP
      clear hP
      generalize w10.alloc (.cells #[.int .i64 x5, .int .i64 y5, .slice A51 n51 c51, .slice A52 n52 c52, .slice A53 n53 c53] 26) = v5 at *
      have HB5 := Lib.hid hb
      clear hb
      have T5 := Lib.hid (Fr.refl No v5)
      have HR5 : Hid (Rgt (Ch.ck ⟨x5, y5, A51, n51, c51, cs5, A52, n52, c52, hp5, A53, n53, c53, bs5⟩) ∧ ByC (Ch.ck ⟨x5, y5, A51, n51, c51, cs5, A52, n52, c52, hp5, A53, n53, c53, bs5⟩)) := Lib.hid (by rw [HCK5.out]; exact ⟨(rgt_iff.1 HQ.out).setI _ _, HIN.out.bt.setI _ hit⟩)
      have hfi := fill_any (C := ⟨x5, y5, A51, n51, c51, cs5, A52, n52, c52, hp5, A53, n53, c53, bs5⟩) (HT.out.no TW.out) (HO5.out.inC HR5.out.2) (rgt_iff.2 HR5.out.1) cl (HXB.out.no TW.out) HLB.out cb (by have := HNB.out; omega)
      dsimp only [Ch.val] at hfi
      have HFI := Lib.hid hfi
      clear hfi
      obtain ⟨q0, q1, q2, q3, q4⟩ := cells5 (blk_no T5.out HB5.out)
      obtain ⟨k0, k1, k2, k3, k4, k5⟩ := cells6 (blk_no TD.out HB1.out)
      have HS6 := Lib.hid T4.out.size
      go_wp2_with fail
      refine HFI.out.mono ?_
      rintro e w11 ⟨⟨x6, y6, A61, n61, c61, cs6, A62, n62, c62, hp6, A63, n63, c63, bs6⟩, rfl, hck, ho, hf⟩
      dsimp only [Ch.val]
      clear q0 q1 q2 q3 q4 k0 k1 k2 k3 k4 k5 HFI
      have hfa := Fr.alloc No w11 (.cells #[.int .i64 x6, .int .i64 y6, .slice A61 n61 c61, .slice A62 n62 c62, .slice A63 n63 c63] 26)
      have hb := heap_alloc_new w11 (.cells #[.int .i64 x6, .int .i64 y6, .slice A61 n61 c61, .slice A62 n62 c62, .slice A63 n63 c63] 26)
      have HO6 := Lib.hid (ho.no hfa)
      have HCK6 := Lib.hid hck
      have hft := hf.no_trans hfa
      replace TW := Lib.hid (TW.out.no_trans hft)
      replace TD := Lib.hid (TD.out.no_trans hft)
      replace T2 := Lib.hid (T2.out.no_trans hft)
      replace T3 := Lib.hid (T3.out.no_trans hft)
      replace T4 := Lib.hid (T4.out.no_trans hft)
      replace T5 := Lib.hid (T5.out.no_trans hft)
      clear hck ho hf hfa hft
      go_upto_region 18 with fail
      obtain ⟨P6, hP⟩ : ∃ P6, w11.heap.size = P6 := ⟨_, rfl⟩
      rw [hP] at hb ⊢
      have HPS6 := Lib.hid hP
      clear hP
      generalize w11.alloc (.cells #[.int .i64 x6, .int .i64 y6, .slice A61 n61 c61, .slice A62 n62 c62, .slice A63 n63 c63] 26) = v6 at *
      have HB6 := Lib.hid hb
      clear hb
      have T6 := Lib.hid (Fr.refl No v6)
      have HR6 : Hid (Rgt (Ch.ck ⟨x6, y6, A61, n61, c61, cs6, A62, n62, c62, hp6, A63, n63, c63, bs6⟩) ∧ ByC (Ch.ck ⟨x6, y6, A61, n61, c61, cs6, A62, n62, c62, hp6, A63, n63, c63, bs6⟩)) := Lib.hid (by rw [HCK6.out]; exact ⟨fill_r HR5.out.1, fill_b HR5.out.2 HLB.out⟩)
      have HRR : Hid (∀ W (C : Ch) lo, Fr No w W → OwC lo W C → Rgt C.ck → ByC C.ck → Calls Tryd.prog 9 #[C.val] W fun e w' => e = .returned (.bool true) ∧ Fr No W w') := Lib.hid (fun W C lo hW ho r hb => by
        have := cright_any (HT.out.no hW) ho.rd (ho.inC hb).bt (ho.inC hb).sm (ho.inC hb).cap
        rw [rgt_iff.2 r] at this
        exact this)
      obtain ⟨q0, q1, q2, q3, q4⟩ := cells5 (blk_no T3.out HB3.out)
      go_wp2_with fail
      refine (HRR.out _ ⟨x3, y3, A31, n31, c31, cs3, A32, n32, c32, hp3, A33, n33, c33, bs3⟩ _ TW.out (HO3.out.no T3.out) HR3.out.1 HR3.out.2).mono ?_
      rintro e r3 ⟨rfl, hf⟩
      clear q0 q1 q2 q3 q4
      replace TW := Lib.hid (TW.out.no_trans hf)
      replace TD := Lib.hid (TD.out.no_trans hf)
      replace T2 := Lib.hid (T2.out.no_trans hf)
      replace T3 := Lib.hid (T3.out.no_trans hf)
      replace T4 := Lib.hid (T4.out.no_trans hf)
      replace T5 := Lib.hid (T5.out.no_trans hf)
      replace T6 := Lib.hid (T6.out.no_trans hf)
      clear hf
      obtain ⟨q0, q1, q2, q3, q4⟩ := cells5 (blk_no T4.out HB4.out)
      go_wp2_with fail
      refine (HRR.out _ ⟨x4, y4, A41, n41, c41, cs4, A42, n42, c42, hp4, A43, n43, c43, bs4⟩ _ TW.out (HO4.out.no T4.out) HR4.out.1 HR4.out.2).mono ?_
      rintro e r4 ⟨rfl, hf⟩
      clear q0 q1 q2 q3 q4
      replace TW := Lib.hid (TW.out.no_trans hf)
      replace TD := Lib.hid (TD.out.no_trans hf)
      replace T2 := Lib.hid (T2.out.no_trans hf)
      replace T3 := Lib.hid (T3.out.no_trans hf)
      replace T4 := Lib.hid (T4.out.no_trans hf)
      replace T5 := Lib.hid (T5.out.no_trans hf)
      replace T6 := Lib.hid (T6.out.no_trans hf)
      clear hf
      obtain ⟨q0, q1, q2, q3, q4⟩ := cells5 (blk_no T5.out HB5.out)
      go_wp2_with fail
      refine (HRR.out _ ⟨x5, y5, A51, n51, c51, cs5, A52, n52, c52, hp5, A53, n53, c53, bs5⟩ _ TW.out (HO5.out.no T5.out) HR5.out.1 HR5.out.2).mono ?_
      rintro e r5 ⟨rfl, hf⟩
      clear q0 q1 q2 q3 q4
      replace TW := Lib.hid (TW.out.no_trans hf)
      replace TD := Lib.hid (TD.out.no_trans hf)
      replace T2 := Lib.hid (T2.out.no_trans hf)
      replace T3 := Lib.hid (T3.out.no_trans hf)
      replace T4 := Lib.hid (T4.out.no_trans hf)
      replace T5 := Lib.hid (T5.out.no_trans hf)
      replace T6 := Lib.hid (T6.out.no_trans hf)
      clear hf
      obtain ⟨q0, q1, q2, q3, q4⟩ := cells5 (blk_no T6.out HB6.out)
      go_wp2_with fail
      refine (HRR.out _ ⟨x6, y6, A61, n61, c61, cs6, A62, n62, c62, hp6, A63, n63, c63, bs6⟩ _ TW.out (HO6.out.no T6.out) HR6.out.1 HR6.out.2).mono ?_
      rintro e r6 ⟨rfl, hf⟩
      clear q0 q1 q2 q3 q4
      replace TW := Lib.hid (TW.out.no_trans hf)
      replace TD := Lib.hid (TD.out.no_trans hf)
      replace T2 := Lib.hid (T2.out.no_trans hf)
      replace T3 := Lib.hid (T3.out.no_trans hf)
      replace T4 := Lib.hid (T4.out.no_trans hf)
      replace T5 := Lib.hid (T5.out.no_trans hf)
      replace T6 := Lib.hid (T6.out.no_trans hf)
      clear hf
      obtain ⟨q0, q1, q2, q3, q4⟩ := cells5 (blk_no T3.out HB3.out)
      obtain ⟨g0, g1, g2, g3, g4⟩ := cells5 (blk_no T4.out HB4.out)
      have HLN : Hid (((n42 : Int) + (ng : Int)) = (n32 : Int)) := Lib.hid (by
        have h1 := HO3.out.rd.r2.1
        have h2 := HO4.out.rd.r2.1
        have h3 := HNG.out
        have h4 := lift_len (Ch.ck ⟨x3, y3, A31, n31, c31, cs3, A32, n32, c32, hp3, A33, n33, c33, bs3⟩) cl
        have h5 := congrArg (fun d => d.hs.length) HCK4.out
        dsimp only [Ch.ck] at h1 h2 h3 h4 h5
        omega)
      have hwl : IntKind.i64.wrap ((n42 : Int) + (ng : Int)) = (n32 : Int) := by
        rw [HLN.out]
        have h3 := (HO3.out.inC HR3.out.2).sm.s2
        dsimp only at h3
        exact IntWalk.i64_in _ (by omega)
      go_upto_region 20 with fail
      clear g0 g1 g2 g3 g4 q0 q1 q2 q3 q4 hwl HLN HO3 HO4 HR3 HR4 HCK3 HCK4 HNG T3 T4 HB3 HB4 HRR
      have hsm5 := HO5.out.inC HR5.out.2 |>.small HR5.out.1
      have hsm6 := HO6.out.inC HR6.out.2 |>.small HR6.out.1
      dsimp only at hsm5 hsm6
      have HN5 := Lib.hid hsm5.1
      have HN6 := Lib.hid (And.intro hsm6.2.2.1 hsm6.2.2.2)
      clear hsm5 hsm6
      obtain ⟨b5, hb5, hlo5, hlt5, _, _, _, _⟩ := own_setk HO5.out.o1 0 (by have := HN5.out; dsimp only; omega)
      dsimp only at hb5
      subst hb5
      have HB5s := Lib.hid (And.intro hlo5 hlt5)
      clear hlo5 hlt5
      have ho5r := own_no HO5.out.o1 T5.out
      have HO5r := Lib.hid ho5r
      clear ho5r
      have HP5b : Hid (P5 ≠ b5) := Lib.hid (fun e => own_not HO5r.out (blk_no T5.out HB5.out) (by decide) (by rw [← e]; rfl))
      have HP6b : Hid (P6 ≠ b5) := Lib.hid (fun e => own_not HO5r.out (blk_no T6.out HB6.out) (by decide) (by rw [← e]; rfl))
      have HO6r := Lib.hid (HO6.out.no T6.out)
      obtain ⟨q0, q1, q2, q3, q4⟩ := cells5 (blk_no T5.out HB5.out)
      go_wp2_with fail
      clear q0 q1 q2 q3 q4
      go_loopw [162] (fun v162 wr => ∃ i : Nat, i ≤ n51 ∧ v162 = .int .i64 (i : Int) ∧ (∃ cells, wr.ownsRow v4.heap.size 27 1 (.slice (some ⟨b5, 0, none⟩) n51 c51) n51 cells) ∧ Fr (fun b => b = b5) r6 wr) (fun v162 _ => n51 - (intOf v162).toNat)
      case atStart => exact ⟨0, by omega, rfl, ⟨_, HO5r.out⟩, Fr.refl _ _⟩
      case round =>
        obtain ⟨i, hi, rfl, ⟨cells, hoc⟩, hf⟩ := hrel
        have HOC := Lib.hid hoc
        have HFr := Lib.hid hf
        clear hoc hf
        by_cases hlt : i < n51
        · have hwi : IntKind.i64.wrap ((i : Int) + 1) = ((i + 1 : Nat) : Int) := by
            rw [show ((i : Int) + 1) = ((i + 1 : Nat) : Int) by omega]
            exact IntWalk.i64_in _ (by have := HN5.out; omega)
          obtain ⟨b, hb, _, _, z0, ⟨u, y0⟩, hset, hfr⟩ := own_setk HOC.out i (by omega)
          injection hb with hb
          injection hb with hb _ _
          subst hb
          have HST := Lib.hid (And.intro (hset (.int .u8 2)) (hfr (.int .u8 2)))
          clear hset hfr
          obtain ⟨q0, q1, q2, q3, q4⟩ := cells5 (HFr.out.blk (blk_no T5.out HB5.out) HP5b.out)
          go_wp2_with fail
          go_roundw
          case rel => exact ⟨i + 1, by omega, by go_num, ⟨_, HST.out.1⟩, HFr.out.trans HST.out.2 (fun _ _ e => e)⟩
          case measure => simp [intOf]; omega
        · have hin : i = n51 := by omega
          obtain ⟨iz, hiz⟩ : ∃ z : Int, (i : Int) = z := ⟨_, rfl⟩
          have hiz2 : iz = (n51 : Int) := by omega
          rw [hiz]
          subst hiz2
          clear hiz hin hlt hi
          have HO6s := Lib.hid (HO6r.out.elder HFr.out (fun b e => by have e' : b = b5 := e; have := HB5s.out.2; omega))
          have HP6s := Lib.hid (HFr.out.blk (blk_no T6.out HB6.out) HP6b.out)
          have HFs : Hid (Fr (fun b => v4.heap.size ≤ b) r6 wr) := Lib.hid (HFr.out.mono (fun b _ e => by have e' : b = b5 := e; have := HB5s.out.1; omega))
          obtain ⟨q0, q1, q2, q3, q4⟩ := cells5 HP6s.out
          go_wp2_with fail
          clear q0 q1 q2 q3 q4 HFr HOC
          go_loopw [173] (fun v173 wr => ∃ k : Nat, k ≤ n63 ∧ v173 = .int .i64 (k : Int) ∧ (∀ b ∈ bs6, ∃ cells, wr.ownsRow v5.heap.size 29 2 (.slice b.A b.n b.c) b.n cells) ∧ wr.ownsRow v5.heap.size 49 2 (.slice A63 n63 c63) n63 (bxL bs6) ∧ wr.heap[P6]? = some (.cells #[.int .i64 x6, .int .i64 y6, .slice A61 n61 c61, .slice A62 n62 c62, .slice A63 n63 c63] 26 (0, 0)) ∧ Fr (fun b => v4.heap.size ≤ b) r6 wr) (fun v173 _ => n63 - (intOf v173).toNat)
          case atStart => exact ⟨0, by omega, rfl, (fun b hb => ⟨_, by have h1 := HO6s.out.o4 b hb; have h2 := h1.2; unfold OwS at h2; rw [h1.1] at h2; exact h2⟩), HO6s.out.o3, HP6s.out, HFs.out⟩
          case round =>
            obtain ⟨k, hk, rfl, hbg, hbx, hp6, hf⟩ := hrel
            have HBG := Lib.hid hbg
            have HBX := Lib.hid hbx
            have HP6 := Lib.hid hp6
            have HFr := Lib.hid hf
            clear hbg hbx hp6 hf
            have HBL : Hid (bs6.length = n63) := Lib.hid (by have := HBX.out.1; rw [bxL_len] at this; omega)
            by_cases hlt : k < n63
            · have hwi : IntKind.i64.wrap ((k : Int) + 1) = ((k + 1 : Nat) : Int) := by
                rw [show ((k : Int) + 1) = ((k + 1 : Nat) : Int) by omega]
                exact IntWalk.i64_in _ (by have := HN6.out.1; omega)
              have hkl : k < bs6.length := by rw [HBL.out]; exact hlt
              obtain ⟨g3, o3, hA3, _, hc3⟩ := (own_rc HBX.out).2 (by omega)
              obtain ⟨hx0, hx1⟩ := bxL_at bs6 k hkl
              have y2 := hc3 _ _ hx0
              have y3 := hc3 _ _ hx1
              rw [← Nat.add_assoc] at y3
              subst hA3
              clear hc3 hx0 hx1
              obtain ⟨cells, hoc⟩ := HBG.out bs6[k] (List.getElem_mem hkl)
              have hn6 := HN6.out.2 bs6[k] (List.getElem_mem hkl)
              generalize bs6[k].cell = bcell at *
              generalize bs6[k].A = bA at *
              generalize bs6[k].n = bn at *
              generalize bs6[k].c = bc at *
              subst hn6
              obtain ⟨b, hb, hblo, _, z0, ⟨u0, y0⟩, _, _⟩ := own_setk hoc 0 (by omega)
              obtain ⟨b', hb', _, _, z1, ⟨u1, y1⟩, _, _⟩ := own_setk hoc 1 (by omega)
              rw [hb] at hb'
              injection hb' with hb'
              injection hb' with hb' _ _
              subst hb'
              subst hb
              have hnb : ∀ {q : Nat} {cur : Array Value} {t : TypeId}, wr.heap[q]? = some (.cells cur t (0, 0)) → t ≠ 29 → q ≠ b := fun hq ht e => own_not hoc hq (fun e => ht e.symm) (by rw [e]; rfl)
              have hs1 : Fr (fun q => q = b) wr ((wr.setCell ⟨b, 0, none⟩ (.int .u8 99)).setCell ⟨b, 1, none⟩ (.int .i64 0)) := (Fr.setCell (F := fun q => q = b) wr ⟨b, 0, none⟩ _ rfl).trans (Fr.setCell (F := fun q => q = b) _ ⟨b, 1, none⟩ _ rfl) (fun _ _ e => e)
              have HBG2 : Hid (∀ b' ∈ bs6, ∃ cells, ((wr.setCell ⟨b, 0, none⟩ (.int .u8 99)).setCell ⟨b, 1, none⟩ (.int .i64 0)).ownsRow v5.heap.size 29 2 (.slice b'.A b'.n b'.c) b'.n cells) := Lib.hid (fun b' hb' => by
                obtain ⟨cs1, h1⟩ := HBG.out b' hb'
                obtain ⟨cs2, h2⟩ := own_any_set h1 b 0 (.int .u8 99)
                exact own_any_set h2 b 1 (.int .i64 0))
              have HBX2 := Lib.hid (own_fr HBX.out hs1 (fun q hq e => by
                obtain ⟨cur, hcur⟩ := own_type HBX.out hq
                exact hnb hcur (by decide) e))
              have HP62 := Lib.hid (hs1.blk HP6.out (fun e => hnb HP6.out (by decide) e))
              have HF2s := Lib.hid (HFr.out.trans hs1 (fun q _ e => by have e' : q = b := e; have := HS6.out; show v4.heap.size ≤ q; omega))
              obtain ⟨q0, q1, q2, q3, q4⟩ := cells5 HP6.out
              clear hoc hnb hs1
              go_wp2_with fail
              go_roundw
              case rel => exact ⟨k + 1, by omega, by go_num, HBG2.out, HBX2.out, HP62.out, HF2s.out⟩
              case measure => simp [intOf]; omega
            · have hkn : k = n63 := by omega
              have TWe := Lib.hid (TW.out.then_new HFr.out (fun q (e : v4.heap.size ≤ q) => by have := HS5.out.2.1; omega))
              have TDe := Lib.hid (TD.out.then_new HFr.out (fun q (e : v4.heap.size ≤ q) => by have := HS5.out.2.2; omega))
              have T2e := Lib.hid (T2.out.then_new HFr.out (fun q (e : v4.heap.size ≤ q) => by have := HS5.out.1; omega))
              have HSM := Lib.hid (chsame_yes (C := (⟨x, y, A1, n1, c1, cs, A2, n2, c2, hps, A3, n3, c3, bs⟩ : Ch)) (E := ⟨x2, y2, A21, n21, c21, cs2, A22, n22, c22, hp2, A23, n23, c23, bs2⟩) (HIN.out.rd.no TWe.out) (HO2.out.no T2e.out).rd HCK2.out.symm (by have := (HIN.out.small (rgt_iff.1 HQ.out)).1; dsimp only at this ⊢; omega) (by have := (HIN.out.small (rgt_iff.1 HQ.out)).2.1; dsimp only at this ⊢; omega) (by have := (HIN.out.small (rgt_iff.1 HQ.out)).2.2.1; dsimp only at this ⊢; omega) (fun b hb => by have := (rgt_iff.1 HQ.out).br b.bp (List.mem_map_of_mem hb); have e : b.bp.2 = b.l := rfl; rw [e] at this; omega))
              dsimp only [Ch.val] at HSM
              obtain ⟨g0, g1, g2, g3, g4⟩ := cells5 (blk_no TDe.out HB0.out)
              obtain ⟨q0, q1, q2, q3, q4⟩ := cells5 (blk_no T2e.out HB2.out)
              go_wp2_with fail
              refine HSM.out.mono ?_
              rintro e z7 ⟨rfl, hf7⟩
              go_wp2_with fail
              refine (HA.out _ (TWe.out.no_trans hf7)).mono ?_
              rintro e z8 ⟨rfl, hf8⟩
              go_wp2_with fail
              go_ret
              exact ⟨rfl, (TWe.out.no_trans hf7).no_trans hf8⟩
end
end Go.Proofs.YtefopgdmadgheaaDoor

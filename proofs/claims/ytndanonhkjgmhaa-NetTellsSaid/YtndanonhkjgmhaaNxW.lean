/-
  NetTells: the walk. No statement of the seat is proved here.
-/
import Derived.Test.YtndanonhkjgmhaaNxH
import Derived.Test.YtndanonhkjgmhaaNtP
import Derived.Test.YtndanonhkjgmhaaFrameG
import Derived.Deep.CutBlock
import Derived.Deep.RegionHeld3
import Derived.BigQuiet
import Derived.BigRegion
namespace Go.Proofs.Ytndanonhkjgmhaa
open Go.RowKit

/-- What the law's own loop keeps: the first i deeds done. -/
def Inv7 (wk : World) (f : Nat → Prop) (P WB : Nat) (N : Int) (i : Nat) (W : World) : Prop :=
  ∃ S E A n c H, Tl wk f P WB N S S (rowOf H) E A n c H W ∧ Wf H E n c i
/-- What stands behind a deed. -/
def Ra (wk : World) (f : Nat → Prop) (P WB : Nat) (N : Int) (i G1 G2 : Nat) (v11 v12 v15 v16 v17 v18 : Value) (W : World) : Prop :=
  ∃ (code : Int) (ok : Bool) (k : Int) (fr tt : Int) (A1 : Option Addr) (m c1 : Nat) (A2 : Option Addr) (c2 : Nat) (l : List UInt8) (S S0 : Nat → Prop) (E : Nat) (A : Option Addr) (n c : Nat) (H : List St),
    v11 = .int .i64 code ∧ v12 = .int .i64 code ∧ v15 = .bool ok ∧ v16 = .bool ok ∧ v17 = .int .i64 k ∧ v18 = .int .i64 k ∧
    W.heap[G1]? = some (.cells #[.int .i64 fr, .int .i64 tt, .slice A1 m c1] 30 (0, 0)) ∧ W.heap[G2]? = some (.cells #[.int .i64 fr, .int .i64 tt, .slice A2 m c2] 30 (0, 0)) ∧
    Rd W W.heap.size A1 m l ∧ Rd W W.heap.size A2 m l ∧ Tl wk f P WB N S S0 (rowOf H) E A n c H W ∧ Wf H E n c (i + 1)
theorem ra_mk {wk W : World} {f : Nat → Prop} {P WB : Nat} {N : Int} {i G1 G2 : Nat} {code : Int} {ok : Bool} {k fr tt : Int} {A1 : Option Addr} {m c1 : Nat} {A2 : Option Addr} {c2 : Nat} {l : List UInt8} {S S0 : Nat → Prop} {E : Nat} {A : Option Addr} {n c : Nat} {H : List St}
    (o : Tl wk f P WB N S S0 (rowOf H) E A n c H W) (hw : Wf H E n c (i + 1)) (h1 : W.heap[G1]? = some (.cells #[.int .i64 fr, .int .i64 tt, .slice A1 m c1] 30 (0, 0))) (h2 : W.heap[G2]? = some (.cells #[.int .i64 fr, .int .i64 tt, .slice A2 m c2] 30 (0, 0)))
    (r1 : Rd W W.heap.size A1 m l) (r2 : Rd W W.heap.size A2 m l) : Ra wk f P WB N i G1 G2 (.int .i64 code) (.int .i64 code) (.bool ok) (.bool ok) (.int .i64 k) (.int .i64 k) W :=
  ⟨code, ok, k, fr, tt, A1, m, c1, A2, c2, l, S, S0, E, A, n, c, H, rfl, rfl, rfl, rfl, rfl, rfl, h1, h2, r1, r2, o, hw⟩
theorem rd_nil (W : World) : Rd W W.heap.size none 0 [] := ⟨rfl, fun h => by omega⟩
set_option maxHeartbeats 4000000 in
set_option maxRecDepth 100000 in
theorem tells_walk {w : World} {A : Option Addr} {n : Nat} {xs : List De} (nd : Int) (c : Nat) (hx : RowOf w 5 (DeAt w) A n xs) :
    Calls Try.prog 4 #[.int .i64 nd, .slice A n c] w fun e w' => e = .returned (.bool true) ∧ Below w.heap.size w w' := by
  have HX := Lib.hid hx
  have HXL := Lib.hid hx.1
  clear hx
  by_cases hbad : nd < 1 ∨ 64 < nd
  · as_aux_lemma =>
      go_enter Try.func4, Try.ntmps4
      go_wp2_with fail
      refine (new_bad nd w hbad).mono ?_
      rintro e w1 ⟨rfl, hf⟩
      subst hf
      go_wp2_with fail
      refine (newS_bad nd _ hbad).mono ?_
      rintro e w2 ⟨rfl, hf⟩
      have HF2 := Lib.hid (hf.no_trans (Fr.alloc No w2 (.cells #[.int .i64 0, .int .i64 0, .slice none 0 0] 42)))
      clear hf
      go_wp2_with fail
      refine (awake_any _).mono ?_
      rintro e w5 ⟨rfl, hb⟩
      have HB5 := Lib.hid (HF2.out.noBelow.trans (hb.mono HF2.out.size))
      clear hb
      go_wp2_with fail
      go_ret
      exact ⟨rfl, HB5.out⟩
  · obtain ⟨hn1, hn2⟩ : 1 ≤ nd ∧ nd ≤ 64 := by omega
    clear hbad
    go_enter Try.func4, Try.ntmps4
    go_wp2_with fail
    refine (new_ok nd w hn1 hn2).mono ?_
    rintro e w1 ⟨rfl, hn, hf⟩
    have HN1 := Lib.hid hn
    have HF1 := Lib.hid hf
    clear hn hf
    go_wp2_with fail
    refine (newS_ok nd w1 hn1 hn2).mono ?_
    rintro e w2 ⟨rfl, hf⟩
    have HF2 := Lib.hid hf
    have hfa := Fr.alloc No w2 (.cells #[.int .i64 nd, .int .i64 0, .slice none 0 0] 42)
    have HI0 : Hid (Inv7 (w2.alloc (.cells #[.int .i64 nd, .int .i64 0, .slice none 0 0] 42)) (fun k => k = w.heap.size ∨ k = w2.heap.size) w.heap.size w2.heap.size nd 0 (w2.alloc (.cells #[.int .i64 nd, .int .i64 0, .slice none 0 0] 42))) := by
      have hP := (HN1.out.no hf).lt (.inl rfl)
      refine ⟨fun _ => False, 0, none, 0, 0, [], ⟨.slice none 0 0, (HN1.out.no hf).no hfa, fun k hk => ⟨fun e => e, ?_⟩, fun k hk => hk.elim, fun k hk => hk.elim, heap_alloc_new w2 _, rowS_nil _ _, ⟨(fun h => by cases h), (fun x hx => by cases hx)⟩, Fr.refl _ _, fun k hk => .inl ?_⟩, List.Pairwise.nil, (fun x hx => by cases hx), by omega, by omega, by omega, rfl⟩
      · have := foot_nil hk
        omega
      · rcases hk with e | e
        · exact .inl (foot_nil e)
        · exact .inr e
    have HF3 := Lib.hid (show Fr No w (w2.alloc (.cells #[.int .i64 nd, .int .i64 0, .slice none 0 0] 42)) from (HF1.out.no_trans hf).no_trans hfa)
    have HSZ := Lib.hid (show w.heap.size ≤ w2.heap.size from (HF1.out.no_trans hf).size)
    clear hf hfa
    go_wp2_with fail
    generalize w2.alloc (.cells #[.int .i64 nd, .int .i64 0, .slice none 0 0] 42) = w3 at *
    generalize hff : (fun k => k = w.heap.size ∨ k = w2.heap.size) = f at HI0
    have HF : Hid (∀ k, f k → w.heap.size ≤ k) := fun k hk => by
      rw [← hff] at hk
      have := HSZ.out
      rcases hk with e | e <;> omega
    generalize hWB : w2.heap.size = WB at *
    have HBL : Hid (∀ W, Fr f w3 W → Below w.heap.size w W) := fun W hW => HF3.out.noBelow.trans (hW.below HF3.out.size HF.out)
    clear hff hWB HN1 HF1 HF2 hn1 hn2
    go_loopw [9] (fun v9 wr => ∃ i : Nat, i ≤ n ∧ i ≤ 70 ∧ v9 = .int .i64 (i : Int) ∧ Inv7 w3 f w.heap.size WB nd i wr) (fun v9 _ => n - (intOf v9).toNat)
    case atStart => exact ⟨0, by omega, by omega, rfl, HI0.out⟩
    case round =>
      obtain ⟨i, hin, hi70, rfl, hI⟩ := hrel
      obtain ⟨S, E, AH, nH, cH, H, ho, hwf⟩ := hI
      have HO := Lib.hid ho
      have HWF := Lib.hid hwf
      have HBW := Lib.hid (HBL.out wr ho.fr)
      clear ho hwf
      by_cases hlt : i < n
      · have hltI : (i : Int) < (n : Int) := by omega
        by_cases h70 : i < 70
        · have h70I : (i : Int) < 70 := by omega
          have hi0 : (0 : Int) ≤ (i : Int) := by omega
          have hwi : IntKind.i64.wrap ((i : Int) + 1) = ((i + 1 : Nat) : Int) := by
            rw [show ((i : Int) + 1) = ((i + 1 : Nat) : Int) by omega]
            exact IntWalk.i64_in _ (by omega)
          obtain ⟨bb, oo, rfl, hbb, hcc⟩ := (deeds_no HX.out (HBW.out.mono (Nat.le_refl _))).2 (by omega)
          have hdx := hcc i (by rw [HXL.out]; exact hlt)
          have HDE : Hid (∀ W, Fr f w3 W → Rd W W.heap.size (xs[i]'(by rw [HXL.out]; exact hlt)).A (xs[i]'(by rw [HXL.out]; exact hlt)).n (xs[i]'(by rw [HXL.out]; exact hlt)).l) := fun W hW => by
            obtain ⟨b1, o1, e1, _, hc1⟩ := (deeds_no HX.out ((HBL.out W hW).mono (Nat.le_refl _))).2 (by omega)
            exact (hc1 i (by rw [HXL.out]; exact hlt)).2.2.2.2.2.2.2.1
          clear hcc
          generalize xs[i]'(by rw [HXL.out]; exact hlt) = d at *
          obtain ⟨d0, d1, d2, d3, d4, dw, dn, dr, db⟩ := hdx
          rw [Addr.add_lit] at d1 d2 d3 d4
          clear dr
          by_cases hd150 : d.n ≤ 150
          · have hd150I : ¬ ((150 : Int) < (d.n : Int)) := by omega
            go_upto_block 2 with fail
            have hfd := ((Fr.alloc No wr (.cells #[.int .u8 (d.what : Int), .int .i64 d.fr, .int .i64 d.to, .int .i64 d.pl, .slice d.A d.n d.c] 46)).no_trans (Fr.alloc No _ (.cells #[.int .i64 0, .int .i64 0, .slice none 0 0] 30))).no_trans (Fr.alloc No _ (.cells #[.int .i64 0, .int .i64 0, .slice none 0 0] 30))
            have hbD := blk_no (Fr.alloc No _ (.cells #[.int .i64 0, .int .i64 0, .slice none 0 0] 30)) (blk_no (Fr.alloc No _ (.cells #[.int .i64 0, .int .i64 0, .slice none 0 0] 30)) (heap_alloc_new wr (.cells #[.int .u8 (d.what : Int), .int .i64 d.fr, .int .i64 d.to, .int .i64 d.pl, .slice d.A d.n d.c] 46)))
            have hb1 := blk_no (Fr.alloc No _ (.cells #[.int .i64 0, .int .i64 0, .slice none 0 0] 30)) (heap2 wr (.cells #[.int .u8 (d.what : Int), .int .i64 d.fr, .int .i64 d.to, .int .i64 d.pl, .slice d.A d.n d.c] 46) (.cells #[.int .i64 0, .int .i64 0, .slice none 0 0] 30))
            have hb2 := heap_alloc_new ((wr.alloc (.cells #[.int .u8 (d.what : Int), .int .i64 d.fr, .int .i64 d.to, .int .i64 d.pl, .slice d.A d.n d.c] 46)).alloc (.cells #[.int .i64 0, .int .i64 0, .slice none 0 0] 30)) (.cells #[.int .i64 0, .int .i64 0, .slice none 0 0] 30)
            rw [World.size_alloc, World.size_alloc] at hb2
            obtain ⟨w4, hw4⟩ : ∃ u, ((wr.alloc (.cells #[.int .u8 (d.what : Int), .int .i64 d.fr, .int .i64 d.to, .int .i64 d.pl, .slice d.A d.n d.c] 46)).alloc (.cells #[.int .i64 0, .int .i64 0, .slice none 0 0] 30)).alloc (.cells #[.int .i64 0, .int .i64 0, .slice none 0 0] 30) = u := ⟨_, rfl⟩
            rw [hw4] at hfd hbD hb1 hb2 ⊢
            obtain ⟨D, hD⟩ : ∃ u, wr.heap.size = u := ⟨_, rfl⟩
            rw [hD] at hbD hb1 hb2 ⊢
            obtain ⟨G1, hG1⟩ : ∃ u, D + 1 = u := ⟨_, rfl⟩
            rw [hG1] at hb1 hb2 ⊢
            obtain ⟨G2, hG2⟩ : ∃ u, G1 + 1 = u := ⟨_, rfl⟩
            rw [hG2] at hb2 ⊢
            have hz4 := (Array.getElem?_eq_some_iff.1 hb2).1
            have HG4 := Lib.hid (show G1 < w4.heap.size ∧ G2 < w4.heap.size ∧ WB < D ∧ D < G1 ∧ G1 < G2 from ⟨by omega, hz4, by have := (Array.getElem?_eq_some_iff.1 HO.out.var).1; omega, by omega, by omega⟩)
            have HO4 := Lib.hid (HO.out.lend hfd)
            have HSD : Hid ((fun k => S k ∨ (wr.heap.size ≤ k ∧ k < w4.heap.size)) D ∧ (fun k => S k ∨ (wr.heap.size ≤ k ∧ k < w4.heap.size)) G1 ∧ (fun k => S k ∨ (wr.heap.size ≤ k ∧ k < w4.heap.size)) G2) := ⟨.inr (by omega), .inr (by omega), .inr (by omega)⟩
            have HS04 : Hid (∀ k, S k → (fun k => S k ∨ (wr.heap.size ≤ k ∧ k < w4.heap.size)) k) := fun k hk => .inl hk
            generalize (fun k => S k ∨ (wr.heap.size ≤ k ∧ k < w4.heap.size)) = S4 at HO4 HSD HS04
            have HNS : Hid (¬ S G1 ∧ ¬ S G2) := ⟨fun e => by have := (HO.out.old e).1; omega, fun e => by have := (HO.out.old e).1; omega⟩
            have HNE : Hid (G1 ≠ WB ∧ G2 ≠ WB ∧ G2 ≠ G1 ∧ D ≠ G1 ∧ G1 ≠ G2 ∧ D ≠ G2) := by have := HG4.out; exact ⟨by omega, by omega, by omega, by omega, by omega, by omega⟩
            have HGW : Hid (w3.heap.size ≤ G1 ∧ w3.heap.size ≤ G2) := by have := HO.out.fr.size; exact ⟨by omega, by omega⟩
            have HDb : Hid (∀ W : World, W.heap[D]? = some (.cells #[.int .u8 (d.what : Int), .int .i64 d.fr, .int .i64 d.to, .int .i64 d.pl, .slice d.A d.n d.c] 46 (0, 0)) → W.cell? ⟨D, 0, none⟩ = some (.int .u8 (d.what : Int)) ∧ W.cell? ⟨D, 1, none⟩ = some (.int .i64 d.fr) ∧ W.cell? ⟨D, 2, none⟩ = some (.int .i64 d.to) ∧ W.cell? ⟨D, 3, none⟩ = some (.int .i64 d.pl) ∧ W.cell? ⟨D, 4, none⟩ = some (.slice d.A d.n d.c)) := fun W hb =>
              ⟨blk_cell hb 0, blk_cell hb 1, blk_cell hb 2, blk_cell hb 3, blk_cell hb 4⟩
            have HDB : Hid (∀ W, Ag S4 w4 W → W.heap[D]? = some (.cells #[.int .u8 (d.what : Int), .int .i64 d.fr, .int .i64 d.to, .int .i64 d.pl, .slice d.A d.n d.c] 46 (0, 0))) := fun W hW => (hW.2 D HSD.out.1).trans hbD
            have HD : Hid (∀ W, Ag S4 w4 W → W.cell? ⟨D, 0, none⟩ = some (.int .u8 (d.what : Int)) ∧ W.cell? ⟨D, 1, none⟩ = some (.int .i64 d.fr) ∧ W.cell? ⟨D, 2, none⟩ = some (.int .i64 d.to) ∧ W.cell? ⟨D, 3, none⟩ = some (.int .i64 d.pl) ∧ W.cell? ⟨D, 4, none⟩ = some (.slice d.A d.n d.c)) := fun W hW => HDb.out W (HDB.out W hW)
            have HG1 : Hid (∀ W, Ag S4 w4 W → W.heap[G1]? = some (.cells #[.int .i64 0, .int .i64 0, .slice none 0 0] 30 (0, 0))) := fun W hW => (hW.2 G1 HSD.out.2.1).trans hb1
            have HG2 : Hid (∀ W, Ag S4 w4 W → W.heap[G2]? = some (.cells #[.int .i64 0, .int .i64 0, .slice none 0 0] 30 (0, 0))) := fun W hW => (hW.2 G2 HSD.out.2.2).trans hb2
            clear hfd hbD hb1 hb2 hw4 hD hG1 hG2 hz4 d0 d1 d2 d3 d4
            obtain ⟨c0, c1, c2, c3, c4⟩ := HD.out w4 (Ag.refl _ _)
            go_cut [11, 12, 15, 16, 17, 18] from 61 to 165 (fun v11 v12 v15 v16 v17 v18 wx => Ra w3 f w.heap.size WB nd i G1 G2 v11 v12 v15 v16 v17 v18 wx)
            case first =>
              by_cases hw3 : d.what ≤ 3
              · go_upto_if 85 with fail
                go_cut [85] from 61 to 89 (fun v85 wx => v85 = .bool true ∧ wx = w4)
                case first =>
                  have hw4 : d.what = 0 ∨ d.what = 1 ∨ d.what = 2 ∨ d.what = 3 := by omega
                  rcases hw4 with hw | hw | hw | hw
                  all_goals (
                    rw [hw]
                    go_wp2_with fail
                    go_meet
                    case rel => exact ⟨by first | rfl | (simp [hw]), rfl⟩)
                case rest =>
                  obtain ⟨hv, hw⟩ := hcut
                  subst hv
                  rw [hw]
                  clear hw
                  cases hb : isN nd d.fr && isN nd d.to with
                  | true =>
                    as_aux_lemma =>
                      have HE1 := Lib.hid (rfl : E + 1 = E + 1)
                      obtain ⟨E1, hE1⟩ : ∃ E1, E + 1 = E1 := ⟨_, rfl⟩
                      have HE := Lib.hid hE1
                      clear hE1 HE1
                      obtain ⟨hbx, hby⟩ : isN nd d.fr = true ∧ isN nd d.to = true := by rw [← Bool.and_eq_true]; exact hb
                      have HBX := Lib.hid hbx
                      have HBY := Lib.hid hby
                      clear hb hbx hby
                      go_wp2_with fail
                      refine (tl_send HO4.out (by rw [rowOf_len]; have := HWF.out.2.2.2.2; omega) d.fr d.to HBX.out HBY.out d.A d.n d.c (by omega) d.l (HDE.out w4 HO4.out.fr)).mono ?_

                      rintro e w5 ⟨rfl, ho5, hag5⟩
                      have HO5 := Lib.hid ho5
                      obtain ⟨x0, x1, x2, x3, x4⟩ := HD.out w5 hag5
                      have HZ1 := Lib.hid (HG1.out w5 hag5)
                      have HZ2 := Lib.hid (HG2.out w5 hag5)
                      have v0 : w5.cell? ⟨WB, 0, none⟩ = some (.int .i64 nd) := blk_cell ho5.var 0
                      have v1 : w5.cell? ⟨WB, 1, none⟩ = some (.int .i64 (E : Int)) := blk_cell ho5.var 1
                      have v2 : w5.cell? ⟨WB, 2, none⟩ = some (.slice AH nH cH) := blk_cell ho5.var 2
                      clear ho5 hag5 c0 c1 c2 c3 c4
                      go_wp2_with fail

                      refine (sendS_ok cH HO5.out.row (by have := HWF.out.2.2.2.2; omega) nd E HWF.out.2.1 (by have := HWF.out.2.2.2.1; omega) HE.out d.fr d.to HBX.out HBY.out d.A d.n d.c d.l (HDE.out w5 HO5.out.fr) (by omega)).mono ?_
                      rintro e w6 ⟨A6, c6, B6, cb6, rfl, hr6, hA6, hB6, hc6, hf6⟩
                      have HR6 := Lib.hid hr6
                      have HA6 := Lib.hid hA6
                      have HB6 := Lib.hid hB6
                      have HC6 := Lib.hid hc6
                      clear hr6 hA6 hB6 hc6

                      have HF6 := Lib.hid hf6
                      have q0 := blk_cell (blk_no hf6 HO5.out.var) 0
                      have q1 := blk_cell (blk_no hf6 HO5.out.var) 1
                      have q2 := blk_cell (blk_no hf6 HO5.out.var) 2
                      have f0 := blk_free (blk_no hf6 HO5.out.var) 0
                      have f1 := blk_free (blk_no hf6 HO5.out.var) 1
                      have f2 := blk_free (blk_no hf6 HO5.out.var) 2
                      have HY1 := Lib.hid (blk_no hf6 HZ1.out)
                      have HY2 := Lib.hid (blk_no hf6 HZ2.out)
                      clear hf6
                      go_wp2_with fail
                      go_meet

                      case rel =>
                        have hs := set3_fr w6 WB (.int .i64 nd) (.int .i64 (E1 : Int)) (.slice A6 (nH + 1) c6)
                        have ho := HO5.out.put (E' := E1) (c' := c6) HF6.out HR6.out (hin_joined HO5.out.hin HA6.out rfl HB6.out)
                        have hwf := HWF.out.join ⟨d.fr, d.to, B6, d.n, cb6, d.l⟩ HC6.out
                        rw [HE.out] at hwf
                        exact ra_mk (H := ⟨E1, ⟨d.fr, d.to, B6, d.n, cb6, d.l⟩⟩ :: H) (by rw [rowOf_cons]; exact ho) hwf (fr_blk hs HNE.out.1 HY1.out) (fr_blk hs HNE.out.2.1 HY2.out) (rd_nil _) (rd_nil _)

                  | false =>
                    as_aux_lemma =>
                      have HB := Lib.hid hb
                      clear hb
                      go_wp2_with fail
                      refine (tl_send_arg HO4.out d.fr d.to HB.out d.A d.n d.c).mono ?_

                      rintro e w5 ⟨rfl, hw5⟩
                      have hf5 : Fr No w4 w5 := by rw [← hw5]; exact Fr.refl _ _
                      have ho5 := HO4.out.no hf5
                      have hag5 := HO4.out.ag_no hf5
                      have HO5 := Lib.hid ho5
                      obtain ⟨x0, x1, x2, x3, x4⟩ := HD.out w5 hag5
                      have HZ1 := Lib.hid (HG1.out w5 hag5)
                      have HZ2 := Lib.hid (HG2.out w5 hag5)
                      have v0 : w5.cell? ⟨WB, 0, none⟩ = some (.int .i64 nd) := blk_cell ho5.var 0
                      have v1 : w5.cell? ⟨WB, 1, none⟩ = some (.int .i64 (E : Int)) := blk_cell ho5.var 1
                      have v2 : w5.cell? ⟨WB, 2, none⟩ = some (.slice AH nH cH) := blk_cell ho5.var 2
                      clear hw5 hf5 ho5 hag5 c0 c1 c2 c3 c4
                      go_wp2_with fail

                      refine (sendS_arg nd E d.fr d.to HB.out d.A d.n d.c).mono ?_
                      rintro e w6 ⟨rfl, hf6⟩

                      have HF6 := Lib.hid hf6
                      have q0 := blk_cell (blk_no hf6 HO5.out.var) 0
                      have q1 := blk_cell (blk_no hf6 HO5.out.var) 1
                      have q2 := blk_cell (blk_no hf6 HO5.out.var) 2
                      have f0 := blk_free (blk_no hf6 HO5.out.var) 0
                      have f1 := blk_free (blk_no hf6 HO5.out.var) 1
                      have f2 := blk_free (blk_no hf6 HO5.out.var) 2
                      have HY1 := Lib.hid (blk_no hf6 HZ1.out)
                      have HY2 := Lib.hid (blk_no hf6 HZ2.out)
                      clear hf6
                      go_wp2_with fail
                      go_meet

                      case rel =>
                        have hs := set3_fr w6 WB (.int .i64 nd) (.int .i64 (E : Int)) (.slice AH nH cH)
                        exact ra_mk (HO5.out.back HF6.out) HWF.out.up (fr_blk hs HNE.out.1 HY1.out) (fr_blk hs HNE.out.2.1 HY2.out) (rd_nil _) (rd_nil _)

              · have hn0 : ¬ ((d.what : Int) = 0) := by omega
                have hn1 : ¬ ((d.what : Int) = 1) := by omega
                have hn2 : ¬ ((d.what : Int) = 2) := by omega
                have hn3 : ¬ ((d.what : Int) = 3) := by omega
                by_cases hw4 : d.what = 4
                · have hq4 : (d.what : Int) = 4 := by omega
                  rcases fpos_ways H HWF.out.2.2.2.2.2 d.pl with hi | ⟨iy, y, hi, hx⟩
                  · as_aux_lemma =>
                      have HIN := Lib.hid hi
                      clear hi
                      go_wp2_with fail
                      refine (tl_take_no HO4.out (rowOf_no HWF.out.2.2.2.2.2 HIN.out)).mono ?_
                      rintro e w5 ⟨rfl, hf5⟩
                      have ho5 := HO4.out.no hf5
                      have hag5 := HO4.out.ag_no hf5
                      clear hf5
                      have HO5 := Lib.hid ho5
                      have HDB5 := Lib.hid (HDB.out w5 hag5)
                      have HZ1 := Lib.hid (HG1.out w5 hag5)
                      have HZ2 := Lib.hid (HG2.out w5 hag5)
                      clear ho5 hag5 c0 c1 c2 c3 c4

                      have g0 := blk_cell HZ1.out 0
                      have g1 := blk_cell HZ1.out 1
                      have g2 := blk_cell HZ1.out 2
                      have fg0 := blk_free HZ1.out 0
                      have fg1 := blk_free HZ1.out 1
                      have fg2 := blk_free HZ1.out 2
                      go_upto_region 25 with fail
                      have hs1 := set3_fr w5 G1 (.int .i64 0) (.int .i64 0) (.slice none 0 0)
                      have HZ1 := Lib.hid (set3_blk HZ1.out (.int .i64 0) (.int .i64 0) (.slice none 0 0))
                      have HZ2 := Lib.hid (fr_blk hs1 HNE.out.2.2.1 HZ2.out)
                      have HO5 := Lib.hid (HO5.out.set hs1 HSD.out.2.1 HNS.out.1 HGW.out.1)
                      obtain ⟨x0, x1, x2, x3, x4⟩ := HDb.out _ (fr_blk hs1 HNE.out.2.2.2.1 HDB5.out)
                      have HS1 := Lib.hid hs1
                      clear g0 g1 g2 fg0 fg1 fg2 hs1
                      generalize ((w5.setCell ⟨G1, 0, none⟩ (.int .i64 0)).setCell ⟨G1, 1, none⟩ (.int .i64 0)).setCell ⟨G1, 2, none⟩ (.slice none 0 0) = w5' at *
                      have v0 : w5'.cell? ⟨WB, 0, none⟩ = some (.int .i64 nd) := blk_cell HO5.out.var 0
                      have v1 : w5'.cell? ⟨WB, 1, none⟩ = some (.int .i64 (E : Int)) := blk_cell HO5.out.var 1
                      have v2 : w5'.cell? ⟨WB, 2, none⟩ = some (.slice AH nH cH) := blk_cell HO5.out.var 2
                      go_wp2_with fail

                      refine (takeS_no cH HO5.out.row HWF.out.1 (by have := HWF.out.2.2.2.2; omega) nd E d.pl HIN.out).mono ?_
                      rintro e w6 ⟨rfl, hf6⟩

                      have HF6 := Lib.hid hf6
                      have q0 := blk_cell (blk_no hf6 HO5.out.var) 0
                      have q1 := blk_cell (blk_no hf6 HO5.out.var) 1
                      have q2 := blk_cell (blk_no hf6 HO5.out.var) 2
                      have f0 := blk_free (blk_no hf6 HO5.out.var) 0
                      have f1 := blk_free (blk_no hf6 HO5.out.var) 1
                      have f2 := blk_free (blk_no hf6 HO5.out.var) 2

                      have k0 := blk_cell (blk_no hf6 HZ2.out) 0
                      have k1 := blk_cell (blk_no hf6 HZ2.out) 1
                      have k2 := blk_cell (blk_no hf6 HZ2.out) 2
                      have fk0 := blk_free (blk_no hf6 HZ2.out) 0
                      have fk1 := blk_free (blk_no hf6 HZ2.out) 1
                      have fk2 := blk_free (blk_no hf6 HZ2.out) 2
                      have HY1 := Lib.hid (blk_no hf6 HZ1.out)
                      have HY2 := Lib.hid (blk_no hf6 HZ2.out)
                      have hnwg : WB ≠ G2 := fun e => HNE.out.2.1 e.symm
                      clear hf6
                      go_wp2_with fail
                      go_meet

                      case rel =>
                        have hs := set3_fr w6 WB (.int .i64 nd) (.int .i64 (E : Int)) (.slice AH nH cH)
                        have hs2 := set3_fr (((w6.setCell ⟨WB, 0, none⟩ (.int .i64 nd)).setCell ⟨WB, 1, none⟩ (.int .i64 (E : Int))).setCell ⟨WB, 2, none⟩ (.slice AH nH cH)) G2 (.int .i64 0) (.int .i64 0) (.slice none 0 0)
                        exact ra_mk ((HO5.out.back HF6.out).set hs2 HSD.out.2.2 HNS.out.2 HGW.out.2) HWF.out.up (fr_blk hs2 HNE.out.2.2.2.2.1 (fr_blk hs HNE.out.1 HY1.out)) (set3_blk (fr_blk hs HNE.out.2.1 HY2.out) _ _ _) (rd_nil _) (rd_nil _)
                  · as_aux_lemma =>
                      have HIN := Lib.hid hi
                      have HXX := Lib.hid hx
                      have HYD := Lib.hid (rowS_data HO4.out.row y (List.mem_of_getElem? hx))
                      clear hi hx
                      go_wp2_with fail
                      refine (tl_take HO4.out (rowOf_at HWF.out.2.2.2.2.2 HIN.out HXX.out) HYD.out.2.1).mono ?_
                      rintro e w5 ⟨A5, c5, rfl, hb5, ho5, hag5⟩
                      have HB5 := Lib.hid hb5
                      clear hb5
                      have HSZ5 := Lib.hid (show w4.heap.size ≤ w5.heap.size from hag5.1)
                      have HO5 := Lib.hid ho5
                      have HDB5 := Lib.hid (HDB.out w5 hag5)
                      have HZ1 := Lib.hid (HG1.out w5 hag5)
                      have HZ2 := Lib.hid (HG2.out w5 hag5)
                      clear ho5 hag5 c0 c1 c2 c3 c4

                      have g0 := blk_cell HZ1.out 0
                      have g1 := blk_cell HZ1.out 1
                      have g2 := blk_cell HZ1.out 2
                      have fg0 := blk_free HZ1.out 0
                      have fg1 := blk_free HZ1.out 1
                      have fg2 := blk_free HZ1.out 2
                      go_upto_region 25 with fail
                      have hs1 := set3_fr w5 G1 (.int .i64 y.g.fr) (.int .i64 y.g.to) (.slice A5 y.g.n c5)
                      have HZ1 := Lib.hid (set3_blk HZ1.out (.int .i64 y.g.fr) (.int .i64 y.g.to) (.slice A5 y.g.n c5))
                      have HZ2 := Lib.hid (fr_blk hs1 HNE.out.2.2.1 HZ2.out)
                      have HO5 := Lib.hid (HO5.out.set hs1 HSD.out.2.1 HNS.out.1 HGW.out.1)
                      obtain ⟨x0, x1, x2, x3, x4⟩ := HDb.out _ (fr_blk hs1 HNE.out.2.2.2.1 HDB5.out)
                      have HS1 := Lib.hid hs1
                      clear g0 g1 g2 fg0 fg1 fg2 hs1
                      generalize ((w5.setCell ⟨G1, 0, none⟩ (.int .i64 y.g.fr)).setCell ⟨G1, 1, none⟩ (.int .i64 y.g.to)).setCell ⟨G1, 2, none⟩ (.slice A5 y.g.n c5) = w5' at *
                      have v0 : w5'.cell? ⟨WB, 0, none⟩ = some (.int .i64 nd) := blk_cell HO5.out.var 0
                      have v1 : w5'.cell? ⟨WB, 1, none⟩ = some (.int .i64 (E : Int)) := blk_cell HO5.out.var 1
                      have v2 : w5'.cell? ⟨WB, 2, none⟩ = some (.slice AH nH cH) := blk_cell HO5.out.var 2
                      go_wp2_with fail

                      have HB5 := Lib.hid (HB5.out.keep HS1.out (fun k hk _ e => by have := HG4.out; omega))
                      have HSZ6 := Lib.hid (show w4.heap.size ≤ w5'.heap.size from Nat.le_trans HSZ5.out HS1.out.size)
                      refine (takeS_yes cH HO5.out.row HWF.out.1 (by have := HWF.out.2.2.2.2; omega) HWF.out.2.2.1 nd E d.pl HIN.out HXX.out).mono ?_
                      rintro e w6 ⟨A6, c6, n6, rfl, hn6, hr6, hA6, hc6, hf6⟩
                      have HR6 := Lib.hid hr6
                      have HA6 := Lib.hid hA6
                      have HC6 := Lib.hid hc6
                      have HN6 := Lib.hid hn6
                      have HB6 := Lib.hid (HB5.out.no hf6)
                      clear hr6 hA6 hc6 hn6

                      have HF6 := Lib.hid hf6
                      have q0 := blk_cell (blk_no hf6 HO5.out.var) 0
                      have q1 := blk_cell (blk_no hf6 HO5.out.var) 1
                      have q2 := blk_cell (blk_no hf6 HO5.out.var) 2
                      have f0 := blk_free (blk_no hf6 HO5.out.var) 0
                      have f1 := blk_free (blk_no hf6 HO5.out.var) 1
                      have f2 := blk_free (blk_no hf6 HO5.out.var) 2

                      have k0 := blk_cell (blk_no hf6 HZ2.out) 0
                      have k1 := blk_cell (blk_no hf6 HZ2.out) 1
                      have k2 := blk_cell (blk_no hf6 HZ2.out) 2
                      have fk0 := blk_free (blk_no hf6 HZ2.out) 0
                      have fk1 := blk_free (blk_no hf6 HZ2.out) 1
                      have fk2 := blk_free (blk_no hf6 HZ2.out) 2
                      have HY1 := Lib.hid (blk_no hf6 HZ1.out)
                      have HY2 := Lib.hid (blk_no hf6 HZ2.out)
                      have hnwg : WB ≠ G2 := fun e => HNE.out.2.1 e.symm
                      clear hf6
                      go_wp2_with fail
                      go_meet

                      case rel =>
                        have hs := set3_fr w6 WB (.int .i64 nd) (.int .i64 (E : Int)) (.slice A6 n6 c6)
                        have hs2 := set3_fr (((w6.setCell ⟨WB, 0, none⟩ (.int .i64 nd)).setCell ⟨WB, 1, none⟩ (.int .i64 (E : Int))).setCell ⟨WB, 2, none⟩ (.slice A6 n6 c6)) G2 (.int .i64 y.g.fr) (.int .i64 y.g.to) (.slice y.g.A y.g.n y.g.c)
                        have ho := HO5.out.put (E' := E) (c' := c6) HF6.out HR6.out (hin_sub HO5.out.hin HA6.out (fun x hx => List.mem_of_mem_eraseIdx hx))
                        rw [rowOf_drop HWF.out.2.2.2.2.2 HIN.out HXX.out] at ho
                        have ho2 := ho.set hs2 (.inl HSD.out.2.2) (fun e => by
                          rcases e with e | e
                          · exact HNS.out.2 e
                          · have := HG4.out; have := HSZ6.out; omega) HGW.out.2
                        have hyd := (rowS_data (rowS_no HO5.out.row HF6.out) y (List.mem_of_getElem? HXX.out)).2
                        have hyb := HO5.out.hin.2 y (List.mem_of_getElem? HXX.out)
                        have hyd1 := rd_keep hs hyd (fun h0 a ha e => (HO5.out.old (HS04.out _ (hyb h0 a ha))).2 e)
                        have hyd2 := rd_keep hs2 hyd1 (fun h0 a ha e => HNS.out.2 (e ▸ hyb h0 a ha))
                        exact ra_mk ho2 (HWF.out.sub (List.eraseIdx_sublist ..) HR6.out.1 HC6.out) (fr_blk hs2 HNE.out.2.2.2.2.1 (fr_blk hs HNE.out.1 HY1.out)) (set3_blk (fr_blk hs HNE.out.2.1 HY2.out) _ _ _) ((HB6.out.keep hs (fun k hk _ e => by have := HG4.out; omega)).keep hs2 (fun k hk _ e => by have := HG4.out; omega)).rd hyd2

                · have hq4 : ¬ ((d.what : Int) = 4) := by omega
                  by_cases hw5 : d.what = 5
                  · have hq5 : (d.what : Int) = 5 := by omega
                    rcases fpos_ways H HWF.out.2.2.2.2.2 d.pl with hi | ⟨iy, y, hi, hx⟩
                    · as_aux_lemma =>
                        have HIN := Lib.hid hi
                        clear hi
                        have HLK := Lib.hid (rowOf_no HWF.out.2.2.2.2.2 HIN.out)
                        go_wp2_with fail
                        refine (tl_drop HO4.out d.pl (ok := false) (by rw [HLK.out]; rfl)).mono ?_

                        rintro e w5 ⟨rfl, ho5, hag5⟩
                        have HO5 := Lib.hid ho5
                        obtain ⟨x0, x1, x2, x3, x4⟩ := HD.out w5 hag5
                        have HZ1 := Lib.hid (HG1.out w5 hag5)
                        have HZ2 := Lib.hid (HG2.out w5 hag5)
                        have v0 : w5.cell? ⟨WB, 0, none⟩ = some (.int .i64 nd) := blk_cell ho5.var 0
                        have v1 : w5.cell? ⟨WB, 1, none⟩ = some (.int .i64 (E : Int)) := blk_cell ho5.var 1
                        have v2 : w5.cell? ⟨WB, 2, none⟩ = some (.slice AH nH cH) := blk_cell ho5.var 2
                        clear ho5 hag5 c0 c1 c2 c3 c4
                        go_wp2_with fail

                        refine (takeS_no cH HO5.out.row HWF.out.1 (by have := HWF.out.2.2.2.2; omega) nd E d.pl HIN.out).mono ?_
                        rintro e w6 ⟨rfl, hf6⟩

                        have HF6 := Lib.hid hf6
                        have q0 := blk_cell (blk_no hf6 HO5.out.var) 0
                        have q1 := blk_cell (blk_no hf6 HO5.out.var) 1
                        have q2 := blk_cell (blk_no hf6 HO5.out.var) 2
                        have f0 := blk_free (blk_no hf6 HO5.out.var) 0
                        have f1 := blk_free (blk_no hf6 HO5.out.var) 1
                        have f2 := blk_free (blk_no hf6 HO5.out.var) 2
                        have HY1 := Lib.hid (blk_no hf6 HZ1.out)
                        have HY2 := Lib.hid (blk_no hf6 HZ2.out)
                        clear hf6
                        go_wp2_with fail
                        go_meet

                        case rel =>
                          have hs := set3_fr w6 WB (.int .i64 nd) (.int .i64 (E : Int)) (.slice AH nH cH)
                          have ho := HO5.out.back HF6.out
                          rw [dropI_none HLK.out] at ho
                          exact ra_mk ho HWF.out.up (fr_blk hs HNE.out.1 HY1.out) (fr_blk hs HNE.out.2.1 HY2.out) (rd_nil _) (rd_nil _)
                    · as_aux_lemma =>
                        have HIN := Lib.hid hi
                        have HXX := Lib.hid hx
                        clear hi hx
                        go_wp2_with fail
                        refine (tl_drop HO4.out d.pl (ok := true) (by rw [rowOf_at HWF.out.2.2.2.2.2 HIN.out HXX.out]; rfl)).mono ?_

                        rintro e w5 ⟨rfl, ho5, hag5⟩
                        have HO5 := Lib.hid ho5
                        obtain ⟨x0, x1, x2, x3, x4⟩ := HD.out w5 hag5
                        have HZ1 := Lib.hid (HG1.out w5 hag5)
                        have HZ2 := Lib.hid (HG2.out w5 hag5)
                        have v0 : w5.cell? ⟨WB, 0, none⟩ = some (.int .i64 nd) := blk_cell ho5.var 0
                        have v1 : w5.cell? ⟨WB, 1, none⟩ = some (.int .i64 (E : Int)) := blk_cell ho5.var 1
                        have v2 : w5.cell? ⟨WB, 2, none⟩ = some (.slice AH nH cH) := blk_cell ho5.var 2
                        clear ho5 hag5 c0 c1 c2 c3 c4
                        go_wp2_with fail

                        refine (takeS_yes cH HO5.out.row HWF.out.1 (by have := HWF.out.2.2.2.2; omega) HWF.out.2.2.1 nd E d.pl HIN.out HXX.out).mono ?_
                        rintro e w6 ⟨A6, c6, n6, rfl, hn6, hr6, hA6, hc6, hf6⟩
                        have HR6 := Lib.hid hr6
                        have HA6 := Lib.hid hA6
                        have HC6 := Lib.hid hc6
                        have HN6 := Lib.hid hn6
                        clear hr6 hA6 hc6 hn6

                        have HF6 := Lib.hid hf6
                        have q0 := blk_cell (blk_no hf6 HO5.out.var) 0
                        have q1 := blk_cell (blk_no hf6 HO5.out.var) 1
                        have q2 := blk_cell (blk_no hf6 HO5.out.var) 2
                        have f0 := blk_free (blk_no hf6 HO5.out.var) 0
                        have f1 := blk_free (blk_no hf6 HO5.out.var) 1
                        have f2 := blk_free (blk_no hf6 HO5.out.var) 2
                        have HY1 := Lib.hid (blk_no hf6 HZ1.out)
                        have HY2 := Lib.hid (blk_no hf6 HZ2.out)
                        clear hf6
                        go_wp2_with fail
                        go_meet

                        case rel =>
                          have hs := set3_fr w6 WB (.int .i64 nd) (.int .i64 (E : Int)) (.slice A6 n6 c6)
                          have ho := HO5.out.put (E' := E) (c' := c6) HF6.out HR6.out (hin_sub HO5.out.hin HA6.out (fun x hx => List.mem_of_mem_eraseIdx hx))
                          rw [rowOf_drop HWF.out.2.2.2.2.2 HIN.out HXX.out] at ho
                          exact ra_mk ho (HWF.out.sub (List.eraseIdx_sublist ..) HR6.out.1 HC6.out) (fr_blk hs HNE.out.1 HY1.out) (fr_blk hs HNE.out.2.1 HY2.out) (rd_nil _) (rd_nil _)

                  · have hq5 : ¬ ((d.what : Int) = 5) := by omega
                    by_cases hw6 : d.what = 6
                    · have hq6 : (d.what : Int) = 6 := by omega
                      rcases fpos_ways H HWF.out.2.2.2.2.2 d.pl with hi | ⟨iy, y, hi, hx⟩
                      · as_aux_lemma =>
                          have HIN := Lib.hid hi
                          clear hi
                          go_wp2_with fail
                          refine (tl_copy_no HO4.out (rowOf_no HWF.out.2.2.2.2.2 HIN.out)).mono ?_

                          rintro e w5 ⟨rfl, hf5⟩
                          have ho5 := HO4.out.no hf5
                          have hag5 := HO4.out.ag_no hf5
                          have HO5 := Lib.hid ho5
                          obtain ⟨x0, x1, x2, x3, x4⟩ := HD.out w5 hag5
                          have HZ1 := Lib.hid (HG1.out w5 hag5)
                          have HZ2 := Lib.hid (HG2.out w5 hag5)
                          have v0 : w5.cell? ⟨WB, 0, none⟩ = some (.int .i64 nd) := blk_cell ho5.var 0
                          have v1 : w5.cell? ⟨WB, 1, none⟩ = some (.int .i64 (E : Int)) := blk_cell ho5.var 1
                          have v2 : w5.cell? ⟨WB, 2, none⟩ = some (.slice AH nH cH) := blk_cell ho5.var 2
                          clear hf5 ho5 hag5 c0 c1 c2 c3 c4
                          go_wp2_with fail

                          refine (copyS_no cH HO5.out.row HWF.out.1 (by have := HWF.out.2.2.2.2; omega) nd E d.pl HIN.out).mono ?_
                          rintro e w6 ⟨rfl, hf6⟩

                          have HF6 := Lib.hid hf6
                          have q0 := blk_cell (blk_no hf6 HO5.out.var) 0
                          have q1 := blk_cell (blk_no hf6 HO5.out.var) 1
                          have q2 := blk_cell (blk_no hf6 HO5.out.var) 2
                          have f0 := blk_free (blk_no hf6 HO5.out.var) 0
                          have f1 := blk_free (blk_no hf6 HO5.out.var) 1
                          have f2 := blk_free (blk_no hf6 HO5.out.var) 2
                          have HY1 := Lib.hid (blk_no hf6 HZ1.out)
                          have HY2 := Lib.hid (blk_no hf6 HZ2.out)
                          clear hf6
                          go_wp2_with fail
                          go_meet

                          case rel =>
                            have hs := set3_fr w6 WB (.int .i64 nd) (.int .i64 (E : Int)) (.slice AH nH cH)
                            exact ra_mk (HO5.out.back HF6.out) HWF.out.up (fr_blk hs HNE.out.1 HY1.out) (fr_blk hs HNE.out.2.1 HY2.out) (rd_nil _) (rd_nil _)
                      · as_aux_lemma =>
                          have HIN := Lib.hid hi
                          have HXX := Lib.hid hx
                          clear hi hx
                          obtain ⟨E1, hE1⟩ : ∃ E1, E + 1 = E1 := ⟨_, rfl⟩
                          have HE := Lib.hid hE1
                          clear hE1
                          go_wp2_with fail
                          refine (tl_copy HO4.out (by rw [rowOf_len]; have := HWF.out.2.2.2.2; omega) (rowOf_at HWF.out.2.2.2.2.2 HIN.out HXX.out)).mono ?_

                          rintro e w5 ⟨rfl, ho5, hag5⟩
                          have HO5 := Lib.hid ho5
                          obtain ⟨x0, x1, x2, x3, x4⟩ := HD.out w5 hag5
                          have HZ1 := Lib.hid (HG1.out w5 hag5)
                          have HZ2 := Lib.hid (HG2.out w5 hag5)
                          have v0 : w5.cell? ⟨WB, 0, none⟩ = some (.int .i64 nd) := blk_cell ho5.var 0
                          have v1 : w5.cell? ⟨WB, 1, none⟩ = some (.int .i64 (E : Int)) := blk_cell ho5.var 1
                          have v2 : w5.cell? ⟨WB, 2, none⟩ = some (.slice AH nH cH) := blk_cell ho5.var 2
                          clear ho5 hag5 c0 c1 c2 c3 c4
                          go_wp2_with fail

                          refine (copyS_ok cH HO5.out.row HWF.out.1 (by have := HWF.out.2.2.2.2; omega) nd E HWF.out.2.1 (by have := HWF.out.2.2.2.1; omega) HE.out d.pl HIN.out HXX.out).mono ?_
                          rintro e w6 ⟨A6, c6, B6, cb6, rfl, hr6, hA6, hB6, hc6, hf6⟩
                          have HR6 := Lib.hid hr6
                          have HA6 := Lib.hid hA6
                          have HB6 := Lib.hid hB6
                          have HC6 := Lib.hid hc6
                          clear hr6 hA6 hB6 hc6

                          have HF6 := Lib.hid hf6
                          have q0 := blk_cell (blk_no hf6 HO5.out.var) 0
                          have q1 := blk_cell (blk_no hf6 HO5.out.var) 1
                          have q2 := blk_cell (blk_no hf6 HO5.out.var) 2
                          have f0 := blk_free (blk_no hf6 HO5.out.var) 0
                          have f1 := blk_free (blk_no hf6 HO5.out.var) 1
                          have f2 := blk_free (blk_no hf6 HO5.out.var) 2
                          have HY1 := Lib.hid (blk_no hf6 HZ1.out)
                          have HY2 := Lib.hid (blk_no hf6 HZ2.out)
                          clear hf6
                          go_wp2_with fail
                          go_meet

                          case rel =>
                            have hs := set3_fr w6 WB (.int .i64 nd) (.int .i64 (E1 : Int)) (.slice A6 (nH + 1) c6)
                            have ho := HO5.out.put (E' := E1) (c' := c6) HF6.out HR6.out (hin_joined HO5.out.hin HA6.out rfl HB6.out)
                            have hwf := HWF.out.join ⟨y.g.fr, y.g.to, B6, y.g.n, cb6, y.g.l⟩ HC6.out
                            rw [HE.out] at hwf
                            exact ra_mk (H := ⟨E1, ⟨y.g.fr, y.g.to, B6, y.g.n, cb6, y.g.l⟩⟩ :: H) (by rw [rowOf_cons]; exact ho) hwf (fr_blk hs HNE.out.1 HY1.out) (fr_blk hs HNE.out.2.1 HY2.out) (rd_nil _) (rd_nil _)

                    · have hq6 : ¬ ((d.what : Int) = 6) := by omega
                      by_cases hw7 : d.what = 7
                      · have hq7 : (d.what : Int) = 7 := by omega
                        as_aux_lemma =>
                          obtain ⟨q, hq⟩ : ∃ q, (rowOf H).length - (keepN (rowOf H) d.to).length = q := ⟨_, rfl⟩
                          have HQ := Lib.hid hq
                          clear hq
                          go_wp2_with fail
                          refine (tl_forget HO4.out d.to HQ.out).mono ?_

                          rintro e w5 ⟨rfl, ho5, hag5⟩
                          have HO5 := Lib.hid ho5
                          obtain ⟨x0, x1, x2, x3, x4⟩ := HD.out w5 hag5
                          have HZ1 := Lib.hid (HG1.out w5 hag5)
                          have HZ2 := Lib.hid (HG2.out w5 hag5)
                          have v0 : w5.cell? ⟨WB, 0, none⟩ = some (.int .i64 nd) := blk_cell ho5.var 0
                          have v1 : w5.cell? ⟨WB, 1, none⟩ = some (.int .i64 (E : Int)) := blk_cell ho5.var 1
                          have v2 : w5.cell? ⟨WB, 2, none⟩ = some (.slice AH nH cH) := blk_cell ho5.var 2
                          clear ho5 hag5 c0 c1 c2 c3 c4
                          go_wp2_with fail

                          refine (forgetS_any cH HO5.out.row (by have := HWF.out.2.2.2.2; omega) nd E d.to).mono ?_
                          rintro e w6 ⟨A6, c6, n6, rfl, hr6, hA6, hc6, hf6⟩
                          have HR6 := Lib.hid hr6
                          have HA6 := Lib.hid hA6
                          have HC6 := Lib.hid hc6
                          have hq6 : nH - n6 = q := by
                            rw [← HQ.out, rowOf_keep, rowOf_len, rowOf_len, hr6.1, HWF.out.2.2.2.2.2]
                          rw [hq6]
                          clear hr6 hA6 hc6 hq6

                          have HF6 := Lib.hid hf6
                          have q0 := blk_cell (blk_no hf6 HO5.out.var) 0
                          have q1 := blk_cell (blk_no hf6 HO5.out.var) 1
                          have q2 := blk_cell (blk_no hf6 HO5.out.var) 2
                          have f0 := blk_free (blk_no hf6 HO5.out.var) 0
                          have f1 := blk_free (blk_no hf6 HO5.out.var) 1
                          have f2 := blk_free (blk_no hf6 HO5.out.var) 2
                          have HY1 := Lib.hid (blk_no hf6 HZ1.out)
                          have HY2 := Lib.hid (blk_no hf6 HZ2.out)
                          clear hf6
                          go_wp2_with fail
                          go_meet

                          case rel =>
                            have hs := set3_fr w6 WB (.int .i64 nd) (.int .i64 (E : Int)) (.slice A6 n6 c6)
                            have ho := HO5.out.put (E' := E) (c' := c6) HF6.out HR6.out (hin_sub HO5.out.hin HA6.out (fun x hx => (List.mem_filter.1 hx).1))
                            rw [rowOf_keep] at ho
                            exact ra_mk ho (HWF.out.sub List.filter_sublist HR6.out.1 HC6.out) (fr_blk hs HNE.out.1 HY1.out) (fr_blk hs HNE.out.2.1 HY2.out) (rd_nil _) (rd_nil _)

                      · have hq7 : ¬ ((d.what : Int) = 7) := by omega
                        rcases fpos_ways H HWF.out.2.2.2.2.2 d.pl with hi | ⟨iy, y, hi, hx⟩
                        · as_aux_lemma =>
                            have HIN := Lib.hid hi
                            clear hi
                            go_wp2_with fail
                            refine (tl_look_no HO4.out (rowOf_no HWF.out.2.2.2.2.2 HIN.out)).mono ?_
                            rintro e w5 ⟨rfl, hf5⟩
                            have ho5 := HO4.out.no hf5
                            have hag5 := HO4.out.ag_no hf5
                            clear hf5
                            have HO5 := Lib.hid ho5
                            have HDB5 := Lib.hid (HDB.out w5 hag5)
                            have HZ1 := Lib.hid (HG1.out w5 hag5)
                            have HZ2 := Lib.hid (HG2.out w5 hag5)
                            clear ho5 hag5 c0 c1 c2 c3 c4

                            have g0 := blk_cell HZ1.out 0
                            have g1 := blk_cell HZ1.out 1
                            have g2 := blk_cell HZ1.out 2
                            have fg0 := blk_free HZ1.out 0
                            have fg1 := blk_free HZ1.out 1
                            have fg2 := blk_free HZ1.out 2
                            go_upto_region 16 with fail
                            have hs1 := set3_fr w5 G1 (.int .i64 0) (.int .i64 0) (.slice none 0 0)
                            have HZ1 := Lib.hid (set3_blk HZ1.out (.int .i64 0) (.int .i64 0) (.slice none 0 0))
                            have HZ2 := Lib.hid (fr_blk hs1 HNE.out.2.2.1 HZ2.out)
                            have HO5 := Lib.hid (HO5.out.set hs1 HSD.out.2.1 HNS.out.1 HGW.out.1)
                            obtain ⟨x0, x1, x2, x3, x4⟩ := HDb.out _ (fr_blk hs1 HNE.out.2.2.2.1 HDB5.out)
                            have HS1 := Lib.hid hs1
                            clear g0 g1 g2 fg0 fg1 fg2 hs1
                            generalize ((w5.setCell ⟨G1, 0, none⟩ (.int .i64 0)).setCell ⟨G1, 1, none⟩ (.int .i64 0)).setCell ⟨G1, 2, none⟩ (.slice none 0 0) = w5' at *
                            have v0 : w5'.cell? ⟨WB, 0, none⟩ = some (.int .i64 nd) := blk_cell HO5.out.var 0
                            have v1 : w5'.cell? ⟨WB, 1, none⟩ = some (.int .i64 (E : Int)) := blk_cell HO5.out.var 1
                            have v2 : w5'.cell? ⟨WB, 2, none⟩ = some (.slice AH nH cH) := blk_cell HO5.out.var 2
                            go_wp2_with fail

                            refine (lookS_no cH HO5.out.row HWF.out.1 (by have := HWF.out.2.2.2.2; omega) nd E d.pl HIN.out).mono ?_
                            rintro e w6 ⟨rfl, hf6⟩
                            have HO6 := Lib.hid (HO5.out.no hf6)

                            have k0 := blk_cell (blk_no hf6 HZ2.out) 0
                            have k1 := blk_cell (blk_no hf6 HZ2.out) 1
                            have k2 := blk_cell (blk_no hf6 HZ2.out) 2
                            have fk0 := blk_free (blk_no hf6 HZ2.out) 0
                            have fk1 := blk_free (blk_no hf6 HZ2.out) 1
                            have fk2 := blk_free (blk_no hf6 HZ2.out) 2
                            have HY1 := Lib.hid (blk_no hf6 HZ1.out)
                            have HY2 := Lib.hid (blk_no hf6 HZ2.out)
                            have hnwg : WB ≠ G2 := fun e => HNE.out.2.1 e.symm
                            clear hf6
                            go_wp2_with fail
                            go_meet

                            case rel =>
                              have hs := set3_fr w6 G2 (.int .i64 0) (.int .i64 0) (.slice none 0 0)
                              exact ra_mk (HO6.out.set hs HSD.out.2.2 HNS.out.2 HGW.out.2) HWF.out.up (fr_blk hs HNE.out.2.2.2.2.1 HY1.out) (set3_blk HY2.out _ _ _) (rd_nil _) (rd_nil _)
                        · as_aux_lemma =>
                            have HIN := Lib.hid hi
                            have HXX := Lib.hid hx
                            have HYD := Lib.hid (rowS_data HO4.out.row y (List.mem_of_getElem? hx))
                            clear hi hx
                            go_wp2_with fail
                            refine (tl_look HO4.out (rowOf_at HWF.out.2.2.2.2.2 HIN.out HXX.out) HYD.out.2.1).mono ?_
                            rintro e w5 ⟨A5, c5, rfl, hb5, hf5⟩
                            have ho5 := HO4.out.no hf5
                            have hag5 := HO4.out.ag_no hf5
                            have HB5 := Lib.hid hb5
                            clear hf5 hb5
                            have HO5 := Lib.hid ho5
                            have HDB5 := Lib.hid (HDB.out w5 hag5)
                            have HZ1 := Lib.hid (HG1.out w5 hag5)
                            have HZ2 := Lib.hid (HG2.out w5 hag5)
                            clear ho5 hag5 c0 c1 c2 c3 c4

                            have g0 := blk_cell HZ1.out 0
                            have g1 := blk_cell HZ1.out 1
                            have g2 := blk_cell HZ1.out 2
                            have fg0 := blk_free HZ1.out 0
                            have fg1 := blk_free HZ1.out 1
                            have fg2 := blk_free HZ1.out 2
                            go_upto_region 16 with fail
                            have hs1 := set3_fr w5 G1 (.int .i64 y.g.fr) (.int .i64 y.g.to) (.slice A5 y.g.n c5)
                            have HZ1 := Lib.hid (set3_blk HZ1.out (.int .i64 y.g.fr) (.int .i64 y.g.to) (.slice A5 y.g.n c5))
                            have HZ2 := Lib.hid (fr_blk hs1 HNE.out.2.2.1 HZ2.out)
                            have HO5 := Lib.hid (HO5.out.set hs1 HSD.out.2.1 HNS.out.1 HGW.out.1)
                            obtain ⟨x0, x1, x2, x3, x4⟩ := HDb.out _ (fr_blk hs1 HNE.out.2.2.2.1 HDB5.out)
                            have HS1 := Lib.hid hs1
                            clear g0 g1 g2 fg0 fg1 fg2 hs1
                            generalize ((w5.setCell ⟨G1, 0, none⟩ (.int .i64 y.g.fr)).setCell ⟨G1, 1, none⟩ (.int .i64 y.g.to)).setCell ⟨G1, 2, none⟩ (.slice A5 y.g.n c5) = w5' at *
                            have v0 : w5'.cell? ⟨WB, 0, none⟩ = some (.int .i64 nd) := blk_cell HO5.out.var 0
                            have v1 : w5'.cell? ⟨WB, 1, none⟩ = some (.int .i64 (E : Int)) := blk_cell HO5.out.var 1
                            have v2 : w5'.cell? ⟨WB, 2, none⟩ = some (.slice AH nH cH) := blk_cell HO5.out.var 2
                            go_wp2_with fail

                            have HB5 := Lib.hid (HB5.out.keep HS1.out (fun k hk _ e => by have := HG4.out; omega))
                            refine (lookS_yes cH HO5.out.row HWF.out.1 (by have := HWF.out.2.2.2.2; omega) nd E d.pl HIN.out HXX.out).mono ?_
                            rintro e w6 ⟨rfl, hf6⟩
                            have HO6 := Lib.hid (HO5.out.no hf6)
                            have HB6 := Lib.hid (HB5.out.no hf6)

                            have k0 := blk_cell (blk_no hf6 HZ2.out) 0
                            have k1 := blk_cell (blk_no hf6 HZ2.out) 1
                            have k2 := blk_cell (blk_no hf6 HZ2.out) 2
                            have fk0 := blk_free (blk_no hf6 HZ2.out) 0
                            have fk1 := blk_free (blk_no hf6 HZ2.out) 1
                            have fk2 := blk_free (blk_no hf6 HZ2.out) 2
                            have HY1 := Lib.hid (blk_no hf6 HZ1.out)
                            have HY2 := Lib.hid (blk_no hf6 HZ2.out)
                            have hnwg : WB ≠ G2 := fun e => HNE.out.2.1 e.symm
                            clear hf6
                            go_wp2_with fail
                            go_meet

                            case rel =>
                              have hs := set3_fr w6 G2 (.int .i64 y.g.fr) (.int .i64 y.g.to) (.slice y.g.A y.g.n y.g.c)
                              have ho := HO6.out.set hs HSD.out.2.2 HNS.out.2 HGW.out.2
                              exact ra_mk ho HWF.out.up (fr_blk hs HNE.out.2.2.2.2.1 HY1.out) (set3_blk HY2.out _ _ _) (HB6.out.keep hs (fun k hk _ e => by have := HG4.out; omega)).rd (rowS_data ho.row y (List.mem_of_getElem? HXX.out)).2
            case rest =>
              as_aux_lemma =>
                obtain ⟨code, ok, k, fr, tt, A1, m, ca, A2, cb, l, S5, S0, E5, A5, n5, c5, H5, rfl, rfl, rfl, rfl, rfl, rfl, hb1, hb2, r1, r2, ho, hwf⟩ := hcut
                have HO5 := Lib.hid ho
                have HWF5 := Lib.hid hwf
                have hfd := Fr.drew No wc
                have HOW : Hid (∀ W, Fr No wc.drew W → Tl w3 f w.heap.size WB nd S5 S0 (rowOf H5) E5 A5 n5 c5 H5 W) := fun W hW => HO5.out.no (hfd.no_trans hW)
                have HEQ := Lib.hid (fun W (hW : Fr No wc.drew W) => equal_yes W fr tt A1 A2 m m ca cb l (((hfd.no_trans hW).rd (Nat.le_refl _) r1).more (hfd.no_trans hW).size) (((hfd.no_trans hW).rd (Nat.le_refl _) r2).more (hfd.no_trans hW).size))
                have HFL := Lib.hid (fun W (hW : Fr No wc.drew W) => tl_flying (HOW.out W hW) (m := n5) (by rw [rowOf_len]; exact HWF5.out.2.2.2.2.2))
                have HFS := Lib.hid (fun W (hW : Fr No wc.drew W) => flyS_any c5 (HOW.out W hW).row (by have := HWF5.out.2.2.2.2.1; omega) nd E5 HWF5.out.2.1 (by have := HWF5.out.2.2.2.1; omega))
                have p0 : wc.drew.cell? ⟨WB, 0, none⟩ = some (.int .i64 nd) := blk_cell ho.var 0
                have p1 : wc.drew.cell? ⟨WB, 1, none⟩ = some (.int .i64 (E5 : Int)) := blk_cell ho.var 1
                have p2 : wc.drew.cell? ⟨WB, 2, none⟩ = some (.slice A5 n5 c5) := blk_cell ho.var 2
                have g0 : wc.drew.cell? ⟨G1, 0, none⟩ = some (.int .i64 fr) := blk_cell hb1 0
                have g1 : wc.drew.cell? ⟨G1, 1, none⟩ = some (.int .i64 tt) := blk_cell hb1 1
                have g2 : wc.drew.cell? ⟨G1, 2, none⟩ = some (.slice A1 m ca) := blk_cell hb1 2
                have k0 : wc.drew.cell? ⟨G2, 0, none⟩ = some (.int .i64 fr) := blk_cell hb2 0
                have k1 : wc.drew.cell? ⟨G2, 1, none⟩ = some (.int .i64 tt) := blk_cell hb2 1
                have k2 : wc.drew.cell? ⟨G2, 2, none⟩ = some (.slice A2 m cb) := blk_cell hb2 2
                have z0 : WB < wc.drew.heap.size := (Array.getElem?_eq_some_iff.1 ho.var).1
                have z1 : G1 < wc.drew.heap.size := (Array.getElem?_eq_some_iff.1 hb1).1
                have z2 : G2 < wc.drew.heap.size := (Array.getElem?_eq_some_iff.1 hb2).1
                have HKP : Hid (∀ W, Fr No wc.drew W → W.cell? ⟨WB, 0, none⟩ = some (.int .i64 nd) ∧ W.cell? ⟨WB, 1, none⟩ = some (.int .i64 (E5 : Int)) ∧ W.cell? ⟨WB, 2, none⟩ = some (.slice A5 n5 c5) ∧ W.cell? ⟨G1, 0, none⟩ = some (.int .i64 fr) ∧ W.cell? ⟨G1, 1, none⟩ = some (.int .i64 tt) ∧ W.cell? ⟨G1, 2, none⟩ = some (.slice A1 m ca) ∧ W.cell? ⟨G2, 0, none⟩ = some (.int .i64 fr) ∧ W.cell? ⟨G2, 1, none⟩ = some (.int .i64 tt) ∧ W.cell? ⟨G2, 2, none⟩ = some (.slice A2 m cb)) := fun W hW =>
                  ⟨(hW.cell (p := ⟨WB, 0, none⟩) z0 (fun e => e)).trans p0, (hW.cell (p := ⟨WB, 1, none⟩) z0 (fun e => e)).trans p1, (hW.cell (p := ⟨WB, 2, none⟩) z0 (fun e => e)).trans p2,
                   (hW.cell (p := ⟨G1, 0, none⟩) z1 (fun e => e)).trans g0, (hW.cell (p := ⟨G1, 1, none⟩) z1 (fun e => e)).trans g1, (hW.cell (p := ⟨G1, 2, none⟩) z1 (fun e => e)).trans g2,
                   (hW.cell (p := ⟨G2, 0, none⟩) z2 (fun e => e)).trans k0, (hW.cell (p := ⟨G2, 1, none⟩) z2 (fun e => e)).trans k1, (hW.cell (p := ⟨G2, 2, none⟩) z2 (fun e => e)).trans k2⟩
                clear hwf hfd r1 r2 z0 z1 z2 hb1 hb2 ho c0 c1 c2 c3 c4
                go_upto_region 35 with fail
                go_region_held3 (fun W => W.cell? ⟨WB, 0, none⟩ = some (.int .i64 nd) ∧ W.cell? ⟨WB, 1, none⟩ = some (.int .i64 (E5 : Int)) ∧ W.cell? ⟨WB, 2, none⟩ = some (.slice A5 n5 c5) ∧ W.cell? ⟨G1, 0, none⟩ = some (.int .i64 fr) ∧ W.cell? ⟨G1, 1, none⟩ = some (.int .i64 tt) ∧ W.cell? ⟨G1, 2, none⟩ = some (.slice A1 m ca) ∧ W.cell? ⟨G2, 0, none⟩ = some (.int .i64 fr) ∧ W.cell? ⟨G2, 1, none⟩ = some (.int .i64 tt) ∧ W.cell? ⟨G2, 2, none⟩ = some (.slice A2 m cb))
                  (first | exact ⟨p0, p1, p2, g0, g1, g2, k0, k1, k2⟩ | assumption)
                  (first
                    | (go_at_call 27; refine (HEQ.out _ (Fr.refl _ _)).mono ?_; rintro e w6 ⟨rfl, hf6⟩; have HF6 := Lib.hid hf6; have hkp := HKP.out w6 hf6; clear hf6)
                    | (go_at_call 16; refine (HFL.out w6 HF6.out).mono ?_; rintro e w7 ⟨rfl, rfl⟩)
                    | (go_at_call 28; refine (HFS.out w6 HF6.out).mono ?_; rintro e w8 ⟨rfl, hf8⟩; have HF8 := Lib.hid (HF6.out.no_trans hf8); have hkp8 := HKP.out w8 HF8.out; clear hf8))
                have HO8 := Lib.hid (HOW.out w8 HF8.out)
                clear p0 p1 p2 g0 g1 g2 k0 k1 k2 hkp hkp8
                go_wp2_with fail
                go_loopw [19] (fun v19 wz => ∃ p : Int, v19 = .int .i64 p ∧ -1 ≤ p ∧ p ≤ (n5 : Int) + 1 ∧ Fr No w8 wz) (fun v19 _ => ((n5 : Int) + 1 - intOf v19).toNat)
                case atStart => exact ⟨-1, rfl, by omega, by omega, Fr.refl _ _⟩
                case round =>
                  obtain ⟨p, rfl, hp0, hp1, hfr⟩ := hrel
                  have hor := HO8.out.no hfr
                  have HOR := Lib.hid hor
                  have p0 : wr.cell? ⟨WB, 0, none⟩ = some (.int .i64 nd) := blk_cell hor.var 0
                  have p1 : wr.cell? ⟨WB, 1, none⟩ = some (.int .i64 (E5 : Int)) := blk_cell hor.var 1
                  have p2 : wr.cell? ⟨WB, 2, none⟩ = some (.slice A5 n5 c5) := blk_cell hor.var 2
                  have hn5 : n5 ≤ 100 := by have := HWF5.out.2.2.2.2.1; omega
                  have HFRR := Lib.hid hfr
                  clear hfr hor
                  go_wp2_with fail
                  refine (flyS_any c5 HOR.out.row (by omega) nd E5 HWF5.out.2.1 (by have := HWF5.out.2.2.2.1; omega)).mono ?_
                  rintro e w9 ⟨rfl, hf9⟩
                  have HF9 := Lib.hid hf9
                  have HO9 := Lib.hid (HOR.out.no hf9)
                  clear hf9 p0 p1 p2
                  by_cases hpn : p ≤ (n5 : Int)
                  · have hwp : IntKind.i64.wrap (p + 1) = p + 1 := IntWalk.i64_in _ (by omega)
                    rcases fpos_ways H5 HWF5.out.2.2.2.2.2 p with hi | ⟨iy, y, hi, hx⟩
                    · as_aux_lemma =>
                        have HIN := Lib.hid hi
                        clear hi
                        go_wp2_with fail
                        refine (tl_look_no HO9.out (rowOf_no HWF5.out.2.2.2.2.2 HIN.out)).mono ?_
                        rintro e w10 ⟨rfl, hf10⟩
                        have hf11 := hf10.no_trans (Fr.alloc No w10 (.cells #[.int .i64 0, .int .i64 0, .slice none 0 0] 30))
                        have HB11 := Lib.hid (heap_alloc_new w10 (.cells #[.int .i64 0, .int .i64 0, .slice none 0 0] 30))
                        have HF11 := Lib.hid hf11
                        have hv := (HO9.out.no hf11).var
                        have HO11 := Lib.hid (HO9.out.no hf11)
                        clear hf10 hf11
                        go_upto_region 41 with fail
                        generalize hw11 : w10.alloc (.cells #[.int .i64 0, .int .i64 0, .slice none 0 0] 30) = w11 at *
                        generalize hk1 : w10.heap.size = K1 at *
                        clear hw11 hk1
                        have p0 : w11.cell? ⟨WB, 0, none⟩ = some (.int .i64 nd) := blk_cell hv 0
                        have p1 : w11.cell? ⟨WB, 1, none⟩ = some (.int .i64 (E5 : Int)) := blk_cell hv 1
                        have p2 : w11.cell? ⟨WB, 2, none⟩ = some (.slice A5 n5 c5) := blk_cell hv 2
                        clear hv
                        go_wp2_with fail
                        refine (lookS_no c5 HO11.out.row HWF5.out.1 (by omega) nd E5 p HIN.out).mono ?_
                        rintro e w12 ⟨rfl, hf12⟩
                        have hf13 := hf12.no_trans (Fr.alloc No w12 (.cells #[.int .i64 0, .int .i64 0, .slice none 0 0] 30))
                        have HB13 := Lib.hid (heap_alloc_new w12 (.cells #[.int .i64 0, .int .i64 0, .slice none 0 0] 30))
                        have HC13 := Lib.hid (blk_no hf13 HB11.out)
                        have HF13 := Lib.hid (HF11.out.no_trans hf13)
                        clear hf12 hf13 p0 p1 p2
                        go_upto_region 42 with fail
                        generalize hw13 : w12.alloc (.cells #[.int .i64 0, .int .i64 0, .slice none 0 0] 30) = w13 at *
                        generalize hk2 : w12.heap.size = K2 at *
                        clear hw13 hk2
                        have x0 : w13.cell? ⟨K1, 0, none⟩ = some (.int .i64 0) := blk_cell HC13.out 0
                        have x1 : w13.cell? ⟨K1, 1, none⟩ = some (.int .i64 0) := blk_cell HC13.out 1
                        have x2 : w13.cell? ⟨K1, 2, none⟩ = some (.slice none 0 0) := blk_cell HC13.out 2
                        have y0 : w13.cell? ⟨K2, 0, none⟩ = some (.int .i64 0) := blk_cell HB13.out 0
                        have y1 : w13.cell? ⟨K2, 1, none⟩ = some (.int .i64 0) := blk_cell HB13.out 1
                        have y2 : w13.cell? ⟨K2, 2, none⟩ = some (.slice none 0 0) := blk_cell HB13.out 2
                        go_wp2_with fail
                        refine (equal_yes w13 0 0 none none 0 0 0 0 [] (rd_nil _) (rd_nil _)).mono ?_
                        rintro e w14 ⟨rfl, hf14⟩
                        have HF14 := Lib.hid (((HFRR.out.no_trans HF9.out).no_trans HF13.out).no_trans hf14)
                        clear hf14 x0 x1 x2 y0 y1 y2
                        go_wp2_with fail
                        go_roundw
                        case rel => exact ⟨p + 1, rfl, by omega, by omega, HF14.out⟩
                        case measure => simp [intOf]; omega
                    · as_aux_lemma =>
                        have HIN := Lib.hid hi
                        have HXX := Lib.hid hx
                        have HYD := Lib.hid (rowS_data HO9.out.row y (List.mem_of_getElem? hx))
                        clear hi hx
                        go_wp2_with fail
                        refine (tl_look HO9.out (rowOf_at HWF5.out.2.2.2.2.2 HIN.out HXX.out) HYD.out.2.1).mono ?_
                        rintro e w10 ⟨AL, cL, rfl, hbL, hf10⟩
                        have hf11 := hf10.no_trans (Fr.alloc No w10 (.cells #[.int .i64 y.g.fr, .int .i64 y.g.to, .slice AL y.g.n cL] 30))
                        have HB11 := Lib.hid (heap_alloc_new w10 (.cells #[.int .i64 y.g.fr, .int .i64 y.g.to, .slice AL y.g.n cL] 30))
                        have HBL := Lib.hid (hbL.no (Fr.alloc No w10 (.cells #[.int .i64 y.g.fr, .int .i64 y.g.to, .slice AL y.g.n cL] 30)))
                        have HF11 := Lib.hid hf11
                        have hv := (HO9.out.no hf11).var
                        have HO11 := Lib.hid (HO9.out.no hf11)
                        clear hf10 hf11 hbL
                        go_upto_region 41 with fail
                        generalize hw11 : w10.alloc (.cells #[.int .i64 y.g.fr, .int .i64 y.g.to, .slice AL y.g.n cL] 30) = w11 at *
                        generalize hk1 : w10.heap.size = K1 at *
                        clear hw11 hk1
                        have p0 : w11.cell? ⟨WB, 0, none⟩ = some (.int .i64 nd) := blk_cell hv 0
                        have p1 : w11.cell? ⟨WB, 1, none⟩ = some (.int .i64 (E5 : Int)) := blk_cell hv 1
                        have p2 : w11.cell? ⟨WB, 2, none⟩ = some (.slice A5 n5 c5) := blk_cell hv 2
                        clear hv
                        go_wp2_with fail
                        refine (lookS_yes c5 HO11.out.row HWF5.out.1 (by omega) nd E5 p HIN.out HXX.out).mono ?_
                        rintro e w12 ⟨rfl, hf12⟩
                        have hf13 := hf12.no_trans (Fr.alloc No w12 (.cells #[.int .i64 y.g.fr, .int .i64 y.g.to, .slice y.g.A y.g.n y.g.c] 30))
                        have HB13 := Lib.hid (heap_alloc_new w12 (.cells #[.int .i64 y.g.fr, .int .i64 y.g.to, .slice y.g.A y.g.n y.g.c] 30))
                        have HC13 := Lib.hid (blk_no hf13 HB11.out)
                        have HBL3 := Lib.hid (HBL.out.no hf13)
                        have HD13 := Lib.hid (rowS_data (HO11.out.no hf13).row y (List.mem_of_getElem? HXX.out))
                        have HF13 := Lib.hid (HF11.out.no_trans hf13)
                        clear hf12 hf13 p0 p1 p2
                        go_upto_region 42 with fail
                        generalize hw13 : w12.alloc (.cells #[.int .i64 y.g.fr, .int .i64 y.g.to, .slice y.g.A y.g.n y.g.c] 30) = w13 at *
                        generalize hk2 : w12.heap.size = K2 at *
                        clear hw13 hk2
                        have x0 : w13.cell? ⟨K1, 0, none⟩ = some (.int .i64 y.g.fr) := blk_cell HC13.out 0
                        have x1 : w13.cell? ⟨K1, 1, none⟩ = some (.int .i64 y.g.to) := blk_cell HC13.out 1
                        have x2 : w13.cell? ⟨K1, 2, none⟩ = some (.slice AL y.g.n cL) := blk_cell HC13.out 2
                        have y0 : w13.cell? ⟨K2, 0, none⟩ = some (.int .i64 y.g.fr) := blk_cell HB13.out 0
                        have y1 : w13.cell? ⟨K2, 1, none⟩ = some (.int .i64 y.g.to) := blk_cell HB13.out 1
                        have y2 : w13.cell? ⟨K2, 2, none⟩ = some (.slice y.g.A y.g.n y.g.c) := blk_cell HB13.out 2
                        go_wp2_with fail
                        refine (equal_yes w13 y.g.fr y.g.to AL y.g.A y.g.n y.g.n cL y.g.c y.g.l HBL3.out.rd HD13.out.2).mono ?_
                        rintro e w14 ⟨rfl, hf14⟩
                        have HF14 := Lib.hid (((HFRR.out.no_trans HF9.out).no_trans HF13.out).no_trans hf14)
                        clear hf14 x0 x1 x2 y0 y1 y2
                        go_wp2_with fail
                        go_roundw
                        case rel => exact ⟨p + 1, rfl, by omega, by omega, HF14.out⟩
                        case measure => simp [intOf]; omega
                  · as_aux_lemma =>
                      have hpn2 : (n5 : Int) < p := by omega
                      go_wp2_with fail
                      go_roundw
                      case rel => exact ⟨i + 1, by omega, by omega, by go_num, S5, E5, A5, n5, c5, H5, (HOR.out.no HF9.out).all, HWF5.out⟩
                      case measure => simp [intOf]; omega
          · have hd150I : (150 : Int) < (d.n : Int) := by omega
            go_wp2_with fail
            go_roundw
            case rel => exact ⟨i + 1, by omega, by omega, by go_num, S, E, AH, nH, cH, H, HO.out.no (Fr.alloc No _ _), HWF.out.up⟩
            case measure => simp [intOf]; omega
        · have hi90' : i = 70 := by omega
          have h90I : ¬ ((i : Int) < 70) := by omega
          clear hi90'
          go_wp2_with fail
          refine (awake_any _).mono ?_
          rintro e w5 ⟨rfl, hb⟩
          have HB5 := Lib.hid (HBW.out.trans (hb.mono HBW.out.size))
          clear hb
          go_wp2_with fail
          go_ret
          exact ⟨rfl, HB5.out⟩
      · have hltI : ¬ ((i : Int) < (n : Int)) := by omega
        go_wp2_with fail
        refine (awake_any _).mono ?_
        rintro e w5 ⟨rfl, hb⟩
        have HB5 := Lib.hid (HBW.out.trans (hb.mono HBW.out.size))
        clear hb
        go_wp2_with fail
        go_ret
        exact ⟨rfl, HB5.out⟩
end Go.Proofs.Ytndanonhkjgmhaa

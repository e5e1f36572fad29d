/-
  DiskTells: the walk. No statement of the seat is proved here.
-/
import Derived.Test.YtnkgcafebmacjaaDtY
import Derived.Test.YtnkgcafebmacjaaFrY
import Derived.Deep.CutBlock
import Derived.Deep.QuietTactic
namespace Go.Proofs.Ytnkgcafebmacjaa
open Go.RowKit Go.Maps

/-- Behind the switch: both errors are one, both texts are, and both disks are in step. -/
def Ra (w0 : World) (D M V C : Nat) (cs : Array Value) (v11 v12 v13 v14 : Value) (wx : World) : Prop :=
  ∃ (e : Int) (A : Option Addr) (n c : Nat) (B : Option Addr) (m g : Nat) (l : List UInt8) (d : Dv) (s : St), v11 = .int .i64 e ∧ v12 = .int .i64 e ∧ v13 = .slice A n c ∧ v14 = .slice B m g ∧ Rd wx wx.heap.size A n l ∧ Rd wx wx.heap.size B m l ∧
    Tl w0 D M V wx d s s.ab ∧ wx.heap[C]? = some (.cells cs 36 (0, 0)) ∧ ¬ foot D M s.fs C ∧ C ≠ V
theorem Ra.mk0 {w0 wx : World} {D M V C : Nat} {cs : Array Value} (e : Int) {d : Dv} {s : St} {S : Ab} (hT : Tl w0 D M V wx d s S) (hS : s.ab = S) (hC : wx.heap[C]? = some (.cells cs 36 (0, 0))) (h1 : ¬ foot D M s.fs C) (h2 : C ≠ V) :
    Ra w0 D M V C cs (.int .i64 e) (.int .i64 e) (.slice none 0 0) (.slice none 0 0) wx := by
  subst hS
  exact ⟨e, none, 0, 0, none, 0, 0, [], d, s, rfl, rfl, rfl, rfl, Rd.nil, Rd.nil, hT, hC, h1, h2⟩
theorem cells6 {W : World} {C : Nat} {a b c d e f : Value} (hb : W.heap[C]? = some (.cells #[a, b, c, d, e, f] 36 (0, 0))) :
    W.cell? ⟨C, 0, none⟩ = some a ∧ W.cell? ⟨C, 1, none⟩ = some b ∧ W.cell? ⟨C, 2, none⟩ = some c ∧ W.cell? ⟨C, 3, none⟩ = some d ∧ W.cell? ⟨C, 4, none⟩ = some e ∧ W.cell? ⟨C, 5, none⟩ = some f := by
  exact ⟨by unfold World.cell?; rw [hb]; rfl, by unfold World.cell?; rw [hb]; rfl, by unfold World.cell?; rw [hb]; rfl, by unfold World.cell?; rw [hb]; rfl, by unfold World.cell?; rw [hb]; rfl, by unfold World.cell?; rw [hb]; rfl⟩
theorem nx_off {D M : Nat} {w w' : World} {s s' : St} (hN : Nx D M w s w' s') {C : Nat} (hC : C < w.heap.size) (h : ¬ foot D M s.fs C) : ¬ foot D M s'.fs C := fun hk => by
  rcases hN.2.2 C hk with e | e
  · exact h e
  · omega
theorem nx_blk {D M : Nat} {w w' : World} {s s' : St} (hN : Nx D M w s w' s') {C : Nat} {o : Obj} (hb : w.heap[C]? = some o) (h : ¬ foot D M s.fs C) : w'.heap[C]? = some o :=
  (hN.2.1.block C (Array.getElem?_eq_some_iff.1 hb).1 h).trans hb
set_option maxRecDepth 100000 in
theorem rdI_of {w0 w : World} {F : Nat → Prop} {A : Option Addr} {n : Nat} {ks : List Int} (h : RowOf w0 1 (InAt w0) A n ks) (hb : Below w0.heap.size w0 w) (hF : ∀ k, F k → w0.heap.size ≤ k) : RdI w F A n ks := by
  refine ⟨h.1, fun hn => ?_⟩
  obtain ⟨b, o, e, hlt, hc⟩ := h.2 hn
  refine ⟨b, o, e, Nat.lt_of_lt_of_le hlt hb.size, fun hf => by have := hF _ hf; omega, fun j hj => ?_⟩
  have h1 := (hc j hj).1
  rw [Nat.mul_one] at h1
  exact (hb.cell (p := ⟨b, o + j, none⟩) hlt).trans h1
set_option maxHeartbeats 16000000 in
set_option maxRecDepth 100000 in
theorem tells_walk (r : Int) (hr : -9223372036854775808 ≤ r ∧ r ≤ 9223372036854775807) (A : Option Addr) (n c : Nat) (xs : List Cl) (w : World) (hx : RowOf w 6 (ClAtK w) A n xs) :
    Calls Try.prog 3 #[.int .i64 r, .slice A n c] w fun e w' => e = .returned (.bool true) ∧ Below w.heap.size w w' := by
  have HA := Lib.hid (fun W => awake_any W)
  have HX := Lib.hid hx
  have HRR := Lib.hid hr
  clear hx hr
  go_enter Try.func3, Try.ntmps3
  go_upto_if 16 with fail
  go_cut [0] from 16 to 18 (fun v0 wx => wx = w ∧ ∃ m : Int, v0 = .int .i64 m ∧ m ≤ 16777216)
  case first =>
    as_aux_lemma =>
      by_cases h : 16777216 < r
      · have hd : decide ((16777216 : Int) < r) = true := decide_eq_true h
        have h5 : r % 500 ≤ 16777216 := by omega
        go_wp2_with fail
        go_meet
        case rel => exact ⟨by first | rfl | trivial, _, rfl, h5⟩
      · have hd : decide ((16777216 : Int) < r) = false := decide_eq_false h
        go_wp2_with fail
        go_meet
        case rel => exact ⟨by first | rfl | trivial, r, rfl, by omega⟩
  case rest =>
    obtain ⟨hwx, m, rfl, hm⟩ := hcut
    have hwx := hwx.symm
    subst hwx
    by_cases h0 : m < 0
    ·
      as_aux_lemma =>
        have HN1 := Lib.hid (new_refuses m w (.inl h0))
        have HN2 := Lib.hid (fun W => rnew_no W m (.inl h0))
        clear hm
        go_wp2_with fail
        refine HN1.out.mono ?_
        rintro e w1 ⟨rfl, rfl⟩
        go_wp2_with fail
        refine (HN2.out _).mono ?_
        rintro e w2 ⟨rfl, hf2⟩
        have HF2 := Lib.hid hf2
        clear hf2
        go_wp2_with fail
        refine (HA.out _).mono ?_
        rintro e w3 ⟨rfl, hb3⟩
        have HB3 := Lib.hid hb3
        clear hb3
        go_wp2_with fail
        go_ret
        exact ⟨rfl, ((HF2.out.no_trans (Fr.alloc No _ _)).noBelow).trans (HB3.out.mono (by have := HF2.out.size; simp; omega))⟩
    · obtain ⟨k, rfl⟩ := Int.eq_ofNat_of_zero_le (show 0 ≤ m by omega)
      have hk : k ≤ 16777216 := by omega
      have HN1 := Lib.hid (new_dsk k w hk)
      have HN2 := Lib.hid (fun F W => rv_new F W k hk)
      obtain ⟨D, HD⟩ : ∃ D, Hid (w.heap.size + 1 = D) := ⟨_, rfl⟩
      obtain ⟨M, HM⟩ : ∃ M, Hid (w.heap.size = M) := ⟨_, rfl⟩
      rw [HM.out] at HD
      rw [HM.out, HD.out] at HN1
      clear hm h0
      go_wp2_with fail
      refine HN1.out.mono ?_
      rintro e w1 ⟨rfl, hd1, hb1⟩
      have HD1 := Lib.hid hd1
      have HB1 := Lib.hid hb1
      clear hd1 hb1 HN1
      go_wp2_with fail
      refine (HN2.out (foot D M []) w1).mono ?_
      rintro e w2 ⟨v2, rfl, hv2, hf2⟩
      obtain ⟨d2, rfl⟩ := hv2.form
      have HV2 := Lib.hid hv2
      have HF2 := Lib.hid hf2
      clear hv2 hf2 HN2
      go_upto_region 5 with fail
      obtain ⟨V, hV⟩ : ∃ V, w2.heap.size = V := ⟨_, rfl⟩
      have hfa := Fr.alloc No w2 (.cells #[.int .i64 d2.mo, .slice d2.A d2.n d2.c, .int .i64 d2.lf, .bool d2.fl] 29)
      have hb := heap_alloc_new w2 (.cells #[.int .i64 d2.mo, .slice d2.A d2.n d2.c, .int .i64 d2.lf, .bool d2.fl] 29)
      have hT3 : Tl w D M V (w2.alloc (.cells #[.int .i64 d2.mo, .slice d2.A d2.n d2.c, .int .i64 d2.lf, .bool d2.fl] 29)) d2 ⟨false, false, 0, k, []⟩ ⟨false, false, 0, k, []⟩ := by
        have hfar : ∀ j, foot D M [] j → w.heap.size ≤ j := fun j hj => by
          have h1 := HM.out
          have h2 := HD.out
          rcases hj with e | e | ⟨f, hf, _⟩
          · omega
          · omega
          · cases hf
        have hb1' : Below w.heap.size w w1 := by rw [HM.out]; exact HB1.out
        have hlt : ∀ j, foot D M [] j → j < w2.heap.size := fun j hj => Nat.lt_of_lt_of_le (HD1.out.foot_lt hj) HF2.out.size
        refine ⟨(HD1.out.no HF2.out).no hfa, hfar, (hb1'.trans (HF2.out.noBelow.mono hb1'.size)).trans (hfa.noBelow.mono (Nat.le_trans hb1'.size HF2.out.size)), by rw [← hV]; exact hb, HV2.out.keep hfa (fun _ e => e.elim) (fun j hj => ?_), fun hj => by have := hlt V hj; omega, by rw [← hV]; exact Nat.le_trans hb1'.size HF2.out.size⟩
        rcases hj with hj | hj
        · exact .inl hj
        · exact .inr (by omega)
      obtain ⟨w3, hw3⟩ : ∃ u, w2.alloc (.cells #[.int .i64 d2.mo, .slice d2.A d2.n d2.c, .int .i64 d2.lf, .bool d2.fl] 29) = u := ⟨_, rfl⟩
      rw [hw3] at hT3 ⊢
      rw [hV]
      have HT3 := Lib.hid hT3
      clear hw3 hV hfa hb hT3
      go_wp2_with fail
      go_loopw [9] (fun v9 wr => ∃ (i : Nat) (d : Dv) (s : St), i ≤ n ∧ v9 = .int .i64 (i : Int) ∧ Tl w D M V wr d s s.ab) (fun v9 _ => n - (intOf v9).toNat)
      case atStart => exact ⟨0, d2, _, by omega, rfl, HT3.out⟩
      case round =>
        obtain ⟨i, d, s, hi, rfl, hT⟩ := hrel
        have HT := Lib.hid hT
        clear hT
        by_cases hlt : i < n ∧ i < 60
        · obtain ⟨hlt, hlt2⟩ := hlt
          have hltI : (i : Int) < (n : Int) := by omega
          have hi0 : (0 : Int) ≤ (i : Int) := by omega
          obtain ⟨b, o, hA, hb, hc⟩ := HX.out.2 (by omega)
          subst hA
          have hix : i < xs.length := by rw [HX.out.1]; exact hlt
          obtain ⟨x, hxe⟩ : ∃ x, xs[i] = x := ⟨_, rfl⟩
          have hbs := hc i hix
          rw [hxe] at hbs
          obtain ⟨hcl, hcn, ks, hks⟩ := hbs
          have hcl2 := hcl.below rfl hb HT.out.bel
          have hd60 : decide ((i : Int) < 60) = true := by rw [decide_eq_true_eq]; omega
          have hwi : IntKind.i64.wrap ((i : Int) + 1) = ((i + 1 : Nat) : Int) := by
            rw [show ((i : Int) + 1) = ((i + 1 : Nat) : Int) by omega]
            exact IntWalk.i64_in _ (by omega)
          obtain ⟨wh, nm, ts, ⟨BA, bn, bc, bl⟩, cn, KA, kn, kc⟩ := x
          obtain ⟨q0, q1, q2, q3, q4, q5⟩ := hcl2.facts
          obtain ⟨_, _, _, _, _, _, hw8, hz1, hz2, hrd⟩ := hcl2
          have HRD : Hid (∀ W, Fr No wr W → True) := fun _ _ => trivial
          have HBL := Lib.hid (show Rd w w.heap.size BA bn bl from hcl.2.2.2.2.2.2.2.2.2)
          have HKS := Lib.hid (show RowOf w 1 (InAt w) KA kn ks from hks)
          have HCN := Lib.hid (show -9223372036854775808 ≤ cn ∧ cn ≤ 9223372036854775807 from hcn)
          have HW8 := Lib.hid (show wh < 256 from hw8)
          have HZ1 := Lib.hid (show nm.size ≤ maxLen from hz1)
          have HZ2 := Lib.hid (show ts.size ≤ maxLen from hz2)
          clear hc hxe hix hcl hcn hks hw8 hz1 hz2 hrd hb HRD
          simp only at q0 q1 q2 q3 q4 q5
          go_upto_region 11 with fail
          have hfa := Fr.alloc No wr (.cells #[.int .u8 (wh : Int), .string nm, .string ts, .slice BA bn bc, .int .i64 cn, .slice KA kn kc] 36)
          have hbk := heap_alloc_new wr (.cells #[.int .u8 (wh : Int), .string nm, .string ts, .slice BA bn bc, .int .i64 cn, .slice KA kn kc] 36)
          obtain ⟨C, hC⟩ : ∃ C, wr.heap.size = C := ⟨_, rfl⟩
          obtain ⟨wa, hwa⟩ : ∃ u, wr.alloc (.cells #[.int .u8 (wh : Int), .string nm, .string ts, .slice BA bn bc, .int .i64 cn, .slice KA kn kc] 36) = u := ⟨_, rfl⟩
          rw [hC] at hbk ⊢
          rw [hwa] at hfa hbk ⊢
          have HTA := Lib.hid (HT.out.no hfa)
          have HCA := Lib.hid hbk
          have HCF := Lib.hid (show ¬ foot D M s.fs C ∧ C ≠ V from ⟨fun h => by have := HT.out.lt C (.inl h); omega, fun h => by have := HT.out.lt V (.inr rfl); omega⟩)
          obtain ⟨k0, k1, k2, k3, k4, k5⟩ := cells6 hbk
          clear hwa hC hfa hbk q0 q1 q2 q3 q4 q5
          go_wp2_with fail
          refine (fits_any ⟨wh, nm, ts, ⟨BA, bn, bc, bl⟩, cn, KA, kn, kc⟩ _).mono ?_
          rintro e w4 ⟨rfl, hf4⟩
          have HT4 := Lib.hid (HTA.out.no hf4)
          have HC4 := Lib.hid ((hf4.block C (Array.getElem?_eq_some_iff.1 HCA.out).1 (fun e => e)).trans HCA.out)
          clear hf4 k0 k1 k2 k3 k4 k5
          cases hfit : Cl.fits ⟨wh, nm, ts, ⟨BA, bn, bc, bl⟩, cn, KA, kn, kc⟩ with
          | false =>
            go_wp2_with fail
            go_roundw
            case rel => exact ⟨i + 1, d, s, by omega, by go_num, HT4.out⟩
            case measure => simp [intOf]; omega
          | true =>
            have hfb : nm.size < 90 ∧ ts.size < 90 ∧ bn ≤ 150 ∧ kn ≤ 250 := by
              unfold Cl.fits at hfit
              simp only [Bool.and_eq_true, decide_eq_true_eq] at hfit
              exact ⟨hfit.1.1.1, hfit.1.1.2, hfit.1.2, hfit.2⟩
            have HFB := Lib.hid hfb
            clear hfb hfit
            obtain ⟨k0, k1, k2, k3, k4, k5⟩ := cells6 HC4.out
            obtain ⟨S, HS⟩ : ∃ S, Hid (s.ab = S) := ⟨_, rfl⟩
            have ht4 := HT4.out
            rw [HS.out] at ht4
            have HT5 := Lib.hid ht4
            have HOK := Lib.hid (show Okb S by rw [← HS.out]; exact HT4.out.dsk.okb)
            clear ht4
            go_upto_block 2 with fail
            go_cut [11, 12, 13, 14] from 63 to 178 (fun v11 v12 v13 v14 wx => Ra w D M V C #[.int .u8 (wh : Int), .string nm, .string ts, .slice BA bn bc, .int .i64 cn, .slice KA kn kc] v11 v12 v13 v14 wx)
            case first =>
              by_cases z0 : wh = 0
              · subst z0
                as_aux_lemma =>
                  have HRA := Lib.hid (show ∀ W, Below w.heap.size w W → Rd W W.heap.size BA bn bl from fun W hW => (HBL.out.below hW).more hW.size)
                  go_wp2_with fail
                  have hpc := append_ab HT5.out.dsk nm HZ1.out BA bn bc bl (HRA.out _ HT5.out.bel)
                  rw [HS.out] at hpc
                  refine hpc.mono ?_
                  clear hpc
                  rintro e w6 ⟨s6, rfl, hN, hab⟩
                  have HC6 := Lib.hid (nx_blk hN HC4.out HCF.out.1)
                  have HCO := Lib.hid (nx_off hN (Array.getElem?_eq_some_iff.1 HC4.out).1 HCF.out.1)
                  have HT6 := Lib.hid (HT5.out.left hN)
                  have HAB := Lib.hid hab
                  clear hN hab k0 k1 k2 k3 k4 k5
                  obtain ⟨k0, k1, k2, k3, k4, k5⟩ := cells6 HC6.out
                  obtain ⟨g0, g1, g2, g3, _, _, _, _⟩ := HT6.out.cells
                  go_wp2_with fail
                  refine (rv_append HT6.out.lt HOK.out.lf HT6.out.rv nm (by have := HFB.out; omega) BA bn bc bl (HRA.out _ HT6.out.bel) (by have := HFB.out; omega) HOK.out.us HOK.out.mo).mono ?_
                  rintro e w7 ⟨v7, rfl, hv7, hf7⟩
                  obtain ⟨d7, rfl⟩ := hv7.form
                  have HV7 := Lib.hid hv7
                  have HT7 := Lib.hid (HT6.out.no hf7)
                  have HC7 := Lib.hid ((hf7.block C (Array.getElem?_eq_some_iff.1 HC6.out).1 (fun e => e)).trans HC6.out)
                  clear hv7 hf7 k0 k1 k2 k3 k4 k5 g0 g1 g2 g3
                  obtain ⟨g0, g1, g2, g3, y0, y1, y2, y3⟩ := HT7.out.cells
                  go_wp2_with fail
                  go_meet
                  case rel =>
                    have hT8 := HT7.out.set HV7.out
                    have h4 := four_set HT7.out.var (.int .i64 d7.mo) (.slice d7.A d7.n d7.c) (.int .i64 d7.lf) (.bool d7.fl)
                    exact Ra.mk0 _ hT8 HAB.out ((h4.2.block C (Array.getElem?_eq_some_iff.1 HC7.out).1 HCF.out.2).trans HC7.out) HCO.out HCF.out.2
              by_cases z1 : wh = 1
              · subst z1
                as_aux_lemma =>
                  clear z0
                  have HRA := Lib.hid (show ∀ W, Below w.heap.size w W → Rd W W.heap.size BA bn bl from fun W hW => (HBL.out.below hW).more hW.size)
                  go_wp2_with fail
                  have hpc := append_ab HT5.out.dsk nm HZ1.out BA bn bc bl (HRA.out _ HT5.out.bel)
                  rw [HS.out] at hpc
                  refine hpc.mono ?_
                  clear hpc
                  rintro e w6 ⟨s6, rfl, hN, hab⟩
                  have HC6 := Lib.hid (nx_blk hN HC4.out HCF.out.1)
                  have HCO := Lib.hid (nx_off hN (Array.getElem?_eq_some_iff.1 HC4.out).1 HCF.out.1)
                  have HT6 := Lib.hid (HT5.out.left hN)
                  have HAB := Lib.hid hab
                  clear hN hab k0 k1 k2 k3 k4 k5
                  obtain ⟨k0, k1, k2, k3, k4, k5⟩ := cells6 HC6.out
                  obtain ⟨g0, g1, g2, g3, _, _, _, _⟩ := HT6.out.cells
                  go_wp2_with fail
                  refine (rv_append HT6.out.lt HOK.out.lf HT6.out.rv nm (by have := HFB.out; omega) BA bn bc bl (HRA.out _ HT6.out.bel) (by have := HFB.out; omega) HOK.out.us HOK.out.mo).mono ?_
                  rintro e w7 ⟨v7, rfl, hv7, hf7⟩
                  obtain ⟨d7, rfl⟩ := hv7.form
                  have HV7 := Lib.hid hv7
                  have HT7 := Lib.hid (HT6.out.no hf7)
                  have HC7 := Lib.hid ((hf7.block C (Array.getElem?_eq_some_iff.1 HC6.out).1 (fun e => e)).trans HC6.out)
                  clear hv7 hf7 k0 k1 k2 k3 k4 k5 g0 g1 g2 g3
                  obtain ⟨g0, g1, g2, g3, y0, y1, y2, y3⟩ := HT7.out.cells
                  go_wp2_with fail
                  go_meet
                  case rel =>
                    have hT8 := HT7.out.set HV7.out
                    have h4 := four_set HT7.out.var (.int .i64 d7.mo) (.slice d7.A d7.n d7.c) (.int .i64 d7.lf) (.bool d7.fl)
                    exact Ra.mk0 _ hT8 HAB.out ((h4.2.block C (Array.getElem?_eq_some_iff.1 HC7.out).1 HCF.out.2).trans HC7.out) HCO.out HCF.out.2
              by_cases z2 : wh = 2
              · subst z2
                as_aux_lemma =>
                  clear z0 z1
                  go_wp2_with fail
                  have hpc := sync_ab HT5.out.dsk nm HZ1.out
                  rw [HS.out] at hpc
                  refine hpc.mono ?_
                  clear hpc
                  rintro e w6 ⟨s6, rfl, hN, hab⟩
                  have HC6 := Lib.hid (nx_blk hN HC4.out HCF.out.1)
                  have HCO := Lib.hid (nx_off hN (Array.getElem?_eq_some_iff.1 HC4.out).1 HCF.out.1)
                  have HT6 := Lib.hid (HT5.out.left hN)
                  have HAB := Lib.hid hab
                  clear hN hab k0 k1 k2 k3 k4 k5
                  obtain ⟨k0, k1, k2, k3, k4, k5⟩ := cells6 HC6.out
                  obtain ⟨g0, g1, g2, g3, _, _, _, _⟩ := HT6.out.cells
                  go_wp2_with fail
                  refine (rv_sync HT6.out.lt HOK.out.lf HT6.out.rv nm HOK.out.ln).mono ?_
                  rintro e w7 ⟨v7, rfl, hv7, hf7⟩
                  obtain ⟨d7, rfl⟩ := hv7.form
                  have HV7 := Lib.hid hv7
                  have HT7 := Lib.hid (HT6.out.no hf7)
                  have HC7 := Lib.hid ((hf7.block C (Array.getElem?_eq_some_iff.1 HC6.out).1 (fun e => e)).trans HC6.out)
                  clear hv7 hf7 k0 k1 k2 k3 k4 k5 g0 g1 g2 g3
                  obtain ⟨g0, g1, g2, g3, y0, y1, y2, y3⟩ := HT7.out.cells
                  go_wp2_with fail
                  go_meet
                  case rel =>
                    have hT8 := HT7.out.set HV7.out
                    have h4 := four_set HT7.out.var (.int .i64 d7.mo) (.slice d7.A d7.n d7.c) (.int .i64 d7.lf) (.bool d7.fl)
                    exact Ra.mk0 _ hT8 HAB.out ((h4.2.block C (Array.getElem?_eq_some_iff.1 HC7.out).1 HCF.out.2).trans HC7.out) HCO.out HCF.out.2
              by_cases z3 : wh = 3
              · subst z3
                as_aux_lemma =>
                  clear z0 z1 z2
                  go_wp2_with fail
                  have hpc := rename_ab HT5.out.dsk nm ts HZ1.out HZ2.out
                  rw [HS.out] at hpc
                  refine hpc.mono ?_
                  clear hpc
                  rintro e w6 ⟨s6, rfl, hN, hab⟩
                  have HC6 := Lib.hid (nx_blk hN HC4.out HCF.out.1)
                  have HCO := Lib.hid (nx_off hN (Array.getElem?_eq_some_iff.1 HC4.out).1 HCF.out.1)
                  have HT6 := Lib.hid (HT5.out.left hN)
                  have HAB := Lib.hid hab
                  clear hN hab k0 k1 k2 k3 k4 k5
                  obtain ⟨k0, k1, k2, k3, k4, k5⟩ := cells6 HC6.out
                  obtain ⟨g0, g1, g2, g3, _, _, _, _⟩ := HT6.out.cells
                  go_wp2_with fail
                  refine (rv_rename HT6.out.lt HOK.out.lf HT6.out.rv nm ts (by have := HFB.out; omega)).mono ?_
                  rintro e w7 ⟨v7, rfl, hv7, hf7⟩
                  obtain ⟨d7, rfl⟩ := hv7.form
                  have HV7 := Lib.hid hv7
                  have HT7 := Lib.hid (HT6.out.no hf7)
                  have HC7 := Lib.hid ((hf7.block C (Array.getElem?_eq_some_iff.1 HC6.out).1 (fun e => e)).trans HC6.out)
                  clear hv7 hf7 k0 k1 k2 k3 k4 k5 g0 g1 g2 g3
                  obtain ⟨g0, g1, g2, g3, y0, y1, y2, y3⟩ := HT7.out.cells
                  go_wp2_with fail
                  go_meet
                  case rel =>
                    have hT8 := HT7.out.set HV7.out
                    have h4 := four_set HT7.out.var (.int .i64 d7.mo) (.slice d7.A d7.n d7.c) (.int .i64 d7.lf) (.bool d7.fl)
                    exact Ra.mk0 _ hT8 HAB.out ((h4.2.block C (Array.getElem?_eq_some_iff.1 HC7.out).1 HCF.out.2).trans HC7.out) HCO.out HCF.out.2
              by_cases z4 : wh = 4
              · subst z4
                as_aux_lemma =>
                  clear z0 z1 z2 z3
                  go_wp2_with fail
                  have hpc := remove_ab HT5.out.dsk nm HZ1.out
                  rw [HS.out] at hpc
                  refine hpc.mono ?_
                  clear hpc
                  rintro e w6 ⟨s6, rfl, hN, hab⟩
                  have HC6 := Lib.hid (nx_blk hN HC4.out HCF.out.1)
                  have HCO := Lib.hid (nx_off hN (Array.getElem?_eq_some_iff.1 HC4.out).1 HCF.out.1)
                  have HT6 := Lib.hid (HT5.out.left hN)
                  have HAB := Lib.hid hab
                  clear hN hab k0 k1 k2 k3 k4 k5
                  obtain ⟨k0, k1, k2, k3, k4, k5⟩ := cells6 HC6.out
                  obtain ⟨g0, g1, g2, g3, _, _, _, _⟩ := HT6.out.cells
                  go_wp2_with fail
                  refine (rv_remove HT6.out.lt HOK.out.lf HT6.out.rv nm).mono ?_
                  rintro e w7 ⟨v7, rfl, hv7, hf7⟩
                  obtain ⟨d7, rfl⟩ := hv7.form
                  have HV7 := Lib.hid hv7
                  have HT7 := Lib.hid (HT6.out.no hf7)
                  have HC7 := Lib.hid ((hf7.block C (Array.getElem?_eq_some_iff.1 HC6.out).1 (fun e => e)).trans HC6.out)
                  clear hv7 hf7 k0 k1 k2 k3 k4 k5 g0 g1 g2 g3
                  obtain ⟨g0, g1, g2, g3, y0, y1, y2, y3⟩ := HT7.out.cells
                  go_wp2_with fail
                  go_meet
                  case rel =>
                    have hT8 := HT7.out.set HV7.out
                    have h4 := four_set HT7.out.var (.int .i64 d7.mo) (.slice d7.A d7.n d7.c) (.int .i64 d7.lf) (.bool d7.fl)
                    exact Ra.mk0 _ hT8 HAB.out ((h4.2.block C (Array.getElem?_eq_some_iff.1 HC7.out).1 HCF.out.2).trans HC7.out) HCO.out HCF.out.2
              by_cases z5 : wh = 5
              · subst z5
                as_aux_lemma =>
                  clear z0 z1 z2 z3 z4
                  go_wp2_with fail
                  have hpc := cut_ab HT5.out.dsk nm HZ1.out cn
                  rw [HS.out] at hpc
                  refine hpc.mono ?_
                  clear hpc
                  rintro e w6 ⟨s6, rfl, hN, hab⟩
                  have HC6 := Lib.hid (nx_blk hN HC4.out HCF.out.1)
                  have HCO := Lib.hid (nx_off hN (Array.getElem?_eq_some_iff.1 HC4.out).1 HCF.out.1)
                  have HT6 := Lib.hid (HT5.out.left hN)
                  have HAB := Lib.hid hab
                  clear hN hab k0 k1 k2 k3 k4 k5
                  obtain ⟨k0, k1, k2, k3, k4, k5⟩ := cells6 HC6.out
                  obtain ⟨g0, g1, g2, g3, _, _, _, _⟩ := HT6.out.cells
                  go_wp2_with fail
                  refine (rv_cut HT6.out.lt HOK.out.lf HT6.out.rv nm cn HCN.out HOK.out.ln).mono ?_
                  rintro e w7 ⟨v7, rfl, hv7, hf7⟩
                  obtain ⟨d7, rfl⟩ := hv7.form
                  have HV7 := Lib.hid hv7
                  have HT7 := Lib.hid (HT6.out.no hf7)
                  have HC7 := Lib.hid ((hf7.block C (Array.getElem?_eq_some_iff.1 HC6.out).1 (fun e => e)).trans HC6.out)
                  clear hv7 hf7 k0 k1 k2 k3 k4 k5 g0 g1 g2 g3
                  obtain ⟨g0, g1, g2, g3, y0, y1, y2, y3⟩ := HT7.out.cells
                  go_wp2_with fail
                  go_meet
                  case rel =>
                    have hT8 := HT7.out.set HV7.out
                    have h4 := four_set HT7.out.var (.int .i64 d7.mo) (.slice d7.A d7.n d7.c) (.int .i64 d7.lf) (.bool d7.fl)
                    exact Ra.mk0 _ hT8 HAB.out ((h4.2.block C (Array.getElem?_eq_some_iff.1 HC7.out).1 HCF.out.2).trans HC7.out) HCO.out HCF.out.2
              by_cases z6 : wh = 6
              · subst z6
                as_aux_lemma =>
                  clear z0 z1 z2 z3 z4 z5
                  cases hfl : S.fl with
                  | true =>
                    have hfs : s.fl = true := by
                      have e : s.ab.fl = S.fl := by rw [HS.out]
                      exact e.trans hfl
                    have HSI := Lib.hid (show (if S.fl then S else { S with bd := true, lf := (max cn 0).toNat }) = S by rw [hfl]; rfl)
                    have HPC := Lib.hid (arm_dead HT5.out.dsk hfs cn)
                    clear hfl hfs
                    go_wp2_with fail
                    refine HPC.out.mono ?_
                    rintro e w6 ⟨rfl, rfl⟩
                    have hN := Nx.refl HT5.out.dsk
                    have hab : s.ab = S := HS.out
                    have HC6 := Lib.hid (nx_blk hN HC4.out HCF.out.1)
                    have HCO := Lib.hid (nx_off hN (Array.getElem?_eq_some_iff.1 HC4.out).1 HCF.out.1)
                    have HT6 := Lib.hid (HT5.out.left hN)
                    have HAB := Lib.hid hab
                    clear hN hab k0 k1 k2 k3 k4 k5
                    obtain ⟨k0, k1, k2, k3, k4, k5⟩ := cells6 HC6.out
                    obtain ⟨g0, g1, g2, g3, _, _, _, _⟩ := HT6.out.cells
                    go_wp2_with fail
                    refine (rv_arm HT6.out.rv cn).mono ?_
                    rintro e w7 ⟨v7, rfl, hv7, hf7⟩
                    rw [HSI.out] at hv7
                    obtain ⟨d7, rfl⟩ := hv7.form
                    have HV7 := Lib.hid hv7
                    have HT7 := Lib.hid (HT6.out.no hf7)
                    have HC7 := Lib.hid ((hf7.block C (Array.getElem?_eq_some_iff.1 HC6.out).1 (fun e => e)).trans HC6.out)
                    clear hv7 hf7 k0 k1 k2 k3 k4 k5 g0 g1 g2 g3
                    obtain ⟨g0, g1, g2, g3, y0, y1, y2, y3⟩ := HT7.out.cells
                    go_wp2_with fail
                    go_meet
                    case rel =>
                      have hT8 := HT7.out.set HV7.out
                      have h4 := four_set HT7.out.var (.int .i64 d7.mo) (.slice d7.A d7.n d7.c) (.int .i64 d7.lf) (.bool d7.fl)
                      exact Ra.mk0 _ hT8 HAB.out ((h4.2.block C (Array.getElem?_eq_some_iff.1 HC7.out).1 HCF.out.2).trans HC7.out) HCO.out HCF.out.2
                  | false =>
                    have hfs : s.fl = false := by
                      have e : s.ab.fl = S.fl := by rw [HS.out]
                      exact e.trans hfl
                    have HSI := Lib.hid (show (if S.fl then S else { S with bd := true, lf := (max cn 0).toNat }) = { S with bd := true, lf := (max cn 0).toNat } by rw [hfl]; rfl)
                    have HPC := Lib.hid (arm_dsk HT5.out.dsk hfs cn HCN.out.2)
                    clear hfl hfs
                    go_wp2_with fail
                    refine HPC.out.mono ?_
                    rintro e w6 ⟨rfl, hN⟩
                    have hab : ({ s with bd := true, lf := (max cn 0).toNat } : St).ab = { S with bd := true, lf := (max cn 0).toNat } := by rw [← HS.out]; rfl
                    have HC6 := Lib.hid (nx_blk hN HC4.out HCF.out.1)
                    have HCO := Lib.hid (nx_off hN (Array.getElem?_eq_some_iff.1 HC4.out).1 HCF.out.1)
                    have HT6 := Lib.hid (HT5.out.left hN)
                    have HAB := Lib.hid hab
                    clear hN hab k0 k1 k2 k3 k4 k5
                    obtain ⟨k0, k1, k2, k3, k4, k5⟩ := cells6 HC6.out
                    obtain ⟨g0, g1, g2, g3, _, _, _, _⟩ := HT6.out.cells
                    go_wp2_with fail
                    refine (rv_arm HT6.out.rv cn).mono ?_
                    rintro e w7 ⟨v7, rfl, hv7, hf7⟩
                    rw [HSI.out] at hv7
                    obtain ⟨d7, rfl⟩ := hv7.form
                    have HV7 := Lib.hid hv7
                    have HT7 := Lib.hid (HT6.out.no hf7)
                    have HC7 := Lib.hid ((hf7.block C (Array.getElem?_eq_some_iff.1 HC6.out).1 (fun e => e)).trans HC6.out)
                    clear hv7 hf7 k0 k1 k2 k3 k4 k5 g0 g1 g2 g3
                    obtain ⟨g0, g1, g2, g3, y0, y1, y2, y3⟩ := HT7.out.cells
                    go_wp2_with fail
                    go_meet
                    case rel =>
                      have hT8 := HT7.out.set HV7.out
                      have h4 := four_set HT7.out.var (.int .i64 d7.mo) (.slice d7.A d7.n d7.c) (.int .i64 d7.lf) (.bool d7.fl)
                      exact Ra.mk0 _ hT8 HAB.out ((h4.2.block C (Array.getElem?_eq_some_iff.1 HC7.out).1 HCF.out.2).trans HC7.out) HCO.out HCF.out.2
              by_cases z7 : wh = 7
              · subst z7
                as_aux_lemma =>
                  clear z0 z1 z2 z3 z4 z5 z6
                  have HPC := Lib.hid (crash_any HT5.out.dsk KA kn kc ks (rdI_of HKS.out HT5.out.bel HT5.out.far))
                  go_wp2_with fail
                  refine HPC.out.mono ?_
                  rintro e w6 ⟨rfl, fs6, hcr, hN⟩
                  have hab : ({ s with fl := false, bd := false, lf := 0, fs := fs6 } : St).ab = ⟨false, false, 0, S.mo, crA ks 0 S.fs⟩ := by
                    have h1 := crR_ab hcr
                    rw [HS.out] at h1
                    have h2 : s.ab.mo = S.mo := by rw [HS.out]
                    show (⟨false, false, 0, s.mo, fs6.map Fl.ab⟩ : Ab) = _
                    rw [h1, ← h2]
                    rfl
                  clear hcr
                  have HC6 := Lib.hid (nx_blk hN HC4.out HCF.out.1)
                  have HCO := Lib.hid (nx_off hN (Array.getElem?_eq_some_iff.1 HC4.out).1 HCF.out.1)
                  have HT6 := Lib.hid (HT5.out.left hN)
                  have HAB := Lib.hid hab
                  clear hN hab k0 k1 k2 k3 k4 k5
                  obtain ⟨k0, k1, k2, k3, k4, k5⟩ := cells6 HC6.out
                  obtain ⟨g0, g1, g2, g3, _, _, _, _⟩ := HT6.out.cells
                  go_wp2_with fail
                  refine (rv_crash HT6.out.lt HT6.out.rv HOK.out.fm HOK.out.ln KA kn kc ks (rdI_of HKS.out HT6.out.bel (fun _ e => e.elim)) (by have := HFB.out; omega)).mono ?_
                  rintro e w7 ⟨v7, rfl, hv7, hf7⟩
                  obtain ⟨d7, rfl⟩ := hv7.form
                  have HV7 := Lib.hid hv7
                  have HT7 := Lib.hid (HT6.out.no hf7)
                  have HC7 := Lib.hid ((hf7.block C (Array.getElem?_eq_some_iff.1 HC6.out).1 (fun e => e)).trans HC6.out)
                  clear hv7 hf7 k0 k1 k2 k3 k4 k5 g0 g1 g2 g3
                  obtain ⟨g0, g1, g2, g3, y0, y1, y2, y3⟩ := HT7.out.cells
                  go_wp2_with fail
                  go_meet
                  case rel =>
                    have hT8 := HT7.out.set HV7.out
                    have h4 := four_set HT7.out.var (.int .i64 d7.mo) (.slice d7.A d7.n d7.c) (.int .i64 d7.lf) (.bool d7.fl)
                    exact Ra.mk0 _ hT8 HAB.out ((h4.2.block C (Array.getElem?_eq_some_iff.1 HC7.out).1 HCF.out.2).trans HC7.out) HCO.out HCF.out.2
              by_cases z8 : wh = 8
              · subst z8
                as_aux_lemma =>
                  clear z0 z1 z2 z3 z4 z5 z6 z7
                  have hER : s.err nm.data.toList = S.err nm.data.toList := by rw [← HS.out]; exact (err_ab s _).symm
                  by_cases h0 : S.err nm.data.toList = 0
                  · obtain ⟨hfl, f, hfn, hold⟩ := err_some (s := s) (nm := nm.data.toList) (by rw [hER]; exact h0)
                    have HPC := Lib.hid (read_ok HT5.out.dsk nm HZ1.out hfl f hfn)
                    have HBS := Lib.hid (show (aold nm.data.toList S.fs).bs = f.bs by
                      have h1 := old_ab nm.data.toList s.fs
                      have h2 : s.ab.fs = s.fs.map Fl.ab := rfl
                      rw [← HS.out, h2, h1, hold]
                      rfl)
                    have H0 := Lib.hid h0
                    clear hfl hfn hold hER h0
                    go_wp2_with fail
                    refine HPC.out.mono ?_
                    rintro e w6 ⟨vR, rfl, hvR, hf6⟩
                    obtain ⟨RA, rc, rfl⟩ := own_sl hvR
                    have HRR := Lib.hid (Rd.own hvR)
                    have HT6 := Lib.hid (HT5.out.no hf6)
                    have HC6 := Lib.hid ((hf6.block C (Array.getElem?_eq_some_iff.1 HC4.out).1 (fun e => e)).trans HC4.out)
                    clear hvR hf6 k0 k1 k2 k3 k4 k5
                    obtain ⟨k0, k1, k2, k3, k4, k5⟩ := cells6 HC6.out
                    obtain ⟨g0, g1, g2, g3, _, _, _, _⟩ := HT6.out.cells
                    go_wp2_with fail
                    refine (rv_read HT6.out.rv nm).mono ?_
                    rintro e w7 ⟨RB, nb, cb, lb, rfl, hf7, hrb, hlb⟩
                    rw [if_pos H0.out, HBS.out] at hlb
                    subst hlb
                    rw [H0.out]
                    have HT7 := Lib.hid (HT6.out.no hf7)
                    have HC7 := Lib.hid ((hf7.block C (Array.getElem?_eq_some_iff.1 HC6.out).1 (fun e => e)).trans HC6.out)
                    have HRA := Lib.hid ((hf7.rd (Nat.le_refl _) HRR.out).more hf7.size)
                    have HRB := Lib.hid hrb
                    clear hf7 hrb k0 k1 k2 k3 k4 k5 g0 g1 g2 g3
                    go_wp2_with fail
                    go_meet
                    case rel =>
                      have hT := HT7.out
                      rw [← HS.out] at hT
                      exact ⟨0, _, _, _, _, _, _, f.bs, d, s, rfl, rfl, rfl, rfl, HRA.out, HRB.out, hT, HC7.out, HCF.out.1, HCF.out.2⟩
                  · have hpc := read_bad HT5.out.dsk nm HZ1.out (by rw [hER]; exact h0)
                    rw [hER] at hpc
                    have H0 := Lib.hid h0
                    obtain ⟨x, HX⟩ : ∃ x, Hid (S.err nm.data.toList = x) := ⟨_, rfl⟩
                    rw [HX.out] at hpc
                    have HPC := Lib.hid hpc
                    clear hER h0 hpc
                    go_wp2_with fail
                    refine HPC.out.mono ?_
                    rintro e w6 ⟨rfl, hf6⟩
                    have HT6 := Lib.hid (HT5.out.no hf6)
                    have HC6 := Lib.hid ((hf6.block C (Array.getElem?_eq_some_iff.1 HC4.out).1 (fun e => e)).trans HC4.out)
                    clear hf6 k0 k1 k2 k3 k4 k5
                    obtain ⟨k0, k1, k2, k3, k4, k5⟩ := cells6 HC6.out
                    obtain ⟨g0, g1, g2, g3, _, _, _, _⟩ := HT6.out.cells
                    go_wp2_with fail
                    refine (rv_read HT6.out.rv nm).mono ?_
                    rintro e w7 ⟨RB, nb, cb, lb, rfl, hf7, hrb, hlb⟩
                    rw [if_neg H0.out] at hlb
                    subst hlb
                    rw [HX.out]
                    have HT7 := Lib.hid (HT6.out.no hf7)
                    have HC7 := Lib.hid ((hf7.block C (Array.getElem?_eq_some_iff.1 HC6.out).1 (fun e => e)).trans HC6.out)
                    have HRB := Lib.hid hrb
                    clear hf7 hrb k0 k1 k2 k3 k4 k5 g0 g1 g2 g3
                    go_wp2_with fail
                    go_meet
                    case rel =>
                      have hT := HT7.out
                      rw [← HS.out] at hT
                      exact ⟨x, _, _, _, _, _, _, [], d, s, rfl, rfl, rfl, rfl, Rd.nil, HRB.out, hT, HC7.out, HCF.out.1, HCF.out.2⟩
              have p0 : ((wh : Int) == 0) = false := by rw [beq_eq_false_iff_ne]; omega
              have p1 : ((wh : Int) == 1) = false := by rw [beq_eq_false_iff_ne]; omega
              have p2 : ((wh : Int) == 2) = false := by rw [beq_eq_false_iff_ne]; omega
              have p3 : ((wh : Int) == 3) = false := by rw [beq_eq_false_iff_ne]; omega
              have p4 : ((wh : Int) == 4) = false := by rw [beq_eq_false_iff_ne]; omega
              have p5 : ((wh : Int) == 5) = false := by rw [beq_eq_false_iff_ne]; omega
              have p6 : ((wh : Int) == 6) = false := by rw [beq_eq_false_iff_ne]; omega
              have p7 : ((wh : Int) == 7) = false := by rw [beq_eq_false_iff_ne]; omega
              have p8 : ((wh : Int) == 8) = false := by rw [beq_eq_false_iff_ne]; omega
              as_aux_lemma =>
                go_wp2_with fail
                go_meet
                case rel => exact Ra.mk0 _ HT5.out HS.out HC4.out HCF.out.1 HCF.out.2
            case rest =>
              as_aux_lemma =>
                obtain ⟨e, A8, n8, c8, B8, m8, g8, l8, d9, s9, rfl, rfl, rfl, rfl, hr1, hr2, hT9, hC9, hf9, hv9⟩ := hcut
                have HT9 := Lib.hid hT9
                have HC9 := Lib.hid hC9
                have st1 := str_rule c8 hr1
                have st2 := str_rule g8 hr2
                clear hr1 hr2 hT9 hC9 k0 k1 k2 k3 k4 k5
                obtain ⟨g0, g1, g2, g3, _, _, _, _⟩ := HT9.out.cells
                go_wp2_with fail
                refine (disk_same HT9.out.dsk HT9.out.rv).mono ?_
                rintro e w10 ⟨rfl, hf10⟩
                have HT10 := Lib.hid (HT9.out.no hf10)
                have HC10 := Lib.hid ((hf10.block C (Array.getElem?_eq_some_iff.1 HC9.out).1 (fun e => e)).trans HC9.out)
                clear hf10 g0 g1 g2 g3 st1 st2
                obtain ⟨g0, g1, g2, g3, _, _, _, _⟩ := HT10.out.cells
                obtain ⟨k0, k1, k2, k3, k4, k5⟩ := cells6 HC10.out
                go_wp2_with fail
                refine (rv_find HT10.out.rv nm).mono ?_
                rintro e w11 ⟨z, rfl, hf11, hz⟩
                have HT11 := Lib.hid (HT10.out.no hf11)
                have HC11 := Lib.hid ((hf11.block C (Array.getElem?_eq_some_iff.1 HC10.out).1 (fun e => e)).trans HC10.out)
                clear hf11 g0 g1 g2 g3 k0 k1 k2 k3 k4 k5
                cases haf : afnd nm.data.toList s9.ab.fs with
                | none =>
                  have hzd : decide (z < 0) = true := decide_eq_true (hz.2 haf)
                  have hfn : fnd nm.data.toList s9.fs = none := by
                    have h1 : s9.ab.fs = s9.fs.map Fl.ab := rfl
                    rw [h1, fnd_ab] at haf
                    cases hq : fnd nm.data.toList s9.fs with
                    | none => rfl
                    | some f => rw [hq] at haf; cases haf
                  have HSZ : Hid (∀ W, Dsk W D M s9 → Calls Try.prog 26 #[.pointer (some ⟨D, 0, none⟩), .string nm] W fun e w' => e = .returned (.int .i64 0) ∧ Fr No W w') := fun W hW => by
                    have h1 := size_any hW nm HZ1.out
                    have h2 : s9.len nm.data.toList = 0 := by unfold St.len; rw [hfn]
                    rw [h2] at h1
                    exact h1
                  have HSY : Hid (∀ W, Dsk W D M s9 → Calls Try.prog 27 #[.pointer (some ⟨D, 0, none⟩), .string nm] W fun e w' => e = .returned (.int .i64 0) ∧ Fr No W w') := fun W hW => by
                    have h1 := synced_any hW nm HZ1.out
                    have h2 : s9.frm nm.data.toList = 0 := by unfold St.frm; rw [hfn]
                    rw [h2] at h1
                    exact h1
                  clear haf hfn hz
                  obtain ⟨k0, k1, k2, k3, k4, k5⟩ := cells6 HC11.out
                  go_wp2_with fail
                  refine (HSZ.out _ HT11.out.dsk).mono ?_
                  rintro e w12 ⟨rfl, hf12⟩
                  have HT12 := Lib.hid (HT11.out.no hf12)
                  have HC12 := Lib.hid ((hf12.block C (Array.getElem?_eq_some_iff.1 HC11.out).1 (fun e => e)).trans HC11.out)
                  clear hf12 k0 k1 k2 k3 k4 k5
                  obtain ⟨k0, k1, k2, k3, k4, k5⟩ := cells6 HC12.out
                  go_wp2_with fail
                  refine (HSY.out _ HT12.out.dsk).mono ?_
                  rintro e w13 ⟨rfl, hf13⟩
                  have HT13 := Lib.hid (HT12.out.no hf13)
                  clear hf13 k0 k1 k2 k3 k4 k5
                  go_wp2_with fail
                  go_roundw
                  case rel => exact ⟨i + 1, d9, s9, by omega, by go_num, HT13.out⟩
                  case measure => simp [intOf]; omega
                | some f =>
                  have hzd : decide (z < 0) = false := decide_eq_false (fun h => by rw [hz.1 h] at haf; cases haf)
                  clear hz haf
                  go_wp2_with fail
                  go_roundw
                  case rel => exact ⟨i + 1, d9, s9, by omega, by go_num, HT11.out⟩
                  case measure => simp [intOf]; omega
        · by_cases h1 : i < n
          · have hltI : (i : Int) < (n : Int) := by omega
            have hd60 : decide ((i : Int) < 60) = false := by rw [decide_eq_false_iff_not]; omega
            clear hlt
            go_wp2_with fail
            refine (HA.out _).mono ?_
            rintro e w5 ⟨rfl, hb5⟩
            have HB5 := Lib.hid hb5
            clear hb5
            go_wp2_with fail
            go_ret
            exact ⟨rfl, HT.out.bel.trans (HB5.out.mono HT.out.bel.size)⟩
          · have hltI : ¬ ((i : Int) < (n : Int)) := by omega
            clear hlt
            go_wp2_with fail
            refine (HA.out _).mono ?_
            rintro e w5 ⟨rfl, hb5⟩
            have HB5 := Lib.hid hb5
            clear hb5
            go_wp2_with fail
            go_ret
            exact ⟨rfl, HT.out.bel.trans (HB5.out.mono HT.out.bel.size)⟩
end Go.Proofs.Ytnkgcafebmacjaa

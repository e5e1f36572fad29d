/-
  Right of any chunk. No statement of the seat is proved here.
-/
import Derived.Test.YtjdhbgdpmojobaaDoorChB
namespace Go.Proofs.YtjdhbgdpmojobaaDoor
open Go.RowKit Go.Deep

set_option maxRecDepth 100000 in
theorem info_bx : (Tryd.prog.info? 97).map (fun i => (i.zero, i.size, i.bytes)) = some (some (.agg #[.int .i64 0, .slice none 0 0]), 2, 32) := by kernel_rfl
theorem RwK.cut {α : Type} {W : World} {size n c p : Nat} {At : Addr → α → Prop} {A : Option Addr} {xs : List α} (h : RwK W size At A n xs) (hc : n ≤ c) (h1 : p ≤ n) :
    RwK W size At (if c = p then A else A.map (·.add (p * size))) (n - p) (xs.drop p) := by
  have hl := h.1
  refine ⟨by rw [List.length_drop]; omega, fun hn => ?_⟩
  obtain ⟨b, o, rfl, hb, hcell⟩ := h.2 (by omega)
  rw [if_neg (by omega)]
  refine ⟨b, o + p * size, by simp [Addr.add_lit], hb, fun j hj => ?_⟩
  have hj' : p + j < xs.length := by rw [List.length_drop] at hj; omega
  have := hcell (p + j) hj'
  rw [List.getElem_drop, show o + p * size + j * size = o + (p + j) * size by rw [Nat.add_mul]; omega]
  exact this
set_option maxRecDepth 100000 in
/-- The boxes behind the first one. -/
theorem post_bx {w : World} {n c : Nat} {A : Option Addr} {At : Addr → Bx → Prop} {l : List Bx} (h : RwK w 2 At A n l) (hc : n ≤ c) (h1 : 1 ≤ n) :
    ∃ A' c', (∀ W : World, (Instr.slice 29 (.slice A n c) (some (.int .i64 1)) none none).run Tryd.prog W = .ok (.slice A' (n - 1) c') W) ∧ RwK w 2 At A' (n - 1) (l.drop 1) ∧ n - 1 ≤ c' := by
  obtain ⟨i0, hi0, hz0, hz1, hz2⟩ := info_parts info_bx
  refine ⟨_, c - 1, fun W => ?_, h.cut hc h1, by omega⟩
  rw [run_slice_l W 29 A n c Tryd.underlying29 .i64 1 (by omega) (by omega)]
  have he : Tryd.prog.elem 29 = 97 := by simp [Program.elem, Tryd.underlying29]
  rw [he]
  simp [sizeOf, typeInfo, hi0, hz1, sliced]
section
variable {w w' : World} {A : Option Addr} {n c lo : Nat}
set_option maxRecDepth 100000 in
theorem rc1_any (ht : ItT w) {i : Nat} (hi : i < 256) : Calls Tryd.prog 97 #[.int .u8 (i : Int)] w fun e w' => e = .returned (.bool (!mayC i)) ∧ Fr No w w' := by
  have HB := Lib.hid (maybe_any ht hi)
  obtain ⟨b, hb⟩ : ∃ b, mayC i = b := ⟨_, rfl⟩
  rw [hb] at HB ⊢
  clear hb ht
  go_enter Tryd.func97, Tryd.ntmps97
  go_wp2_with (refine HB.out.mono ?_; rintro e w1 ⟨rfl, hf⟩; have HF := Lib.hid hf; clear hf)
  go_ret
  exact ⟨rfl, HF.out⟩
set_option maxRecDepth 100000 in
theorem rh1_any (ht : ItT w) {h : Hp} (hi : h.2.1 < 256) : Calls Tryd.prog 99 #[.agg #[.int .i64 h.1, .int .u8 (h.2.1 : Int), .int .i64 h.2.2]] w fun e w' => e = .returned (.bool (!hpC h)) ∧ Fr No w w' := by
  have HP := Lib.hid (fun W => isplace_any (w := W) h.1)
  have HS := Lib.hid (fun W (hW : Fr No w W) => issome_any (ht.no hW) hi h.2.2)
  have HE : Hid (hpC h = (plcC h.1 && someC (h.2.1, h.2.2))) := Lib.hid rfl
  obtain ⟨c, i, k⟩ := h
  dsimp only at *
  obtain ⟨p, hp⟩ : ∃ b, plcC c = b := ⟨_, rfl⟩
  obtain ⟨q, hq⟩ : ∃ b, someC (i, k) = b := ⟨_, rfl⟩
  rw [hp] at HP HE
  rw [hq] at HS HE
  have hf0 := Fr.alloc No w (.cells #[.int .i64 c, .int .u8 (i : Int), .int .i64 k] 114)
  have hb := heap_alloc_new w (.cells #[.int .i64 c, .int .u8 (i : Int), .int .i64 k] 114)
  have HF := Lib.hid hf0
  clear hp hq ht hf0
  go_enter Tryd.func99, Tryd.ntmps99
  cases p with
  | false =>
    clear HS
    go_wp2_with (refine (HP.out _).mono ?_; rintro e w1 ⟨rfl, hf⟩; have HF1 := Lib.hid hf; clear hf)
    go_ret
    exact ⟨by rw [HE.out]; rfl, HF.out.no_trans HF1.out⟩
  | true =>
    obtain ⟨D, hD⟩ : ∃ D, w.heap.size = D := ⟨_, rfl⟩
    rw [hD] at hb
    have hW : Hid (∀ W, Fr No (w.alloc (.cells #[.int .i64 c, .int .u8 (i : Int), .int .i64 k] 114)) W → W.cell? ⟨D, 1, none⟩ = some (.int .u8 (i : Int)) ∧ W.cell? ⟨D, 2, none⟩ = some (.int .i64 k)) := fun W hW => ⟨(blk_cell (blk_no hW hb) 1).trans (by simp), (blk_cell (blk_no hW hb) 2).trans (by simp)⟩
    clear hb
    go_wp2_with (first
      | (go_at_call 100; refine (HP.out _).mono ?_; rintro e w1 ⟨rfl, hf⟩; obtain ⟨g1, g2⟩ := hW.out w1 hf; have HF1 := Lib.hid hf; clear hf)
      | (go_at_call 101; refine (HS.out _ (HF.out.no_trans HF1.out)).mono ?_; rintro e w2 ⟨rfl, hf⟩; have HF2 := Lib.hid hf; clear hf))
    go_ret
    exact ⟨by rw [HE.out]; cases q <;> rfl, (HF.out.no_trans HF1.out).no_trans HF2.out⟩
theorem any_not {α : Type} (l : List α) (p : α → Bool) : (!(l.any fun x => !p x)) = l.all p := by
  induction l with
  | nil => rfl
  | cons x l ih => simp only [List.any_cons, List.all_cons, Bool.not_or, ih, Bool.not_not]
set_option maxRecDepth 100000 in
theorem rightcells_any {l : List Nat} (ht : ItT w) (hx : ∀ W, Fr No w W → RwK W 1 (ItAt W) A n l) (hb : ∀ i ∈ l, i < 256) (c : Nat) (hn : n ≤ 9223372036854775807) : Calls Tryd.prog 87 #[.slice A n c] w fun e w' => e = .returned (.bool (decide (l.length = 64) && l.all mayC)) ∧ Fr No w w' := by
  have HC := Lib.hid (hasI_any (fun i => !mayC i) hx c hn (fun j h W hW => rc1_any (ht.no hW) (hb _ (List.getElem_mem h))))
  have hl := (hx _ (Fr.refl _ _)).1
  have HE := Lib.hid (any_not l mayC)
  rw [hl]
  obtain ⟨q, hq⟩ : ∃ b, (l.any fun i => !mayC i) = b := ⟨_, rfl⟩
  rw [hq] at HC HE
  clear ht hx hb hq
  by_cases h64 : n = 64
  · subst h64
    go_enter Tryd.func87, Tryd.ntmps87
    go_wp2_with (refine HC.out.mono ?_; rintro e w1 ⟨rfl, hf⟩; have HF1 := Lib.hid hf; clear hf)
    go_ret
    exact ⟨by rw [← HE.out]; rfl, HF1.out⟩
  · have e0 : ((n : Int) == 64) = false := by rw [beq_eq_false_iff_ne]; omega
    go_enter Tryd.func87, Tryd.ntmps87
    go_wp2_with fail
    go_ret
    exact ⟨by rw [decide_eq_false h64]; rfl, Fr.refl _ _⟩
set_option maxRecDepth 100000 in
theorem rightheaps_any {l : List Hp} (ht : ItT w) (hx : ∀ W, Fr No w W → RwK W 3 (HpAt W) A n l) (hb : ∀ h ∈ l, h.2.1 < 256) (c : Nat) (hn : n ≤ 9223372036854775807) : Calls Tryd.prog 88 #[.slice A n c] w fun e w' => e = .returned (.bool (decide (l.length ≤ 32) && l.all hpC)) ∧ Fr No w w' := by
  have HC := Lib.hid (hasH_any (fun i => !hpC i) hx c hn (fun j h W hW => rh1_any (ht.no hW) (hb _ (List.getElem_mem h))))
  have hl := (hx _ (Fr.refl _ _)).1
  have HE := Lib.hid (any_not l hpC)
  rw [hl]
  obtain ⟨q, hq⟩ : ∃ b, (l.any fun i => !hpC i) = b := ⟨_, rfl⟩
  rw [hq] at HC HE
  clear ht hx hb hq
  by_cases h32 : n ≤ 32
  · have e0 : (n : Int) ≤ 32 := by omega
    go_enter Tryd.func88, Tryd.ntmps88
    go_wp2_with (refine HC.out.mono ?_; rintro e w1 ⟨rfl, hf⟩; have HF1 := Lib.hid hf; clear hf)
    go_ret
    exact ⟨by first | (rw [← HE.out, decide_eq_true h32]; rfl) | (rw [← HE.out]; rfl), HF1.out⟩
  · have e0 : ¬ (n : Int) ≤ 32 := by omega
    go_enter Tryd.func88, Tryd.ntmps88
    go_wp2_with fail
    go_ret
    exact ⟨by first | rfl | (rw [decide_eq_false h32]; rfl), Fr.refl _ _⟩
theorem bxC_end {k : Nat} {r : List Bp} : bxC k [] r = r.isEmpty := rfl
theorem bxC_other {k i : Nat} {cs : List Nat} {r : List Bp} (h : i ≠ 9) : bxC k (i :: cs) r = bxC (k + 1) cs r := by
  simp [bxC, h]
theorem bxC_none {k : Nat} {cs : List Nat} : bxC k (9 :: cs) [] = false := by
  simp [bxC]
theorem bxC_some {k : Nat} {cs : List Nat} {b : Bp} {r : List Bp} : bxC k (9 :: cs) (b :: r) = ((b.1 == (k : Int)) && ((b.2.length == 6) && rgt b.2) && bxC (k + 1) cs r) := by
  simp [bxC]
set_option maxRecDepth 100000 in
set_option maxHeartbeats 1600000 in
theorem rightboxes_any {C : Ch} (ht : ItT w) (hx : RdC w C) (hb : ByC C.ck) (hs : SmC C) (hc3 : C.n3 ≤ C.c3) : Calls Tryd.prog 89 #[C.val] w fun e w' => e = .returned (.bool (bxC 0 C.cs (C.bs.map Bx.bp))) ∧ Fr No w w' := by
  obtain ⟨x, y, A1, n1, c1, cs, A2, n2, c2, hps, A3, n3, c3, bs⟩ := C
  have HT := Lib.hid (fun W (hW : Fr No w W) => ht.no hW)
  have HX1 := Lib.hid (fun W (hW : Fr No w W) => (hx.no hW).r1)
  have HX3 := Lib.hid (fun W (hW : Fr No w W) => (hx.no hW).r3)
  have HL1 := Lib.hid hx.r1.1
  have HL3 := Lib.hid hx.r3.1
  have HB1 := Lib.hid hb.b1
  have HB3 := Lib.hid hb.b3
  have HS4 := Lib.hid hs.s4
  have hn1 := hs.s1
  have hn3 := hs.s3
  dsimp only [Ch.val, Ch.ck] at *
  clear ht hx hb hs
  have HF0 := Lib.hid (Fr.alloc No w (.cells #[.int .i64 x, .int .i64 y, .slice A1 n1 c1, .slice A2 n2 c2, .slice A3 n3 c3] 31))
  go_enter Tryd.func89, Tryd.ntmps89
  go_wp2_with fail
  generalize w.alloc (.cells #[.int .i64 x, .int .i64 y, .slice A1 n1 c1, .slice A2 n2 c2, .slice A3 n3 c3] 31) = wx at *
  go_loopw [3, 11] (fun v3 v11 wr => ∃ k m : Nat, ∃ A' c', k ≤ n1 ∧ m ≤ n3 ∧ v11 = .int .i64 (k : Int) ∧ v3 = .slice A' (n3 - m) c' ∧ n3 - m ≤ c' ∧ (∀ W, Fr No w W → RwK W 2 (BxAt W) A' (n3 - m) (bs.drop m)) ∧ bxC 0 cs (bs.map Bx.bp) = bxC k (cs.drop k) ((bs.drop m).map Bx.bp) ∧ Fr No w wr) (fun _ v11 _ => n1 - (intOf v11).toNat)
  case atStart => exact ⟨0, 0, A3, c3, by omega, by omega, rfl, rfl, by omega, HX3.out, rfl, HF0.out⟩
  case round =>
    obtain ⟨k, m, A', c', hk, hm, rfl, rfl, hc', hr, he, hf⟩ := hrel
    have HF := Lib.hid hf
    have HE := Lib.hid he
    have HR := Lib.hid hr
    clear hf he hr
    by_cases hlt : k < n1
    · have hkl : k < cs.length := by rw [HL1.out]; exact hlt
      have hdk : cs.drop k = cs[k] :: cs.drop (k + 1) := List.drop_eq_getElem_cons hkl
      obtain ⟨b, o, rfl, _, hc⟩ := (HX1.out wr HF.out).2 (by omega)
      have x0 : wr.cell? ⟨b, o + k, none⟩ = some (.int .u8 (cs[k] : Int)) := by
        have := hc k hkl
        rw [Nat.mul_one] at this
        exact this
      have hwk : IntKind.i64.wrap ((k : Int) + 1) = ((k + 1 : Nat) : Int) := by
        rw [show ((k : Int) + 1) = ((k + 1 : Nat) : Int) by omega]
        exact IntWalk.i64_in _ (by omega)
      clear hc
      obtain ⟨i, hi⟩ : ∃ i, cs[k] = i := ⟨_, rfl⟩
      rw [hi] at x0 hdk
      have he := HE.out
      rw [hdk] at he
      clear hdk hi HE
      by_cases h9 : i = 9
      · subst h9
        by_cases hm0 : n3 - m = 0
        · have hnil : bs.drop m = [] := List.eq_nil_of_length_eq_zero (by rw [List.length_drop, HL3.out]; exact hm0)
          rw [hnil, List.map_nil, bxC_none] at he
          have e0 : (((n3 - m : Nat) : Int) == 0) = true := by rw [hm0]; rfl
          have HE := Lib.hid he
          clear hnil he
          go_wp2_with fail
          go_ret
          exact ⟨by rw [HE.out]; rfl, HF.out⟩
        · obtain ⟨b3, o3, rfl, _, hc3⟩ := (HR.out wr HF.out).2 (by omega)
          have hml : m < bs.length := by have := HL3.out; omega
          have hdm : bs.drop m = bs[m] :: bs.drop (m + 1) := List.drop_eq_getElem_cons hml
          rw [hdm, List.map_cons, bxC_some] at he
          have hc0 := hc3 0 (by rw [List.length_drop]; omega)
          have hg : (bs.drop m)[0]'(by rw [List.length_drop]; omega) = bs[m] := by rw [List.getElem_drop]; rfl
          rw [hg] at hc0
          obtain ⟨y0, y1, y2⟩ := hc0
          rw [Addr.add_lit] at y1
          simp only [Nat.zero_mul, Nat.add_zero] at y0 y1
          have hby := HB3.out _ (List.mem_map_of_mem (List.getElem_mem hml))
          have hbn := HS4.out _ (List.getElem_mem hml)
          have e0 : (((n3 - m : Nat) : Int) == 0) = false := by rw [beq_eq_false_iff_ne]; omega
          have e00 : (0 : Int) < ((n3 - m : Nat) : Int) := by omega
          obtain ⟨bx, hbx⟩ : ∃ bx, bs[m] = bx := ⟨_, rfl⟩
          rw [hbx] at y0 y1 y2 hby hbn he
          obtain ⟨bc, bA, bn, bcp, bl⟩ := bx
          dsimp only [Bx.bp] at *
          have hln : bl.length = bn := y2.1
          rw [hln] at he
          have HQ := Lib.hid (right_big (HT.out wr HF.out) y2 hby bcp hbn 6)
          have hd6 : decide ((bn : Int) = 6) = (bn == 6) := by
            by_cases h : bn = 6
            · subst h; rfl
            · rw [decide_eq_false (by omega)]; exact (beq_eq_false_iff_ne.2 h).symm
          rw [hd6] at HQ
          obtain ⟨q, hq⟩ : ∃ q, ((bn == 6) && rgt bl) = q := ⟨_, rfl⟩
          rw [hq] at HQ he
          have HRW := Lib.hid (fun W (hW : Fr No w W) => (HR.out W hW))
          obtain ⟨A5, c5, hrun, _, hle5⟩ := post_bx (HR.out wr HF.out) hc' (by omega)
          have HR5 : Hid (∀ W, Fr No w W → RwK W 2 (BxAt W) A5 (n3 - m - 1) ((bs.drop m).drop 1)) := fun W hW => by
            obtain ⟨A6, c6, hrun6, hr6, _⟩ := post_bx (HR.out W hW) hc' (by omega)
            have h1 := hrun w
            rw [hrun6 w] at h1
            injection h1 with h1
            injection h1 with h1
            subst h1
            exact hr6
          have HE := Lib.hid he
          clear hc3 hdm hg y2 hby hbn hq hd6 hbx hln he HRW
          by_cases hbk : bc = (k : Int)
          · subst hbk
            have e1 : (((k : Nat) : Int) == (k : Int)) = true := by simp
            have e1' : (((k : Nat) : Int) != (k : Int)) = false := by simp
            cases q with
            | false =>
              clear HR5 hrun
              go_wp2_with (refine HQ.out.mono ?_; rintro e w5 ⟨rfl, hf⟩; have HF5 := Lib.hid hf; clear hf)
              go_ret
              exact ⟨by rw [HE.out]; simp, HF.out.no_trans HF5.out⟩
            | true =>
              have HE2 : Hid (bxC 0 cs (bs.map Bx.bp) = bxC (k + 1) (cs.drop (k + 1)) ((bs.drop (m + 1)).map Bx.bp)) := by
                show _ = _
                rw [HE.out]
                simp
              have e5 : n3 - m - 1 = n3 - (m + 1) := by omega
              have e6 : (bs.drop m).drop 1 = bs.drop (m + 1) := by rw [List.drop_drop]
              rw [e5] at hrun HR5 hle5
              rw [e6] at HR5
              go_wp2_with (refine HQ.out.mono ?_; rintro e w5 ⟨rfl, hf⟩; have HF5 := Lib.hid hf; clear hf)
              go_roundw
              case rel => exact ⟨k + 1, m + 1, A5, c5, by omega, by omega, by go_num, rfl, hle5, HR5.out, HE2.out, HF.out.no_trans HF5.out⟩
              case measure => simp [intOf]; omega
          · have e1 : (bc == (k : Int)) = false := by rw [beq_eq_false_iff_ne]; exact hbk
            have e2 : (bc != (k : Int)) = true := by simp [bne, e1]
            clear HR5 hrun HQ
            go_wp2_with fail
            go_ret
            exact ⟨by rw [HE.out, e1]; simp, HF.out⟩
      · have e9 : ((i : Int) == 9) = false := by rw [beq_eq_false_iff_ne]; omega
        have e9' : ((i : Int) != 9) = true := by simp [bne, e9]
        rw [bxC_other h9] at he
        have HE := Lib.hid he
        clear he
        go_wp2_with fail
        go_roundw
        case rel => exact ⟨k + 1, m, A', c', by omega, by omega, by go_num, rfl, hc', HR.out, HE.out, HF.out⟩
        case measure => simp [intOf]; omega
    · have hkn : k = n1 := by omega
      subst hkn
      have he := HE.out
      rw [List.drop_of_length_le (by rw [HL1.out]; exact Nat.le_refl _)] at he
      rw [bxC_end] at he
      have hz : ((bs.drop m).map Bx.bp).isEmpty = decide (n3 - m = 0) := by
        have h3 := HL3.out
        cases hd : bs.drop m with
        | nil =>
          have := congrArg List.length hd
          rw [List.length_drop] at this
          rw [decide_eq_true (by simpa [h3] using this)]
          rfl
        | cons b r =>
          have := congrArg List.length hd
          rw [List.length_drop] at this
          rw [decide_eq_false (by simp at this; omega)]
          rfl
      rw [hz] at he
      have HE2 := Lib.hid he
      have hq : (((n3 - m : Nat) : Int) == 0) = decide (n3 - m = 0) := by
        by_cases h : n3 - m = 0
        · rw [h]; rfl
        · rw [decide_eq_false h, beq_eq_false_iff_ne]; omega
      generalize n3 - m = z at *
      clear he hz
      go_wp2_with fail
      go_ret
      exact ⟨by rw [HE2.out, ← hq]; rfl, HF.out⟩
end
end Go.Proofs.YtjdhbgdpmojobaaDoor

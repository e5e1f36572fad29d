/-
  The walk of ShaOuter, where the key and the bytes are within its bounds.
-/
import Derived.Test.YtllmdbalhjlbpaaDoorOutW
namespace Go.Proofs.YtllmdbalhjlbpaaDoor
open Go.RowKit

/-- What holds at the head of the loop over the two marks. -/
def OutRel (w : World) (b0 g : Nat) (K : List UInt8) (i : Value) (wr : World) : Prop :=
  (i = .int .i64 0 ∧ ∃ v0 v1, Parts w wr b0 g K v0 v1 [] []) ∨ (i = .int .i64 1 ∧ ∃ v0 v1, Parts w wr b0 g K v0 v1 (heldB K 54) []) ∨ (i = .int .i64 2 ∧ ∃ v0 v1, Parts w wr b0 g K v0 v1 (heldB K 54) (heldB K 92))
/-- What holds at the head of the loop over the key's block, at the first mark, and at the second. -/
def InRel0 (w : World) (b0 g : Nat) (K : List UInt8) (i : Value) (wr : World) : Prop := ∃ j : Nat, j ≤ 64 ∧ i = .int .i64 (j : Int) ∧ ∃ v0 v1, Parts w wr b0 g K v0 v1 (heldB (K.take j) 54) []
def InRel1 (w : World) (b0 g : Nat) (K : List UInt8) (i : Value) (wr : World) : Prop := ∃ j : Nat, j ≤ 64 ∧ i = .int .i64 (j : Int) ∧ ∃ v0 v1, Parts w wr b0 g K v0 v1 (heldB K 54) (heldB (K.take j) 92)
set_option maxRecDepth 100000 in
theorem heldB_length (l : List UInt8) (x : UInt8) : (heldB l x).length = l.length := by rw [heldB, List.length_map]
set_option maxRecDepth 100000 in
theorem heldB_take (K : List UInt8) (x : UInt8) (j : Nat) (h : j < K.length) : heldB (K.take (j + 1)) x = heldB (K.take j) x ++ [K.getD j 0 ^^^ x] := by
  rw [List.take_succ_eq_append_getElem h, List.getD_eq_getElem?_getD, List.getElem?_eq_getElem h]
  simp only [heldB, List.map_append, List.map_cons, List.map_nil, Option.getD_some]

set_option maxHeartbeats 4000000 in
set_option maxRecDepth 100000 in
theorem outer_near (A A2 : Option Addr) (n c n2 c2 : Nat) (l m : List UInt8) (w : World) (h : Rd w w.heap.size A n l) (hc : n ≤ c) (hn : n ≤ 250) (h2 : Rd w w.heap.size A2 n2 m) (hn2 : n2 ≤ 1000) (ht : TabS w) :
    Calls Tryd.prog 10 #[.slice A n c, .slice A2 n2 c2] w fun e w' => e = .returned (.bool true) ∧ Below w.heap.size w w' := by
  have HT := Lib.hid ht
  have HP := Lib.hid ht.pos
  have HD := Lib.hid h
  have HD2 := Lib.hid h2
  have HLN := Lib.hid h.len
  have hmk := fun W => make_rule 64 (by omega) 64 rfl W
  obtain ⟨W0, hW0⟩ : ∃ W, w.alloc (.cells (bcs (zs 64)) 5) = W := ⟨_, rfl⟩
  have hA0 : Arr W0 w.heap.size 5 (bcs (zs 64)) := by rw [← hW0]; exact Arr.new _ _ _
  have hbel0 : Below w.heap.size w W0 := by rw [← hW0]; exact (Below.refl _ _).alloc (Nat.le_refl _) _
  have HA0 := Lib.hid hA0
  have hz0 : w.heap.size < W0.heap.size := hA0.lt
  obtain ⟨K, HK⟩ : ∃ K, Unit → keyB l = K := ⟨_, fun _ => rfl⟩
  have HKL : Unit → K.length = 64 := fun _ => by rw [← HK ()]; exact keyB_length l
  clear h h2 ht hA0
  by_cases hk : 64 < n
  case' pos =>
    have hgt : decide (64 < (n : Int)) = true := by simp; omega
    have C1 := Lib.hid (of_any A n c l W0 ((HD.out.below hbel0).more hbel0.size) hc (by omega) (HT.out.keep hbel0 HP.out))
    have HSL : Unit → (sha l).length = 32 := fun _ => sha_length l
    have HK2 : Unit → K = sha l ++ List.replicate (64 - (sha l).length) 0 := fun _ => by rw [← HK (), keyB, if_pos (by rw [HLN.out]; exact hk), sha_length]
    obtain ⟨H, HH⟩ : ∃ H, Unit → sha l = H := ⟨_, fun _ => rfl⟩
    rw [HH ()] at C1 HK2 HSL
    go_enter Tryd.func10, Tryd.ntmps10
    go_wp2_with fail
    refine C1.out.mono ?_
    rintro e w1 ⟨rfl, hb1'⟩
    have HA1 := Lib.hid (HA0.out.below hb1' hz0)
    have hb1 : Below w.heap.size w w1 := hbel0.trans (hb1'.mono hbel0.size)
    have hz1 : w.heap.size < w1.heap.size := HA1.out.lt
    clear C1 hb1' hW0 hbel0 hz0 HA0
    go_simp
    iterate 4 (first | go_values | go_skip | go_guarded | go_step | go_upon)
    refine wpList_store_row rfl _ _ _ rfl w1.heap.size (bcs H) rfl rfl _ _ (Arr.new w1 _ _) (by rw [bcs_size, HSL ()]; kernel_rfl) (by rw [bcs_size, HSL ()]; rfl) (bcs_one _) ?_
    rw [World.setRow_alloc_new]
    obtain ⟨w2, hw2⟩ : ∃ w2, w1.alloc (.cells (bcs H) 51) = w2 := ⟨_, rfl⟩
    have HA2 := Lib.hid (show Arr w2 w.heap.size 5 (bcs (zs 64)) by rw [← hw2]; exact HA1.out.alloc _)
    have HC2 := Lib.hid (show Arr w2 w1.heap.size 51 (bcs H) by rw [← hw2]; exact Arr.new _ _ _)
    have hb2 : Below w.heap.size w w2 := by rw [← hw2]; exact hb1.alloc hb1.size _
    rw [hw2]
    clear hw2 HA1 hb1
    generalize w1.heap.size = s4 at *
    go_simp
    have HS := Lib.hid (copy_src (show Rd w2 (s4 + 1) (some ⟨s4, 0, none⟩) 32 H by have := HC2.out.rd 0 32 (by rw [HSL ()]); simpa using this) (Below.refl _ w2) ⟨w.heap.size, 0, none⟩)
    have HPL : Unit → (bvs H).length = Nat.min 32 64 := fun _ => by rw [bvs_length, HSL ()]; rfl
    have HF : Unit → 0 + (bvs H).length ≤ (bvs (zs 64)).length := fun _ => by rw [bvs_length, bvs_length, HSL (), zs, List.length_replicate]; omega
    go_wp2_with (refine wpList_copy_splice (o := ⟨some 30, _, _, _, _, _⟩) rfl (.tmp 28) (.tmp 29) 23 23 rfl 5 Tryd.underlying23 (by kernel_rfl) (some ⟨w.heap.size, 0, none⟩) (some ⟨s4, 0, none⟩) 64 64 32 32 rfl rfl w.heap.size 0 (bvs (zs 64)) 5 HA2.out (bvs H) (HPL ()) HS.out (HF ()) (bvs_oneCell H) w.heap.size w hb2 (Nat.le_refl _) ?_; intro w4 hA4 hb4; rw [splice_zeros] at hA4; (have HA4 := Lib.hid (show Arr w4 w.heap.size 5 (bcs K) by rw [HK2 ()]; exact hA4)); clear hA4)
  case' neg =>
    have hgt : decide (64 < (n : Int)) = false := by simp; omega
    have HS := Lib.hid (copy_src HD.out hbel0 ⟨w.heap.size, 0, none⟩)
    have HPL : Unit → (bvs l).length = Nat.min n 64 := fun _ => by rw [bvs_length, HLN.out]; exact (Nat.min_eq_left (by omega)).symm
    have HF : Unit → 0 + (bvs l).length ≤ (bvs (zs 64)).length := fun _ => by rw [bvs_length, bvs_length, HLN.out, zs, List.length_replicate]; omega
    have HK2 : Unit → K = l ++ List.replicate (64 - l.length) 0 := fun _ => by rw [← HK (), keyB, if_neg (by rw [HLN.out]; omega)]
    go_enter Tryd.func10, Tryd.ntmps10
    go_wp2_with (refine wpList_copy_splice (o := ⟨some 33, _, _, _, _, _⟩) rfl (.tmp 31) (.tmp 32) 23 23 rfl 5 Tryd.underlying23 (by kernel_rfl) (some ⟨w.heap.size, 0, none⟩) A 64 64 n c rfl rfl w.heap.size 0 (bvs (zs 64)) 5 HA0.out (bvs l) (HPL ()) HS.out (HF ()) (bvs_oneCell l) w.heap.size w hbel0 (Nat.le_refl _) ?_; intro w4 hA4 hb4; rw [splice_zeros] at hA4; (have HA4 := Lib.hid (show Arr w4 w.heap.size 5 (bcs K) by rw [HK2 ()]; exact hA4)); clear hA4)
  all_goals
    have hP0 : Parts w (w4.alloc (.cells #[.slice none 0 0, .slice none 0 0] 47)) w.heap.size w4.heap.size K (.slice none 0 0) (.slice none 0 0) [] [] := {
      bel := hb4.alloc hb4.size _
      lo := Nat.le_refl _
      hi := HA4.out.lt
      blk := HA4.out.alloc _
      row := Arr.new _ _ _
      own0 := World.ownsRow_nil _ _ _ _
      own1 := World.ownsRow_nil _ _ _ _
      ap := .inl rfl }
    obtain ⟨g, hg⟩ : ∃ g, w4.heap.size = g := ⟨_, rfl⟩
    rw [hg] at hP0 ⊢
    clear hg HA4 hb4
    generalize w4.alloc (.cells #[.slice none 0 0, .slice none 0 0] 47) = w5 at *
    have hm0 : ∀ W, (Instr.index 63 (.agg #[.int .u8 54, .int .u8 92]) (.int .i64 0)).run Tryd.prog W = .ok (.int .u8 54) W := fun _ => by kernel_rfl
    have hm1 : ∀ W, (Instr.index 63 (.agg #[.int .u8 54, .int .u8 92]) (.int .i64 1)).run Tryd.prog W = .ok (.int .u8 92) W := fun _ => by kernel_rfl
    obtain ⟨i0, hi0, hz0', hz1', hz2'⟩ := info_parts info_u8
    go_loopw [35] (fun i wr => OutRel w w.heap.size g K i wr) (fun i _ => 2 - (intOf i).toNat)
    case atStart => exact .inl ⟨rfl, _, _, hP0⟩
    case round =>
      clear hP0
      rcases hrel with ⟨rfl, v0, v1, hPP⟩ | ⟨rfl, v0, v1, hPP⟩ | ⟨rfl, v0, v1, hPP⟩
      · have HPP := Lib.hid hPP
        clear hPP
        go_wp2_with fail
        go_loopw [41] (fun i wr => InRel0 w w.heap.size g K i wr) (fun i _ => 64 - (intOf i).toNat)
        case atStart => exact ⟨0, by omega, rfl, v0, v1, HPP.out⟩
        case round =>
          clear HPP
          obtain ⟨j, hj, rfl, u0, u1, hQ⟩ := hrel
          have HQ := Lib.hid hQ
          clear hQ
          by_cases hlt : j < 64
          · have HLJ : Unit → (heldB (K.take j) 54).length = j := fun _ => by rw [heldB_length, List.length_take, HKL ()]; omega
            have c1 := (HQ.out.blk.cell j).trans (bcs_at K j (by rw [HKL ()]; exact hlt))
            have c2 : wr.cell? ⟨g, 0, none⟩ = some u0 := HQ.out.row.cell 0
            have HO := Lib.hid (show wr.ownsRow (g + 1) 5 1 u0 j (bvs (heldB (K.take j) 54)) by have := HQ.out.own0; rw [HLJ ()] at this; exact this)
            have HTK : Unit → heldB (K.take (j + 1)) 54 = heldB (K.take j) 54 ++ [K.getD j 0 ^^^ 54] := fun _ => heldB_take K 54 j (by rw [HKL ()]; exact hlt)
            have hxb : bits .xor .u8 ((K.getD j 0).toNat : Int) 54 = ((K.getD j 0 ^^^ 54).toNat : Int) := xor_bytes (K.getD j 0) 54
            generalize K.getD j 0 ^^^ 54 = x at *
            generalize K.getD j 0 = y at *
            have hgw : g < wr.heap.size := HQ.out.row.lt
            have hyb : y.toNat < 256 := y.toNat_lt
            go_wp2_with (at_builtin; refine wpList_append_lies _ rfl (.tmp 48) (.tmp 52) 23 rfl (g + 1) 5 i0 (.int .u8 0) 1 1 Tryd.underlying23 hi0 hz0' hz1' hz2' rfl (by omega) u0 j (bvs (heldB (K.take j) 54)) rfl (HO.out.alloc _) ⟨wr.heap.size, 0, none⟩ 1 1 [.int .u8 (x.toNat : Int)] rfl rfl (cell_new _ _ _) (one_new _) (by omega) (by unfold maxLen; omega) (by omega) (by simp; omega) (wr.heap.size + 1) (by simp) ?_; intro gn cap w2 hown2 hgrow hat hlt2; (have hrow2 := parts_row HQ.out _ hgrow (.inl rfl)); (have hc3 : w2.cell? ⟨g, 0, none⟩ = some u0 := hrow2.cell 0); (have hf3 : w2.frozen? ⟨g, 0, none⟩ = false := hrow2.frozen 0); (have HN := Lib.hid (show Parts w (w2.setCell ⟨g, 0, none⟩ (.slice (some ⟨gn, 0, none⟩) (j + 1) cap)) w.heap.size g K (.slice (some ⟨gn, 0, none⟩) (j + 1) cap) u1 (heldB (K.take (j + 1)) 54) [] by rw [HTK ()]; exact parts_zero HQ.out _ hgrow (by rw [List.length_append, HLJ ()]; rfl) (by rw [bvs_append]; exact hown2) hat)); clear hown2 hgrow hat hrow2 hlt2)
            go_roundw
            case rel => exact ⟨j + 1, by omega, by go_num, _, u1, HN.out⟩
            case measure => simp [intOf]; omega
          · have hge : decide ((j : Int) < 64) = false := by simp; omega
            have HFX := Lib.hid (show Parts w wr w.heap.size g K u0 u1 (heldB K 54) [] by
              have := HQ.out
              rw [show K.take j = K from List.take_of_length_le (by rw [HKL ()]; omega)] at this
              exact this)
            clear HQ
            go_wp2_with fail
            go_roundw
            case rel => exact .inr (.inl ⟨by rfl, u0, u1, HFX.out⟩)
            case measure => simp [intOf]
      · have HPP := Lib.hid hPP
        clear hPP
        go_wp2_with fail
        go_loopw [41] (fun i wr => InRel1 w w.heap.size g K i wr) (fun i _ => 64 - (intOf i).toNat)
        case atStart => exact ⟨0, by omega, rfl, v0, v1, HPP.out⟩
        case round =>
          clear HPP
          obtain ⟨j, hj, rfl, u0, u1, hQ⟩ := hrel
          have HQ := Lib.hid hQ
          clear hQ
          by_cases hlt : j < 64
          · have HLJ : Unit → (heldB (K.take j) 92).length = j := fun _ => by rw [heldB_length, List.length_take, HKL ()]; omega
            have c1 := (HQ.out.blk.cell j).trans (bcs_at K j (by rw [HKL ()]; exact hlt))
            have c2 : wr.cell? ⟨g, 1, none⟩ = some u1 := HQ.out.row.cell 1
            have HO := Lib.hid (show wr.ownsRow (g + 1) 5 1 u1 j (bvs (heldB (K.take j) 92)) by have := HQ.out.own1; rw [HLJ ()] at this; exact this)
            have HTK : Unit → heldB (K.take (j + 1)) 92 = heldB (K.take j) 92 ++ [K.getD j 0 ^^^ 92] := fun _ => heldB_take K 92 j (by rw [HKL ()]; exact hlt)
            have hxb : bits .xor .u8 ((K.getD j 0).toNat : Int) 92 = ((K.getD j 0 ^^^ 92).toNat : Int) := xor_bytes (K.getD j 0) 92
            generalize K.getD j 0 ^^^ 92 = x at *
            generalize K.getD j 0 = y at *
            have hgw : g < wr.heap.size := HQ.out.row.lt
            have hyb : y.toNat < 256 := y.toNat_lt
            go_wp2_with (at_builtin; refine wpList_append_lies _ rfl (.tmp 48) (.tmp 52) 23 rfl (g + 1) 5 i0 (.int .u8 0) 1 1 Tryd.underlying23 hi0 hz0' hz1' hz2' rfl (by omega) u1 j (bvs (heldB (K.take j) 92)) rfl (HO.out.alloc _) ⟨wr.heap.size, 0, none⟩ 1 1 [.int .u8 (x.toNat : Int)] rfl rfl (cell_new _ _ _) (one_new _) (by omega) (by unfold maxLen; omega) (by omega) (by simp; omega) (wr.heap.size + 1) (by simp) ?_; intro gn cap w2 hown2 hgrow hat hlt2; (have hrow2 := parts_row HQ.out _ hgrow (.inr rfl)); (have hc3 : w2.cell? ⟨g, 1, none⟩ = some u1 := hrow2.cell 1); (have hf3 : w2.frozen? ⟨g, 1, none⟩ = false := hrow2.frozen 1); (have HN := Lib.hid (show Parts w (w2.setCell ⟨g, 1, none⟩ (.slice (some ⟨gn, 0, none⟩) (j + 1) cap)) w.heap.size g K u0 (.slice (some ⟨gn, 0, none⟩) (j + 1) cap) (heldB K 54) (heldB (K.take (j + 1)) 92) by rw [HTK ()]; exact parts_one HQ.out _ hgrow (by rw [List.length_append, HLJ ()]; rfl) (by rw [bvs_append]; exact hown2) hat)); clear hown2 hgrow hat hrow2 hlt2)
            go_roundw
            case rel => exact ⟨j + 1, by omega, by go_num, u0, _, HN.out⟩
            case measure => simp [intOf]; omega
          · have hge : decide ((j : Int) < 64) = false := by simp; omega
            have HFX := Lib.hid (show Parts w wr w.heap.size g K u0 u1 (heldB K 54) (heldB K 92) by
              have := HQ.out
              rw [show K.take j = K from List.take_of_length_le (by rw [HKL ()]; omega)] at this
              exact this)
            clear HQ
            go_wp2_with fail
            go_roundw
            case rel => exact .inr (.inr ⟨by rfl, u0, u1, HFX.out⟩)
            case measure => simp [intOf]
      -- behind the loops
      · have HPP := Lib.hid hPP
        clear hPP hm0 hm1
        have HKL2 : Unit → (heldB K 54).length = 64 := fun _ => by rw [heldB_length, HKL ()]
        have HKL3 : Unit → (heldB K 92).length = 64 := fun _ => by rw [heldB_length, HKL ()]
        have c0 : wr.cell? ⟨g, 0, none⟩ = some v0 := HPP.out.row.cell 0
        have hgw : g < wr.heap.size := HPP.out.row.lt
        have hlow : w.heap.size ≤ g := by have h1 := HPP.out.lo; have h2 := HPP.out.hi; omega
        have HR2 := Lib.hid ((HD2.out.below HPP.out.bel).more HPP.out.bel.size)
        have HL4 : Unit → (heldB K 54 ++ m).length = 64 + n2 := fun _ => by rw [List.length_append, HKL2 (), HD2.out.len]
        have HMM : Unit → hmac l m = sha (heldB K 92 ++ sha (heldB K 54 ++ m)) := fun _ => by rw [hmac, HK ()]
        go_wp2_with (at_builtin; refine wpList_append_rd _ rfl (.tmp 58) (.tmp 59) rfl (g + 1) wr.heap.size v0 (heldB K 54) rfl HPP.out.own0 A2 n2 c2 m rfl HR2.out (by rw [HKL2 ()]; omega) hgw ?_; intro v' w2 hown2 hgrow; rw [HL4 ()] at hown2; (obtain ⟨hrow2, hq2, hb2⟩ := parts_last HPP.out hgrow); (have HROW2 := Lib.hid hrow2); (have HQ2 := Lib.hid hq2); (have HO2 := Lib.hid hown2); clear hrow2 hq2 hown2 hgrow; (obtain ⟨A4, c4, rfl, hc4, _⟩ := own_shape HO2.out))
        have C1 := Lib.hid (of_any A4 (64 + n2) c4 (heldB K 54 ++ m) w2 (Rd.own HO2.out) hc4 (by omega) (HT.out.keep hb2 HP.out))
        obtain ⟨H1, HH1⟩ : ∃ H, Unit → sha (heldB K 54 ++ m) = H := ⟨_, fun _ => rfl⟩
        have HHL : Unit → H1.length = 32 := fun _ => by rw [← HH1 ()]; exact sha_length _
        rw [HH1 ()] at C1 HMM
        clear HO2 c0 HPP HR2
        refine C1.out.mono ?_
        rintro e w3 ⟨rfl, hb3'⟩
        have HROW3 := Lib.hid (HROW2.out.below hb3' HROW2.out.lt)
        have HQ3 := Lib.hid (show w3.ownsRow (g + 1) 5 1 v1 64 (bvs (heldB K 92)) by
          have := HQ2.out.kept (below_grown hb3' none) (by cases hv : v1.ownBlock <;> simp)
          rw [HKL3 ()] at this
          exact this)
        have hb3 : Below w.heap.size w w3 := hb2.trans (hb3'.mono hb2.size)
        clear C1 hb3' HROW2 HQ2 hb2 hc4
        go_simp
        iterate 4 (first | go_values | go_skip | go_guarded | go_step | go_upon)
        refine wpList_store_row rfl _ _ _ rfl w3.heap.size (bcs H1) rfl rfl _ _ (Arr.new w3 _ _) (by rw [bcs_size, HHL ()]; kernel_rfl) (by rw [bcs_size, HHL ()]; rfl) (bcs_one _) ?_
        rw [World.setRow_alloc_new]
        obtain ⟨w6, hw6⟩ : ∃ w6, w3.alloc (.cells (bcs H1) 51) = w6 := ⟨_, rfl⟩
        have HROW6 := Lib.hid (show Arr w6 g 47 #[v0, v1] by rw [← hw6]; exact HROW3.out.alloc _)
        have HQ6 := Lib.hid (show w6.ownsRow (g + 1) 5 1 v1 64 (bvs (heldB K 92)) by rw [← hw6]; exact HQ3.out.alloc _)
        have HC6 := Lib.hid (show Arr w6 w3.heap.size 51 (bcs H1) by rw [← hw6]; exact Arr.new _ _ _)
        have hb6 : Below w.heap.size w w6 := by rw [← hw6]; exact hb3.alloc hb3.size _
        rw [hw6]
        clear hw6 HROW3 HQ3 hb3
        generalize w3.heap.size = s6 at *
        go_simp
        go_wp2_with fail
        have hs06 : s6 < w6.heap.size := HC6.out.lt
        have hg6 : g < w6.heap.size := HROW6.out.lt
        have c61 : w6.cell? ⟨g, 1, none⟩ = some v1 := HROW6.out.cell 1
        have HC61 := Lib.hid c61
        have HNW := Lib.hid (show ∀ j u, (bvs H1)[j]? = some u → w6.cell? ((⟨s6, 0, none⟩ : Addr).add j) = some u from fun j u hu => by
          rw [Addr.add_lit, Nat.zero_add, HC6.out.cell j]
          simpa [bcs] using hu)
        have HNL : Unit → (bvs H1).length = 32 * 1 := fun _ => by rw [bvs_length, HHL ()]
        obtain ⟨ck, HCK⟩ : ∃ cs, Unit → bvs (hmac l m) = cs := ⟨_, fun _ => rfl⟩
        have HE := fun W : World => eql_hash ck (hmac l m) (HCK ()) (sha_length _) W
        have hvg : ∀ k, v1.ownBlock = some k → g + 1 ≤ k := fun k hk => (HQ6.out.lt k hk).1
        -- what the calls answer
        have CO : ∀ (W : World) (g2 cap : Nat), Below w.heap.size w W → W.ownsRow (g + 1) 5 1 (.slice (some ⟨g2, 0, none⟩) (64 + 32) cap) (64 + 32) (bvs (heldB K 92) ++ bvs H1) → Hid (Calls Tryd.prog 34 #[.slice (some ⟨g2, 0, none⟩) (64 + 32) cap] W fun e w' => e = .returned (.agg ck.toArray) ∧ Below W.heap.size W w') := by
          intro W g2 cap hb ho
          rw [← bvs_append] at ho
          obtain ⟨A5, c5, hv, hc5, _⟩ := own_shape ho
          injection hv with e1 e2 e3
          subst e3
          refine (of_any _ (64 + 32) cap (heldB K 92 ++ H1) W (Rd.own ho) hc5 (by omega) (HT.out.keep hb HP.out)).mono ?_
          rintro e w' ⟨rfl, hb'⟩
          exact ⟨by rw [← HCK (), HMM ()]; rfl, hb'⟩
        have CH : ∀ W, Below w.heap.size w W → Hid (Calls Tryd.prog 36 #[.slice A n c, .slice A2 n2 c2] W fun e w' => e = .returned (.agg ck.toArray) ∧ Below W.heap.size W w') := by
          intro W hb
          refine (hmac_any A A2 n c n2 c2 l m W ((HD.out.below hb).more hb.size) hc (by omega) ((HD2.out.below hb).more hb.size) (by omega) (HT.out.keep hb HP.out)).mono ?_
          rintro e w' ⟨rfl, hb'⟩
          exact ⟨by rw [← HCK ()]; rfl, hb'⟩
        have CA := fun W (hb : Below w.heap.size w W) => Lib.hid (awake_sha W (HT.out.keep hb HP.out))
        clear HROW6 HC6
        go_region_held3 (fun w' => w'.cell? ⟨g, 1, none⟩ = some v1)
          (first | exact HC61.out | exact hs10 | exact hs9 | exact hs8 | exact hs7)
          (first
            | (go_at_call 34; (refine (CO _ _ _ hb7 hown7).out.mono ?_); rintro e w8 ⟨rfl, hb8'⟩; have hb8 : Below w.heap.size w w8 := hb7.trans (hb8'.mono hb7.size); have hs8 : w8.cell? ⟨g, 1, none⟩ = some v1 := (hb8'.cell (p := ⟨g, 1, none⟩) hg7).trans hs7; have hg8 : g < w8.heap.size := Nat.lt_of_lt_of_le hg7 hb8'.size; clear hb8' hown7)
            | (go_at_call 36; (refine (CH _ hb8).out.mono ?_); rintro e w9 ⟨rfl, hb9'⟩; have hb9 : Below w.heap.size w w9 := hb8.trans (hb9'.mono hb8.size); have hs9 : w9.cell? ⟨g, 1, none⟩ = some v1 := (hb9'.cell (p := ⟨g, 1, none⟩) hg8).trans hs8; have hg9 : g < w9.heap.size := Nat.lt_of_lt_of_le hg8 hb9'.size; clear hb9')
            | (go_at_call 38; (refine (CA _ hb9).out.mono ?_); rintro e w10 ⟨rfl, hb10'⟩; have hb10 : Below w.heap.size w w10 := hb9.trans (hb10'.mono hb9.size); have hs10 : w10.cell? ⟨g, 1, none⟩ = some v1 := (hb10'.cell (p := ⟨g, 1, none⟩) hg9).trans hs9; clear hb10')
            | (refine step_append_lies _ (by rfl) _ _ _ (by rfl) (g + 1) 5 i0 (.int .u8 0) 1 1 Tryd.underlying23 hi0 hz0' hz1' hz2' rfl (by omega) v1 64 (bvs (heldB K 92)) (by rfl) HQ6.out.drew ⟨s6, 0, none⟩ 32 32 (bvs H1) (by rfl) (HNL ()) HNW.out (bvs_oneCell H1) (by omega) (by unfold maxLen; omega) (by omega) hg6 w6.heap.size (by rfl) ?_; intro g2 cap w7 hown7 hgrow7 hat7 hlt7; have hb7 : Below w.heap.size w w7 := (hb6.drew).grown hgrow7 hb6.size (fun k hk => by have := hvg k hk; omega); have hs7 : w7.cell? ⟨g, 1, none⟩ = some v1 := hgrow7.cell HC61.out (fun e => by have := hvg g e.symm; omega); have hg7 : g < w7.heap.size := Nat.lt_of_lt_of_le hg6 hgrow7.size; clear hgrow7 hat7 hlt7))
        go_wp2_with fail
        go_ret
        exact ⟨rfl, hb10⟩

set_option maxRecDepth 100000 in
theorem outer_walk (A A2 : Option Addr) (n c n2 c2 : Nat) (l m : List UInt8) (w : World) (h : Rd w w.heap.size A n l) (hc : n ≤ c) (h2 : Rd w w.heap.size A2 n2 m) (ht : TabS w) :
    Calls Tryd.prog 10 #[.slice A n c, .slice A2 n2 c2] w fun e w' => e = .returned (.bool true) ∧ Below w.heap.size w w' := by
  by_cases hn : 250 < n ∨ 1000 < n2
  · exact outer_far A A2 n c n2 c2 w hn ht
  · exact outer_near A A2 n c n2 c2 l m w h hc (by omega) h2 (by omega) ht
end Go.Proofs.YtllmdbalhjlbpaaDoor

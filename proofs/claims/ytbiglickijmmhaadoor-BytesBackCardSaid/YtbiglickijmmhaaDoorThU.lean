/-
  The contract of put: a thing behind bytes of one's own; nothing turns but these and new memory. No statement of the seat is proved here.
-/
import Derived.Test.YtbiglickijmmhaaDoorThM
import Derived.Test.YtbiglickijmmhaaDoorArr
import Derived.Deep.AppendLies
namespace Go.Proofs.YtbiglickijmmhaaDoor
open Go.RowKit

/-- What a call leaves that puts bytes behind a value's own: nothing turns but that value's row and new memory. -/
def Gro (B : Nat) (w : World) (v : Value) (l : List UInt8) (e : Ending) (w' : World) : Prop :=
  ∃ v', e = .returned v' ∧ w'.ownsRow B 5 1 v' l.length (bvs l) ∧ w.grownBy w' v.ownBlock ∧ (v'.ownBlock = v.ownBlock ∨ ∀ g, v'.ownBlock = some g → w.heap.size ≤ g)
theorem grown_trans {w w1 w2 : World} {a b : Option Nat} (h1 : w.grownBy w1 a) (h2 : w1.grownBy w2 b) (hb : b = a ∨ ∀ g, b = some g → w.heap.size ≤ g) : w.grownBy w2 a :=
  ⟨h2.os.trans h1.os, h2.tape.trans h1.tape, h2.output.trans h1.output, Nat.le_trans h1.size h2.size, fun k hk hne =>
    (h2.block k (Nat.lt_of_lt_of_le hk h1.size) (fun e => by
      rcases hb with hb | hb
      · exact hne (e.trans hb)
      · have := hb k e.symm; omega)).trans (h1.block k hk hne)⟩
theorem below_grown' {w w' : World} (h : Below w.heap.size w w') (row : Option Nat) : w.grownBy w' row := ⟨h.os, h.tape, h.output, h.size, fun k hk _ => h.block k hk⟩
set_option maxHeartbeats 800000 in
set_option maxRecDepth 100000 in
theorem uint_gro (B : Nat) (l : List UInt8) (n : Nat) (v : Value) (w : World) (hn : n < 2 ^ 64) (hB : B ≤ w.heap.size) (hl : l.length ≤ 20000)
    (hown : w.ownsRow B 5 1 v l.length (bvs l)) :
    Calls Tryd.prog 7 #[v, .int .u64 (n : Int)] w (Gro B w v (l ++ varint n)) := by
  obtain ⟨i0, hi, hz0, hz1, hz2⟩ := info_parts info_u8
  have HN := Lib.hid hn
  have hten := varint_len_ten hn
  clear hn
  go_enter Tryd.func7, Tryd.ntmps7
  go_wp2
  go_loopw [0, 1] (fun u i wr => ∃ (m : Nat) (k : List UInt8), Hid (m < 2 ^ 64) ∧ i = .int .u64 (m : Int) ∧ Hid (k ++ varint m = l ++ varint n) ∧ wr.ownsRow B 5 1 u k.length (bvs k) ∧ w.grownBy wr v.ownBlock ∧ (u.ownBlock = v.ownBlock ∨ ∀ g, u.ownBlock = some g → w.heap.size ≤ g))
    (fun _ i _ => (intOf i).toNat)
  case atStart => exact ⟨n, l, HN, rfl, rfl, hown, World.grownBy.refl w _, Or.inl rfl⟩
  case round =>
    obtain ⟨m, k, hm, rfl, HE, ho, hgr, hat0⟩ := hrel
    have HAT0 := Lib.hid hat0
    clear hat0
    have hk : k.length ≤ 20010 := by
      have h1 := congrArg List.length HE.out
      simp only [List.length_append] at h1
      omega
    have hBr : B ≤ wr.heap.size := Nat.le_trans hB hgr.size
    by_cases hs : m < 128
    · go_wp2_with (at_builtin; refine wpList_append_lies _ rfl (.tmp 16) (.tmp 19) 23 rfl B 5 i0 (.int .u8 0) 1 1 Tryd.underlying23 hi hz0 hz1 hz2 rfl (by omega) _ _ _ rfl (ho.alloc _) ⟨wr.heap.size, 0, none⟩ 1 1 [.int .u8 (m : Int)] rfl rfl (cell_new _ _ _) (one_new _) (by omega) (by unfold maxLen; omega) (by omega) (by simp; omega) (wr.heap.size + 1) (by simp) ?_; intro g cap w1 hown' hgrow hat _)
      have hown2 := own_snoc (x := UInt8.ofNat m) (by rw [toNat_ofNat_lt (by omega)]) hown'
      have hat2 : (Value.slice (some ⟨g, 0, none⟩) (k.length + 1) cap).ownBlock = v.ownBlock ∨ ∀ g', (Value.slice (some ⟨g, 0, none⟩) (k.length + 1) cap).ownBlock = some g' → w.heap.size ≤ g' := by
        rcases hat with h | h
        · rw [show (Value.slice (some ⟨g, 0, none⟩) (k.length + 1) cap).ownBlock = some g from rfl, ← h]
          exact HAT0.out
        · right
          intro g' hg'
          injection hg' with hg'
          have : g' = g := hg'.symm
          have := hgr.size
          omega
      have HAT2 := Lib.hid hat2
      have hg2 : w.grownBy w1 v.ownBlock := grown_trans (grown_trans hgr (World.grownBy_alloc wr _ none) (Or.inr (fun g hg => by cases hg))) hgrow HAT0.out
      clear hat2 hat hgrow hown'
      go_ret
      exact ⟨_, rfl, by rw [← HE.out, varint_small hs]; exact hown2, hg2, HAT2.out⟩
    · go_wp2_with (at_builtin; refine wpList_append_lies _ rfl (.tmp 7) (.tmp 12) 23 rfl B 5 i0 (.int .u8 0) 1 1 Tryd.underlying23 hi hz0 hz1 hz2 rfl (by omega) _ _ _ rfl (ho.alloc _) ⟨wr.heap.size, 0, none⟩ 1 1 [.int .u8 (128 + (m : Int) % 128)] rfl rfl (cell_new _ _ _) (one_new _) (by omega) (by unfold maxLen; omega) (by omega) (by simp; omega) (wr.heap.size + 1) (by simp) ?_; intro g cap w1 hown' hgrow hat _)
      have hown2 := own_snoc (x := UInt8.ofNat (128 + m % 128)) (by rw [toNat_ofNat_lt (by omega)]; omega) hown'
      have hg2 : w.grownBy w1 v.ownBlock := grown_trans (grown_trans hgr (World.grownBy_alloc wr _ none) (Or.inr (fun g hg => by cases hg))) hgrow HAT0.out
      have hat2 : (Value.slice (some ⟨g, 0, none⟩) (k.length + 1) cap).ownBlock = v.ownBlock ∨ ∀ g', (Value.slice (some ⟨g, 0, none⟩) (k.length + 1) cap).ownBlock = some g' → w.heap.size ≤ g' := by
        rcases hat with h | h
        · rw [show (Value.slice (some ⟨g, 0, none⟩) (k.length + 1) cap).ownBlock = some g from rfl, ← h]
          exact HAT0.out
        · right
          intro g' hg'
          injection hg' with hg'
          have : g' = g := hg'.symm
          have := hgr.size
          omega
      have HAT2 := Lib.hid hat2
      clear hown' hgrow hat hat2
      have HW := Lib.hid (wrap_seven hm.out)
      go_roundw
      case rel => exact ⟨m / 128, k ++ [UInt8.ofNat (128 + m % 128)], (show m / 128 < 2 ^ 64 from by have := hm.out; omega), by rw [HW.out], (by show (k ++ [UInt8.ofNat (128 + m % 128)]) ++ varint (m / 128) = l ++ varint n; rw [← HE.out, varint_big hs]; simp), by rw [List.length_append]; rw [List.length_append] at hown2; exact hown2, hg2, HAT2.out⟩
      case measure =>
        show (intOf (.int .u64 (IntKind.u64.wrap ((m : Int) / 128)))).toNat < (intOf (.int .u64 (m : Int))).toNat
        rw [HW.out]
        simp only [intOf]
        omega

theorem int_gro (B : Nat) (l : List UInt8) (n : Int) (v : Value) (w : World) (h0 : -2 ^ 63 ≤ n) (h1 : n < 2 ^ 63) (hB : B ≤ w.heap.size) (hl : l.length ≤ 20000)
    (hown : w.ownsRow B 5 1 v l.length (bvs l)) :
    Calls Tryd.prog 9 #[v, .int .i64 n] w (Gro B w v (l ++ varint (plc n))) := by
  have C1 := Lib.hid (place_any n w h0 h1)
  have C2 := Lib.hid (uint_gro B l (plc n) v w (plc_lt h0 h1) hB hl hown)
  clear h0 h1 hB hl hown
  go_enter Tryd.func9, Tryd.ntmps9
  go_wp2_with fail
  refine C1.out.mono ?_
  rintro e w' ⟨rfl, rfl⟩
  go_wp2_with fail
  refine C2.out.mono ?_
  rintro e w' ⟨u, rfl, ho, hg, ha⟩
  have HA := Lib.hid ha
  clear ha
  go_wp2
  go_ret
  exact ⟨_, rfl, ho, hg, HA.out⟩

theorem own_kept {w w' : World} {B : Nat} {v : Value} {n : Nat} {e : TypeId} {xs : List Value} {size : Nat} (h : w.ownsRow B e size v n xs) (hg : w.grownBy w' none) : w'.ownsRow B e size v n xs :=
  h.kept hg (by cases hv : v.ownBlock <;> simp)
set_option maxHeartbeats 1600000 in
set_option maxRecDepth 100000 in
theorem put_any (B : Nat) (L : List UInt8) (v : Value) (K N : Nat) (A : Option Addr) (n c : Nat) (l : List UInt8) (w : World) (hB : B ≤ w.heap.size) (hL : L.length ≤ 10000)
    (hown : w.ownsRow B 5 1 v L.length (bvs L)) (hN : N < 2 ^ 64) (ht : Rd w w.heap.size A n l) (hn : n ≤ 1000) (hT : Tab w) :
    Calls Tryd.prog 25 #[v, .agg #[.int .u8 (K : Int), .int .u64 (N : Int), .slice A n c]] w (Gro B w v (L ++ (Th.mk K N A n c l).put)) := by
  obtain ⟨wa, hwa⟩ : ∃ wa, w.alloc (.cells #[.int .u8 (K : Int), .int .u64 (N : Int), .slice A n c] 45) = wa := ⟨_, rfl⟩
  have hba : Below w.heap.size w wa := by rw [← hwa]; exact (Below.refl _ _).alloc (Nat.le_refl _) _
  have hgA : w.grownBy wa v.ownBlock := by rw [← hwa]; exact World.grownBy_alloc w _ _
  have hownA : wa.ownsRow B 5 1 v L.length (bvs L) := by rw [← hwa]; exact hown.alloc _
  have hBA : B ≤ wa.heap.size := Nat.le_trans hB hba.size
  have htr := (ht.below hba).more hba.size
  have hTa := hT.keep hba hT.pos
  have g0 : wa.cell? ⟨w.heap.size, 0, none⟩ = some (.int .u8 (K : Int)) := by rw [← hwa]; simp
  have g1 : wa.cell? ⟨w.heap.size, 1, none⟩ = some (.int .u64 (N : Int)) := by rw [← hwa]; simp
  have g2 : wa.cell? ⟨w.heap.size, 2, none⟩ = some (.slice A n c) := by rw [← hwa]; simp
  have hzA := hba.size
  have HLN := Lib.hid htr.len
  have HGA := Lib.hid hgA
  obtain ⟨A7, c7, rfl, hc7, _⟩ := own_shape hownA
  have hRL := (Rd.own hownA)
  rcases (by omega : K % 4 = 0 ∨ K % 4 = 1 ∨ K % 4 = 2 ∨ K % 4 = 3) with h | h | h | h
  · have k0 : ((K : Int) % 4 == 0) = true := by rw [beq_iff_eq]; omega
    have HP : Hid ((Th.mk K N A n c l).put = varint N) := by show _ = _; unfold Th.put; simp only; rw [if_pos h]
    have C := Lib.hid (uint_gro B L N _ wa hN hBA (by omega) hownA)
    have HWA := Lib.hid hwa
    rw [HP.out]
    clear hown hownA hN ht hT h htr hTa hgA hRL
    go_enter Tryd.func25, Tryd.ntmps25
    go_wp2_with fail
    refine C.out.mono ?_
    rintro e w' ⟨u, rfl, ho, hg, ha⟩
    have HR := Lib.hid (show w.grownBy w' (Value.slice A7 L.length c7).ownBlock from grown_trans HGA.out hg (Or.inl rfl))
    have HA := Lib.hid (show u.ownBlock = (Value.slice A7 L.length c7).ownBlock ∨ ∀ g, u.ownBlock = some g → w.heap.size ≤ g from ha.imp id (fun h g hg => Nat.le_trans hzA (h g hg)))
    clear ha hg
    go_wp2_with fail
    go_ret
    exact ⟨_, rfl, ho, HR.out, HA.out⟩
  · have k0 : ((K : Int) % 4 == 0) = false := by rw [beq_eq_false_iff_ne]; omega
    have k1 : ((K : Int) % 4 == 1) = true := by rw [beq_iff_eq]; omega
    have HP : Hid ((Th.mk K N A n c l).put = varint (plc (s64 N))) := by show _ = _; unfold Th.put; simp only; rw [if_neg (by omega), if_pos h]
    have HS : wrap64 (N : Int) = s64 N := by
      rw [← IntWalk.i64_left, IntKind.wrap_i64]
      unfold s64
      split <;> omega
    obtain ⟨s0, s1⟩ := s64_lo N hN
    have C := int_gro B L (s64 N) _ wa s0 s1 hBA (by omega) hownA
    rw [← HS] at C
    have HC := Lib.hid C
    have HS2 := Lib.hid HS
    have HWA := Lib.hid hwa
    rw [HP.out, ← HS2.out]
    have HNL := Lib.hid hN
    clear hown hownA hN ht hT h htr hTa hgA hRL C HS s0 s1
    go_enter Tryd.func25, Tryd.ntmps25
    go_wp2_with fail
    refine HC.out.mono ?_
    rintro e w' ⟨u, rfl, ho, hg, ha⟩
    have HR := Lib.hid (show w.grownBy w' (Value.slice A7 L.length c7).ownBlock from grown_trans HGA.out hg (Or.inl rfl))
    have HA := Lib.hid (show u.ownBlock = (Value.slice A7 L.length c7).ownBlock ∨ ∀ g, u.ownBlock = some g → w.heap.size ≤ g from ha.imp id (fun h g hg => Nat.le_trans hzA (h g hg)))
    clear ha hg
    go_wp2_with fail
    go_ret
    exact ⟨_, rfl, ho, HR.out, HA.out⟩
  · have k0 : ((K : Int) % 4 == 0) = false := by rw [beq_eq_false_iff_ne]; omega
    have k1 : ((K : Int) % 4 == 1) = false := by rw [beq_eq_false_iff_ne]; omega
    have k2 : ((K : Int) % 4 == 2) = true := by rw [beq_iff_eq]; omega
    have HP : Hid ((Th.mk K N A n c l).put = varint n ++ l) := by show _ = _; unfold Th.put; simp only; rw [if_neg (by omega), if_neg (by omega), if_pos h, HLN.out]
    have C := Lib.hid (blob_any A7 A L.length c7 n c L l wa hRL htr (by omega) (by omega))
    have HWA := Lib.hid hwa
    clear hown hownA hN ht hT h htr hTa hgA hRL
    go_enter Tryd.func25, Tryd.ntmps25
    go_wp2_with fail
    refine C.out.mono ?_
    rintro e w' ⟨u, rfl, ho, hbp⟩
    have HR := Lib.hid (show w.grownBy w' (Value.slice A7 L.length c7).ownBlock from grown_trans HGA.out (below_grown' hbp none) (Or.inr (fun g hg => by cases hg)))
    have HA := Lib.hid (show u.ownBlock = (Value.slice A7 L.length c7).ownBlock ∨ ∀ g, u.ownBlock = some g → w.heap.size ≤ g from Or.inr (fun g hg => Nat.le_trans hzA (ho.lt g hg).1))
    have HO := Lib.hid (show w'.ownsRow B 5 1 u (L ++ (Th.mk K N A n c l).put).length (bvs (L ++ (Th.mk K N A n c l).put)) by rw [HP.out]; exact own_mono ho hBA)
    clear ho hbp
    go_wp2_with fail
    go_ret
    exact ⟨_, rfl, HO.out, HR.out, HA.out⟩
  · have k0 : ((K : Int) % 4 == 0) = false := by rw [beq_eq_false_iff_ne]; omega
    have k1 : ((K : Int) % 4 == 1) = false := by rw [beq_eq_false_iff_ne]; omega
    have k2 : ((K : Int) % 4 == 2) = false := by rw [beq_eq_false_iff_ne]; omega
    have h4 : (l ++ be4 (crc l)).length = n + 4 := by rw [List.length_append, HLN.out]; rfl
    have HP : Hid ((Th.mk K N A n c l).put = varint (n + 4) ++ (l ++ be4 (crc l))) := by show _ = _; unfold Th.put; simp only; rw [if_neg (by omega), if_neg (by omega), if_neg (by omega), HLN.out]
    have C := Lib.hid (seal_any A n c l wa htr (by omega) hTa)
    have HWA := Lib.hid hwa
    have HRL := Lib.hid hRL
    have H4 := Lib.hid h4
    clear hown hownA hN ht hT h htr hTa hgA hRL h4
    go_enter Tryd.func25, Tryd.ntmps25
    go_wp2_with fail
    refine C.out.mono ?_
    rintro e w2 hp
    obtain ⟨A2, n2, c2, rfl, _, hc2, hd2, hb2⟩ := hp.str
    have hn2 := hd2.len
    rw [H4.out] at hn2
    subst hn2
    have C2 := Lib.hid (blob_any A7 A2 L.length c7 (n + 4) c2 L _ w2 ((HRL.out.below hb2).more hb2.size) hd2 (by omega) (by omega))
    clear hp hd2
    go_wp2_with fail
    refine C2.out.mono ?_
    rintro e w' ⟨u, rfl, ho2, hb3⟩
    have hbp : Below wa.heap.size wa w' := hb2.trans (hb3.mono hb2.size)
    have ho := own_mono (B := wa.heap.size) ho2 hb2.size
    clear hb2 hb3 ho2 C2 C
    have HR := Lib.hid (show w.grownBy w' (Value.slice A7 L.length c7).ownBlock from grown_trans HGA.out (below_grown' hbp none) (Or.inr (fun g hg => by cases hg)))
    have HA := Lib.hid (show u.ownBlock = (Value.slice A7 L.length c7).ownBlock ∨ ∀ g, u.ownBlock = some g → w.heap.size ≤ g from Or.inr (fun g hg => Nat.le_trans hzA (ho.lt g hg).1))
    have HO := Lib.hid (show w'.ownsRow B 5 1 u (L ++ (Th.mk K N A n c l).put).length (bvs (L ++ (Th.mk K N A n c l).put)) by rw [HP.out]; exact own_mono ho hBA)
    clear ho hbp
    go_wp2_with fail
    go_ret
    exact ⟨_, rfl, HO.out, HR.out, HA.out⟩
end Go.Proofs.YtbiglickijmmhaaDoor

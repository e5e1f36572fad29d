/-
  The contract of Uint behind bytes without room behind them: new memory, nothing else turns. No statement of the seat is proved here.
-/
import Derived.Test.YtggejecmhfafoaaGreatDoorUgo
import Derived.Test.YtggejecmhfafoaaGreatDoorSl
import Derived.ArgAppend
namespace Go.Proofs.YtggejecmhfafoaaGreatDoor
open Go.RowKit

/-- Bytes of one's own in new memory; nothing that was there has turned. -/
def New1 (w : World) (l : List UInt8) (e : Ending) (w' : World) : Prop := ∃ v', e = .returned v' ∧ w'.ownsRow w.heap.size 5 1 v' l.length (bvs l) ∧ w.grownBy w' none
set_option maxHeartbeats 800000 in
set_option maxRecDepth 100000 in
theorem uint_full (l : List UInt8) (b n : Nat) (w : World) (hn : n < 2 ^ 64) (hl : l.length ≤ 20000)
    (hc : ∀ j (h : j < l.length), w.cell? ⟨b, j, none⟩ = some (.int .u8 (l[j].toNat : Int))) :
    Calls Tryz.prog 36 #[.slice (some ⟨b, 0, none⟩) l.length l.length, .int .u64 (n : Int)] w (New1 w (l ++ varint n)) := by
  obtain ⟨i0, hi, hz0, hz1, hz2⟩ := info_parts info_u8
  have HN := Lib.hid hn
  have hten := varint_len_ten hn
  have HC : Hid (∀ o : Obj, ∀ b', some (⟨b, 0, none⟩ : Addr) = some b' → ∀ j u, (bvs l)[j]? = some u → (w.alloc o).cell? (b'.add j) = some u) := fun o b' hb' j u hu => by
    injection hb' with hb'
    subst hb'
    have hj : j < l.length := by
      have := (List.getElem?_eq_some_iff.1 hu).1
      rw [bvs_length] at this
      exact this
    rw [bvs_at l j hj] at hu
    injection hu with hu
    rw [Addr.add_lit, Nat.zero_add, ← hu]
    have h1 := hc j hj
    rw [← h1]
    exact World.cell?_alloc_lt w o _ (World.block_lt_of_cell? w _ h1)
  obtain ⟨L, HLL⟩ : ∃ L, Hid (l.length = L) := ⟨_, rfl⟩
  have hL : L ≤ 20000 := by have := HLL.out; omega
  clear hn hc
  rw [HLL.out]
  go_enter Tryz.func36, Tryz.ntmps36
  go_wp2
  go_loopw [0, 1] (fun u i wr => ∃ (m : Nat) (k : List UInt8), Hid (m < 2 ^ 64) ∧ i = .int .u64 (m : Int) ∧ Hid (k ++ varint m = l ++ varint n) ∧ ((u = .slice (some ⟨b, 0, none⟩) L L ∧ k = l ∧ wr = w) ∨ (wr.ownsRow w.heap.size 5 1 u k.length (bvs k) ∧ w.grownBy wr none)))
    (fun _ i _ => (intOf i).toNat)
  case atStart => exact ⟨n, l, HN, rfl, rfl, .inl ⟨rfl, rfl, rfl⟩⟩
  case round =>
    obtain ⟨m, k, hm, rfl, HE, hor⟩ := hrel
    have hk : k.length ≤ 20010 := by
      have h1 := congrArg List.length HE.out
      simp only [List.length_append] at h1
      omega
    rcases hor with ⟨rfl, rfl, rfl⟩ | ⟨ho, hgr⟩
    · clear hk
      by_cases hs : m < 128
      · go_wp2_with (at_builtin; refine wpList_append_grows _ rfl (.tmp 16) (.tmp 19) 28 rfl 5 i0 (.int .u8 0) 1 1 Tryz.underlying28 hi hz0 hz1 hz2 rfl (by omega) (some ⟨b, 0, none⟩) L L (bvs k) rfl (fun e => by cases e) (by rw [bvs_length, HLL.out, Nat.mul_one]) (HC.out _) ⟨wr.heap.size, 0, none⟩ 1 1 [.int .u8 (m : Int)] rfl rfl (cell_new _ _ _) (one_new _) (by omega) (by unfold maxLen; omega) (by omega) ?_; intro v1 w1 hown' hgrow)
        rw [← HLL.out] at hown'
        have hown2 := own_snoc (x := UInt8.ofNat m) (by rw [toNat_ofNat_lt (by omega)]) hown'
        have hg2 := grown_trans (World.grownBy_alloc wr (.cells #[.int .u8 (m : Int)] 5) none) hgrow (Or.inl rfl)
        clear hgrow hown'
        go_ret
        exact ⟨_, rfl, by rw [← HE.out, varint_small hs]; exact own_mono hown2 (by simp), hg2⟩
      · go_wp2_with (at_builtin; refine wpList_append_grows _ rfl (.tmp 7) (.tmp 12) 28 rfl 5 i0 (.int .u8 0) 1 1 Tryz.underlying28 hi hz0 hz1 hz2 rfl (by omega) (some ⟨b, 0, none⟩) L L (bvs k) rfl (fun e => by cases e) (by rw [bvs_length, HLL.out, Nat.mul_one]) (HC.out _) ⟨wr.heap.size, 0, none⟩ 1 1 [.int .u8 (128 + (m : Int) % 128)] rfl rfl (cell_new _ _ _) (one_new _) (by omega) (by unfold maxLen; omega) (by omega) ?_; intro v1 w1 hown' hgrow)
        rw [← HLL.out] at hown'
        have hown2 := own_snoc (x := UInt8.ofNat (128 + m % 128)) (by rw [toNat_ofNat_lt (by omega)]; omega) hown'
        have hg2 := grown_trans (World.grownBy_alloc wr (.cells #[.int .u8 (128 + (m : Int) % 128)] 5) none) hgrow (Or.inl rfl)
        clear hown' hgrow
        have HW := Lib.hid (wrap_seven hm.out)
        go_roundw
        case rel => exact ⟨m / 128, k ++ [UInt8.ofNat (128 + m % 128)], (show m / 128 < 2 ^ 64 from by have := hm.out; omega), by rw [HW.out], (by show (k ++ [UInt8.ofNat (128 + m % 128)]) ++ varint (m / 128) = k ++ varint n; rw [← HE.out, varint_big hs]; simp), .inr ⟨own_mono hown2 (by simp), hg2⟩⟩
        case measure =>
          show (intOf (.int .u64 (IntKind.u64.wrap ((m : Int) / 128)))).toNat < (intOf (.int .u64 (m : Int))).toNat
          rw [HW.out]
          simp only [intOf]
          omega
    · have hBr : w.heap.size ≤ wr.heap.size := hgr.size
      have HLT := Lib.hid (fun g hg => (ho.lt g hg).1)
      by_cases hs : m < 128
      · go_wp2_with (at_builtin; refine wpList_append_lies _ rfl (.tmp 16) (.tmp 19) 28 rfl w.heap.size 5 i0 (.int .u8 0) 1 1 Tryz.underlying28 hi hz0 hz1 hz2 rfl (by omega) _ _ _ rfl (ho.alloc _) ⟨wr.heap.size, 0, none⟩ 1 1 [.int .u8 (m : Int)] rfl rfl (cell_new _ _ _) (one_new _) (by omega) (by unfold maxLen; omega) (by omega) (by simp; omega) (wr.heap.size + 1) (by simp) ?_; intro g cap w1 hown' hgrow hat _)
        have hown2 := own_snoc (x := UInt8.ofNat m) (by rw [toNat_ofNat_lt (by omega)]) hown'
        have hg2 := grown_trans (grown_trans hgr (World.grownBy_alloc wr (.cells #[.int .u8 (m : Int)] 5) none) (Or.inl rfl)) hgrow (Or.inr HLT.out)
        clear hat hgrow hown'
        go_ret
        exact ⟨_, rfl, by rw [← HE.out, varint_small hs]; exact hown2, hg2⟩
      · go_wp2_with (at_builtin; refine wpList_append_lies _ rfl (.tmp 7) (.tmp 12) 28 rfl w.heap.size 5 i0 (.int .u8 0) 1 1 Tryz.underlying28 hi hz0 hz1 hz2 rfl (by omega) _ _ _ rfl (ho.alloc _) ⟨wr.heap.size, 0, none⟩ 1 1 [.int .u8 (128 + (m : Int) % 128)] rfl rfl (cell_new _ _ _) (one_new _) (by omega) (by unfold maxLen; omega) (by omega) (by simp; omega) (wr.heap.size + 1) (by simp) ?_; intro g cap w1 hown' hgrow hat _)
        have hown2 := own_snoc (x := UInt8.ofNat (128 + m % 128)) (by rw [toNat_ofNat_lt (by omega)]; omega) hown'
        have hg2 := grown_trans (grown_trans hgr (World.grownBy_alloc wr (.cells #[.int .u8 (128 + (m : Int) % 128)] 5) none) (Or.inl rfl)) hgrow (Or.inr HLT.out)
        clear hown' hgrow hat
        have HW := Lib.hid (wrap_seven hm.out)
        go_roundw
        case rel => exact ⟨m / 128, k ++ [UInt8.ofNat (128 + m % 128)], (show m / 128 < 2 ^ 64 from by have := hm.out; omega), by rw [HW.out], (by show (k ++ [UInt8.ofNat (128 + m % 128)]) ++ varint (m / 128) = l ++ varint n; rw [← HE.out, varint_big hs]; simp), .inr ⟨by rw [List.length_append]; rw [List.length_append] at hown2; exact hown2, hg2⟩⟩
        case measure =>
          show (intOf (.int .u64 (IntKind.u64.wrap ((m : Int) / 128)))).toNat < (intOf (.int .u64 (m : Int))).toNat
          rw [HW.out]
          simp only [intOf]
          omega
end Go.Proofs.YtggejecmhfafoaaGreatDoor

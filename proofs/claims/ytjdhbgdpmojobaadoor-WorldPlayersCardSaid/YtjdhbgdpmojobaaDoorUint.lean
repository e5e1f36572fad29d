/-
  The contracts of Uint, place and Int: what is put behind bytes. No statement of the seat is proved here.
-/
import Derived.Test.YtjdhbgdpmojobaaDoorPut
import Derived.Test.YtjdhbgdpmojobaaDoorVar
import Derived.Lib.Hide
namespace Go.Proofs.YtjdhbgdpmojobaaDoor
open Go.RowKit



theorem wrap_seven {m : Nat} (h : m < 2 ^ 64) : IntKind.u64.wrap ((m : Int) / 128) = ((m / 128 : Nat) : Int) := by
  rw [IntWalk.u64_in _ (by omega)]; omega

set_option maxHeartbeats 800000 in
set_option maxRecDepth 100000 in
theorem uint_any (B : Nat) (l : List UInt8) (n : Nat) (v : Value) (w : World) (hn : n < 2 ^ 64) (hB : B ≤ w.heap.size) (hl : l.length ≤ 20000)
    (hown : w.ownsRow B 5 1 v l.length (bvs l)) :
    Calls Tryd.prog 41 #[v, .int .u64 (n : Int)] w (Put B w (l ++ varint n)) := by
  obtain ⟨i0, hi, hz0, hz1, hz2⟩ := info_parts info_u8
  have HN := Lib.hid hn
  have hten := varint_len_ten hn
  clear hn
  go_enter Tryd.func41, Tryd.ntmps41
  go_wp2
  go_loopw [0, 1] (fun u i wr => ∃ (m : Nat) (k : List UInt8), Hid (m < 2 ^ 64) ∧ i = .int .u64 (m : Int) ∧ Hid (k ++ varint m = l ++ varint n) ∧ wr.ownsRow B 5 1 u k.length (bvs k) ∧ Below B w wr)
    (fun _ i _ => (intOf i).toNat)
  case atStart => exact ⟨n, l, HN, rfl, rfl, hown, Below.refl _ _⟩
  case round =>
    obtain ⟨m, k, hm, rfl, HE, ho, hb⟩ := hrel
    have hk : k.length ≤ 20010 := by
      have h1 := congrArg List.length HE.out
      simp only [List.length_append] at h1
      omega
    have hBr : B ≤ wr.heap.size := Nat.le_trans hB hb.size
    by_cases hs : m < 128
    · go_wp2_with (at_builtin; refine wpList_append_own _ rfl (.tmp 16) (.tmp 19) 47 rfl B 5 i0 (.int .u8 0) 1 1 Tryd.underlying47 hi hz0 hz1 hz2 rfl (by decide) _ _ _ rfl (ho.alloc _) ⟨wr.heap.size, 0, none⟩ 1 1 [.int .u8 (m : Int)] rfl rfl (cell_new _ _ _) (one_new _) (by unfold maxLen; omega) (by omega) (by simp; omega) ?_; intro v' w1 hown' hgrow _)
      have hown2 := own_snoc (x := UInt8.ofNat m) (by rw [toNat_ofNat_lt (by omega)]) hown'
      go_ret
      refine ⟨_, rfl, ?_, ?_⟩
      · rw [← HE.out, varint_small hs]; exact hown2
      · exact hb.trans (((Below.refl _ _).alloc hBr _).grown hgrow (by simp; omega) (fun g hg => (ho.lt g hg).1))
    · go_wp2_with (at_builtin; refine wpList_append_own _ rfl (.tmp 7) (.tmp 12) 47 rfl B 5 i0 (.int .u8 0) 1 1 Tryd.underlying47 hi hz0 hz1 hz2 rfl (by decide) _ _ _ rfl (ho.alloc _) ⟨wr.heap.size, 0, none⟩ 1 1 [.int .u8 (128 + (m : Int) % 128)] rfl rfl (cell_new _ _ _) (one_new _) (by unfold maxLen; omega) (by omega) (by simp; omega) ?_; intro v' w1 hown' hgrow _)
      have hown2 := own_snoc (x := UInt8.ofNat (128 + m % 128)) (by rw [toNat_ofNat_lt (by omega)]; omega) hown'
      have hb2 : Below B w w1 := hb.trans (((Below.refl _ _).alloc hBr _).grown hgrow (by simp; omega) (fun g hg => (ho.lt g hg).1))
      clear hown' hgrow
      have HW := Lib.hid (wrap_seven hm.out)
      go_roundw
      case rel => exact ⟨m / 128, k ++ [UInt8.ofNat (128 + m % 128)], (show m / 128 < 2 ^ 64 from by have := hm.out; omega), by rw [HW.out], (by show (k ++ [UInt8.ofNat (128 + m % 128)]) ++ varint (m / 128) = l ++ varint n; rw [← HE.out, varint_big hs]; simp), hown2, hb2⟩
      case measure =>
        show (intOf (.int .u64 (IntKind.u64.wrap ((m : Int) / 128)))).toNat < (intOf (.int .u64 (m : Int))).toNat
        rw [HW.out]
        simp only [intOf]
        omega

theorem uint_nil (n : Nat) (w : World) (hn : n < 2 ^ 64) : Calls Tryd.prog 41 #[.slice none 0 0, .int .u64 (n : Int)] w (Put w.heap.size w (varint n)) := by
  have := uint_any w.heap.size [] n (.slice none 0 0) w hn (Nat.le_refl _) (by simp) (World.ownsRow_nil _ _ _ _)
  simpa using this

end Go.Proofs.YtjdhbgdpmojobaaDoor

/-
  The contract of Uint, where rows of one's own stand side by side: nothing turns but its own and new memory. No statement of the seat is proved here.
-/
import Derived.Test.YtefopgdmadgheaaDoorUint
import Derived.Deep.AppendLies
namespace Go.Proofs.YtefopgdmadgheaaDoor
open Go.RowKit

/-- What a call leaves that puts bytes behind a value's own: nothing turns but that value's row and new memory. -/
def Gro (B : Nat) (w : World) (v : Value) (l : List UInt8) (e : Ending) (w' : World) : Prop :=
  ∃ v', e = .returned v' ∧ w'.ownsRow B 5 1 v' l.length (bvs l) ∧ w.grownBy w' v.ownBlock ∧ (v'.ownBlock = v.ownBlock ∨ ∀ g, v'.ownBlock = some g → w.heap.size ≤ g)
theorem grown_trans {w w1 w2 : World} {a b : Option Nat} (h1 : w.grownBy w1 a) (h2 : w1.grownBy w2 b) (hb : b = a ∨ ∀ g, b = some g → w.heap.size ≤ g) : w.grownBy w2 a :=
  ⟨h2.os.trans h1.os, h2.tape.trans h1.tape, h2.output.trans h1.output, Nat.le_trans h1.size h2.size, fun k hk hne =>
    (h2.block k (Nat.lt_of_lt_of_le hk h1.size) (fun e => by
      rcases hb with hb | hb
      · exact hne (e.trans hb)
      · have := hb k e.symm; omega)).trans (h1.block k hk hne)⟩
theorem below_grown' {w w' : World} (h : Below w.heap.size w w') (row : Option Nat) : w.grownBy w' row := ⟨h.os, h.tape, h.output, h.size, fun k hk _ => h.block k hk⟩
set_option maxHeartbeats 800000 in
set_option maxRecDepth 100000 in
theorem uint_gro (B : Nat) (l : List UInt8) (n : Nat) (v : Value) (w : World) (hn : n < 2 ^ 64) (hB : B ≤ w.heap.size) (hl : l.length ≤ 20000)
    (hown : w.ownsRow B 5 1 v l.length (bvs l)) :
    Calls Tryd.prog 21 #[v, .int .u64 (n : Int)] w (Gro B w v (l ++ varint n)) := by
  obtain ⟨i0, hi, hz0, hz1, hz2⟩ := info_parts info_u8
  have HN := Lib.hid hn
  have hten := varint_len_ten hn
  clear hn
  go_enter Tryd.func21, Tryd.ntmps21
  go_wp2
  go_loopw [0, 1] (fun u i wr => ∃ (m : Nat) (k : List UInt8), Hid (m < 2 ^ 64) ∧ i = .int .u64 (m : Int) ∧ Hid (k ++ varint m = l ++ varint n) ∧ wr.ownsRow B 5 1 u k.length (bvs k) ∧ w.grownBy wr v.ownBlock ∧ (u.ownBlock = v.ownBlock ∨ ∀ g, u.ownBlock = some g → w.heap.size ≤ g))
    (fun _ i _ => (intOf i).toNat)
  case atStart => exact ⟨n, l, HN, rfl, rfl, hown, World.grownBy.refl w _, Or.inl rfl⟩
  case round =>
    obtain ⟨m, k, hm, rfl, HE, ho, hgr, hat0⟩ := hrel
    have HAT0 := Lib.hid hat0
    clear hat0
    have hk : k.length ≤ 20010 := by
      have h1 := congrArg List.length HE.out
      simp only [List.length_append] at h1
      omega
    have hBr : B ≤ wr.heap.size := Nat.le_trans hB hgr.size
    by_cases hs : m < 128
    · go_wp2_with (at_builtin; refine wpList_append_lies _ rfl (.tmp 16) (.tmp 19) 31 rfl B 5 i0 (.int .u8 0) 1 1 Tryd.underlying31 hi hz0 hz1 hz2 rfl (by omega) _ _ _ rfl (ho.alloc _) ⟨wr.heap.size, 0, none⟩ 1 1 [.int .u8 (m : Int)] rfl rfl (cell_new _ _ _) (one_new _) (by omega) (by unfold maxLen; omega) (by omega) (by simp; omega) (wr.heap.size + 1) (by simp) ?_; intro g cap w1 hown' hgrow hat _)
      have hown2 := own_snoc (x := UInt8.ofNat m) (by rw [toNat_ofNat_lt (by omega)]) hown'
      have hat2 : (Value.slice (some ⟨g, 0, none⟩) (k.length + 1) cap).ownBlock = v.ownBlock ∨ ∀ g', (Value.slice (some ⟨g, 0, none⟩) (k.length + 1) cap).ownBlock = some g' → w.heap.size ≤ g' := by
        rcases hat with h | h
        · rw [show (Value.slice (some ⟨g, 0, none⟩) (k.length + 1) cap).ownBlock = some g from rfl, ← h]
          exact HAT0.out
        · right
          intro g' hg'
          injection hg' with hg'
          have : g' = g := hg'.symm
          have := hgr.size
          omega
      have HAT2 := Lib.hid hat2
      have hg2 : w.grownBy w1 v.ownBlock := grown_trans (grown_trans hgr (World.grownBy_alloc wr _ none) (Or.inr (fun g hg => by cases hg))) hgrow HAT0.out
      clear hat2 hat hgrow hown'
      go_ret
      exact ⟨_, rfl, by rw [← HE.out, varint_small hs]; exact hown2, hg2, HAT2.out⟩
    · go_wp2_with (at_builtin; refine wpList_append_lies _ rfl (.tmp 7) (.tmp 12) 31 rfl B 5 i0 (.int .u8 0) 1 1 Tryd.underlying31 hi hz0 hz1 hz2 rfl (by omega) _ _ _ rfl (ho.alloc _) ⟨wr.heap.size, 0, none⟩ 1 1 [.int .u8 (128 + (m : Int) % 128)] rfl rfl (cell_new _ _ _) (one_new _) (by omega) (by unfold maxLen; omega) (by omega) (by simp; omega) (wr.heap.size + 1) (by simp) ?_; intro g cap w1 hown' hgrow hat _)
      have hown2 := own_snoc (x := UInt8.ofNat (128 + m % 128)) (by rw [toNat_ofNat_lt (by omega)]; omega) hown'
      have hg2 : w.grownBy w1 v.ownBlock := grown_trans (grown_trans hgr (World.grownBy_alloc wr _ none) (Or.inr (fun g hg => by cases hg))) hgrow HAT0.out
      have hat2 : (Value.slice (some ⟨g, 0, none⟩) (k.length + 1) cap).ownBlock = v.ownBlock ∨ ∀ g', (Value.slice (some ⟨g, 0, none⟩) (k.length + 1) cap).ownBlock = some g' → w.heap.size ≤ g' := by
        rcases hat with h | h
        · rw [show (Value.slice (some ⟨g, 0, none⟩) (k.length + 1) cap).ownBlock = some g from rfl, ← h]
          exact HAT0.out
        · right
          intro g' hg'
          injection hg' with hg'
          have : g' = g := hg'.symm
          have := hgr.size
          omega
      have HAT2 := Lib.hid hat2
      clear hown' hgrow hat hat2
      have HW := Lib.hid (wrap_seven hm.out)
      go_roundw
      case rel => exact ⟨m / 128, k ++ [UInt8.ofNat (128 + m % 128)], (show m / 128 < 2 ^ 64 from by have := hm.out; omega), by rw [HW.out], (by show (k ++ [UInt8.ofNat (128 + m % 128)]) ++ varint (m / 128) = l ++ varint n; rw [← HE.out, varint_big hs]; simp), by rw [List.length_append]; rw [List.length_append] at hown2; exact hown2, hg2, HAT2.out⟩
      case measure =>
        show (intOf (.int .u64 (IntKind.u64.wrap ((m : Int) / 128)))).toNat < (intOf (.int .u64 (m : Int))).toNat
        rw [HW.out]
        simp only [intOf]
        omega

end Go.Proofs.YtefopgdmadgheaaDoor

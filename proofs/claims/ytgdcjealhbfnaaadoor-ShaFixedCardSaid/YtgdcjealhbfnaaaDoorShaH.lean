/-
  The contract of Hex: a hash as text. No statement of the seat is proved here.
-/
import Derived.Test.YtgdcjealhbfnaaaDoorShaS
import Derived.Deep.RegionHeld3
import Derived.StillTailTactics
import Derived.Deep.AppendLies
namespace Go.Proofs.YtgdcjealhbfnaaaDoor
open Go.RowKit

set_option maxRecDepth 100000 in
theorem run_index_bytes (w : World) (cs : Array Value) (i : Nat) (v : Value) (hi : i < 32) (hv : cs[i]? = some v) :
    (Instr.index 23 (.agg cs) (.int .i64 (i : Int))).run Tryd.prog w = .ok v w := by
  obtain ⟨i0, hi0, hz0, hz1, hz2⟩ := info_parts info_u8
  simp [Instr.index, asIntOf, run_underlying Tryd.underlying23, sizeOf, typeInfo, hi0, hz1, part, hi, hv]
/-- The digits as the program's text has them. -/
def hexText : ByteArray := ⟨#[48, 49, 50, 51, 52, 53, 54, 55, 56, 57, 97, 98, 99, 100, 101, 102]⟩
set_option maxRecDepth 100000 in
theorem hex_at (j : Fin 16) : hexText[j.val]? = some (hexDigit j.val) := by revert j; decide
set_option maxRecDepth 100000 in
theorem hex_get (j : Nat) (hj : j < 16) (hh : j < hexText.size) : hexText[j]'hh = hexDigit j := by
  have := hex_at ⟨j, hj⟩
  rw [ByteArray.getElem?_lt' hexText _ hh] at this
  exact Option.some.inj this

set_option maxRecDepth 100000 in
theorem hexB_length : ∀ h : List UInt8, (hexB h).length = 2 * h.length
  | [] => rfl
  | x :: h => by
    have := hexB_length h
    simp only [hexB, List.flatMap_cons, List.length_append, List.length_cons, List.length_nil] at *
    rw [this]
    omega
set_option maxRecDepth 100000 in
theorem hexB_snoc (h : List UInt8) (x : UInt8) : hexB (h ++ [x]) = hexB h ++ [hexDigit (x.toNat / 16), hexDigit (x.toNat % 16)] := by simp [hexB]

set_option maxHeartbeats 1600000 in
set_option maxRecDepth 100000 in
theorem hex_any (h : List UInt8) (w : World) (hl : h.length = 32) :
    Calls Tryd.prog 10 #[.agg (bcs h)] w fun e w' => e = .returned (.string ⟨(hexB h).toArray⟩) ∧ Below w.heap.size w w' := by
  have HL := Lib.hid hl
  clear hl
  have HA := Lib.hid (Arr.new w (bcs h) 23)
  go_enter Tryd.func10, Tryd.ntmps10
  go_wp2_with (refine wpList_load_row rfl _ _ rfl w.heap.size rfl _ _ _ _ HA.out Tryd.underlying23 rfl (by rw [bcs_size, HL.out]; kernel_rfl) ?_)
  go_loopw [3, 7] (fun u i wr => ∃ k : Nat, k ≤ 32 ∧ i = .int .i64 (k : Int) ∧ wr.ownsRow w.heap.size 5 1 u (hexB (h.take k)).length (bvs (hexB (h.take k))) ∧ Below w.heap.size w wr) (fun _ i _ => 32 - (intOf i).toNat)
  case atStart => exact ⟨0, by omega, rfl, World.ownsRow_nil _ _ _ _, (Below.refl _ _).alloc (Nat.le_refl _) _⟩
  case round =>
    clear HA
    obtain ⟨k, hk, rfl, ho, hbr⟩ := hrel
    have hz := hbr.size
    have HLK := Lib.hid (show (hexB (h.take k)).length ≤ 64 by rw [hexB_length, List.length_take, HL.out]; omega)
    by_cases hlt : k < 32
    · have hidx := fun W => run_index_bytes W (bcs h) k _ hlt (bcs_at h k (by rw [HL.out]; exact hlt))
      obtain ⟨x, HX⟩ : ∃ x, Unit → h.getD k 0 = x := ⟨_, fun _ => rfl⟩
      rw [HX ()] at hidx
      have hx : x.toNat < 256 := x.toNat_lt
      obtain ⟨m1, HM1⟩ : ∃ m, Unit → x.toNat / 16 = m := ⟨_, fun _ => rfl⟩
      obtain ⟨m2, HM2⟩ : ∃ m, Unit → x.toNat % 16 = m := ⟨_, fun _ => rfl⟩
      have l1 : m1 < 16 := by rw [← HM1 ()]; omega
      have l2 : m2 < 16 := by rw [← HM2 ()]; omega
      have e1 : IntKind.u8.wrap (m1 : Int) = (m1 : Int) := by rw [IntKind.wrap_u8]; omega
      have e2 : IntKind.u8.wrap (m2 : Int) = (m2 : Int) := by rw [IntKind.wrap_u8]; omega
      have e3 : (x.toNat : Int) / 16 = (m1 : Int) := by rw [← HM1 ()]; omega
      have e4 : (x.toNat : Int) % 16 = (m2 : Int) := by rw [← HM2 ()]; omega
      have e5 : (x.toNat : Int).tmod 16 = (m2 : Int) := by rw [← HM2 (), Int.tmod_eq_emod_of_nonneg (by omega)]; omega
      have e6 : (x.toNat : Int).tdiv 16 = (m1 : Int) := by rw [← HM1 (), Int.tdiv_eq_ediv_of_nonneg (by omega)]; omega
      have l3 : (m1 : Int) < 16 := by omega
      have l4 : (m2 : Int) < 16 := by omega
      have i1 := fun (hh : m1 < hexText.size) => hex_get m1 l1 hh
      have i2 := fun (hh : m2 < hexText.size) => hex_get m2 l2 hh
      unfold hexText at i1 i2
      have HN : Unit → hexB (h.take (k + 1)) = hexB (h.take k) ++ [hexDigit (x.toNat / 16), hexDigit (x.toNat % 16)] := fun _ => by
        rw [List.take_succ_eq_append_getElem (by rw [HL.out]; exact hlt), hexB_snoc, ← HX (), List.getD_eq_getElem?_getD, List.getElem?_eq_getElem (by rw [HL.out]; exact hlt)]
        rfl
      rw [HM1 (), HM2 ()] at HN
      generalize hexDigit m1 = d1 at *
      generalize hexDigit m2 = d2 at *
      go_wp2_with fail
      have HNW := fun W : World => World.news_of_block (cs := #[.int .u8 (d1.toNat : Int), .int .u8 (d2.toNat : Int)]) (t := 5) (fr := (0, 0)) (heap_alloc_last W (.cells #[.int .u8 (d1.toNat : Int), .int .u8 (d2.toNat : Int)] 5))
      obtain ⟨i0, hi0, hz0, hz1, hz2⟩ := info_parts info_u8
      go_region_held3 (fun _ => True) (exact True.intro) ((refine step_append_lies _ (by rfl) _ _ _ (by rfl) w.heap.size 5 i0 _ 1 1 Tryd.underlying22 hi0 hz0 hz1 hz2 rfl (by omega) u3 _ _ (by rfl) ((ho.alloc _).drew) ⟨wr.heap.size, 0, none⟩ 2 2 [.int .u8 (d1.toNat : Int), .int .u8 (d2.toNat : Int)] (by rfl) (by rfl) (HNW wr) (by simp [Value.oneCell']) (by omega) (by have := HLK.out; unfold maxLen; omega) (by have := HLK.out; omega) (by simp; omega) (wr.heap.size + 1) (by simp) ?_; intro gg cap w2 hown2 hgrow hat hlt2))
      all_goals
        have hown3 : w2.ownsRow w.heap.size 5 1 (.slice (some ⟨gg, 0, none⟩) ((hexB (h.take k)).length + 2) cap) (hexB (h.take (k + 1))).length (bvs (hexB (h.take (k + 1)))) := by
          rw [HN (), bvs_append, List.length_append]
          exact hown2
        have hB2 : Below w.heap.size w w2 := hbr.trans ((((Below.refl _ _).alloc hz _).drew).grown hgrow (by simp; omega) (fun g hg => (ho.lt g hg).1))
        clear hown2 hgrow ho hat HNW
        go_wp2_with fail
        go_roundw
        case rel => exact ⟨k + 1, by omega, by go_num, hown3, hB2⟩
        case measure => simp [intOf]; omega
    · have hge : decide ((k : Int) < 32) = false := by simp; omega
      have hk32 : h.take k = h := List.take_of_length_le (by rw [HL.out]; omega)
      rw [hk32] at ho
      obtain ⟨A, c, rfl, _, _⟩ := own_shape ho
      have hst := str_rule c (Rd.own ho)
      go_wp2_with fail
      go_ret
      exact ⟨rfl, hbr⟩
end Go.Proofs.YtgdcjealhbfnaaaDoor

/-
  Several texts in one: WdT, WdV, WdX, WdY, WdZ. No statement of the seat is proved here.
-/
import Derived.Test.YtjdhbgdpmojobaaDoorWdS
import Derived.Test.YtjdhbgdpmojobaaDoorUint
import Derived.Test.YtjdhbgdpmojobaaDoorSl
import Derived.Test.YtjdhbgdpmojobaaDoorWdU
import Derived.Test.YtjdhbgdpmojobaaDoorWdO
import Derived.Test.YtjdhbgdpmojobaaDoorChZ
import Derived.Test.YtjdhbgdpmojobaaDoorPik
import Derived.Maps.OwnOps
import Derived.Maps.OwnSet
import Derived.Maps.Views
namespace Go.Proofs.YtjdhbgdpmojobaaDoor
open Go.RowKit Go.Deep

/-- A world of nothing. -/
def nilD (size : Int) (sd : W64) : Wd := ⟨size, sd, 0, none, 0, 0, [], none, 0, 0, []⟩
theorem nilD_in (size : Int) (sd : W64) (w : World) : InW w (nilD size sd) := ⟨⟨⟨rfl, fun h => absurd h (by show ¬ 0 < 0; decide)⟩, rfl, fun C hC => absurd hC (List.not_mem_nil)⟩, ⟨⟨rfl, fun h => absurd h (by show ¬ 0 < 0; decide)⟩, rfl, fun C hC => absurd hC (List.not_mem_nil)⟩, by show 0 ≤ _; decide, by show 0 ≤ _; decide, fun C hC => absurd hC (List.not_mem_nil), fun C hC => absurd hC (List.not_mem_nil)⟩
theorem nilD_sz (size : Int) (sd : W64) : SzW (nilD size sd) := ⟨by show 0 ≤ _; decide, by show 0 ≤ _; decide, fun C hC => absurd hC (List.not_mem_nil), fun C hC => absurd hC (List.not_mem_nil)⟩
theorem nilD_rgt {size : Int} (sd : W64) : rgtW (nilD size sd).v = sizB size := by
  unfold rgtW rgtCs rgtPs nilD Wd.v
  dsimp only [List.map]
  rw [show decide (Rise []) = true from decide_eq_true (fun j h => absurd h (by show ¬ j + 1 < 0; omega))]
  simp
/-- Its bytes. -/
def nilB (size : Int) (sd : W64) : List UInt8 := varint size.toNat ++ varint sd.toNat ++ varint 0 ++ varint 0 ++ varint 0
section
variable {w w' : World}
theorem Below.u8 {B : Nat} {a b c : World} (h : Below B a b) (k : Below B b c) : Below B a c := h.trans k
set_option maxRecDepth 100000 in
set_option maxHeartbeats 3200000 in
theorem wbytes_nil (ht : ItT w) {size : Int} (h1 : 1 ≤ size) (h2 : size ≤ 16) (sd : W64) : Calls Tryd.prog 14 #[(nilD size sd).val] w fun e w' => ∃ A c, e = .returned (.tuple #[.slice A (nilB size sd).length c, .int .i64 0]) ∧ w'.ownsRow w.heap.size 5 1 (.slice A (nilB size sd).length c) (nilB size sd).length (bvs (nilB size sd)) ∧ Fr No w w' := by
  have hsb : sizB size = true := by unfold sizB; rw [decide_eq_true h1, decide_eq_true h2]; rfl
  have HRT : Hid (∀ W, Fr No w W → Calls Tryd.prog 8 #[(nilD size sd).val] W fun e w' => e = .returned (.bool true) ∧ Fr No W w') := Lib.hid (fun W hW => by
    have := wright_any (ht.no hW) (nilD_in size sd W)
    rw [nilD_rgt, hsb] at this
    exact this)
  have hn1 : size.toNat < 2 ^ 64 := by omega
  have hn2 : sd.toNat < 2 ^ 64 := sd.isLt
  obtain ⟨sn, rfl⟩ := Int.eq_ofNat_of_zero_le (show 0 ≤ size by omega)
  obtain ⟨dn, hdn⟩ : ∃ dn, sd.toNat = dn := ⟨_, rfl⟩
  have HBE : Hid (nilB (sn : Int) sd = ((([] ++ varint sn) ++ varint dn) ++ varint 0) ++ varint 0 ++ varint 0) := Lib.hid (by unfold nilB; rw [hdn, List.nil_append]; rfl)
  rw [hdn] at hn2
  have l1 := varint_len_ten (n := sn) (by omega)
  have l2 := varint_len_ten hn2
  have l3 := varint_len_ten (n := 0) (by decide)
  obtain ⟨BL, hBL⟩ : ∃ BL, nilB (sn : Int) sd = BL := ⟨_, rfl⟩
  rw [hBL] at HBE ⊢
  unfold nilD Wd.val u64v at HRT ⊢
  dsimp only at HRT ⊢
  rw [hdn] at HRT ⊢
  have HU : Hid (∀ (B : Nat) (l : List UInt8) (n : Nat) (v : Value) (W : World), n < 2 ^ 64 → B ≤ W.heap.size → l.length ≤ 20000 → W.ownsRow B 5 1 v l.length (bvs l) → Calls Tryd.prog 41 #[v, .int .u64 (n : Int)] W (Put B W (l ++ varint n))) := Lib.hid (fun B l n v W a b c d => uint_any B l n v W a b c d)
  have HL : Hid ((varint sn).length ≤ 10 ∧ (varint dn).length ≤ 10 ∧ (varint 0).length ≤ 10) := Lib.hid ⟨l1, l2, l3⟩
  have hw1 : IntKind.u64.wrap (sn : Int) = (sn : Int) := IntWalk.u64_in _ (by omega)
  have HSN : Hid (sn < 2 ^ 64 ∧ dn < 2 ^ 64) := Lib.hid ⟨by omega, hn2⟩
  clear ht hsb hn1 hn2 hdn hBL l1 l2 l3 h1 h2
  have hb0 := heap_alloc_new w (.cells #[.int .i64 (sn : Int), .int .u64 (dn : Int), .int .i64 0, .slice none 0 0, .slice none 0 0] 26)
  have HF0 := Lib.hid (Fr.alloc No w (.cells #[.int .i64 (sn : Int), .int .u64 (dn : Int), .int .i64 0, .slice none 0 0, .slice none 0 0] 26))
  go_enter Tryd.func14, Tryd.ntmps14
  go_upto_region 1 with fail
  obtain ⟨D, hD⟩ : ∃ D, w.heap.size = D := ⟨_, rfl⟩
  rw [hD] at hb0 ⊢
  clear hD
  generalize w.alloc (.cells #[.int .i64 (sn : Int), .int .u64 (dn : Int), .int .i64 0, .slice none 0 0, .slice none 0 0] 26) = wx at *
  obtain ⟨k0, k1, k2, k3, k4⟩ := cells5 hb0
  have HB0 := Lib.hid hb0
  clear hb0
  go_upto_region 3 with (go_at_call 8; refine (HRT.out _ HF0.out).mono ?_; rintro e w1 ⟨rfl, hf⟩; have HB1 := Lib.hid (blk_no hf HB0.out); have HF1 := Lib.hid (HF0.out.no_trans hf); clear hf k0 k1 k2 k3 k4)
  have HBW : Hid (D < w1.heap.size) := Lib.hid (Array.getElem?_eq_some_iff.1 HB1.out).1
  have HKP : Hid (∀ W, Below w1.heap.size w1 W → W.heap[D]? = some (.cells #[.int .i64 (sn : Int), .int .u64 (dn : Int), .int .i64 0, .slice none 0 0, .slice none 0 0] 26 (0, 0))) := Lib.hid (fun W h => (h.block D HBW.out).trans HB1.out)
  obtain ⟨k0, k1, k2, k3, k4⟩ := cells5 HB1.out
  clear HRT HB0 HF0
  go_upto_region 4 with (go_at_call 41; refine (HU.out w1.heap.size [] sn (.slice none 0 0) w1 HSN.out.1 (Nat.le_refl _) (by decide) (World.ownsRow_nil _ _ _ _)).mono ?_; rintro e w2 ⟨v2, rfl, ho, hb⟩; have HO2 := Lib.hid ho; have HW2 := Lib.hid hb; clear ho hb k0 k1 k2 k3 k4)
  obtain ⟨k0, k1, k2, k3, k4⟩ := cells5 (HKP.out _ HW2.out)
  go_upto_region 5 with (go_at_call 41; refine (HU.out w1.heap.size ([] ++ varint sn) dn v2 w2 HSN.out.2 HW2.out.size (by have := HL.out; simp only [List.length_append, List.length_nil]; omega) HO2.out).mono ?_; rintro e w3 ⟨v3, rfl, ho, hb⟩; have HO3 := Lib.hid ho; have HW3 := Lib.hid (HW2.out.trans hb); clear ho hb k0 k1 k2 k3 k4)
  obtain ⟨k0, k1, k2, k3, k4⟩ := cells5 (HKP.out _ HW3.out)
  go_upto_region 6 with (go_at_call 41; refine (HU.out w1.heap.size (([] ++ varint sn) ++ varint dn) 0 v3 w3 (by decide) HW3.out.size (by have := HL.out; simp only [List.length_append, List.length_nil]; omega) HO3.out).mono ?_; rintro e w4 ⟨v4, rfl, ho, hb⟩; have HO4 := Lib.hid ho; have HW4 := Lib.hid (HW3.out.trans hb); clear ho hb k0 k1 k2 k3 k4)
  obtain ⟨k0, k1, k2, k3, k4⟩ := cells5 (HKP.out _ HW4.out)
  go_upto_region 7 with (go_at_call 41; refine (HU.out w1.heap.size ((([] ++ varint sn) ++ varint dn) ++ varint 0) 0 v4 w4 (by decide) HW4.out.size (by have := HL.out; simp only [List.length_append, List.length_nil]; omega) HO4.out).mono ?_; rintro e w5 ⟨v5, rfl, ho, hb⟩; have HO5 := Lib.hid ho; have HW5 := Lib.hid (HW4.out.trans hb); clear ho hb k0 k1 k2 k3 k4)
  obtain ⟨k0, k1, k2, k3, k4⟩ := cells5 (HKP.out _ HW5.out)
  clear HO2 HO3 HO4 HW2 HW3 HW4
  go_wp2_with fail
  go_loopw [4, 36] (fun o4 v36 wr => o4 = v5 ∧ v36 = .int .i64 0 ∧ wr = w5) (fun _ _ _ => 0)
  case atStart => exact ⟨rfl, rfl, rfl⟩
  case round =>
    obtain ⟨rfl, rfl, rfl⟩ := hrel
    go_upto_region 14 with (go_at_call 41; refine (HU.out w1.heap.size (((([] ++ varint sn) ++ varint dn) ++ varint 0) ++ varint 0) 0 _ _ (by decide) HW5.out.size (by have := HL.out; simp only [List.length_append, List.length_nil]; omega) HO5.out).mono ?_; rintro e w6 ⟨v6, rfl, ho, hb⟩; have HO6 := Lib.hid ho; have HW6 := Lib.hid (HW5.out.trans hb); clear ho hb k0 k1 k2 k3 k4)
    obtain ⟨k0, k1, k2, k3, k4⟩ := cells5 (HKP.out _ HW6.out)
    have ho := HO6.out
    rw [← HBE.out] at ho
    obtain ⟨A, c, rfl, _⟩ := own_slice ho
    have HEND : Hid ((w6.ownsRow w.heap.size 5 1 (.slice A BL.length c) BL.length (bvs BL)) ∧ Fr No w w6) := Lib.hid ⟨own_low ho HF1.out.size, HF1.out.no_trans (Fr.of_below HW6.out)⟩
    clear ho HO6 HO5 HW5
    go_wp2_with fail
    go_loopw [4, 59] (fun o4 v59 wr => o4 = .slice A BL.length c ∧ v59 = .int .i64 0 ∧ wr = w6) (fun _ _ _ => 0)
    case atStart => exact ⟨rfl, rfl, rfl⟩
    case round =>
      obtain ⟨rfl, rfl, rfl⟩ := hrel
      go_wp2_with fail
      refine bodyPost_ret (results_tmp2 rfl _ _ _) rfl ?_
      exact ⟨A, c, rfl, HEND.out.1, HEND.out.2⟩
set_option maxRecDepth 100000 in
theorem weq_yes {A A' : Option Addr} {n n' c c' : Nat} {l : List UInt8} (h : Rd w w.heap.size A n l) (h' : Rd w w.heap.size A' n' l) : Calls Tryd.prog 16 #[.slice A n c, .slice A' n' c'] w fun e w' => e = .returned (.bool true) ∧ Fr No w w' := by
  have H1 := Lib.hid (str_rule c h)
  have H2 := Lib.hid (str_rule c' h')
  clear h h'
  go_enter Tryd.func16, Tryd.ntmps16
  go_wp2_with (first | rw [H1.out] | rw [H2.out])
  go_ret
  exact ⟨rfl, Fr.refl _ _⟩
set_option maxRecDepth 100000 in
set_option maxHeartbeats 6400000 in
theorem first_walk (ht : ItT w) (size : Int) (sd : W64) {x y : Int} (hx : x ≤ 9223372036854775807) (hy : y ≤ 9223372036854775807) : Calls Tryd.prog 4 #[.int .i64 size, u64v sd, .agg #[.int .i64 x, .int .i64 y]] w fun e w' => e = .returned (.bool true) ∧ Fr No w w' := by
  have HNEW := Lib.hid (fun W => wnew_any size sd W)
  have HAW := Lib.hid (fun W (hW : Fr No w W) => wawake_any (ht.no hW))
  obtain ⟨SV, hSV⟩ : ∃ SV, (sd.toNat : Int) = SV := ⟨_, rfl⟩
  have HSV := Lib.hid hSV
  have hb0 := heap_alloc_new w (.cells #[.int .i64 x, .int .i64 y] 45)
  have HF0 := Lib.hid (Fr.alloc No w (.cells #[.int .i64 x, .int .i64 y] 45))
  have g0 := (blk_cell hb0 0).trans (by simp : _ = some (.int .i64 x))
  have g1 := (blk_cell hb0 1).trans (by simp : _ = some (.int .i64 y))
  have d0 : (w.alloc (.cells #[.int .i64 x, .int .i64 y] 45)).drew.cell? ⟨w.heap.size, 0, none⟩ = some (.int .i64 x) := g0
  have d1 : (w.alloc (.cells #[.int .i64 x, .int .i64 y] 45)).drew.cell? ⟨w.heap.size, 1, none⟩ = some (.int .i64 y) := g1
  clear hb0
  by_cases hs : 1 ≤ size ∧ size ≤ 16
  · have hsb : sizB size = true := by unfold sizB; rw [decide_eq_true hs.1, decide_eq_true hs.2]; rfl
    rw [hsb, if_pos rfl] at HNEW
    have HBY := Lib.hid (fun W (hW : Fr No w W) => wbytes_nil (ht.no hW) hs.1 hs.2 sd)
    have HRT : Hid (∀ W, Fr No w W → Calls Tryd.prog 8 #[(nilD size sd).val] W fun e w' => e = .returned (.bool true) ∧ Fr No W w') := Lib.hid (fun W hW => by
      have := wright_any (ht.no hW) (nilD_in size sd W)
      rw [nilD_rgt, hsb] at this
      exact this)
    have HPL : Hid (∀ W, Calls Tryd.prog 18 #[(nilD size sd).val, .int .i64 0] W fun e w' => e = .returned (.tuple #[.agg #[.int .i64 0, .int .i64 0, .int .i64 0, .slice none 0 0, .int .i64 0, .slice none 0 0, .bool false], .bool false]) ∧ Fr No W w') := Lib.hid (fun W => (wplayer_any (nilD_in size sd W) (nilD_sz size sd) 0).mono (fun e w' h => by
      rcases h with ⟨p, Q, hm, _⟩ | ⟨_, h2⟩
      · exact absurd hm (List.not_mem_nil)
      · exact h2))
    have hR : RgtW (nilD size sd).v := rgtW_iff.1 (by rw [nilD_rgt]; exact hsb)
    have HCELL := Lib.hid (fun W => gcell_any sd x y W)
    have HAI : Hid ((0 ≤ x ∧ 0 ≤ y ∧ x < 8 * size ∧ y < 8 * size) → ∀ W, Fr No w W → Calls Tryd.prog 15 #[(nilD size sd).val, .int .i64 x, .int .i64 y] W fun e w' => e = .returned (.tuple #[.int .u8 (cellZ sd x y : Int), .bool true]) ∧ Fr No W w') := Lib.hid (fun hin W hW => by
      obtain ⟨a, rfl⟩ := Int.eq_ofNat_of_zero_le hin.1
      obtain ⟨b, rfl⟩ := Int.eq_ofNat_of_zero_le hin.2.1
      refine (wat_in (d := nilD size sd) (a := a) (b := b) (ht.no hW) (nilD_in size sd W) hR hin.2.2.1 hin.2.2.2).mono ?_
      rintro e w' ⟨c, i, h1, h2, h3, h4⟩
      rcases h2 with ⟨hm, _⟩ | ⟨_, rfl⟩
      · exact absurd hm (List.not_mem_nil)
      · have h3' : (cellsL sd ((a / 8 : Nat) : Int).toNat ((b / 8 : Nat) : Int).toNat)[b % 8 * 8 + a % 8]? = some i := h3
        rw [cellsL_at _ _ _ (by omega)] at h3'
        injection h3' with h3'
        refine ⟨?_, h4⟩
        rw [h1, ← h3', Int.toNat_natCast, Int.toNat_natCast, show a / 8 * 8 + (b % 8 * 8 + a % 8) % 8 = a by omega, show b / 8 * 8 + (b % 8 * 8 + a % 8) / 8 = b by omega]
        have : cellZ sd (a : Int) (b : Int) = cellN sd a b := by unfold cellZ; rw [if_pos ⟨by omega, by omega, by omega, by omega⟩, Int.toNat_natCast, Int.toNat_natCast]
        rw [this])
    have HAO : Hid (¬ (0 ≤ x ∧ 0 ≤ y ∧ x < 8 * size ∧ y < 8 * size) → ∀ W, Fr No w W → Calls Tryd.prog 15 #[(nilD size sd).val, .int .i64 x, .int .i64 y] W fun e w' => e = .returned (.tuple #[.int .u8 0, .bool false]) ∧ Fr No W w') := Lib.hid (fun ho W hW => wat_out (d := nilD size sd) (ht.no hW) (nilD_in size sd W) hR hx hy ho)
    have hw8 : IntKind.i64.wrap (8 * size) = 8 * size := by rw [IntKind.wrap_i64]; omega
    obtain ⟨CZ, hCZ⟩ : ∃ CZ, (cellZ sd x y : Int) = CZ := ⟨_, rfl⟩
    rw [hCZ] at HCELL HAI
    obtain ⟨BL, hBL⟩ : ∃ BL, nilB size sd = BL := ⟨_, rfl⟩
    rw [hBL] at HBY
    unfold nilD at HBY HRT HPL HAI HAO
    unfold Wd.val u64v at HBY HRT HPL HAI HAO HNEW
    unfold u64v at HCELL ⊢
    dsimp only at HBY HRT HPL HAI HAO HNEW HCELL
    rw [hSV] at HBY HRT HPL HAI HAO HNEW HCELL ⊢
    have hs0 : size ≥ 1 := hs.1
    have hs1 := hs.2
    clear hsb hR hSV hCZ hBL ht hx hy hs
    go_enter Tryd.func4, Tryd.ntmps4
    go_upto_region 1 with fail
    go_quiet (fail)
    go_upto_region 3 with (go_at_call 13; refine (HNEW.out _).mono ?_; rintro e w1 ⟨rfl, hf⟩; have HF1 := Lib.hid ((HF0.out.no_trans (Fr.drewN No _ _)).no_trans hf); clear hf g0 g1 d0 d1)
    have hbA := heap_alloc_new w1 (.cells #[.int .i64 size, .int .u64 SV, .int .i64 0, .slice none 0 0, .slice none 0 0] 26)
    have hfA := Fr.alloc No w1 (.cells #[.int .i64 size, .int .u64 SV, .int .i64 0, .slice none 0 0, .slice none 0 0] 26)
    obtain ⟨EA, hEA⟩ : ∃ E, w1.heap.size = E := ⟨_, rfl⟩
    rw [hEA] at hbA ⊢
    clear hEA
    have HBA := Lib.hid hbA
    have HFA := Lib.hid (HF1.out.no_trans hfA)
    generalize w1.alloc (.cells #[.int .i64 size, .int .u64 SV, .int .i64 0, .slice none 0 0, .slice none 0 0] 26) = wA at *
    clear hbA hfA HF1 HF0
    go_upto_region 4 with (go_at_call 13; refine (HNEW.out _).mono ?_; rintro e w2 ⟨rfl, hf⟩; have HF2 := Lib.hid hf; clear hf)
    have hbC := heap_alloc_new w2 (.cells #[.int .i64 size, .int .u64 SV, .int .i64 0, .slice none 0 0, .slice none 0 0] 26)
    have hfC := Fr.alloc No w2 (.cells #[.int .i64 size, .int .u64 SV, .int .i64 0, .slice none 0 0, .slice none 0 0] 26)
    obtain ⟨EC, hEC⟩ : ∃ E, w2.heap.size = E := ⟨_, rfl⟩
    rw [hEC] at hbC ⊢
    clear hEC
    have hALL : Hid (∀ W, Fr No (w2.alloc (.cells #[.int .i64 size, .int .u64 SV, .int .i64 0, .slice none 0 0, .slice none 0 0] 26)) W → (W.cell? ⟨EA, 0, none⟩ = some (.int .i64 size) ∧ W.cell? ⟨EA, 1, none⟩ = some (.int .u64 SV) ∧ W.cell? ⟨EA, 2, none⟩ = some (.int .i64 0) ∧ W.cell? ⟨EA, 3, none⟩ = some (.slice none 0 0) ∧ W.cell? ⟨EA, 4, none⟩ = some (.slice none 0 0)) ∧ (W.cell? ⟨EC, 0, none⟩ = some (.int .i64 size) ∧ W.cell? ⟨EC, 1, none⟩ = some (.int .u64 SV) ∧ W.cell? ⟨EC, 2, none⟩ = some (.int .i64 0) ∧ W.cell? ⟨EC, 3, none⟩ = some (.slice none 0 0) ∧ W.cell? ⟨EC, 4, none⟩ = some (.slice none 0 0))) := Lib.hid (fun W hW => ⟨cells5 (blk_no ((HF2.out.no_trans hfC).no_trans hW) HBA.out), cells5 (blk_no hW hbC)⟩)
    have HFC := Lib.hid (HFA.out.no_trans (HF2.out.no_trans hfC))
    generalize w2.alloc (.cells #[.int .i64 size, .int .u64 SV, .int .i64 0, .slice none 0 0, .slice none 0 0] 26) = wC at *
    clear hbC hfC HBA HFA HF2
    obtain ⟨⟨k0, k1, k2, k3, k4⟩, ⟨j0, j1, j2, j3, j4⟩⟩ := hALL.out _ (Fr.refl No wC)
    go_upto_region 9 with (go_at_call 14; refine (HBY.out _ HFC.out).mono ?_; rintro e w3 ⟨A3, c3, rfl, ho, hf⟩; have HO3 := Lib.hid ho; have HF3 := Lib.hid hf; clear ho hf k0 k1 k2 k3 k4 j0 j1 j2 j3 j4)
    obtain ⟨⟨k0, k1, k2, k3, k4⟩, ⟨j0, j1, j2, j3, j4⟩⟩ := hALL.out _ HF3.out
    go_upto_region 10 with (go_at_call 14; refine (HBY.out _ (HFC.out.no_trans HF3.out)).mono ?_; rintro e w4 ⟨A4, c4, rfl, ho, hf⟩; have HO4 := Lib.hid ho; have HO3' := Lib.hid (own_no HO3.out hf); have HF4 := Lib.hid (HF3.out.no_trans hf); clear ho hf k0 k1 k2 k3 k4 j0 j1 j2 j3 j4)
    obtain ⟨⟨k0, k1, k2, k3, k4⟩, ⟨j0, j1, j2, j3, j4⟩⟩ := hALL.out _ HF4.out
    clear HO3
    by_cases hin : 0 ≤ x ∧ 0 ≤ y ∧ x < 8 * size ∧ y < 8 * size
    · have HAT := Lib.hid (HAI.out hin)
      obtain ⟨hx0, hy0, hx1, hy1⟩ := hin
      have hx0' : x ≥ 0 := hx0
      have hy0' : y ≥ 0 := hy0
      clear HAI HAO
      go_upto_region 11 with (go_at_call 15; refine (HAT.out _ (HFC.out.no_trans HF4.out)).mono ?_; rintro e w5 ⟨rfl, hf⟩; have HF5 := Lib.hid (HF4.out.no_trans hf); have HEQ := Lib.hid (fun W (hW : Fr No w5 W) => weq_yes (c := c3) (c' := c4) (Rd.own (own_no HO3'.out (hf.no_trans hW))) (Rd.own (own_no HO4.out (hf.no_trans hW)))); clear hf k0 k1 k2 k3 k4 j0 j1 j2 j3 j4)
      obtain ⟨⟨k0, k1, k2, k3, k4⟩, ⟨j0, j1, j2, j3, j4⟩⟩ := hALL.out _ HF5.out
      go_upto_region 15 with (first
        | (go_at_call 16; refine (HEQ.out _ (Fr.refl No _)).mono ?_; rintro e w6 ⟨rfl, hf⟩; have HF6 := Lib.hid (HF5.out.no_trans hf); clear hf)
        | (go_at_call 17; refine (HCELL.out _).mono ?_; rintro e w7 ⟨rfl, hf⟩; have HFL := Lib.hid (HF6.out.no_trans hf); clear hf k0 k1 k2 k3 k4 j0 j1 j2 j3 j4; obtain ⟨⟨k0, k1, k2, k3, k4⟩, ⟨j0, j1, j2, j3, j4⟩⟩ := hALL.out _ HFL.out)
        | (go_at_call 18; refine (HPL.out _).mono ?_; rintro e w8 ⟨rfl, hf⟩; have HF8 := Lib.hid ((HFL.out.no_trans hf).no_trans (Fr.alloc No _ (.cells #[.int .i64 0, .int .i64 0, .int .i64 0, .slice none 0 0, .int .i64 0, .slice none 0 0, .bool false] 35))); clear hf k0 k1 k2 k3 k4 j0 j1 j2 j3 j4))
      obtain ⟨⟨k0, k1, k2, k3, k4⟩, ⟨j0, j1, j2, j3, j4⟩⟩ := hALL.out _ HF8.out
      go_wp2_with (first
        | (go_at_call 8; refine (HRT.out _ (HFC.out.no_trans HF8.out)).mono ?_; rintro e w9 ⟨rfl, hf⟩; have HF9 := Lib.hid (HF8.out.no_trans hf); clear hf)
        | (go_at_call 9; refine (HAW.out _ (HFC.out.no_trans HF9.out)).mono ?_; rintro e w10 ⟨rfl, hf⟩; have HF10 := Lib.hid (HF9.out.no_trans hf); clear hf))
      go_ret
      exact ⟨rfl, HFC.out.no_trans HF10.out⟩
    · have HAT := Lib.hid (HAO.out hin)
      clear HAI HAO
      go_upto_region 11 with (go_at_call 15; refine (HAT.out _ (HFC.out.no_trans HF4.out)).mono ?_; rintro e w5 ⟨rfl, hf⟩; have HF5 := Lib.hid (HF4.out.no_trans hf); have HEQ := Lib.hid (fun W (hW : Fr No w5 W) => weq_yes (c := c3) (c' := c4) (Rd.own (own_no HO3'.out (hf.no_trans hW))) (Rd.own (own_no HO4.out (hf.no_trans hW)))); clear hf k0 k1 k2 k3 k4 j0 j1 j2 j3 j4)
      obtain ⟨⟨k0, k1, k2, k3, k4⟩, ⟨j0, j1, j2, j3, j4⟩⟩ := hALL.out _ HF5.out
      go_cut [19] from 81 to 99 (fun v19 wz => v19 = .bool false ∧ wz = w5)
      case first =>
        by_cases q1 : 0 ≤ x
        · have q1' : x ≥ 0 := q1
          by_cases q2 : 0 ≤ y
          · have q2' : y ≥ 0 := q2
            by_cases q3 : x < 8 * size
            · have q4 : ¬ y < 8 * size := fun h => hin ⟨q1, q2, q3, h⟩
              go_wp2_with fail
              go_meet
              exact ⟨rfl, rfl⟩
            · go_wp2_with fail
              go_meet
              exact ⟨rfl, rfl⟩
          · have q2' : ¬ y ≥ 0 := q2
            go_wp2_with fail
            go_meet
            exact ⟨rfl, rfl⟩
        · have q1' : ¬ x ≥ 0 := q1
          go_wp2_with fail
          go_meet
          exact ⟨rfl, rfl⟩
      case rest =>
      obtain ⟨rfl, rfl⟩ := hcut
      go_upto_region 15 with (first
        | (go_at_call 16; refine (HEQ.out _ (Fr.refl No _)).mono ?_; rintro e w6 ⟨rfl, hf⟩; have HFL := Lib.hid (HF5.out.no_trans hf); clear hf k0 k1 k2 k3 k4 j0 j1 j2 j3 j4; obtain ⟨⟨k0, k1, k2, k3, k4⟩, ⟨j0, j1, j2, j3, j4⟩⟩ := hALL.out _ HFL.out)
        | (go_at_call 18; refine (HPL.out _).mono ?_; rintro e w8 ⟨rfl, hf⟩; have HF8 := Lib.hid ((HFL.out.no_trans hf).no_trans (Fr.alloc No _ (.cells #[.int .i64 0, .int .i64 0, .int .i64 0, .slice none 0 0, .int .i64 0, .slice none 0 0, .bool false] 35))); clear hf k0 k1 k2 k3 k4 j0 j1 j2 j3 j4))
      obtain ⟨⟨k0, k1, k2, k3, k4⟩, ⟨j0, j1, j2, j3, j4⟩⟩ := hALL.out _ HF8.out
      go_wp2_with (first
        | (go_at_call 8; refine (HRT.out _ (HFC.out.no_trans HF8.out)).mono ?_; rintro e w9 ⟨rfl, hf⟩; have HF9 := Lib.hid (HF8.out.no_trans hf); clear hf)
        | (go_at_call 9; refine (HAW.out _ (HFC.out.no_trans HF9.out)).mono ?_; rintro e w10 ⟨rfl, hf⟩; have HF10 := Lib.hid (HF9.out.no_trans hf); clear hf))
      go_ret
      exact ⟨rfl, HFC.out.no_trans HF10.out⟩
  · have hsb : sizB size = false := by
      unfold sizB
      cases h1 : decide (1 ≤ size) with
      | false => rfl
      | true => cases h2 : decide (size ≤ 16) with
        | false => rfl
        | true => exact absurd ⟨of_decide_eq_true h1, of_decide_eq_true h2⟩ hs
    rw [hsb, if_neg (by decide)] at HNEW
    have HRT : Hid (∀ W, Fr No w W → Calls Tryd.prog 8 #[(nilD 0 0#64).val] W fun e w' => e = .returned (.bool false) ∧ Fr No W w') := Lib.hid (fun W hW => by
      have := wright_any (ht.no hW) (nilD_in 0 0#64 W)
      rw [nilD_rgt, show sizB 0 = false from rfl] at this
      exact this)
    unfold nilD at HRT
    unfold Wd.val u64v at HRT HNEW
    unfold u64v
    dsimp only at HRT HNEW
    rw [hSV] at HNEW ⊢
    rw [show (((0#64 : W64).toNat : Nat) : Int) = 0 from rfl] at HRT HNEW
    clear hsb hSV ht hx hy
    have hgs : ¬ (size ≥ 1 ∧ size ≤ 16) := hs
    go_enter Tryd.func4, Tryd.ntmps4
    go_upto_region 1 with fail
    go_quiet (fail)
    go_upto_region 3 with (go_at_call 13; refine (HNEW.out _).mono ?_; rintro e w1 ⟨rfl, hf⟩; have HF1 := Lib.hid ((HF0.out.no_trans (Fr.drewN No _ _)).no_trans hf); clear hf g0 g1 d0 d1)
    have hbA := heap_alloc_new w1 (.cells #[.int .i64 0, .int .u64 0, .int .i64 0, .slice none 0 0, .slice none 0 0] 26)
    have hfA := Fr.alloc No w1 (.cells #[.int .i64 0, .int .u64 0, .int .i64 0, .slice none 0 0, .slice none 0 0] 26)
    obtain ⟨EA, hEA⟩ : ∃ E, w1.heap.size = E := ⟨_, rfl⟩
    rw [hEA] at hbA ⊢
    clear hEA
    have HBA := Lib.hid hbA
    have HFA := Lib.hid (HF1.out.no_trans hfA)
    generalize w1.alloc (.cells #[.int .i64 0, .int .u64 0, .int .i64 0, .slice none 0 0, .slice none 0 0] 26) = wA at *
    clear hbA hfA HF1 HF0
    go_upto_region 4 with (go_at_call 13; refine (HNEW.out _).mono ?_; rintro e w2 ⟨rfl, hf⟩; have HF2 := Lib.hid (hf.no_trans (Fr.alloc No w2 (.cells #[.int .i64 0, .int .u64 0, .int .i64 0, .slice none 0 0, .slice none 0 0] 26))); clear hf)
    obtain ⟨k0, k1, k2, k3, k4⟩ := cells5 (blk_no HF2.out HBA.out)
    have HFC := Lib.hid (HFA.out.no_trans HF2.out)
    by_cases q1 : size ≥ 1
    · have q2 : ¬ size ≤ 16 := fun h => hgs ⟨q1, h⟩
      clear hgs hs
      go_wp2_with (first
        | (go_at_call 8; refine (HRT.out _ HFC.out).mono ?_; rintro e w9 ⟨rfl, hf⟩; have HF9 := Lib.hid (HFC.out.no_trans hf); clear hf)
        | (go_at_call 9; refine (HAW.out _ HF9.out).mono ?_; rintro e w10 ⟨rfl, hf⟩; have HF10 := Lib.hid (HF9.out.no_trans hf); clear hf))
      go_ret
      exact ⟨rfl, HF10.out⟩
    · clear hgs hs
      go_wp2_with (first
        | (go_at_call 8; refine (HRT.out _ HFC.out).mono ?_; rintro e w9 ⟨rfl, hf⟩; have HF9 := Lib.hid (HFC.out.no_trans hf); clear hf)
        | (go_at_call 9; refine (HAW.out _ HF9.out).mono ?_; rintro e w10 ⟨rfl, hf⟩; have HF10 := Lib.hid (HF9.out.no_trans hf); clear hf))
      go_ret
      exact ⟨rfl, HF10.out⟩
theorem first_call (ht : ItT w) (size : Int) {a : Int} (h0 : 0 ≤ a) (h1 : a ≤ 18446744073709551615) {x y : Int} (hx : x ≤ 9223372036854775807) (hy : y ≤ 9223372036854775807) : Calls Tryd.prog 4 #[.int .i64 size, .int .u64 a, .agg #[.int .i64 x, .int .i64 y]] w fun e w' => e = .returned (.bool true) ∧ Below w.heap.size w w' := by
  obtain ⟨s, rfl⟩ := w64_of h0 h1
  exact (first_walk ht size s hx hy).mono fun e w' ⟨h1, h2⟩ => ⟨h1, h2.noBelow⟩
end
end Go.Proofs.YtjdhbgdpmojobaaDoor
namespace Go.Proofs.YtjdhbgdpmojobaaDoor
open Go.RowKit Go.Deep

section
variable {α : Type} {key : α → Int} {l N N' : List α} {t t' : Int}
theorem filt2 (p q r : α → Bool) (h : ∀ x, (p x && q x) = r x) : (l.filter q).filter p = l.filter r := by
  rw [List.filter_filter]
  exact List.filter_congr (fun x _ => h x)
theorem filt_all (p : α → Bool) (h : ∀ x ∈ l, p x = true) : l.filter p = l := List.filter_eq_self.2 h
theorem filt_none (p : α → Bool) (h : ∀ x ∈ l, p x = false) : l.filter p = [] := List.filter_eq_nil_iff.2 (fun x hx => by rw [h x hx]; exact Bool.false_ne_true)
theorem putL_two (hN : ∀ x ∈ N, key x = t) (hN' : ∀ x ∈ N', key x = t') (hlt : t < t') : putL key (putL key l t N) t' N' = putL key (putL key l t' N') t N := by
  have a1 : (l.filter (fun x => decide (key x < t))).filter (fun x => decide (key x < t')) = l.filter (fun x => decide (key x < t)) := filt2 _ _ _ (fun x => by by_cases h : key x < t <;> simp [h]; omega)
  have a2 : N.filter (fun x => decide (key x < t')) = N := filt_all _ (fun x hx => by rw [hN x hx]; exact decide_eq_true hlt)
  have a3 : (l.filter (fun x => decide (key x < t))).filter (fun x => decide (t' < key x)) = [] := by
    rw [List.filter_filter]
    exact filt_none _ (fun x _ => by by_cases h : key x < t <;> simp [h]; omega)
  have a4 : N.filter (fun x => decide (t' < key x)) = [] := filt_none _ (fun x hx => by rw [hN x hx]; exact decide_eq_false (by omega))
  have a5 : (l.filter (fun x => decide (t < key x))).filter (fun x => decide (t' < key x)) = l.filter (fun x => decide (t' < key x)) := filt2 _ _ _ (fun x => by by_cases h : t' < key x <;> simp [h]; omega)
  have b1 : (l.filter (fun x => decide (key x < t'))).filter (fun x => decide (key x < t)) = l.filter (fun x => decide (key x < t)) := filt2 _ _ _ (fun x => by by_cases h : key x < t <;> simp [h]; omega)
  have b2 : N'.filter (fun x => decide (key x < t)) = [] := filt_none _ (fun x hx => by rw [hN' x hx]; exact decide_eq_false (by omega))
  have b3 : (l.filter (fun x => decide (t' < key x))).filter (fun x => decide (key x < t)) = [] := by
    rw [List.filter_filter]
    exact filt_none _ (fun x _ => by by_cases h : key x < t <;> simp [h]; omega)
  have b4 : N'.filter (fun x => decide (t < key x)) = N' := filt_all _ (fun x hx => by rw [hN' x hx]; exact decide_eq_true hlt)
  have b5 : (l.filter (fun x => decide (t' < key x))).filter (fun x => decide (t < key x)) = l.filter (fun x => decide (t' < key x)) := filt2 _ _ _ (fun x => by by_cases h : t' < key x <;> simp [h]; omega)
  have c1 : (l.filter (fun x => decide (t < key x))).filter (fun x => decide (key x < t')) = (l.filter (fun x => decide (key x < t'))).filter (fun x => decide (t < key x)) := by
    rw [List.filter_filter, List.filter_filter]
    exact List.filter_congr (fun x _ => Bool.and_comm _ _)
  unfold putL
  simp only [List.filter_append, a1, a2, a3, a4, a5, b1, b2, b3, b4, b5, c1, List.nil_append, List.append_nil, List.append_assoc]
theorem putL_comm (hN : ∀ x ∈ N, key x = t) (hN' : ∀ x ∈ N', key x = t') (hne : t ≠ t') : putL key (putL key l t N) t' N' = putL key (putL key l t' N') t N := by
  rcases Int.lt_or_gt_of_ne hne with h | h
  · exact putL_two hN hN' h
  · exact (putL_two hN' hN h).symm
theorem putL_again (hN : ∀ x ∈ N, key x = t) : putL key (putL key l t N) t N = putL key l t N := by
  have a1 : (l.filter (fun x => decide (key x < t))).filter (fun x => decide (key x < t)) = l.filter (fun x => decide (key x < t)) := filt2 _ _ _ (fun x => Bool.and_self _)
  have a2 : N.filter (fun x => decide (key x < t)) = [] := filt_none _ (fun x hx => by rw [hN x hx]; exact decide_eq_false (by omega))
  have a3 : (l.filter (fun x => decide (t < key x))).filter (fun x => decide (key x < t)) = [] := by
    rw [List.filter_filter]
    exact filt_none _ (fun x _ => by by_cases h : key x < t <;> simp [h]; omega)
  have b1 : (l.filter (fun x => decide (key x < t))).filter (fun x => decide (t < key x)) = [] := by
    rw [List.filter_filter]
    exact filt_none _ (fun x _ => by by_cases h : key x < t <;> simp [h]; omega)
  have b2 : N.filter (fun x => decide (t < key x)) = [] := filt_none _ (fun x hx => by rw [hN x hx]; exact decide_eq_false (by omega))
  have b3 : (l.filter (fun x => decide (t < key x))).filter (fun x => decide (t < key x)) = l.filter (fun x => decide (t < key x)) := filt2 _ _ _ (fun x => Bool.and_self _)
  unfold putL
  simp only [List.filter_append, a1, a2, a3, b1, b2, b3, List.nil_append, List.append_nil]
theorem putL_mem {x : α} (h : x ∈ putL key l t N) : x ∈ l ∨ x ∈ N := by
  unfold putL at h
  rcases List.mem_append.1 h with h | h
  · exact .inl (List.mem_filter.1 h).1
  · rcases List.mem_append.1 h with h | h
    · exact .inr h
    · exact .inl (List.mem_filter.1 h).1
theorem filt_len (p q : α → Bool) (h : ∀ x, ¬ (p x = true ∧ q x = true)) : ∀ l : List α, (l.filter p).length + (l.filter q).length ≤ l.length
  | [] => by simp
  | x :: l => by
    have ih := filt_len p q h l
    have hx := h x
    rw [List.filter_cons, List.filter_cons, List.length_cons]
    split <;> split <;> (try simp only [List.length_cons]) <;> first | omega | exact absurd ⟨by assumption, by assumption⟩ hx
theorem filt_len1 (p q : α → Bool) (h : ∀ x, ¬ (p x = true ∧ q x = true)) : ∀ l : List α, (∃ x ∈ l, p x = false ∧ q x = false) → (l.filter p).length + (l.filter q).length + 1 ≤ l.length
  | [], ⟨_, hx, _⟩ => absurd hx (List.not_mem_nil)
  | x :: l, ⟨y, hy, hp, hq⟩ => by
    rcases List.mem_cons.1 hy with rfl | hy
    · have := filt_len p q h l
      rw [List.filter_cons_of_neg (by rw [hp]; decide), List.filter_cons_of_neg (by rw [hq]; decide), List.length_cons]
      omega
    · have ih := filt_len1 p q h l ⟨y, hy, hp, hq⟩
      have hx := h x
      rw [List.filter_cons, List.filter_cons, List.length_cons]
      split <;> split <;> (try simp only [List.length_cons]) <;> first | omega | exact absurd ⟨by assumption, by assumption⟩ hx
theorem putL_len1 (hm : ∃ x ∈ l, key x = t) : (putL key l t N).length + 1 ≤ l.length + N.length := by
  unfold putL
  rw [List.length_append, List.length_append]
  obtain ⟨x, hx, he⟩ := hm
  have := filt_len1 (fun x => decide (key x < t)) (fun x => decide (t < key x)) (fun x ⟨h1, h2⟩ => by have := of_decide_eq_true h1; have := of_decide_eq_true h2; omega) l ⟨x, hx, decide_eq_false (by omega), decide_eq_false (by omega)⟩
  omega
theorem putL_len : (putL key l t N).length ≤ l.length + N.length := by
  unfold putL
  rw [List.length_append, List.length_append]
  have := filt_len (fun x => decide (key x < t)) (fun x => decide (t < key x)) (fun x ⟨h1, h2⟩ => by have := of_decide_eq_true h1; have := of_decide_eq_true h2; omega) l
  omega
theorem Rise.pw {r : List Int} (h : Rise r) : r.Pairwise (· < ·) := List.pairwise_iff_getElem.2 (fun i j _ hj hij => h.lt i j hj hij)
theorem Rise.of {r : List Int} (h : r.Pairwise (· < ·)) : Rise r := fun j hj => List.pairwise_iff_getElem.1 h j (j + 1) (by omega) hj (by omega)
theorem putL_rise (hr : Rise (l.map key)) (hN : ∀ x ∈ N, key x = t) (h1 : N.length ≤ 1) : Rise ((putL key l t N).map key) := by
  have hp := List.pairwise_map.1 hr.pw
  refine Rise.of (List.pairwise_map.2 ?_)
  unfold putL
  refine List.pairwise_append.2 ⟨hp.filter _, List.pairwise_append.2 ⟨?_, hp.filter _, ?_⟩, ?_⟩
  · match N, h1 with
    | [], _ => exact List.Pairwise.nil
    | [x], _ => exact List.pairwise_singleton _ _
  · intro a ha b hb
    have := of_decide_eq_true (List.mem_filter.1 hb).2
    rw [hN a ha]
    exact this
  · intro a ha b hb
    have h2 := of_decide_eq_true (List.mem_filter.1 ha).2
    rcases List.mem_append.1 hb with h | h
    · rw [hN b h]; exact h2
    · have := of_decide_eq_true (List.mem_filter.1 h).2
      omega
end
/-- What one put adds. -/
abbrev newC (sd : W64) (c : Ck) : List Ck := if firstB sd c = true then [] else [c]
theorem newC_key (sd : W64) (c : Ck) : ∀ x ∈ newC sd c, plcK x = plcK c := by
  intro x hx
  unfold newC at hx
  split at hx
  · cases hx
  · rw [List.mem_singleton.1 hx]
theorem newC_len (sd : W64) (c : Ck) : (newC sd c).length ≤ 1 := by unfold newC; split <;> simp
section
variable {v : Wv} {c c' : Ck} {p p' : Py}
theorem RgtW.put (r : RgtW v) : RgtW (putV v c) := by
  unfold putV
  split
  · split
    · rename_i hc
      have hc' := rgtCW_iff.1 hc
      refine ⟨r.s, r.t, fun d hd => ?_, putL_rise (key := plcK) r.cr (newC_key _ _) (newC_len _ _), r.pn, r.p, r.pr⟩
      rcases putL_mem (key := plcK) hd with h | h
      · exact r.c d h
      · split at h
        · cases h
        · rw [List.mem_singleton.1 h]; exact hc'
    · exact r
  · exact r
theorem ByW.put (hb : ByW v) (hc : ByC c) : ByW (putV v c) := by
  unfold putV
  split
  · split
    · refine ⟨fun d hd => ?_, hb.p⟩
      rcases putL_mem (key := plcK) hd with h | h
      · exact hb.c d h
      · split at h
        · cases h
        · rw [List.mem_singleton.1 h]; exact hc
    · exact hb
  · exact hb
theorem putE_r (r : RgtW v) : putE v c = if rgtCW v.size c = true then 0 else 101 := by unfold putE; rw [if_pos (rgtW_iff.2 r)]
theorem putV_r (r : RgtW v) : putV v c = if rgtCW v.size c = true then ⟨v.size, v.sd, v.tick, putL plcK v.cs (plcK c) (newC v.sd c), v.ps⟩ else v := by unfold putV; rw [if_pos (rgtW_iff.2 r)]; rfl
theorem putV_keep : (putV v c).size = v.size ∧ (putV v c).sd = v.sd ∧ (putV v c).ps = v.ps := by unfold putV; split <;> (try split) <;> exact ⟨rfl, rfl, rfl⟩
theorem put_comm (r : RgtW v) (h0 : rgtCW v.size c = true) (h1 : rgtCW v.size c' = true) (hne : plcK c ≠ plcK c') : putV (putV v c) c' = putV (putV v c') c := by
  rw [putV_r r.put, putV_r (c := c) r.put, putV_keep.1, putV_keep.1, if_pos h1, if_pos h0, putV_r r, putV_r r, if_pos h0, if_pos h1]
  show Wv.mk _ _ _ _ _ = Wv.mk _ _ _ _ _
  rw [putL_comm (newC_key _ _) (newC_key _ _) hne]
theorem put_again (r : RgtW v) (h0 : rgtCW v.size c = true) : putV (putV v c) c = putV v c := by
  rw [putV_r r.put, putV_keep.1, if_pos h0, putV_r r, if_pos h0]
  show Wv.mk _ _ _ _ _ = Wv.mk _ _ _ _ _
  rw [putL_again (newC_key _ _)]
/-- There is room for a player. -/
def Sok (v : Wv) (p : Py) : Prop := v.ps.length ≤ 31 ∨ p.id ∈ v.ps.map Py.id ∨ rgtP v.size p = false
theorem setE_s (h : Sok v p) : setE v p = if rgtP v.size p = true then 0 else 110 := by
  unfold setE
  rcases h with h | h | h
  · rw [if_neg (show ¬ (¬ p.id ∈ v.ps.map Py.id ∧ v.ps.length = 32) from fun q => by have := q.2; omega)]
  · rw [if_neg (show ¬ (¬ p.id ∈ v.ps.map Py.id ∧ v.ps.length = 32) from fun q => q.1 h)]
  · rw [h]; rfl
theorem setV_s (h : Sok v p) : setV v p = if rgtP v.size p = true then ⟨v.size, v.sd, v.tick, v.cs, putL Py.id v.ps p.id [p]⟩ else v := by
  unfold setV
  rw [setE_s h]
  cases rgtP v.size p <;> rfl
theorem setE_r (h : v.ps.length ≤ 31) : setE v p = if rgtP v.size p = true then 0 else 110 := setE_s (.inl h)
theorem setV_r (h : v.ps.length ≤ 31) : setV v p = if rgtP v.size p = true then ⟨v.size, v.sd, v.tick, v.cs, putL Py.id v.ps p.id [p]⟩ else v := setV_s (.inl h)
theorem setV_len (h : v.ps.length ≤ 31) : (setV v p).ps.length ≤ v.ps.length + 1 := by
  rw [setV_r h]
  split
  · have := putL_len (key := Py.id) (l := v.ps) (t := p.id) (N := [p])
    exact this
  · omega
theorem one_key (p : Py) : ∀ x ∈ [p], Py.id x = p.id := fun x hx => by rw [List.mem_singleton.1 hx]
theorem RgtW.set (r : RgtW v) (h : Sok v p) : RgtW (setV v p) := by
  rw [setV_s h]
  split
  · rename_i hp
    refine ⟨r.s, r.t, r.c, r.cr, ?_, fun q hq => ?_, putL_rise (key := Py.id) r.pr (one_key p) (Nat.le_refl 1)⟩
    · show (putL Py.id v.ps p.id [p]).length ≤ 32
      rcases h with h | h | h
      · have := putL_len (key := Py.id) (l := v.ps) (t := p.id) (N := [p])
        simp only [List.length_singleton] at this
        omega
      · obtain ⟨x, hx, he⟩ := List.mem_map.1 h
        have := putL_len1 (key := Py.id) (l := v.ps) (t := p.id) (N := [p]) ⟨x, hx, he⟩
        simp only [List.length_singleton] at this
        have := r.pn
        omega
      · rw [h] at hp; cases hp
    · rcases putL_mem (key := Py.id) hq with h | h
      · exact r.p q h
      · rw [List.mem_singleton.1 h]; exact hp
  · exact r
theorem ByW.set (hb : ByW v) (hp : By p.bag ∧ By p.off) : ByW (setV v p) := by
  unfold setV
  split
  · refine ⟨hb.c, fun q hq => ?_⟩
    rcases putL_mem (key := Py.id) hq with h | h
    · exact hb.p q h
    · rw [List.mem_singleton.1 h]; exact hp
  · exact hb
theorem setV_keep : (setV v p).size = v.size := by unfold setV; split <;> rfl
theorem set_comm (h : v.ps.length ≤ 30) (h0 : rgtP v.size p = true) (h1 : rgtP v.size p' = true) (hne : p.id ≠ p'.id) : setV (setV v p) p' = setV (setV v p') p := by
  have l0 := setV_len (v := v) (p := p) (by omega)
  have l1 := setV_len (v := v) (p := p') (by omega)
  rw [setV_r (v := setV v p) (by omega), setV_r (v := setV v p') (by omega), setV_keep, setV_keep, if_pos h1, if_pos h0, setV_r (by omega), setV_r (by omega), if_pos h0, if_pos h1]
  show Wv.mk _ _ _ _ _ = Wv.mk _ _ _ _ _
  rw [putL_comm (one_key p) (one_key p') hne]
theorem set_mem (h : Sok v p) (h0 : rgtP v.size p = true) : p.id ∈ (setV v p).ps.map Py.id := by
  rw [setV_s h, if_pos h0]
  refine List.mem_map.2 ⟨p, ?_, rfl⟩
  show p ∈ putL Py.id v.ps p.id [p]
  unfold putL
  exact List.mem_append.2 (.inr (List.mem_append.2 (.inl (List.mem_singleton.2 rfl))))
theorem Sok.again (h : Sok v p) : Sok (setV v p) p := by
  cases hq : rgtP v.size p with
  | true => exact .inr (.inl (set_mem h hq))
  | false => exact .inr (.inr (by rw [setV_keep]; exact hq))
theorem set_twice (h : Sok v p) : setV (setV v p) p = setV v p := by
  rw [setV_s h.again, setV_keep]
  split
  · rename_i h0
    rw [setV_s h, if_pos h0]
    show Wv.mk _ _ _ _ _ = Wv.mk _ _ _ _ _
    rw [putL_again (one_key p)]
  · rfl
theorem set_again (h : v.ps.length ≤ 30) (h0 : rgtP v.size p = true) : setV (setV v p) p = setV v p := by
  have l0 := setV_len (v := v) (p := p) (by omega)
  rw [setV_r (v := setV v p) (by omega), setV_keep, if_pos h0, setV_r (by omega), if_pos h0]
  show Wv.mk _ _ _ _ _ = Wv.mk _ _ _ _ _
  rw [putL_again (one_key p)]
end
section
variable {w w' : World}
set_option maxRecDepth 100000 in
set_option maxHeartbeats 1600000 in
theorem samepl_yes {P Q : Pl} (hP : RdP w P) (hQ : RdP w Q) (he : P.py = Q.py) (h1 : P.n1 ≤ 100000) (h2 : P.n2 ≤ 100000) : Calls Tryd.prog 20 #[P.val, Q.val] w fun e w' => e = .returned (.bool true) ∧ Fr No w w' := by
  obtain ⟨id, x, y, A1, n1, c1, l1, wi, A2, n2, c2, l2, ag⟩ := P
  obtain ⟨id', x', y', B1, m1, e1, k1, wi', B2, m2, e2, k2, ag'⟩ := Q
  dsimp only [Pl.py] at he
  injection he with q1 q2 q3 q4 q5 q6 q7
  subst q1 q2 q3 q4 q5 q6 q7
  have r1 := hP.r1
  have s1 := hQ.r1
  have r2 := hP.r2
  have s2 := hQ.r2
  dsimp only at r1 r2 s1 s2 h1 h2
  obtain rfl : n1 = m1 := by rw [← r1.1, ← s1.1]
  obtain rfl : n2 = m2 := by rw [← r2.1, ← s2.1]
  have HS1 := Lib.hid (fun W (hW : Fr No w W) => same_yes (r1.no hW) (s1.no hW) c1 e1 h1)
  have HS2 := Lib.hid (fun W (hW : Fr No w W) => same_yes (r2.no hW) (s2.no hW) c2 e2 h2)
  clear hP hQ r1 s1 r2 s2 h1 h2
  dsimp only [Pl.val]
  have hb0 := heap_alloc_new w (.cells #[.int .i64 id, .int .i64 x, .int .i64 y, .slice A1 n1 c1, .int .i64 wi, .slice A2 n2 c2, .bool ag] 35)
  have hf0 := Fr.alloc No w (.cells #[.int .i64 id, .int .i64 x, .int .i64 y, .slice A1 n1 c1, .int .i64 wi, .slice A2 n2 c2, .bool ag] 35)
  have hb1 := heap_alloc_new (w.alloc (.cells #[.int .i64 id, .int .i64 x, .int .i64 y, .slice A1 n1 c1, .int .i64 wi, .slice A2 n2 c2, .bool ag] 35)) (.cells #[.int .i64 id, .int .i64 x, .int .i64 y, .slice B1 n1 e1, .int .i64 wi, .slice B2 n2 e2, .bool ag] 35)
  have hf1 := Fr.alloc No (w.alloc (.cells #[.int .i64 id, .int .i64 x, .int .i64 y, .slice A1 n1 c1, .int .i64 wi, .slice A2 n2 c2, .bool ag] 35)) (.cells #[.int .i64 id, .int .i64 x, .int .i64 y, .slice B1 n1 e1, .int .i64 wi, .slice B2 n2 e2, .bool ag] 35)
  have hbD := blk_no hf1 hb0
  have HFX := Lib.hid (hf0.no_trans hf1)
  simp only [World.size_alloc] at hb1
  clear hb0 hf0 hf1
  go_enter Tryd.func20, Tryd.ntmps20
  go_upto_region 1 with fail
  obtain ⟨D, hD⟩ : ∃ D, w.heap.size = D := ⟨_, rfl⟩
  rw [hD] at hbD hb1 ⊢
  clear hD
  generalize (w.alloc (.cells #[.int .i64 id, .int .i64 x, .int .i64 y, .slice A1 n1 c1, .int .i64 wi, .slice A2 n2 c2, .bool ag] 35)).alloc (.cells #[.int .i64 id, .int .i64 x, .int .i64 y, .slice B1 n1 e1, .int .i64 wi, .slice B2 n2 e2, .bool ag] 35) = wx at *
  have hALL : Hid (∀ W, Fr No wx W → W.cell? ⟨D, 5, none⟩ = some (.slice A2 n2 c2) ∧ W.cell? ⟨D + 1, 5, none⟩ = some (.slice B2 n2 e2)) := Lib.hid (fun W hW => ⟨(cells7 (blk_no hW hbD)).2.2.2.2.2.1, (cells7 (blk_no hW hb1)).2.2.2.2.2.1⟩)
  obtain ⟨g0, g1, g2, g3, g4, g5, g6⟩ := cells7 hbD
  obtain ⟨k0, k1, k2, k3, k4, k5, k6⟩ := cells7 hb1
  clear hbD hb1
  go_wp2_with fail
  refine (HS1.out _ HFX.out).mono ?_
  rintro e w1 ⟨rfl, hf⟩
  have HF1 := Lib.hid hf
  clear hf g0 g1 g2 g3 g4 g5 g6 k0 k1 k2 k3 k4 k5 k6
  obtain ⟨g5, k5⟩ := hALL.out _ HF1.out
  go_wp2_with fail
  refine (HS2.out _ (HFX.out.no_trans HF1.out)).mono ?_
  rintro e w2 ⟨rfl, hf⟩
  have HF2 := Lib.hid hf
  clear hf
  go_wp2_with fail
  go_ret
  exact ⟨rfl, HFX.out.no_trans (HF1.out.no_trans HF2.out)⟩
set_option maxRecDepth 100000 in
set_option maxHeartbeats 3200000 in
theorem wsame_yes {a b : Wd} (ha3 : RdCs w a.A3 a.n3 a.cs) (ha4 : RdPs w a.A4 a.n4 a.ps) (hb3 : RdCs w b.A3 b.n3 b.cs) (hb4 : RdPs w b.A4 b.n4 b.ps) (z : SzW a) (he : a.v = b.v) : Calls Tryd.prog 11 #[a.val, b.val] w fun e w' => e = .returned (.bool true) ∧ Fr No w w' := by
  obtain ⟨size, sd, tick, A3, n3, c3, cs, A4, n4, c4, ps⟩ := a
  obtain ⟨size', sd', tick', B3, m3, e3, ds, B4, m4, e4, qs⟩ := b
  dsimp only [Wd.v] at he
  injection he with q1 q2 q3 q4 q5
  subst q1 q2 q3
  have l3 : cs.length = ds.length := by have := congrArg List.length q4; rwa [List.length_map, List.length_map] at this
  have l4 : ps.length = qs.length := by have := congrArg List.length q5; rwa [List.length_map, List.length_map] at this
  have a3 : cs.length = n3 := ha3.2.1
  have a4 : ps.length = n4 := ha4.2.1
  obtain rfl : m3 = n3 := by have : ds.length = m3 := hb3.2.1; omega
  obtain rfl : m4 = n4 := by have : qs.length = m4 := hb4.2.1; omega
  have HX3 := Lib.hid (fun W (hW : Fr No w W) => ha3.no hW)
  have HX4 := Lib.hid (fun W (hW : Fr No w W) => ha4.no hW)
  have HY3 := Lib.hid (fun W (hW : Fr No w W) => hb3.no hW)
  have HY4 := Lib.hid (fun W (hW : Fr No w W) => hb4.no hW)
  have HL : Hid (cs.length = m3 ∧ ds.length = m3 ∧ ps.length = m4 ∧ qs.length = m4) := Lib.hid ⟨by omega, by omega, by omega, by omega⟩
  have HN3 : Hid (m3 ≤ 100000) := Lib.hid z.z3
  have HN4 : Hid (m4 ≤ 100000) := Lib.hid z.z4
  have HC : Hid (∀ k (hk : k < cs.length) (hk' : k < ds.length) W, Fr No w W → Calls Tryd.prog 35 #[.agg #[.int .i64 cs[k].x, .int .i64 cs[k].y, .slice cs[k].A1 cs[k].n1 cs[k].c1, .slice cs[k].A2 cs[k].n2 cs[k].c2, .slice cs[k].A3 cs[k].n3 cs[k].c3], .agg #[.int .i64 ds[k].x, .int .i64 ds[k].y, .slice ds[k].A1 ds[k].n1 ds[k].c1, .slice ds[k].A2 ds[k].n2 ds[k].c2, .slice ds[k].A3 ds[k].n3 ds[k].c3]] W fun e w' => e = .returned (.bool true) ∧ Fr No W w') := Lib.hid (fun k hk hk' W hW => by
    have hz := z.zc _ (List.getElem_mem hk)
    have hr := (ha3.no hW).2.2 _ (List.getElem_mem hk)
    refine chsame_yes hr ((hb3.no hW).2.2 _ (List.getElem_mem hk')) ?_ hz.z1 hz.z2 hz.z3 (fun b hb => ?_)
    · have e1 := List.getElem_map (l := cs) Ch.ck (i := k) (h := by simpa using hk)
      have e2 := List.getElem_map (l := ds) Ch.ck (i := k) (h := by simpa using hk')
      rw [← e1, ← e2]
      congr 1
    · have := hz.z4 b hb
      obtain ⟨j, hj, rfl⟩ := List.getElem_of_mem hb
      obtain ⟨_, _, _, _, hc⟩ := hr.r3.2 (by have := hr.r3.1; omega)
      have := (hc j hj).2.2.1
      omega)
  have HP : Hid (∀ k (hk : k < ps.length) (hk' : k < qs.length) W, Fr No w W → Calls Tryd.prog 20 #[.agg #[.int .i64 ps[k].id, .int .i64 ps[k].x, .int .i64 ps[k].y, .slice ps[k].A1 ps[k].n1 ps[k].c1, .int .i64 ps[k].wi, .slice ps[k].A2 ps[k].n2 ps[k].c2, .bool ps[k].ag], .agg #[.int .i64 qs[k].id, .int .i64 qs[k].x, .int .i64 qs[k].y, .slice qs[k].A1 qs[k].n1 qs[k].c1, .int .i64 qs[k].wi, .slice qs[k].A2 qs[k].n2 qs[k].c2, .bool qs[k].ag]] W fun e w' => e = .returned (.bool true) ∧ Fr No W w') := Lib.hid (fun k hk hk' W hW => by
    have hz := z.zp _ (List.getElem_mem hk)
    refine samepl_yes ((ha4.no hW).2.2 _ (List.getElem_mem hk)) ((hb4.no hW).2.2 _ (List.getElem_mem hk')) ?_ hz.1 hz.2
    have e1 := List.getElem_map (l := ps) Pl.py (i := k) (h := by simpa using hk)
    have e2 := List.getElem_map (l := qs) Pl.py (i := k) (h := by simpa using hk')
    rw [← e1, ← e2]
    congr 1)
  obtain ⟨SV, hSV⟩ : ∃ SV, (sd.toNat : Int) = SV := ⟨_, rfl⟩
  dsimp only [Wd.val, u64v]
  rw [hSV]
  clear ha3 ha4 hb3 hb4 z q4 q5 l3 l4 a3 a4 hSV
  have hb0 := heap_alloc_new w (.cells #[.int .i64 size, .int .u64 SV, .int .i64 tick, .slice A3 m3 c3, .slice A4 m4 c4] 26)
  have hf0 := Fr.alloc No w (.cells #[.int .i64 size, .int .u64 SV, .int .i64 tick, .slice A3 m3 c3, .slice A4 m4 c4] 26)
  have hb1 := heap_alloc_new (w.alloc (.cells #[.int .i64 size, .int .u64 SV, .int .i64 tick, .slice A3 m3 c3, .slice A4 m4 c4] 26)) (.cells #[.int .i64 size, .int .u64 SV, .int .i64 tick, .slice B3 m3 e3, .slice B4 m4 e4] 26)
  have hf1 := Fr.alloc No (w.alloc (.cells #[.int .i64 size, .int .u64 SV, .int .i64 tick, .slice A3 m3 c3, .slice A4 m4 c4] 26)) (.cells #[.int .i64 size, .int .u64 SV, .int .i64 tick, .slice B3 m3 e3, .slice B4 m4 e4] 26)
  have hbD := blk_no hf1 hb0
  have HFX := Lib.hid (hf0.no_trans hf1)
  simp only [World.size_alloc] at hb1
  clear hb0 hf0 hf1
  go_enter Tryd.func11, Tryd.ntmps11
  go_upto_region 1 with fail
  obtain ⟨D, hD⟩ : ∃ D, w.heap.size = D := ⟨_, rfl⟩
  rw [hD] at hbD hb1 ⊢
  clear hD
  generalize (w.alloc (.cells #[.int .i64 size, .int .u64 SV, .int .i64 tick, .slice A3 m3 c3, .slice A4 m4 c4] 26)).alloc (.cells #[.int .i64 size, .int .u64 SV, .int .i64 tick, .slice B3 m3 e3, .slice B4 m4 e4] 26) = wx at *
  have hALL : Hid (∀ W, Fr No wx W → (W.cell? ⟨D, 3, none⟩ = some (.slice A3 m3 c3) ∧ W.cell? ⟨D, 4, none⟩ = some (.slice A4 m4 c4)) ∧ (W.cell? ⟨D + 1, 3, none⟩ = some (.slice B3 m3 e3) ∧ W.cell? ⟨D + 1, 4, none⟩ = some (.slice B4 m4 e4))) := Lib.hid (fun W hW => ⟨⟨(cells5 (blk_no hW hbD)).2.2.2.1, (cells5 (blk_no hW hbD)).2.2.2.2⟩, ⟨(cells5 (blk_no hW hb1)).2.2.2.1, (cells5 (blk_no hW hb1)).2.2.2.2⟩⟩)
  obtain ⟨g0, g1, g2, g3, g4⟩ := cells5 hbD
  obtain ⟨k0, k1, k2, k3, k4⟩ := cells5 hb1
  clear hbD hb1
  go_wp2_with fail
  clear g0 g1 g2 g3 g4 k0 k1 k2 k3 k4
  go_loopw [47] (fun v47 wr => ∃ k : Nat, k ≤ m3 ∧ v47 = .int .i64 (k : Int) ∧ Fr No wx wr) (fun v47 _ => m3 - (intOf v47).toNat)
  case atStart => exact ⟨0, by omega, rfl, Fr.refl _ _⟩
  case round =>
    obtain ⟨k, hk, rfl, hf⟩ := hrel
    have HF := Lib.hid hf
    clear hf
    by_cases hlt : k < m3
    · have hkl : k < cs.length := by rw [HL.out.1]; exact hlt
      have hkl' : k < ds.length := by rw [HL.out.2.1]; exact hlt
      obtain ⟨b, o, rfl, hbs, y0, y1, y2, y3, y4⟩ := (HX3.out wr (HFX.out.no_trans HF.out)).at k hkl
      obtain ⟨b', o', rfl, hbs', x0, x1, x2, x3, x4⟩ := (HY3.out wr (HFX.out.no_trans HF.out)).at k hkl'
      have HR := Lib.hid (HC.out k hkl hkl')
      have hwk : IntKind.i64.wrap ((k : Int) + 1) = ((k + 1 : Nat) : Int) := by
        rw [show ((k : Int) + 1) = ((k + 1 : Nat) : Int) by omega]
        exact IntWalk.i64_in _ (by have := HN3.out; omega)
      have hi1 : (k : Int) < (m3 : Int) := by omega
      have hi0 : (0 : Int) ≤ (k : Int) := by omega
      have hWS : Hid (∀ W, Fr No wr W → (W.cell? ⟨D, 3, none⟩ = some (.slice (some ⟨b, o, none⟩) m3 c3) ∧ W.cell? ⟨D + 1, 3, none⟩ = some (.slice (some ⟨b', o', none⟩) m3 e3)) ∧ (W.cell? ⟨b, o + k * 5, none⟩ = some (.int .i64 cs[k].x) ∧ W.cell? ⟨b, o + k * 5 + 1, none⟩ = some (.int .i64 cs[k].y) ∧ W.cell? ⟨b, o + k * 5 + 2, none⟩ = some (.slice cs[k].A1 cs[k].n1 cs[k].c1) ∧ W.cell? ⟨b, o + k * 5 + 3, none⟩ = some (.slice cs[k].A2 cs[k].n2 cs[k].c2) ∧ W.cell? ⟨b, o + k * 5 + 4, none⟩ = some (.slice cs[k].A3 cs[k].n3 cs[k].c3)) ∧ (W.cell? ⟨b', o' + k * 5, none⟩ = some (.int .i64 ds[k].x) ∧ W.cell? ⟨b', o' + k * 5 + 1, none⟩ = some (.int .i64 ds[k].y) ∧ W.cell? ⟨b', o' + k * 5 + 2, none⟩ = some (.slice ds[k].A1 ds[k].n1 ds[k].c1) ∧ W.cell? ⟨b', o' + k * 5 + 3, none⟩ = some (.slice ds[k].A2 ds[k].n2 ds[k].c2) ∧ W.cell? ⟨b', o' + k * 5 + 4, none⟩ = some (.slice ds[k].A3 ds[k].n3 ds[k].c3))) := Lib.hid (fun W hW => ⟨⟨(hALL.out W (HF.out.no_trans hW)).1.1, (hALL.out W (HF.out.no_trans hW)).2.1⟩, ⟨(cell_no hW hbs _).trans y0, (cell_no hW hbs _).trans y1, (cell_no hW hbs _).trans y2, (cell_no hW hbs _).trans y3, (cell_no hW hbs _).trans y4⟩, ⟨(cell_no hW hbs' _).trans x0, (cell_no hW hbs' _).trans x1, (cell_no hW hbs' _).trans x2, (cell_no hW hbs' _).trans x3, (cell_no hW hbs' _).trans x4⟩⟩)
      clear hbs hbs' y0 y1 y2 y3 y4 x0 x1 x2 x3 x4
      generalize cs[k].x = u0 at *
      generalize cs[k].y = u1 at *
      generalize cs[k].A1 = uA1 at *
      generalize cs[k].n1 = un1 at *
      generalize cs[k].c1 = uc1 at *
      generalize cs[k].A2 = uA2 at *
      generalize cs[k].n2 = un2 at *
      generalize cs[k].c2 = uc2 at *
      generalize cs[k].A3 = uA3 at *
      generalize cs[k].n3 = un3 at *
      generalize cs[k].c3 = uc3 at *
      generalize ds[k].x = v0 at *
      generalize ds[k].y = v1 at *
      generalize ds[k].A1 = vA1 at *
      generalize ds[k].n1 = vn1 at *
      generalize ds[k].c1 = vc1 at *
      generalize ds[k].A2 = vA2 at *
      generalize ds[k].n2 = vn2 at *
      generalize ds[k].c2 = vc2 at *
      generalize ds[k].A3 = vA3 at *
      generalize ds[k].n3 = vn3 at *
      generalize ds[k].c3 = vc3 at *
      have d0 := hWS.out wr (Fr.refl No wr)
      have dd := hWS.out wr.drew (Fr.drew No wr)
      go_upto_region 6 with fail
      go_region_held3 (fun W => (W.cell? ⟨D, 3, none⟩ = some (.slice (some ⟨b, o, none⟩) m3 c3) ∧ W.cell? ⟨D + 1, 3, none⟩ = some (.slice (some ⟨b', o', none⟩) m3 e3)) ∧ (W.cell? ⟨b, o + k * 5, none⟩ = some (.int .i64 u0) ∧ W.cell? ⟨b, o + k * 5 + 1, none⟩ = some (.int .i64 u1) ∧ W.cell? ⟨b, o + k * 5 + 2, none⟩ = some (.slice uA1 un1 uc1) ∧ W.cell? ⟨b, o + k * 5 + 3, none⟩ = some (.slice uA2 un2 uc2) ∧ W.cell? ⟨b, o + k * 5 + 4, none⟩ = some (.slice uA3 un3 uc3)) ∧ (W.cell? ⟨b', o' + k * 5, none⟩ = some (.int .i64 v0) ∧ W.cell? ⟨b', o' + k * 5 + 1, none⟩ = some (.int .i64 v1) ∧ W.cell? ⟨b', o' + k * 5 + 2, none⟩ = some (.slice vA1 vn1 vc1) ∧ W.cell? ⟨b', o' + k * 5 + 3, none⟩ = some (.slice vA2 vn2 vc2) ∧ W.cell? ⟨b', o' + k * 5 + 4, none⟩ = some (.slice vA3 vn3 vc3)))
        (first | exact d5 | exact dd | exact d0)
        (first
          | (go_at_call 35; refine (HR.out _ (HFX.out.no_trans (HF.out.no_trans (Fr.drew No wr)))).mono ?_; rintro e w5 ⟨rfl, hf⟩; have HF5 := Lib.hid ((Fr.drew No wr).no_trans hf); have d5 := hWS.out w5 HF5.out; clear hf))
      go_wp2_with fail
      go_roundw
      case rel => exact ⟨k + 1, by omega, by go_num, HF.out.no_trans HF5.out⟩
      case measure => simp [intOf]; omega
    · have hkn : k = m3 := by omega
      subst hkn
      obtain ⟨⟨g3, g4⟩, ⟨k3, k4⟩⟩ := hALL.out _ HF.out
      go_wp2_with fail
      clear g3 g4 k3 k4
      go_loopw [66] (fun v66 wr => ∃ q : Nat, q ≤ m4 ∧ v66 = .int .i64 (q : Int) ∧ Fr No wx wr) (fun v66 _ => m4 - (intOf v66).toNat)
      case atStart => exact ⟨0, by omega, rfl, HF.out⟩
      case round =>
        obtain ⟨q, hq, rfl, hf⟩ := hrel
        have HFq := Lib.hid hf
        clear hf
        by_cases hlt : q < m4
        · have hkl : q < ps.length := by rw [HL.out.2.2.1]; exact hlt
          have hkl' : q < qs.length := by rw [HL.out.2.2.2]; exact hlt
          obtain ⟨b, o, rfl, hbs, y0, y1, y2, y3, y4, y5, y6⟩ := (HX4.out wr (HFX.out.no_trans HFq.out)).at q hkl
          obtain ⟨b', o', rfl, hbs', x0, x1, x2, x3, x4, x5, x6⟩ := (HY4.out wr (HFX.out.no_trans HFq.out)).at q hkl'
          have HR := Lib.hid (HP.out q hkl hkl')
          have hwk : IntKind.i64.wrap ((q : Int) + 1) = ((q + 1 : Nat) : Int) := by
            rw [show ((q : Int) + 1) = ((q + 1 : Nat) : Int) by omega]
            exact IntWalk.i64_in _ (by have := HN4.out; omega)
          have hi1 : (q : Int) < (m4 : Int) := by omega
          have hi0 : (0 : Int) ≤ (q : Int) := by omega
          have hWS : Hid (∀ W, Fr No wr W → (W.cell? ⟨D, 4, none⟩ = some (.slice (some ⟨b, o, none⟩) m4 c4) ∧ W.cell? ⟨D + 1, 4, none⟩ = some (.slice (some ⟨b', o', none⟩) m4 e4)) ∧ (W.cell? ⟨b, o + q * 7, none⟩ = some (.int .i64 ps[q].id) ∧ W.cell? ⟨b, o + q * 7 + 1, none⟩ = some (.int .i64 ps[q].x) ∧ W.cell? ⟨b, o + q * 7 + 2, none⟩ = some (.int .i64 ps[q].y) ∧ W.cell? ⟨b, o + q * 7 + 3, none⟩ = some (.slice ps[q].A1 ps[q].n1 ps[q].c1) ∧ W.cell? ⟨b, o + q * 7 + 4, none⟩ = some (.int .i64 ps[q].wi) ∧ W.cell? ⟨b, o + q * 7 + 5, none⟩ = some (.slice ps[q].A2 ps[q].n2 ps[q].c2) ∧ W.cell? ⟨b, o + q * 7 + 6, none⟩ = some (.bool ps[q].ag)) ∧ (W.cell? ⟨b', o' + q * 7, none⟩ = some (.int .i64 qs[q].id) ∧ W.cell? ⟨b', o' + q * 7 + 1, none⟩ = some (.int .i64 qs[q].x) ∧ W.cell? ⟨b', o' + q * 7 + 2, none⟩ = some (.int .i64 qs[q].y) ∧ W.cell? ⟨b', o' + q * 7 + 3, none⟩ = some (.slice qs[q].A1 qs[q].n1 qs[q].c1) ∧ W.cell? ⟨b', o' + q * 7 + 4, none⟩ = some (.int .i64 qs[q].wi) ∧ W.cell? ⟨b', o' + q * 7 + 5, none⟩ = some (.slice qs[q].A2 qs[q].n2 qs[q].c2) ∧ W.cell? ⟨b', o' + q * 7 + 6, none⟩ = some (.bool qs[q].ag))) := Lib.hid (fun W hW => ⟨⟨(hALL.out W (HFq.out.no_trans hW)).1.2, (hALL.out W (HFq.out.no_trans hW)).2.2⟩, ⟨(cell_no hW hbs _).trans y0, (cell_no hW hbs _).trans y1, (cell_no hW hbs _).trans y2, (cell_no hW hbs _).trans y3, (cell_no hW hbs _).trans y4, (cell_no hW hbs _).trans y5, (cell_no hW hbs _).trans y6⟩, ⟨(cell_no hW hbs' _).trans x0, (cell_no hW hbs' _).trans x1, (cell_no hW hbs' _).trans x2, (cell_no hW hbs' _).trans x3, (cell_no hW hbs' _).trans x4, (cell_no hW hbs' _).trans x5, (cell_no hW hbs' _).trans x6⟩⟩)
          clear hbs hbs' y0 y1 y2 y3 y4 y5 y6 x0 x1 x2 x3 x4 x5 x6
          generalize ps[q].id = u0 at *
          generalize ps[q].x = u1 at *
          generalize ps[q].y = u2 at *
          generalize ps[q].wi = u3 at *
          generalize ps[q].ag = u4 at *
          generalize ps[q].A1 = uA1 at *
          generalize ps[q].n1 = un1 at *
          generalize ps[q].c1 = uc1 at *
          generalize ps[q].A2 = uA2 at *
          generalize ps[q].n2 = un2 at *
          generalize ps[q].c2 = uc2 at *
          generalize qs[q].id = v0 at *
          generalize qs[q].x = v1 at *
          generalize qs[q].y = v2 at *
          generalize qs[q].wi = v3 at *
          generalize qs[q].ag = v4 at *
          generalize qs[q].A1 = vA1 at *
          generalize qs[q].n1 = vn1 at *
          generalize qs[q].c1 = vc1 at *
          generalize qs[q].A2 = vA2 at *
          generalize qs[q].n2 = vn2 at *
          generalize qs[q].c2 = vc2 at *
          have d0 := hWS.out wr (Fr.refl No wr)
          have dd := hWS.out wr.drew (Fr.drew No wr)
          go_upto_region 12 with fail
          go_region_held3 (fun W => (W.cell? ⟨D, 4, none⟩ = some (.slice (some ⟨b, o, none⟩) m4 c4) ∧ W.cell? ⟨D + 1, 4, none⟩ = some (.slice (some ⟨b', o', none⟩) m4 e4)) ∧ (W.cell? ⟨b, o + q * 7, none⟩ = some (.int .i64 u0) ∧ W.cell? ⟨b, o + q * 7 + 1, none⟩ = some (.int .i64 u1) ∧ W.cell? ⟨b, o + q * 7 + 2, none⟩ = some (.int .i64 u2) ∧ W.cell? ⟨b, o + q * 7 + 3, none⟩ = some (.slice uA1 un1 uc1) ∧ W.cell? ⟨b, o + q * 7 + 4, none⟩ = some (.int .i64 u3) ∧ W.cell? ⟨b, o + q * 7 + 5, none⟩ = some (.slice uA2 un2 uc2) ∧ W.cell? ⟨b, o + q * 7 + 6, none⟩ = some (.bool u4)) ∧ (W.cell? ⟨b', o' + q * 7, none⟩ = some (.int .i64 v0) ∧ W.cell? ⟨b', o' + q * 7 + 1, none⟩ = some (.int .i64 v1) ∧ W.cell? ⟨b', o' + q * 7 + 2, none⟩ = some (.int .i64 v2) ∧ W.cell? ⟨b', o' + q * 7 + 3, none⟩ = some (.slice vA1 vn1 vc1) ∧ W.cell? ⟨b', o' + q * 7 + 4, none⟩ = some (.int .i64 v3) ∧ W.cell? ⟨b', o' + q * 7 + 5, none⟩ = some (.slice vA2 vn2 vc2) ∧ W.cell? ⟨b', o' + q * 7 + 6, none⟩ = some (.bool v4)))
            (first | exact d5 | exact dd | exact d0)
            (first
              | (go_at_call 20; refine (HR.out _ (HFX.out.no_trans (HFq.out.no_trans (Fr.drew No wr)))).mono ?_; rintro e w5 ⟨rfl, hf⟩; have HF5 := Lib.hid ((Fr.drew No wr).no_trans hf); have d5 := hWS.out w5 HF5.out; clear hf))
          go_wp2_with fail
          go_roundw
          case rel => exact ⟨q + 1, by omega, by go_num, HFq.out.no_trans HF5.out⟩
          case measure => simp [intOf]; omega
        · have hqn : q = m4 := by omega
          subst hqn
          go_wp2_with fail
          go_ret
          exact ⟨rfl, HFX.out.no_trans HFq.out⟩
end
end Go.Proofs.YtjdhbgdpmojobaaDoor
namespace Go.Proofs.YtjdhbgdpmojobaaDoor
open Go.RowKit Go.Deep

/-- A world at hand: in a block of the law's, in memory of the law's own. -/
structure At5 (lo : Nat) (W : World) (E : Nat) (a : Wd) (sv : Int) : Prop where
  hE : W.heap[E]? = some (.cells #[.int .i64 a.size, .int .u64 sv, .int .i64 a.tick, .slice a.A3 a.n3 a.c3, .slice a.A4 a.n4 a.c4] 26 (0, 0))
  hs : (a.sd.toNat : Int) = sv
  ow : OwW lo W a
  bt : ByW a.v
  r : RgtW a.v
section
variable {w w' : World} {lo E : Nat} {a : Wd} {sv : Int}
theorem At5.no (h : At5 lo w E a sv) (hf : Fr No w w') : At5 lo w' E a sv := ⟨blk_no hf h.hE, h.hs, h.ow.no hf, h.bt, h.r⟩
theorem At5.oth (h : At5 lo w E a sv) {E' : Nat} {cur : Array Value} (hne : ¬ E = E') (hE : w.heap[E']? = some (.cells cur 26 (0, 0))) (hf : Fr (fun i => i = E') w w') : At5 lo w' E a sv := ⟨hf.blk h.hE hne, h.hs, h.ow.at_ hE hf, h.bt, h.r⟩
theorem At5.inW (h : At5 lo w E a sv) : InW w a := h.ow.inW h.bt
/-- What Put, Set tell: a world, and a number. -/
def PutQ (W : World) (v : Wv) (z : Int) (e : Ending) (w' : World) : Prop := ∃ (a : Wd) (sv : Int), e = .returned (.tuple #[.agg #[.int .i64 a.size, .int .u64 sv, .int .i64 a.tick, .slice a.A3 a.n3 a.c3, .slice a.A4 a.n4 a.c4], .int .i64 z]) ∧ ((a.sd.toNat : Int) = sv ∧ a.v = v ∧ OwW W.heap.size w' a ∧ ByW a.v ∧ RgtW a.v) ∧ Fr No W w'
theorem putQ {C : Ch} {z : Int} (ht : ItT w) (h : InW w a) (r : RgtW a.v) (hs : (a.sd.toNat : Int) = sv) (hC : InC w C) (hz : (if rgtCW a.v.size C.ck = true then (0 : Int) else 101) = z) : Calls Tryd.prog 10 #[.agg #[.int .i64 a.size, .int .u64 sv, .int .i64 a.tick, .slice a.A3 a.n3 a.c3, .slice a.A4 a.n4 a.c4], .agg #[.int .i64 C.x, .int .i64 C.y, .slice C.A1 C.n1 C.c1, .slice C.A2 C.n2 C.c2, .slice C.A3 C.n3 C.c3]] w (PutQ w (putV a.v C.ck) z) := by
  subst hs hz
  refine (wput_any ht h (h.sz r) hC).mono ?_
  rintro e w' ⟨d', rfl, hv, ho, hf⟩
  exact ⟨d', _, by rw [putE_r r]; rfl, ⟨rfl, hv, ho, by rw [hv]; exact h.by.put hC.bt, by rw [hv]; exact r.put⟩, hf⟩
theorem setQ {P : Pl} {z : Int} (ht : ItT w) (h : InW w a) (r : RgtW a.v) (hl : Sok a.v P.py) (hs : (a.sd.toNat : Int) = sv) (hP : InP w P) (hz : (if rgtP a.v.size P.py = true then (0 : Int) else 110) = z) : Calls Tryd.prog 12 #[.agg #[.int .i64 a.size, .int .u64 sv, .int .i64 a.tick, .slice a.A3 a.n3 a.c3, .slice a.A4 a.n4 a.c4], .agg #[.int .i64 P.id, .int .i64 P.x, .int .i64 P.y, .slice P.A1 P.n1 P.c1, .int .i64 P.wi, .slice P.A2 P.n2 P.c2, .bool P.ag]] w (PutQ w (setV a.v P.py) z) := by
  subst hs hz
  refine (wset_any ht h r hP).mono ?_
  rintro e w' ⟨d', rfl, hv, ho, hf⟩
  exact ⟨d', _, by rw [setE_s hl]; rfl, ⟨rfl, hv, ho, by rw [hv]; exact h.by.set ⟨hP.b1, hP.b2⟩, by rw [hv]; exact r.set hl⟩, hf⟩
/-- Two worlds at hand that are one. -/
theorem At5.same {E' : Nat} {b : Wd} {sv' : Int} (h : At5 lo w E a sv) (k : At5 lo w E' b sv') (he : a.v = b.v) : Calls Tryd.prog 11 #[.agg #[.int .i64 a.size, .int .u64 sv, .int .i64 a.tick, .slice a.A3 a.n3 a.c3, .slice a.A4 a.n4 a.c4], .agg #[.int .i64 b.size, .int .u64 sv', .int .i64 b.tick, .slice b.A3 b.n3 b.c3, .slice b.A4 b.n4 b.c4]] w fun e w' => e = .returned (.bool true) ∧ Fr No w w' := by
  have h1 := h.hs
  have h2 := k.hs
  subst h1 h2
  exact wsame_yes h.ow.r3 h.ow.r4 k.ow.r3 k.ow.r4 (h.inW.sz h.r) he
end
set_option maxRecDepth 100000 in
set_option maxHeartbeats 12800000 in
theorem wputs_walk {w : World} {d : Wd} {C0 C1 : Ch} {P0 P1 : Pl} (ht : ItT w) (h : InW w d) (hC0 : InC w C0) (hC1 : InC w C1) (hP0 : InP w P0) (hP1 : InP w P1) : Calls Tryd.prog 3 #[d.val, .agg #[.int .i64 C0.x, .int .i64 C0.y, .slice C0.A1 C0.n1 C0.c1, .slice C0.A2 C0.n2 C0.c2, .slice C0.A3 C0.n3 C0.c3, .int .i64 C1.x, .int .i64 C1.y, .slice C1.A1 C1.n1 C1.c1, .slice C1.A2 C1.n2 C1.c2, .slice C1.A3 C1.n3 C1.c3], .agg #[.int .i64 P0.id, .int .i64 P0.x, .int .i64 P0.y, .slice P0.A1 P0.n1 P0.c1, .int .i64 P0.wi, .slice P0.A2 P0.n2 P0.c2, .bool P0.ag, .int .i64 P1.id, .int .i64 P1.x, .int .i64 P1.y, .slice P1.A1 P1.n1 P1.c1, .int .i64 P1.wi, .slice P1.A2 P1.n2 P1.c2, .bool P1.ag]] w fun e w' => e = .returned (.bool true) ∧ Fr No w w' := by
  have HT := Lib.hid (fun W (hW : Fr No w W) => ht.no hW)
  have HIN := Lib.hid (fun W (hW : Fr No w W) => h.no hW)
  have HC0 := Lib.hid (fun W (hW : Fr No w W) => hC0.no hW)
  have HC1 := Lib.hid (fun W (hW : Fr No w W) => hC1.no hW)
  have HP0 := Lib.hid (fun W (hW : Fr No w W) => hP0.no hW)
  have HP1 := Lib.hid (fun W (hW : Fr No w W) => hP1.no hW)
  have HAW := Lib.hid (fun W (hW : Fr No w W) => wawake_any (ht.no hW))
  have HGR := Lib.hid (fun W (hW : Fr No w W) => wgreat_any (h.no hW))
  have HRT := Lib.hid (fun W (hW : Fr No w W) => wright_any (ht.no hW) (h.no hW))
  have HRR : Hid (rgtW d.v = true → RgtW d.v) := Lib.hid rgtW_iff.1
  have HPL : Hid (d.v.ps.length = d.n4) := Lib.hid (by have := h.r4.2.1; show (d.ps.map Pl.py).length = _; rw [List.length_map]; exact this)
  obtain ⟨p, hp⟩ : ∃ p, rgtW d.v = p := ⟨_, rfl⟩
  rw [hp] at HRT HRR
  obtain ⟨SV, hSV⟩ : ∃ SV, (d.sd.toNat : Int) = SV := ⟨_, rfl⟩
  have HSV := Lib.hid hSV
  obtain ⟨VV, hVV⟩ : ∃ VV, d.v = VV := ⟨_, rfl⟩
  have HVV := Lib.hid hVV
  rw [hVV] at HRR HPL
  clear ht h hC0 hC1 hP0 hP1 hp hVV
  obtain ⟨size, sd, tick, A3, n3, c3, cs, A4, n4, c4, ps⟩ := d
  dsimp only [Wd.val, u64v] at *
  rw [hSV] at HGR HRT ⊢
  clear hSV
  have hb0 := heap_alloc_new w (.cells #[.int .i64 size, .int .u64 SV, .int .i64 tick, .slice A3 n3 c3, .slice A4 n4 c4] 26)
  have hf0 := Fr.alloc No w (.cells #[.int .i64 size, .int .u64 SV, .int .i64 tick, .slice A3 n3 c3, .slice A4 n4 c4] 26)
  have hb1 := heap_alloc_new (w.alloc (.cells #[.int .i64 size, .int .u64 SV, .int .i64 tick, .slice A3 n3 c3, .slice A4 n4 c4] 26)) (.cells #[.int .i64 C0.x, .int .i64 C0.y, .slice C0.A1 C0.n1 C0.c1, .slice C0.A2 C0.n2 C0.c2, .slice C0.A3 C0.n3 C0.c3, .int .i64 C1.x, .int .i64 C1.y, .slice C1.A1 C1.n1 C1.c1, .slice C1.A2 C1.n2 C1.c2, .slice C1.A3 C1.n3 C1.c3] 32)
  have hf1 := Fr.alloc No (w.alloc (.cells #[.int .i64 size, .int .u64 SV, .int .i64 tick, .slice A3 n3 c3, .slice A4 n4 c4] 26)) (.cells #[.int .i64 C0.x, .int .i64 C0.y, .slice C0.A1 C0.n1 C0.c1, .slice C0.A2 C0.n2 C0.c2, .slice C0.A3 C0.n3 C0.c3, .int .i64 C1.x, .int .i64 C1.y, .slice C1.A1 C1.n1 C1.c1, .slice C1.A2 C1.n2 C1.c2, .slice C1.A3 C1.n3 C1.c3] 32)
  have hb2 := heap_alloc_new ((w.alloc (.cells #[.int .i64 size, .int .u64 SV, .int .i64 tick, .slice A3 n3 c3, .slice A4 n4 c4] 26)).alloc (.cells #[.int .i64 C0.x, .int .i64 C0.y, .slice C0.A1 C0.n1 C0.c1, .slice C0.A2 C0.n2 C0.c2, .slice C0.A3 C0.n3 C0.c3, .int .i64 C1.x, .int .i64 C1.y, .slice C1.A1 C1.n1 C1.c1, .slice C1.A2 C1.n2 C1.c2, .slice C1.A3 C1.n3 C1.c3] 32)) (.cells #[.int .i64 P0.id, .int .i64 P0.x, .int .i64 P0.y, .slice P0.A1 P0.n1 P0.c1, .int .i64 P0.wi, .slice P0.A2 P0.n2 P0.c2, .bool P0.ag, .int .i64 P1.id, .int .i64 P1.x, .int .i64 P1.y, .slice P1.A1 P1.n1 P1.c1, .int .i64 P1.wi, .slice P1.A2 P1.n2 P1.c2, .bool P1.ag] 36)
  have hf2 := Fr.alloc No ((w.alloc (.cells #[.int .i64 size, .int .u64 SV, .int .i64 tick, .slice A3 n3 c3, .slice A4 n4 c4] 26)).alloc (.cells #[.int .i64 C0.x, .int .i64 C0.y, .slice C0.A1 C0.n1 C0.c1, .slice C0.A2 C0.n2 C0.c2, .slice C0.A3 C0.n3 C0.c3, .int .i64 C1.x, .int .i64 C1.y, .slice C1.A1 C1.n1 C1.c1, .slice C1.A2 C1.n2 C1.c2, .slice C1.A3 C1.n3 C1.c3] 32)) (.cells #[.int .i64 P0.id, .int .i64 P0.x, .int .i64 P0.y, .slice P0.A1 P0.n1 P0.c1, .int .i64 P0.wi, .slice P0.A2 P0.n2 P0.c2, .bool P0.ag, .int .i64 P1.id, .int .i64 P1.x, .int .i64 P1.y, .slice P1.A1 P1.n1 P1.c1, .int .i64 P1.wi, .slice P1.A2 P1.n2 P1.c2, .bool P1.ag] 36)
  have hbD := blk_no (hf1.no_trans hf2) hb0
  have hbC := blk_no hf2 hb1
  have HFX := Lib.hid ((hf0.no_trans hf1).no_trans hf2)
  simp only [World.size_alloc] at hbC hb2
  clear hb0 hb1 hf0 hf1 hf2
  go_enter Tryd.func3, Tryd.ntmps3
  go_upto_region 1 with fail
  obtain ⟨D, hD⟩ : ∃ D, w.heap.size = D := ⟨_, rfl⟩
  try simp only [World.size_alloc]
  rw [hD] at hbD hbC hb2 ⊢
  clear hD
  generalize ((w.alloc (.cells #[.int .i64 size, .int .u64 SV, .int .i64 tick, .slice A3 n3 c3, .slice A4 n4 c4] 26)).alloc (.cells #[.int .i64 C0.x, .int .i64 C0.y, .slice C0.A1 C0.n1 C0.c1, .slice C0.A2 C0.n2 C0.c2, .slice C0.A3 C0.n3 C0.c3, .int .i64 C1.x, .int .i64 C1.y, .slice C1.A1 C1.n1 C1.c1, .slice C1.A2 C1.n2 C1.c2, .slice C1.A3 C1.n3 C1.c3] 32)).alloc (.cells #[.int .i64 P0.id, .int .i64 P0.x, .int .i64 P0.y, .slice P0.A1 P0.n1 P0.c1, .int .i64 P0.wi, .slice P0.A2 P0.n2 P0.c2, .bool P0.ag, .int .i64 P1.id, .int .i64 P1.x, .int .i64 P1.y, .slice P1.A1 P1.n1 P1.c1, .int .i64 P1.wi, .slice P1.A2 P1.n2 P1.c2, .bool P1.ag] 36) = wx at *
  obtain ⟨LO, hLO⟩ : ∃ LO, wx.heap.size = LO := ⟨_, rfl⟩
  have HLO := Lib.hid hLO
  clear hLO
  have hW0 : Hid (∀ W, Fr No wx W → W.cell? ⟨D, 0, none⟩ = some (.int .i64 size) ∧ W.cell? ⟨D, 1, none⟩ = some (.int .u64 SV) ∧ W.cell? ⟨D, 2, none⟩ = some (.int .i64 tick) ∧ W.cell? ⟨D, 3, none⟩ = some (.slice A3 n3 c3) ∧ W.cell? ⟨D, 4, none⟩ = some (.slice A4 n4 c4)) := Lib.hid (fun W hW => cells5 (blk_no hW hbD))
  have hWC : Hid (∀ W, Fr No wx W → (W.cell? ⟨D + 1, 0, none⟩ = some (.int .i64 C0.x) ∧ W.cell? ⟨D + 1, 1, none⟩ = some (.int .i64 C0.y) ∧ W.cell? ⟨D + 1, 2, none⟩ = some (.slice C0.A1 C0.n1 C0.c1) ∧ W.cell? ⟨D + 1, 3, none⟩ = some (.slice C0.A2 C0.n2 C0.c2) ∧ W.cell? ⟨D + 1, 4, none⟩ = some (.slice C0.A3 C0.n3 C0.c3) ∧ W.cell? ⟨D + 1, 5, none⟩ = some (.int .i64 C1.x) ∧ W.cell? ⟨D + 1, 6, none⟩ = some (.int .i64 C1.y) ∧ W.cell? ⟨D + 1, 7, none⟩ = some (.slice C1.A1 C1.n1 C1.c1) ∧ W.cell? ⟨D + 1, 8, none⟩ = some (.slice C1.A2 C1.n2 C1.c2) ∧ W.cell? ⟨D + 1, 9, none⟩ = some (.slice C1.A3 C1.n3 C1.c3))) := Lib.hid (fun W hW => ⟨(blk_cell (blk_no hW hbC) 0).trans (by simp), (blk_cell (blk_no hW hbC) 1).trans (by simp), (blk_cell (blk_no hW hbC) 2).trans (by simp), (blk_cell (blk_no hW hbC) 3).trans (by simp), (blk_cell (blk_no hW hbC) 4).trans (by simp), (blk_cell (blk_no hW hbC) 5).trans (by simp), (blk_cell (blk_no hW hbC) 6).trans (by simp), (blk_cell (blk_no hW hbC) 7).trans (by simp), (blk_cell (blk_no hW hbC) 8).trans (by simp), (blk_cell (blk_no hW hbC) 9).trans (by simp)⟩)
  have hWP : Hid (∀ W, Fr No wx W → (W.cell? ⟨D + 1 + 1, 0, none⟩ = some (.int .i64 P0.id) ∧ W.cell? ⟨D + 1 + 1, 1, none⟩ = some (.int .i64 P0.x) ∧ W.cell? ⟨D + 1 + 1, 2, none⟩ = some (.int .i64 P0.y) ∧ W.cell? ⟨D + 1 + 1, 3, none⟩ = some (.slice P0.A1 P0.n1 P0.c1) ∧ W.cell? ⟨D + 1 + 1, 4, none⟩ = some (.int .i64 P0.wi) ∧ W.cell? ⟨D + 1 + 1, 5, none⟩ = some (.slice P0.A2 P0.n2 P0.c2) ∧ W.cell? ⟨D + 1 + 1, 6, none⟩ = some (.bool P0.ag) ∧ W.cell? ⟨D + 1 + 1, 7, none⟩ = some (.int .i64 P1.id) ∧ W.cell? ⟨D + 1 + 1, 8, none⟩ = some (.int .i64 P1.x) ∧ W.cell? ⟨D + 1 + 1, 9, none⟩ = some (.int .i64 P1.y) ∧ W.cell? ⟨D + 1 + 1, 10, none⟩ = some (.slice P1.A1 P1.n1 P1.c1) ∧ W.cell? ⟨D + 1 + 1, 11, none⟩ = some (.int .i64 P1.wi) ∧ W.cell? ⟨D + 1 + 1, 12, none⟩ = some (.slice P1.A2 P1.n2 P1.c2) ∧ W.cell? ⟨D + 1 + 1, 13, none⟩ = some (.bool P1.ag))) := Lib.hid (fun W hW => ⟨(blk_cell (blk_no hW hb2) 0).trans (by simp), (blk_cell (blk_no hW hb2) 1).trans (by simp), (blk_cell (blk_no hW hb2) 2).trans (by simp), (blk_cell (blk_no hW hb2) 3).trans (by simp), (blk_cell (blk_no hW hb2) 4).trans (by simp), (blk_cell (blk_no hW hb2) 5).trans (by simp), (blk_cell (blk_no hW hb2) 6).trans (by simp), (blk_cell (blk_no hW hb2) 7).trans (by simp), (blk_cell (blk_no hW hb2) 8).trans (by simp), (blk_cell (blk_no hW hb2) 9).trans (by simp), (blk_cell (blk_no hW hb2) 10).trans (by simp), (blk_cell (blk_no hW hb2) 11).trans (by simp), (blk_cell (blk_no hW hb2) 12).trans (by simp), (blk_cell (blk_no hW hb2) 13).trans (by simp)⟩)
  clear hbD hbC hb2
  obtain ⟨k0, k1, k2, k3, k4⟩ := hW0.out _ (Fr.refl No wx)
  go_wp2_with fail
  refine (HGR.out _ HFX.out).mono ?_
  rintro e w1 ⟨g, rfl, hf⟩
  have HF1 := Lib.hid hf
  clear hf k0 k1 k2 k3 k4
  obtain ⟨k0, k1, k2, k3, k4⟩ := hW0.out _ HF1.out
  cases g with
  | true =>
    go_wp2_with (go_at_call 9; refine (HAW.out _ (HFX.out.no_trans HF1.out)).mono ?_; rintro e w2 ⟨rfl, hf⟩; have HF2 := Lib.hid (HF1.out.no_trans hf); clear hf)
    go_ret
    exact ⟨rfl, HFX.out.no_trans HF2.out⟩
  | false =>
  cases p with
  | false =>
    go_wp2_with (first
      | (go_at_call 8; refine (HRT.out _ (HFX.out.no_trans HF1.out)).mono ?_; rintro e w2 ⟨rfl, hf⟩; have HF2 := Lib.hid (HF1.out.no_trans hf); clear hf)
      | (go_at_call 9; refine (HAW.out _ (HFX.out.no_trans HF2.out)).mono ?_; rintro e w3 ⟨rfl, hf⟩; have HF3 := Lib.hid (HF2.out.no_trans hf); clear hf))
    go_ret
    exact ⟨rfl, HFX.out.no_trans HF3.out⟩
  | true =>
  have HRW := Lib.hid (HRR.out rfl)
  clear HRR HGR
  by_cases h30 : (n4 : Int) > 30
  · go_wp2_with (first
      | (go_at_call 8; refine (HRT.out _ (HFX.out.no_trans HF1.out)).mono ?_; rintro e w2 ⟨rfl, hf⟩; have HF2 := Lib.hid (HF1.out.no_trans hf); clear hf k0 k1 k2 k3 k4; obtain ⟨k0, k1, k2, k3, k4⟩ := hW0.out _ HF2.out)
      | (go_at_call 9; refine (HAW.out _ (HFX.out.no_trans HF2.out)).mono ?_; rintro e w3 ⟨rfl, hf⟩; have HF3 := Lib.hid (HF2.out.no_trans hf); clear hf))
    go_ret
    exact ⟨rfl, HFX.out.no_trans HF3.out⟩
  · have HL30 : Hid (VV.ps.length ≤ 30) := Lib.hid (by have := HPL.out; omega)
    have HVS : Hid (∀ W, Fr No w W → InW W ⟨size, sd, tick, A3, n3, c3, cs, A4, n4, c4, ps⟩) := HIN
    go_upto_region 3 with (go_at_call 8; refine (HRT.out _ (HFX.out.no_trans HF1.out)).mono ?_; rintro e w2 ⟨rfl, hf⟩; have HF2 := Lib.hid (HF1.out.no_trans hf); clear hf k0 k1 k2 k3 k4; obtain ⟨k0, k1, k2, k3, k4⟩ := hW0.out _ HF2.out)
    clear HF1 HRT HPL k0 k1 k2 k3 k4 h30
    have HZ : Hid (∀ v : Wv, v.size = VV.size → ((if rgtCW v.size C0.ck = true then (0 : Int) else 101) = if rgtCW VV.size C0.ck = true then 0 else 101) ∧ ((if rgtCW v.size C1.ck = true then (0 : Int) else 101) = if rgtCW VV.size C1.ck = true then 0 else 101)) := Lib.hid (fun v hv => by rw [hv]; exact ⟨rfl, rfl⟩)
    obtain ⟨q0, hq0⟩ : ∃ q, rgtCW VV.size C0.ck = q := ⟨_, rfl⟩
    obtain ⟨q1, hq1⟩ : ∃ q, rgtCW VV.size C1.ck = q := ⟨_, rfl⟩
    have HQ0 := Lib.hid hq0
    have HQ1 := Lib.hid hq1
    rw [hq0, hq1] at HZ
    obtain ⟨z0, hz0⟩ : ∃ z : Int, (if q0 = true then (0 : Int) else 101) = z := ⟨_, rfl⟩
    obtain ⟨z1, hz1⟩ : ∃ z : Int, (if q1 = true then (0 : Int) else 101) = z := ⟨_, rfl⟩
    have HZ0 := Lib.hid hz0
    have HZ1 := Lib.hid hz1
    rw [hz0, hz1] at HZ
    clear hq0 hq1 hz0 hz1
    go_cut [7, 8] from 34 to 41 (fun o7 o8 wz => ∃ E a sv, o7 = .pointer (some ⟨E, 0, none⟩) ∧ o8 = .int .i64 z0 ∧ At5 LO wz E a sv ∧ a.v = putV VV C0.ck ∧ LO ≤ E ∧ Fr No wx wz)
    case first =>
      obtain ⟨m0, m1, m2, m3, m4, m5, m6, m7, m8, m9⟩ := hWC.out _ HF2.out
      obtain ⟨k0, k1, k2, k3, k4⟩ := hW0.out _ HF2.out
      go_wp2_with fail
      refine ((putQ (z := z0) (a := ⟨size, sd, tick, A3, n3, c3, cs, A4, n4, c4, ps⟩) (HT.out _ (HFX.out.no_trans HF2.out)) (HVS.out _ (HFX.out.no_trans HF2.out)) (by rw [HVV.out]; exact HRW.out) HSV.out (HC0.out _ (HFX.out.no_trans HF2.out)) (by rw [HVV.out]; exact (HZ.out _ rfl).1))).mono ?_
      rintro e wn ⟨an, svn, rfl, ⟨hs1, hs2, hs3, hs4, hs5⟩, hf⟩
      have HNW := Lib.hid (show At5 LO (wn.alloc (.cells #[.int .i64 an.size, .int .u64 svn, .int .i64 an.tick, .slice an.A3 an.n3 an.c3, .slice an.A4 an.n4 an.c4] 26)) wn.heap.size an svn from ⟨heap_alloc_new _ _, hs1, (hs3.low (by have := (HF2.out).size; have := HLO.out; omega)).no (Fr.alloc No _ _), hs4, hs5⟩)
      have HNV := Lib.hid hs2
      have HNF := Lib.hid ((HF2.out).no_trans hf)
      have HNFE := Lib.hid hf
      clear hs1 hs2 hs3 hs4 hs5 hf
      go_wp2_with fail
      go_meet
      exact ⟨_, an, svn, rfl, rfl, HNW.out, HNV.out.trans (by rw [HVV.out]), by have := HNF.out.size; have := HLO.out; omega, HNF.out.no_trans (Fr.alloc No _ _)⟩
    case rest =>
    obtain ⟨E7, a0, sa0, rfl, rfl, hat, hv, hge, hf⟩ := hcut
    have HA0 := Lib.hid hat
    have HVA0 := Lib.hid hv
    have HGEE7 := Lib.hid hge
    have HFA := Lib.hid hf
    clear hat hv hge hf
    go_upto_region 4 with fail
    go_cut [9] from 41 to 48 (fun o9 wz => ∃ a sv, o9 = .int .i64 z1 ∧ At5 LO wz E7 a sv ∧ a.v = putV (putV VV C0.ck) C1.ck ∧ Fr No wx wz)
    case first =>
      obtain ⟨m0, m1, m2, m3, m4, m5, m6, m7, m8, m9⟩ := hWC.out _ HFA.out
      obtain ⟨k0, k1, k2, k3, k4⟩ := cells5 HA0.out.hE
      go_wp2_with fail
      refine ((putQ (z := z1) (HT.out _ (HFX.out.no_trans HFA.out)) HA0.out.inW HA0.out.r HA0.out.hs (HC1.out _ (HFX.out.no_trans HFA.out)) (by rw [HVA0.out]; exact (HZ.out _ (by first | exact putV_keep.1 | exact putV_keep.1.trans putV_keep.1 | exact (putV_keep.1.trans putV_keep.1).trans putV_keep.1)).2))).mono ?_
      rintro e wn ⟨an, svn, rfl, ⟨hs1, hs2, hs3, hs4, hs5⟩, hf⟩
      have hEn := (HA0.out.no hf).hE
      have HNW := Lib.hid (show At5 LO (set5 wn E7 (.int .i64 an.size) (.int .u64 svn) (.int .i64 an.tick) (.slice an.A3 an.n3 an.c3) (.slice an.A4 an.n4 an.c4)) E7 an svn from ⟨set5_heap hEn _ _ _ _ _, hs1, (hs3.low (by have := (HFA.out).size; have := HLO.out; omega)).at_ hEn (set5_fr _ _ _ _ _ _ _), hs4, hs5⟩)
      have HNV := Lib.hid hs2
      have HNF := Lib.hid ((HFA.out).no_trans hf)
      have HNFE := Lib.hid hf
      obtain ⟨s0, s1, s2, s3, s4⟩ := cells5 hEn
      obtain ⟨y0, y1, y2, y3, y4⟩ := free5 hEn
      have HEN := Lib.hid hEn
      clear hs1 hs2 hs3 hs4 hs5 hf hEn
      go_wp2_with fail
      go_meet
      exact ⟨an, svn, rfl, HNW.out, HNV.out.trans (by rw [HVA0.out]), HNF.out.then_new (set5_fr _ _ _ _ _ _ _) (fun j hj => by have e : j = E7 := hj; rw [e, HLO.out]; exact HGEE7.out)⟩
    case rest =>
    obtain ⟨a1, sa1, rfl, hat, hv, hf⟩ := hcut
    have HA1 := Lib.hid hat
    have HVA1 := Lib.hid hv
    have HFB := Lib.hid hf
    clear hat hv hf HA0 HVA0 HFA
    go_upto_region 5 with fail
    go_cut [10, 11] from 48 to 55 (fun o10 o11 wz => ∃ E a sv, o10 = .pointer (some ⟨E, 0, none⟩) ∧ o11 = .int .i64 z1 ∧ At5 LO wz E a sv ∧ a.v = putV VV C1.ck ∧ LO ≤ E ∧ Fr No wx wz ∧ At5 LO wz E7 a1 sa1 ∧ ¬ E7 = E)
    case first =>
      obtain ⟨m0, m1, m2, m3, m4, m5, m6, m7, m8, m9⟩ := hWC.out _ HFB.out
      obtain ⟨k0, k1, k2, k3, k4⟩ := hW0.out _ HFB.out
      go_wp2_with fail
      refine ((putQ (z := z1) (a := ⟨size, sd, tick, A3, n3, c3, cs, A4, n4, c4, ps⟩) (HT.out _ (HFX.out.no_trans HFB.out)) (HVS.out _ (HFX.out.no_trans HFB.out)) (by rw [HVV.out]; exact HRW.out) HSV.out (HC1.out _ (HFX.out.no_trans HFB.out)) (by rw [HVV.out]; exact (HZ.out _ rfl).2))).mono ?_
      rintro e wn ⟨an, svn, rfl, ⟨hs1, hs2, hs3, hs4, hs5⟩, hf⟩
      have HNW := Lib.hid (show At5 LO (wn.alloc (.cells #[.int .i64 an.size, .int .u64 svn, .int .i64 an.tick, .slice an.A3 an.n3 an.c3, .slice an.A4 an.n4 an.c4] 26)) wn.heap.size an svn from ⟨heap_alloc_new _ _, hs1, (hs3.low (by have := (HFB.out).size; have := HLO.out; omega)).no (Fr.alloc No _ _), hs4, hs5⟩)
      have HNV := Lib.hid hs2
      have HNF := Lib.hid ((HFB.out).no_trans hf)
      have HNFE := Lib.hid hf
      clear hs1 hs2 hs3 hs4 hs5 hf
      go_wp2_with fail
      go_meet
      exact ⟨_, an, svn, rfl, rfl, HNW.out, HNV.out.trans (by rw [HVV.out]), by have := HNF.out.size; have := HLO.out; omega, HNF.out.no_trans (Fr.alloc No _ _), (HA1.out.no HNFE.out).no (Fr.alloc No _ _), fun e => by have h1 := (Array.getElem?_eq_some_iff.1 (HA1.out.no HNFE.out).hE).1; omega⟩
    case rest =>
    obtain ⟨E10, b0, sb0, rfl, rfl, hat, hv, hge, hf, hold, hne⟩ := hcut
    have HB0 := Lib.hid hat
    have HVB0 := Lib.hid hv
    have HGEE10 := Lib.hid hge
    have HFD := Lib.hid hf
    have HA2 := Lib.hid hold
    have HNE := Lib.hid hne
    clear hat hv hge hf hold hne HA1 HFB
    go_upto_region 6 with fail
    go_cut [12] from 55 to 61 (fun o12 wz => ∃ a sv, o12 = .int .i64 z0 ∧ At5 LO wz E10 a sv ∧ a.v = putV (putV VV C1.ck) C0.ck ∧ Fr No wx wz ∧ At5 LO wz E7 a1 sa1)
    case first =>
      obtain ⟨m0, m1, m2, m3, m4, m5, m6, m7, m8, m9⟩ := hWC.out _ HFD.out
      obtain ⟨k0, k1, k2, k3, k4⟩ := cells5 HB0.out.hE
      go_wp2_with fail
      refine ((putQ (z := z0) (HT.out _ (HFX.out.no_trans HFD.out)) HB0.out.inW HB0.out.r HB0.out.hs (HC0.out _ (HFX.out.no_trans HFD.out)) (by rw [HVB0.out]; exact (HZ.out _ (by first | exact putV_keep.1 | exact putV_keep.1.trans putV_keep.1 | exact (putV_keep.1.trans putV_keep.1).trans putV_keep.1)).1))).mono ?_
      rintro e wn ⟨an, svn, rfl, ⟨hs1, hs2, hs3, hs4, hs5⟩, hf⟩
      have hEn := (HB0.out.no hf).hE
      have HNW := Lib.hid (show At5 LO (set5 wn E10 (.int .i64 an.size) (.int .u64 svn) (.int .i64 an.tick) (.slice an.A3 an.n3 an.c3) (.slice an.A4 an.n4 an.c4)) E10 an svn from ⟨set5_heap hEn _ _ _ _ _, hs1, (hs3.low (by have := (HFD.out).size; have := HLO.out; omega)).at_ hEn (set5_fr _ _ _ _ _ _ _), hs4, hs5⟩)
      have HNV := Lib.hid hs2
      have HNF := Lib.hid ((HFD.out).no_trans hf)
      have HNFE := Lib.hid hf
      obtain ⟨s0, s1, s2, s3, s4⟩ := cells5 hEn
      obtain ⟨y0, y1, y2, y3, y4⟩ := free5 hEn
      have HEN := Lib.hid hEn
      clear hs1 hs2 hs3 hs4 hs5 hf hEn
      go_wp2_with fail
      go_meet
      exact ⟨an, svn, rfl, HNW.out, HNV.out.trans (by rw [HVB0.out]), HNF.out.then_new (set5_fr _ _ _ _ _ _ _) (fun j hj => by have e : j = E10 := hj; rw [e, HLO.out]; exact HGEE10.out), (HA2.out.no HNFE.out).oth HNE.out HEN.out (set5_fr _ _ _ _ _ _ _)⟩
    case rest =>
    obtain ⟨b1, sb1, rfl, hat, hv, hf, hold⟩ := hcut
    have HB1 := Lib.hid hat
    have HVB1 := Lib.hid hv
    have HFE := Lib.hid hf
    have HA3 := Lib.hid hold
    clear hat hv hf hold HA2 HB0 HVB0 HFD
    go_upto_region 7 with fail
    go_cut [92] from 61 to 93 (fun o92 wz => o92 = .bool false ∧ Fr No wc wz)
    case first =>
      obtain ⟨m0, m1, m2, m3, m4, m5, m6, m7, m8, m9⟩ := hWC.out _ HFE.out
      obtain ⟨k0, k1, k2, k3, k4⟩ := cells5 HA3.out.hE
      obtain ⟨j0, j1, j2, j3, j4⟩ := cells5 HB1.out.hE
      have hz0 := HZ0.out
      have hz1 := HZ1.out
      cases q0 with
      | false =>
        obtain rfl : z0 = 101 := hz0.symm
        cases q1 with
        | false =>
          obtain rfl : z1 = 101 := hz1.symm
          go_wp2_with fail
          go_meet
          exact ⟨rfl, Fr.refl _ _⟩
        | true =>
          obtain rfl : z1 = 0 := hz1.symm
          go_wp2_with fail
          go_meet
          exact ⟨rfl, Fr.refl _ _⟩
      | true =>
        obtain rfl : z0 = 0 := hz0.symm
        cases q1 with
        | false =>
          obtain rfl : z1 = 101 := hz1.symm
          go_wp2_with fail
          go_meet
          exact ⟨rfl, Fr.refl _ _⟩
        | true =>
          obtain rfl : z1 = 0 := hz1.symm
          by_cases hx : C0.x = C1.x
          · have hx' : (C0.x != C1.x) = false := by rw [hx]; simp
            by_cases hy : C0.y = C1.y
            · have hy' : (C0.y != C1.y) = false := by rw [hy]; simp
              clear hx hy
              go_wp2_with fail
              go_meet
              exact ⟨rfl, Fr.refl _ _⟩
            · have HEQ := Lib.hid ((HVA1.out.trans (put_comm HRW.out HQ0.out HQ1.out (by
          have r0 := (rgtCW_iff.1 HQ0.out).1.plc
          have r1 := (rgtCW_iff.1 HQ1.out).1.plc
          show C0.y * 16 + C0.x ≠ C1.y * 16 + C1.x
          omega))).trans HVB1.out.symm)
              have hy' : (C0.y != C1.y) = true := by simp [hy]
              clear hx
              go_wp2_with (go_at_call 11; refine (HA3.out.same HB1.out HEQ.out).mono ?_; rintro e wn ⟨rfl, hf⟩; have HNF := Lib.hid hf; clear hf)
              go_meet
              exact ⟨rfl, HNF.out⟩
          · have HEQ := Lib.hid ((HVA1.out.trans (put_comm HRW.out HQ0.out HQ1.out (by
          have r0 := (rgtCW_iff.1 HQ0.out).1.plc
          have r1 := (rgtCW_iff.1 HQ1.out).1.plc
          show C0.y * 16 + C0.x ≠ C1.y * 16 + C1.x
          omega))).trans HVB1.out.symm)
            have hx' : (C0.x != C1.x) = true := by simp [hx]
            go_wp2_with (go_at_call 11; refine (HA3.out.same HB1.out HEQ.out).mono ?_; rintro e wn ⟨rfl, hf⟩; have HNF := Lib.hid hf; clear hf)
            go_meet
            exact ⟨rfl, HNF.out⟩
    case rest =>
    obtain ⟨rfl, hf⟩ := hcut
    have HFG := Lib.hid (HFE.out.no_trans hf)
    have HB2 := Lib.hid (HB1.out.no hf)
    clear hf HFE HA3 HB1 HVA1
    go_upto_region 9 with fail
    go_cut [13, 14] from 94 to 100 (fun o13 o14 wz => ∃ E a sv, o13 = .pointer (some ⟨E, 0, none⟩) ∧ o14 = .int .i64 z0 ∧ At5 LO wz E a sv ∧ a.v = putV (putV (putV VV C1.ck) C0.ck) C0.ck ∧ LO ≤ E ∧ Fr No wx wz ∧ At5 LO wz E10 b1 sb1 ∧ ¬ E10 = E)
    case first =>
      obtain ⟨m0, m1, m2, m3, m4, m5, m6, m7, m8, m9⟩ := hWC.out _ HFG.out
      obtain ⟨k0, k1, k2, k3, k4⟩ := cells5 HB2.out.hE
      go_wp2_with fail
      refine ((putQ (z := z0) (HT.out _ (HFX.out.no_trans HFG.out)) HB2.out.inW HB2.out.r HB2.out.hs (HC0.out _ (HFX.out.no_trans HFG.out)) (by rw [HVB1.out]; exact (HZ.out _ (by first | exact putV_keep.1 | exact putV_keep.1.trans putV_keep.1 | exact (putV_keep.1.trans putV_keep.1).trans putV_keep.1)).1))).mono ?_
      rintro e wn ⟨an, svn, rfl, ⟨hs1, hs2, hs3, hs4, hs5⟩, hf⟩
      have HNW := Lib.hid (show At5 LO (wn.alloc (.cells #[.int .i64 an.size, .int .u64 svn, .int .i64 an.tick, .slice an.A3 an.n3 an.c3, .slice an.A4 an.n4 an.c4] 26)) wn.heap.size an svn from ⟨heap_alloc_new _ _, hs1, (hs3.low (by have := (HFG.out).size; have := HLO.out; omega)).no (Fr.alloc No _ _), hs4, hs5⟩)
      have HNV := Lib.hid hs2
      have HNF := Lib.hid ((HFG.out).no_trans hf)
      have HNFE := Lib.hid hf
      clear hs1 hs2 hs3 hs4 hs5 hf
      go_wp2_with fail
      go_meet
      exact ⟨_, an, svn, rfl, rfl, HNW.out, HNV.out.trans (by rw [HVB1.out]), by have := HNF.out.size; have := HLO.out; omega, HNF.out.no_trans (Fr.alloc No _ _), (HB2.out.no HNFE.out).no (Fr.alloc No _ _), fun e => by have h1 := (Array.getElem?_eq_some_iff.1 (HB2.out.no HNFE.out).hE).1; omega⟩
    case rest =>
    obtain ⟨E13, g0, sg0, rfl, rfl, hat, hv, hge, hf, hold, hne⟩ := hcut
    have HG0 := Lib.hid hat
    have HVG0 := Lib.hid hv
    have HFH := Lib.hid hf
    have HB3 := Lib.hid hold
    clear hat hv hge hf hold hne HB2 HFG
    go_upto_region 10 with fail
    go_cut [111] from 100 to 112 (fun o111 wz => o111 = .bool false ∧ Fr No wc wz)
    case first =>
      obtain ⟨k0, k1, k2, k3, k4⟩ := cells5 HG0.out.hE
      obtain ⟨j0, j1, j2, j3, j4⟩ := cells5 HB3.out.hE
      have hz0 := HZ0.out
      cases q0 with
      | false =>
        obtain rfl : z0 = 101 := hz0.symm
        go_wp2_with fail
        go_meet
        exact ⟨rfl, Fr.refl _ _⟩
      | true =>
        obtain rfl : z0 = 0 := hz0.symm
        have HEQ := Lib.hid ((HVG0.out.trans (put_again HRW.out.put (by rw [putV_keep.1]; exact HQ0.out))).trans HVB1.out.symm)
        go_wp2_with (go_at_call 11; refine (HG0.out.same HB3.out HEQ.out).mono ?_; rintro e wn ⟨rfl, hf⟩; have HNF := Lib.hid hf; clear hf)
        go_meet
        exact ⟨rfl, HNF.out⟩
    case rest =>
    obtain ⟨rfl, hf⟩ := hcut
    have HFC := Lib.hid (HFH.out.no_trans hf)
    clear hf HFH HG0 HB3 HVB1 HVG0 HZ HZ0 HZ1 HQ0 HQ1 HNE HGEE7 HGEE10 HF2
    go_upto_region 12 with fail
    have HZ : Hid (∀ v : Wv, v.size = VV.size → ((if rgtP v.size P0.py = true then (0 : Int) else 110) = if rgtP VV.size P0.py = true then 0 else 110) ∧ ((if rgtP v.size P1.py = true then (0 : Int) else 110) = if rgtP VV.size P1.py = true then 0 else 110)) := Lib.hid (fun v hv => by rw [hv]; exact ⟨rfl, rfl⟩)
    obtain ⟨q0, hq0⟩ : ∃ q, rgtP VV.size P0.py = q := ⟨_, rfl⟩
    obtain ⟨q1, hq1⟩ : ∃ q, rgtP VV.size P1.py = q := ⟨_, rfl⟩
    have HQ0 := Lib.hid hq0
    have HQ1 := Lib.hid hq1
    rw [hq0, hq1] at HZ
    obtain ⟨z0, hz0⟩ : ∃ z : Int, (if q0 = true then (0 : Int) else 110) = z := ⟨_, rfl⟩
    obtain ⟨z1, hz1⟩ : ∃ z : Int, (if q1 = true then (0 : Int) else 110) = z := ⟨_, rfl⟩
    have HZ0 := Lib.hid hz0
    have HZ1 := Lib.hid hz1
    rw [hz0, hz1] at HZ
    clear hq0 hq1 hz0 hz1
    go_cut [15, 8] from 113 to 120 (fun o15 o8 wz => ∃ E a sv, o15 = .pointer (some ⟨E, 0, none⟩) ∧ o8 = .int .i64 z0 ∧ At5 LO wz E a sv ∧ a.v = setV VV P0.py ∧ LO ≤ E ∧ Fr No wx wz)
    case first =>
      obtain ⟨m0, m1, m2, m3, m4, m5, m6, m7, m8, m9, m10, m11, m12, m13⟩ := hWP.out _ HFC.out
      obtain ⟨k0, k1, k2, k3, k4⟩ := hW0.out _ HFC.out
      go_wp2_with fail
      refine ((setQ (z := z0) (a := ⟨size, sd, tick, A3, n3, c3, cs, A4, n4, c4, ps⟩) (HT.out _ (HFX.out.no_trans HFC.out)) (HVS.out _ (HFX.out.no_trans HFC.out)) (by rw [HVV.out]; exact HRW.out) (by rw [HVV.out]; exact .inl (by have := HL30.out; omega)) HSV.out (HP0.out _ (HFX.out.no_trans HFC.out)) (by rw [HVV.out]; exact (HZ.out _ rfl).1))).mono ?_
      rintro e wn ⟨an, svn, rfl, ⟨hs1, hs2, hs3, hs4, hs5⟩, hf⟩
      have HNW := Lib.hid (show At5 LO (wn.alloc (.cells #[.int .i64 an.size, .int .u64 svn, .int .i64 an.tick, .slice an.A3 an.n3 an.c3, .slice an.A4 an.n4 an.c4] 26)) wn.heap.size an svn from ⟨heap_alloc_new _ _, hs1, (hs3.low (by have := (HFC.out).size; have := HLO.out; omega)).no (Fr.alloc No _ _), hs4, hs5⟩)
      have HNV := Lib.hid hs2
      have HNF := Lib.hid ((HFC.out).no_trans hf)
      have HNFE := Lib.hid hf
      clear hs1 hs2 hs3 hs4 hs5 hf
      go_wp2_with fail
      go_meet
      exact ⟨_, an, svn, rfl, rfl, HNW.out, HNV.out.trans (by rw [HVV.out]), by have := HNF.out.size; have := HLO.out; omega, HNF.out.no_trans (Fr.alloc No _ _)⟩
    case rest =>
    obtain ⟨E15, a0, sa0, rfl, rfl, hat, hv, hge, hf⟩ := hcut
    have HA0 := Lib.hid hat
    have HVA0 := Lib.hid hv
    have HGEE15 := Lib.hid hge
    have HFA := Lib.hid hf
    clear hat hv hge hf
    go_upto_region 13 with fail
    go_cut [9] from 120 to 127 (fun o9 wz => ∃ a sv, o9 = .int .i64 z1 ∧ At5 LO wz E15 a sv ∧ a.v = setV (setV VV P0.py) P1.py ∧ Fr No wx wz)
    case first =>
      obtain ⟨m0, m1, m2, m3, m4, m5, m6, m7, m8, m9, m10, m11, m12, m13⟩ := hWP.out _ HFA.out
      obtain ⟨k0, k1, k2, k3, k4⟩ := cells5 HA0.out.hE
      go_wp2_with fail
      refine ((setQ (z := z1) (HT.out _ (HFX.out.no_trans HFA.out)) HA0.out.inW HA0.out.r (by rw [HVA0.out]; first | exact Sok.again (.inl (by have := HL30.out; have := setV_len (v := VV) (p := P1.py) (by omega); omega)) | exact .inl (by have := HL30.out; have := setV_len (v := VV) (p := P0.py) (by omega); have := setV_len (v := VV) (p := P1.py) (by omega); omega)) HA0.out.hs (HP1.out _ (HFX.out.no_trans HFA.out)) (by rw [HVA0.out]; exact (HZ.out _ (by first | exact setV_keep | exact setV_keep.trans setV_keep | exact (setV_keep.trans setV_keep).trans setV_keep)).2))).mono ?_
      rintro e wn ⟨an, svn, rfl, ⟨hs1, hs2, hs3, hs4, hs5⟩, hf⟩
      have hEn := (HA0.out.no hf).hE
      have HNW := Lib.hid (show At5 LO (set5 wn E15 (.int .i64 an.size) (.int .u64 svn) (.int .i64 an.tick) (.slice an.A3 an.n3 an.c3) (.slice an.A4 an.n4 an.c4)) E15 an svn from ⟨set5_heap hEn _ _ _ _ _, hs1, (hs3.low (by have := (HFA.out).size; have := HLO.out; omega)).at_ hEn (set5_fr _ _ _ _ _ _ _), hs4, hs5⟩)
      have HNV := Lib.hid hs2
      have HNF := Lib.hid ((HFA.out).no_trans hf)
      have HNFE := Lib.hid hf
      obtain ⟨s0, s1, s2, s3, s4⟩ := cells5 hEn
      obtain ⟨y0, y1, y2, y3, y4⟩ := free5 hEn
      have HEN := Lib.hid hEn
      clear hs1 hs2 hs3 hs4 hs5 hf hEn
      go_wp2_with fail
      go_meet
      exact ⟨an, svn, rfl, HNW.out, HNV.out.trans (by rw [HVA0.out]), HNF.out.then_new (set5_fr _ _ _ _ _ _ _) (fun j hj => by have e : j = E15 := hj; rw [e, HLO.out]; exact HGEE15.out)⟩
    case rest =>
    obtain ⟨a1, sa1, rfl, hat, hv, hf⟩ := hcut
    have HA1 := Lib.hid hat
    have HVA1 := Lib.hid hv
    have HFB := Lib.hid hf
    clear hat hv hf HA0 HVA0 HFA
    go_upto_region 14 with fail
    go_cut [16, 11] from 127 to 134 (fun o16 o11 wz => ∃ E a sv, o16 = .pointer (some ⟨E, 0, none⟩) ∧ o11 = .int .i64 z1 ∧ At5 LO wz E a sv ∧ a.v = setV VV P1.py ∧ LO ≤ E ∧ Fr No wx wz ∧ At5 LO wz E15 a1 sa1 ∧ ¬ E15 = E)
    case first =>
      obtain ⟨m0, m1, m2, m3, m4, m5, m6, m7, m8, m9, m10, m11, m12, m13⟩ := hWP.out _ HFB.out
      obtain ⟨k0, k1, k2, k3, k4⟩ := hW0.out _ HFB.out
      go_wp2_with fail
      refine ((setQ (z := z1) (a := ⟨size, sd, tick, A3, n3, c3, cs, A4, n4, c4, ps⟩) (HT.out _ (HFX.out.no_trans HFB.out)) (HVS.out _ (HFX.out.no_trans HFB.out)) (by rw [HVV.out]; exact HRW.out) (by rw [HVV.out]; exact .inl (by have := HL30.out; omega)) HSV.out (HP1.out _ (HFX.out.no_trans HFB.out)) (by rw [HVV.out]; exact (HZ.out _ rfl).2))).mono ?_
      rintro e wn ⟨an, svn, rfl, ⟨hs1, hs2, hs3, hs4, hs5⟩, hf⟩
      have HNW := Lib.hid (show At5 LO (wn.alloc (.cells #[.int .i64 an.size, .int .u64 svn, .int .i64 an.tick, .slice an.A3 an.n3 an.c3, .slice an.A4 an.n4 an.c4] 26)) wn.heap.size an svn from ⟨heap_alloc_new _ _, hs1, (hs3.low (by have := (HFB.out).size; have := HLO.out; omega)).no (Fr.alloc No _ _), hs4, hs5⟩)
      have HNV := Lib.hid hs2
      have HNF := Lib.hid ((HFB.out).no_trans hf)
      have HNFE := Lib.hid hf
      clear hs1 hs2 hs3 hs4 hs5 hf
      go_wp2_with fail
      go_meet
      exact ⟨_, an, svn, rfl, rfl, HNW.out, HNV.out.trans (by rw [HVV.out]), by have := HNF.out.size; have := HLO.out; omega, HNF.out.no_trans (Fr.alloc No _ _), (HA1.out.no HNFE.out).no (Fr.alloc No _ _), fun e => by have h1 := (Array.getElem?_eq_some_iff.1 (HA1.out.no HNFE.out).hE).1; omega⟩
    case rest =>
    obtain ⟨E16, b0, sb0, rfl, rfl, hat, hv, hge, hf, hold, hne⟩ := hcut
    have HB0 := Lib.hid hat
    have HVB0 := Lib.hid hv
    have HGEE16 := Lib.hid hge
    have HFD := Lib.hid hf
    have HA2 := Lib.hid hold
    have HNE := Lib.hid hne
    clear hat hv hge hf hold hne HA1 HFB
    go_upto_region 15 with fail
    go_cut [12] from 134 to 140 (fun o12 wz => ∃ a sv, o12 = .int .i64 z0 ∧ At5 LO wz E16 a sv ∧ a.v = setV (setV VV P1.py) P0.py ∧ Fr No wx wz ∧ At5 LO wz E15 a1 sa1)
    case first =>
      obtain ⟨m0, m1, m2, m3, m4, m5, m6, m7, m8, m9, m10, m11, m12, m13⟩ := hWP.out _ HFD.out
      obtain ⟨k0, k1, k2, k3, k4⟩ := cells5 HB0.out.hE
      go_wp2_with fail
      refine ((setQ (z := z0) (HT.out _ (HFX.out.no_trans HFD.out)) HB0.out.inW HB0.out.r (by rw [HVB0.out]; first | exact Sok.again (.inl (by have := HL30.out; have := setV_len (v := VV) (p := P1.py) (by omega); omega)) | exact .inl (by have := HL30.out; have := setV_len (v := VV) (p := P0.py) (by omega); have := setV_len (v := VV) (p := P1.py) (by omega); omega)) HB0.out.hs (HP0.out _ (HFX.out.no_trans HFD.out)) (by rw [HVB0.out]; exact (HZ.out _ (by first | exact setV_keep | exact setV_keep.trans setV_keep | exact (setV_keep.trans setV_keep).trans setV_keep)).1))).mono ?_
      rintro e wn ⟨an, svn, rfl, ⟨hs1, hs2, hs3, hs4, hs5⟩, hf⟩
      have hEn := (HB0.out.no hf).hE
      have HNW := Lib.hid (show At5 LO (set5 wn E16 (.int .i64 an.size) (.int .u64 svn) (.int .i64 an.tick) (.slice an.A3 an.n3 an.c3) (.slice an.A4 an.n4 an.c4)) E16 an svn from ⟨set5_heap hEn _ _ _ _ _, hs1, (hs3.low (by have := (HFD.out).size; have := HLO.out; omega)).at_ hEn (set5_fr _ _ _ _ _ _ _), hs4, hs5⟩)
      have HNV := Lib.hid hs2
      have HNF := Lib.hid ((HFD.out).no_trans hf)
      have HNFE := Lib.hid hf
      obtain ⟨s0, s1, s2, s3, s4⟩ := cells5 hEn
      obtain ⟨y0, y1, y2, y3, y4⟩ := free5 hEn
      have HEN := Lib.hid hEn
      clear hs1 hs2 hs3 hs4 hs5 hf hEn
      go_wp2_with fail
      go_meet
      exact ⟨an, svn, rfl, HNW.out, HNV.out.trans (by rw [HVB0.out]), HNF.out.then_new (set5_fr _ _ _ _ _ _ _) (fun j hj => by have e : j = E16 := hj; rw [e, HLO.out]; exact HGEE16.out), (HA2.out.no HNFE.out).oth HNE.out HEN.out (set5_fr _ _ _ _ _ _ _)⟩
    case rest =>
    obtain ⟨b1, sb1, rfl, hat, hv, hf, hold⟩ := hcut
    have HB1 := Lib.hid hat
    have HVB1 := Lib.hid hv
    have HFE := Lib.hid hf
    have HA3 := Lib.hid hold
    clear hat hv hf hold HA2 HB0 HVB0 HFD
    go_upto_region 16 with fail
    go_cut [162] from 140 to 163 (fun o162 wz => o162 = .bool false ∧ Fr No wc wz)
    case first =>
      obtain ⟨m0, m1, m2, m3, m4, m5, m6, m7, m8, m9, m10, m11, m12, m13⟩ := hWP.out _ HFE.out
      obtain ⟨k0, k1, k2, k3, k4⟩ := cells5 HA3.out.hE
      obtain ⟨j0, j1, j2, j3, j4⟩ := cells5 HB1.out.hE
      have hz0 := HZ0.out
      have hz1 := HZ1.out
      cases q0 with
      | false =>
        obtain rfl : z0 = 110 := hz0.symm
        cases q1 with
        | false =>
          obtain rfl : z1 = 110 := hz1.symm
          go_wp2_with fail
          go_meet
          exact ⟨rfl, Fr.refl _ _⟩
        | true =>
          obtain rfl : z1 = 0 := hz1.symm
          go_wp2_with fail
          go_meet
          exact ⟨rfl, Fr.refl _ _⟩
      | true =>
        obtain rfl : z0 = 0 := hz0.symm
        cases q1 with
        | false =>
          obtain rfl : z1 = 110 := hz1.symm
          go_wp2_with fail
          go_meet
          exact ⟨rfl, Fr.refl _ _⟩
        | true =>
          obtain rfl : z1 = 0 := hz1.symm
          by_cases hx : P0.id = P1.id
          · have hx' : (P0.id != P1.id) = false := by rw [hx]; simp
            clear hx
            go_wp2_with fail
            go_meet
            exact ⟨rfl, Fr.refl _ _⟩
          · have HEQ := Lib.hid ((HVA1.out.trans (set_comm HL30.out HQ0.out HQ1.out (show P0.py.id ≠ P1.py.id from hx))).trans HVB1.out.symm)
            have hx' : (P0.id != P1.id) = true := by simp [hx]
            go_wp2_with (go_at_call 11; refine (HA3.out.same HB1.out HEQ.out).mono ?_; rintro e wn ⟨rfl, hf⟩; have HNF := Lib.hid hf; clear hf)
            go_meet
            exact ⟨rfl, HNF.out⟩
    case rest =>
    obtain ⟨rfl, hf⟩ := hcut
    have HFG := Lib.hid (HFE.out.no_trans hf)
    have HB2 := Lib.hid (HB1.out.no hf)
    clear hf HFE HA3 HB1 HVA1
    go_upto_region 18 with fail
    go_cut [17, 18] from 164 to 170 (fun o17 o18 wz => ∃ E a sv, o17 = .pointer (some ⟨E, 0, none⟩) ∧ o18 = .int .i64 z0 ∧ At5 LO wz E a sv ∧ a.v = setV (setV (setV VV P1.py) P0.py) P0.py ∧ LO ≤ E ∧ Fr No wx wz ∧ At5 LO wz E16 b1 sb1 ∧ ¬ E16 = E)
    case first =>
      obtain ⟨m0, m1, m2, m3, m4, m5, m6, m7, m8, m9, m10, m11, m12, m13⟩ := hWP.out _ HFG.out
      obtain ⟨k0, k1, k2, k3, k4⟩ := cells5 HB2.out.hE
      go_wp2_with fail
      refine ((setQ (z := z0) (HT.out _ (HFX.out.no_trans HFG.out)) HB2.out.inW HB2.out.r (by rw [HVB1.out]; first | exact Sok.again (.inl (by have := HL30.out; have := setV_len (v := VV) (p := P1.py) (by omega); omega)) | exact .inl (by have := HL30.out; have := setV_len (v := VV) (p := P0.py) (by omega); have := setV_len (v := VV) (p := P1.py) (by omega); omega)) HB2.out.hs (HP0.out _ (HFX.out.no_trans HFG.out)) (by rw [HVB1.out]; exact (HZ.out _ (by first | exact setV_keep | exact setV_keep.trans setV_keep | exact (setV_keep.trans setV_keep).trans setV_keep)).1))).mono ?_
      rintro e wn ⟨an, svn, rfl, ⟨hs1, hs2, hs3, hs4, hs5⟩, hf⟩
      have HNW := Lib.hid (show At5 LO (wn.alloc (.cells #[.int .i64 an.size, .int .u64 svn, .int .i64 an.tick, .slice an.A3 an.n3 an.c3, .slice an.A4 an.n4 an.c4] 26)) wn.heap.size an svn from ⟨heap_alloc_new _ _, hs1, (hs3.low (by have := (HFG.out).size; have := HLO.out; omega)).no (Fr.alloc No _ _), hs4, hs5⟩)
      have HNV := Lib.hid hs2
      have HNF := Lib.hid ((HFG.out).no_trans hf)
      have HNFE := Lib.hid hf
      clear hs1 hs2 hs3 hs4 hs5 hf
      go_wp2_with fail
      go_meet
      exact ⟨_, an, svn, rfl, rfl, HNW.out, HNV.out.trans (by rw [HVB1.out]), by have := HNF.out.size; have := HLO.out; omega, HNF.out.no_trans (Fr.alloc No _ _), (HB2.out.no HNFE.out).no (Fr.alloc No _ _), fun e => by have h1 := (Array.getElem?_eq_some_iff.1 (HB2.out.no HNFE.out).hE).1; omega⟩
    case rest =>
    obtain ⟨E17, g0, sg0, rfl, rfl, hat, hv, hge, hf, hold, hne⟩ := hcut
    have HG0 := Lib.hid hat
    have HVG0 := Lib.hid hv
    have HFH := Lib.hid hf
    have HB3 := Lib.hid hold
    clear hat hv hge hf hold hne HB2 HFG
    go_upto_region 19 with fail
    obtain ⟨k0, k1, k2, k3, k4⟩ := cells5 HG0.out.hE
    obtain ⟨j0, j1, j2, j3, j4⟩ := cells5 HB3.out.hE
    have hz0 := HZ0.out
    cases q0 with
    | false =>
      obtain rfl : z0 = 110 := hz0.symm
      go_wp2_with (go_at_call 9; refine (HAW.out _ (HFX.out.no_trans HFH.out)).mono ?_; rintro e wn ⟨rfl, hf⟩; have HNF := Lib.hid (HFH.out.no_trans hf); clear hf)
      go_ret
      exact ⟨rfl, HFX.out.no_trans HNF.out⟩
    | true =>
      obtain rfl : z0 = 0 := hz0.symm
      have HEQ := Lib.hid ((HVG0.out.trans (set_twice (.inl (by have := HL30.out; have := setV_len (v := VV) (p := P1.py) (by omega); omega)))).trans HVB1.out.symm)
      go_wp2_with (first
        | (go_at_call 11; refine (HG0.out.same HB3.out HEQ.out).mono ?_; rintro e wn ⟨rfl, hf⟩; have HNF := Lib.hid (HFH.out.no_trans hf); clear hf)
        | (go_at_call 9; refine (HAW.out _ (HFX.out.no_trans HNF.out)).mono ?_; rintro e wm ⟨rfl, hf⟩; have HNG := Lib.hid (HNF.out.no_trans hf); clear hf))
      go_ret
      exact ⟨rfl, HFX.out.no_trans HNG.out⟩
theorem wputs_call {w : World} {d : Wd} {C0 C1 : Ch} {P0 P1 : Pl} (ht : ItT w) (h : InW w d) (hC0 : InC w C0) (hC1 : InC w C1) (hP0 : InP w P0) (hP1 : InP w P1) : Calls Tryd.prog 3 #[d.val, .agg #[.int .i64 C0.x, .int .i64 C0.y, .slice C0.A1 C0.n1 C0.c1, .slice C0.A2 C0.n2 C0.c2, .slice C0.A3 C0.n3 C0.c3, .int .i64 C1.x, .int .i64 C1.y, .slice C1.A1 C1.n1 C1.c1, .slice C1.A2 C1.n2 C1.c2, .slice C1.A3 C1.n3 C1.c3], .agg #[.int .i64 P0.id, .int .i64 P0.x, .int .i64 P0.y, .slice P0.A1 P0.n1 P0.c1, .int .i64 P0.wi, .slice P0.A2 P0.n2 P0.c2, .bool P0.ag, .int .i64 P1.id, .int .i64 P1.x, .int .i64 P1.y, .slice P1.A1 P1.n1 P1.c1, .int .i64 P1.wi, .slice P1.A2 P1.n2 P1.c2, .bool P1.ag]] w fun e w' => e = .returned (.bool true) ∧ Below w.heap.size w w' := (wputs_walk ht h hC0 hC1 hP0 hP1).mono fun _ _ ⟨h1, h2⟩ => ⟨h1, h2.noBelow⟩
end Go.Proofs.YtjdhbgdpmojobaaDoor
namespace Go.Proofs.YtjdhbgdpmojobaaDoor
open Go.RowKit Go.Deep Go.Maps

theorem kZ : Maps.Keyed Tryd.prog 3 := int_keyed Tryd.underlying3
def rngZ (z : Int) : Prop := 0 ≤ z ∧ z ≤ 100000
/-- Block X of w is a map of numbers, of which just those of the list have 1, the others nothing. -/
def SetZ (w : World) (X : Nat) (l : List Int) : Prop :=
  ∃ D : DataW Unit, w.ownsMap Tryd.prog 3 (plainElem Tryd.prog 3) X l.length D ∧ Tidy D ∧ Maps.size D = l.length ∧ ∀ z : Int, rngZ z → D.atKey (.int .i64 z) (.lit (.int .i64 0)) = .lit (.int .i64 (if z ∈ l then 1 else 0)) ∧ Maps.has D (.int .i64 z) = decide (z ∈ l)
section
variable {w w' : World} {X : Nat} {l : List Int}
theorem SetZ.lt (h : SetZ w X l) : X < w.heap.size := by
  obtain ⟨D, hD, _⟩ := h
  exact hD.lt
theorem SetZ.keep (h : SetZ w X l) (e : w'.heap[X]? = w.heap[X]?) : SetZ w' X l := by
  obtain ⟨D, ⟨es, clock, hm, r⟩, q⟩ := h
  exact ⟨D, ⟨es, clock, e.trans hm, r⟩, q⟩
theorem SetZ.no (h : SetZ w X l) (hf : Fr No w w') : SetZ w' X l := h.keep (hf.block X h.lt (fun e => e))
theorem SetZ.oth (h : SetZ w X l) {F : Nat → Prop} (hf : Fr F w w') (hF : ¬ F X) : SetZ w' X l := h.keep (hf.block X h.lt hF)
theorem SetZ.ne (h : SetZ w X l) {E : Nat} {cur : Array Value} {T : TypeId} (hE : w.heap[E]? = some (.cells cur T (0, 0))) : ¬ X = E := fun e => by
  obtain ⟨D, ⟨es, clock, hm, _⟩, _⟩ := h
  rw [e, hE] at hm
  cases hm
set_option maxRecDepth 100000 in
theorem SetZ.made (w : World) : SetZ (w.alloc (.map #[] 0)) w.heap.size [] :=
  ⟨.map [], World.ownsMap_made w _ _ _, tidy_empty, rfl, fun _ _ => ⟨rfl, rfl⟩⟩
theorem key_Z {x : Int} (hx : rngZ x) : keyOf Tryd.prog 3 (.int .i64 x) = some (.int .i64 x) := by
  have hw : (Lit.int .i64 x).wf = true := WalkArith.wf_i64 (by have := hx.1; have := hx.2; omega)
  simp [keyOf, Tryd.underlying3, mapKey, hw]
set_option maxRecDepth 100000 in
/-- What is looked up. -/
theorem SetZ.look (h : SetZ w X l) {x : Int} (hx : rngZ x) : (Instr.lookup 59 (.map (some X)) (.int .i64 x) false).run Tryd.prog w = .ok (.int .i64 (if x ∈ l then 1 else 0)) w := by
  obtain ⟨D, h1, h2, h3, h4⟩ := h
  obtain ⟨c, hrun, hat, _⟩ := h1.lookup_int kZ Tryd.underlying59 Tryd.underlying3 (Tryd.zeroValue3 w) (key_Z hx)
  rw [(h4 x hx).1] at hat
  have e : (if x ∈ l then (1 : Int) else 0) = c := by injection hat with hat; injection hat
  rw [e]
  exact hrun
theorem SetZ.len (h : SetZ w X l) (ty : TypeId) : (Builtin.len_ #[59] ty #[.map (some X)]).run Tryd.prog w = .ok (.int .i64 (l.length : Int)) w := by
  obtain ⟨D, h1, _, h3, _⟩ := h
  have := h1.len Tryd.underlying59 ty
  rw [h3] at this
  exact this
set_option maxRecDepth 100000 in
theorem SetZ.put (h : SetZ w X l) (hn : l.length < 1000) {x : Int} (hx : rngZ x) (hno : ¬ x ∈ l) : ∃ w', (Instr.mapUpdate 59 (.map (some X)) (.int .i64 x) (.int .i64 1)).run Tryd.prog w = .ok () w' ∧ SetZ w' X (x :: l) ∧ Fr (fun k => k = X) w w' := by
  obtain ⟨D, h1, h2, h3, h4⟩ := h
  obtain ⟨w', hrun, ho, hg⟩ := h1.update kZ Tryd.underlying59 (by unfold maxLen; omega) (key_Z hx) (val := .int .i64 1) (d := .lit (.int .i64 1)) (ps := []) (plainElem_int Tryd.underlying3 (by decide))
  have hh := (h4 x hx).2
  rw [decide_eq_false hno] at hh
  refine ⟨w', hrun, ⟨_, ho, h2.put (by trivial) _, by rw [size_put h2, hh]; simp [h3], fun y hy => ?_⟩, Fr.grown (F := fun k => k = X) hg (fun k e => by injection e with e; exact e.symm)⟩
  by_cases hyx : y = x
  · subst hyx
    rw [atKey_put_same h2.isMap (by trivial), has_put_same h2.isMap (by trivial)]
    simp
  · rw [atKey_put_other (by intro e; injection e with _ e; exact hyx e), has_put_other (by intro e; injection e with _ e; exact hyx e), (h4 y hy).1, (h4 y hy).2]
    simp [hyx]
/-- 'm[x] = 1'. -/
theorem wpList_putZ {ops : Array Oper} {rest : List Oper} {o : Oper} {a : Act} {Q : Exit → Act → World → Prop} (hg : o.guard = none) (m x v : Operand) (hop : o.op = Op.mapUpdate 59 m x v)
    (h : SetZ w X l) (hn : l.length < 1000) (y : Int) (hy : rngZ y) (hno : ¬ y ∈ l) (hm : a.eval m = .map (some X)) (hx : a.eval x = .int .i64 y) (hv : a.eval v = .int .i64 1)
    (hK : ∀ w', SetZ w' X (y :: l) → Fr (fun k => k = X) w w' → wpList Tryd.prog ops Q rest (a.put o.dst undef) w') : wpList Tryd.prog ops Q (o :: rest) a w := by
  refine wpList_plain hg fun K' hK' => ?_
  obtain ⟨w', hrun, r1, r2⟩ := h.put hn hy hno
  unfold Oper.wp
  simp [execOp, hop, hm, hx, hv, hrun, Result.andThen]
  exact hK' _ _ (hK w' r1 r2)
end
section
variable {w w' : World} {v : Wv} {p : Py}
/-- Of the players there only the one that was set has its Id. -/
theorem putL_own {α : Type} {key : α → Int} {l : List α} {t : Int} {x y : α} (h : x ∈ putL key l t [y]) (hx : key x = t) : x = y := by
  unfold putL at h
  rcases List.mem_append.1 h with h | h
  · have := of_decide_eq_true (List.mem_filter.1 h).2; omega
  · rcases List.mem_append.1 h with h | h
    · exact List.mem_singleton.1 h
    · have := of_decide_eq_true (List.mem_filter.1 h).2; omega
/-- A player of a new Id is one more. -/
theorem putL_more {α : Type} {key : α → Int} {t : Int} {y : α} : ∀ {l : List α}, (∀ x ∈ l, key x ≠ t) → (putL key l t [y]).length = l.length + 1
  | [], _ => rfl
  | x :: l, h => by
    have ih := putL_more (l := l) (y := y) (fun z hz => h z (List.mem_cons_of_mem _ hz))
    have hx := h x (List.mem_cons_self ..)
    unfold putL at ih ⊢
    rw [List.length_append, List.length_append, List.length_singleton] at ih ⊢
    rcases Int.lt_or_gt_of_ne hx with q | q
    · rw [List.filter_cons_of_pos (by simpa using q), List.filter_cons_of_neg (by simp only [decide_eq_true_eq]; omega), List.length_cons, List.length_cons]
      omega
    · rw [List.filter_cons_of_neg (by simp only [decide_eq_true_eq]; omega), List.filter_cons_of_pos (by simpa using q), List.length_cons, List.length_cons]
      omega
theorem putL_ids {l : List Py} {z : Int} : z ∈ (putL Py.id l p.id [p]).map Py.id ↔ z = p.id ∨ z ∈ l.map Py.id := by
  constructor
  · intro h
    obtain ⟨x, hx, rfl⟩ := List.mem_map.1 h
    rcases putL_mem (key := Py.id) hx with h | h
    · exact .inr (List.mem_map_of_mem h)
    · rw [List.mem_singleton.1 h]; exact .inl rfl
  · intro h
    by_cases hz : z = p.id
    · exact List.mem_map.2 ⟨p, by unfold putL; exact List.mem_append.2 (.inr (List.mem_append.2 (.inl (List.mem_singleton.2 rfl)))), hz.symm⟩
    · rcases h with h | h
      · exact absurd h hz
      · obtain ⟨x, hx, rfl⟩ := List.mem_map.1 h
        refine List.mem_map.2 ⟨x, ?_, rfl⟩
        unfold putL
        rcases Int.lt_or_gt_of_ne hz with q | q
        · exact List.mem_append.2 (.inl (List.mem_filter.2 ⟨hx, decide_eq_true q⟩))
        · exact List.mem_append.2 (.inr (List.mem_append.2 (.inr (List.mem_filter.2 ⟨hx, decide_eq_true q⟩))))
/-- Another player, whether there is room or not. -/
theorem set_new (r : RgtW v) (hp : rgtP v.size p = true) (hn : ¬ p.id ∈ v.ps.map Py.id) : (setE v p = if v.ps.length = 32 then 3 else 0) ∧ setV v p = (if v.ps.length = 32 then v else ⟨v.size, v.sd, v.tick, v.cs, putL Py.id v.ps p.id [p]⟩) ∧ RgtW (setV v p) := by
  have e1 : setE v p = if v.ps.length = 32 then 3 else 0 := by
    unfold setE
    rw [if_pos hp]
    by_cases h : v.ps.length = 32
    · rw [if_pos ⟨hn, h⟩, if_pos h]
    · rw [if_neg (fun q => h q.2), if_neg h]
  have e2 : setV v p = (if v.ps.length = 32 then v else ⟨v.size, v.sd, v.tick, v.cs, putL Py.id v.ps p.id [p]⟩) := by
    unfold setV
    rw [e1]
    by_cases h : v.ps.length = 32
    · rw [if_pos h, if_pos h]; rfl
    · rw [if_neg h, if_neg h]; rfl
  refine ⟨e1, e2, ?_⟩
  by_cases h : v.ps.length = 32
  · rw [e2, if_pos h]; exact r
  · exact r.set (.inl (by have := r.pn; omega))
end
end Go.Proofs.YtjdhbgdpmojobaaDoor
namespace Go.Proofs.YtjdhbgdpmojobaaDoor
open Go.RowKit Go.Deep Go.Maps

def ZAt (W : World) (a : Addr) (z : Int) : Prop := W.cell? a = some (.int .i64 z)
theorem ZAt.no {W W' : World} (hf : Fr No W W') (b o : Nat) (x : Int) (hb : b < W.heap.size) (h : ZAt W ⟨b, o, none⟩ x) : ZAt W' ⟨b, o, none⟩ x := (cell_no hf hb o).trans h
/-- How many of a list are not below a number. -/
def cntZ (l : List Int) (z : Int) : Nat := (l.filter (fun y => decide (z ≤ y))).length
theorem cntZ_le (l : List Int) (z : Int) : cntZ l z ≤ l.length := List.length_filter_le _ _
theorem cntZ_next {l : List Int} {z : Int} (h : z ∈ l) : cntZ l (z + 1) + 1 ≤ cntZ l z := by
  unfold cntZ
  have h1 := filt_len1 (fun y => decide (z + 1 ≤ y)) (fun _ => false) (fun x ⟨_, q⟩ => by cases q) (l.filter (fun y => decide (z ≤ y))) ⟨z, List.mem_filter.2 ⟨h, decide_eq_true (Int.le_refl z)⟩, decide_eq_false (by omega), rfl⟩
  have h2 : (l.filter (fun y => decide (z ≤ y))).filter (fun y => decide (z + 1 ≤ y)) = l.filter (fun y => decide (z + 1 ≤ y)) := filt2 _ _ _ (fun x => by by_cases q : z + 1 ≤ x <;> simp [q]; omega)
  rw [h2] at h1
  omega
theorem np_rgt {id x y : Int} (h0 : 0 ≤ id) (h1 : id ≤ 1073741824) (hx0 : 0 ≤ x) (hx1 : x < 8) (hy0 : 0 ≤ y) (hy1 : y < 8) : rgtP 1 ⟨id, x, y, List.replicate 8 (0, 0), -1, [], false⟩ = true := by
  have hb : rgt8 (List.replicate 8 ((0 : Nat), (0 : Int))) = true := by decide +kernel
  unfold rgtP idB winB dealB
  dsimp only
  rw [hb, if_pos rfl, decide_eq_true h0, decide_eq_true h1, decide_eq_true hx0, decide_eq_true (show x < 1 * 8 by omega), decide_eq_true hy0, decide_eq_true (show y < 1 * 8 by omega)]
  rfl
section
variable {w w' : World} {lo E : Nat} {a : Wd} {sv : Int}
theorem setN {P : Pl} {z : Int} (ht : ItT w) (h : At5 lo w E a sv) (hP : InP w P) (hp : rgtP a.v.size P.py = true) (hn : ¬ P.id ∈ a.v.ps.map Py.id) (hz : (if a.v.ps.length = 32 then (3 : Int) else 0) = z) : Calls Tryd.prog 12 #[.agg #[.int .i64 a.size, .int .u64 sv, .int .i64 a.tick, .slice a.A3 a.n3 a.c3, .slice a.A4 a.n4 a.c4], .agg #[.int .i64 P.id, .int .i64 P.x, .int .i64 P.y, .slice P.A1 P.n1 P.c1, .int .i64 P.wi, .slice P.A2 P.n2 P.c2, .bool P.ag]] w (PutQ w (setV a.v P.py) z) := by
  have hs := h.hs
  subst hs hz
  obtain ⟨q1, _, q3⟩ := set_new h.r hp hn
  refine (wset_any ht h.inW h.r hP).mono ?_
  rintro e w' ⟨d', rfl, hv, ho, hf⟩
  exact ⟨d', _, by rw [q1]; rfl, ⟨rfl, hv, ho, by rw [hv]; exact h.inW.by.set ⟨hP.b1, hP.b2⟩, by rw [hv]; exact q3⟩, hf⟩
end
section
variable {w w' : World} {lo E X : Nat} {a d : Wd} {sv : Int} {l : List Int}
theorem RdS.fr {F : Nat → Prop} {A : Option Addr} {n : Nat} {l : List (Nat × Int)} (h : RdS w A n l) (hf : Fr F w w') (hF : ∀ b o, A = some ⟨b, o, none⟩ → ¬ F b) : RdS w' A n l := by
  refine ⟨h.1, fun hn => ?_⟩
  obtain ⟨b, o, e, hb, hc⟩ := h.2 hn
  refine ⟨b, o, e, Nat.lt_of_lt_of_le hb hf.size, fun j hj => ?_⟩
  have q : ∀ k, w'.cell? ⟨b, k, none⟩ = w.cell? ⟨b, k, none⟩ := fun k => hf.cell (p := ⟨b, k, none⟩) hb (hF b o e)
  exact ⟨(q _).trans (hc j hj).1, (q _).trans (hc j hj).2⟩
/-- What happens to a map leaves a world at hand. -/
theorem OwW.keepX (h : OwW lo w d) (hX : SetZ w X l) (hf : Fr (fun k => k = X) w w') : OwW lo w' d := by
  have ap : ∀ {e : TypeId} {size m lo' : Nat} {v : Value} {L : List Value}, w.ownsRow lo' e size v m L → ∀ q, v.ownBlock = some q → ¬ q = X := fun h' q hq e => by
    obtain ⟨_, hc⟩ := own_type h' hq
    exact hX.ne hc e.symm
  have cc : ∀ C : Ch, OwC lo w C → OwC lo w' C := fun C hC => ⟨own_fr hC.o1 hf (ap hC.o1), own_fr hC.o2 hf (ap hC.o2), own_fr hC.o3 hf (ap hC.o3), fun b hb => ⟨(hC.o4 b hb).1, own_fr (hC.o4 b hb).2 hf (ap (hC.o4 b hb).2)⟩⟩
  exact ⟨h.e3, h.e4, own_fr h.o3 hf (ap h.o3), own_fr h.o4 hf (ap h.o4), fun C hC => cc C (h.oc C hC), fun P hP => ⟨(h.op P hP).e1, (h.op P hP).e2, own_fr (h.op P hP).o1 hf (ap (h.op P hP).o1), own_fr (h.op P hP).o2 hf (ap (h.op P hP).o2)⟩⟩
theorem At5.keepX (h : At5 lo w E a sv) (hX : SetZ w X l) (hf : Fr (fun k => k = X) w w') : At5 lo w' E a sv := ⟨hf.blk h.hE (fun e => hX.ne h.hE e.symm), h.hs, h.ow.keepX hX hf, h.bt, h.r⟩
/-- How many are in the map. -/
theorem wpList_lenZ {ops : Array Oper} {rest : List Oper} {o : Oper} {a : Act} {Q : Exit → Act → World → Prop} (hg : o.guard = none) (m : Operand) (hop : o.op = Op.call { callee := Callee.builtin Builtin.len, args := #[m], argTypes := #[59] })
    (h : SetZ w X l) (hm : a.eval m = .map (some X)) (hK : wpList Tryd.prog ops Q rest (a.put o.dst (.int .i64 (l.length : Int))) w) : wpList Tryd.prog ops Q (o :: rest) a w := by
  obtain ⟨D, h1, _, h3, _⟩ := h
  refine wpList_len_own w hg m 59 hop 3 3 Tryd.underlying59 _ X l.length D hm h1 ?_
  rw [h3]
  exact hK
end
/-- Who is there, who was seen. -/
structure Seen (v : Wv) (l : List Int) : Prop where
  sz : v.size = 1
  ln : l.length = v.ps.length
  le : l.length ≤ 32
  mem : ∀ z, z ∈ l ↔ z ∈ v.ps.map Py.id
  rg : ∀ z ∈ l, 0 ≤ z ∧ z ≤ 2000
set_option maxRecDepth 100000 in
set_option maxHeartbeats 12800000 in
theorem players_walk {w : World} (ht : ItT w) (n : Nat) (hn : n < 256) {A : Option Addr} {m c : Nat} {ids : List Int} (hx : RwK w 1 (ZAt w) A m ids) (hm : m ≤ 9223372036854775807) : Calls Tryd.prog 5 #[.int .u8 (n : Int), .slice A m c] w fun e w' => e = .returned (.bool true) ∧ Fr No w w' := by
  have HT := Lib.hid (fun W (hW : Fr No w W) => ht.no hW)
  have HAW := Lib.hid (fun W (hW : Fr No w W) => wawake_any (ht.no hW))
  have HX := Lib.hid (fun W (hW : Fr No w W) => RwK.no (At := ZAt) (fun _ _ _ hb => ZAt.no hW _ _ _ hb) hW.size hx)
  have HLX := Lib.hid hx.1
  have HNEW : Hid (∀ W, Calls Tryd.prog 13 #[.int .i64 1, .int .u64 0] W fun e w' => e = .returned (.tuple #[.agg #[.int .i64 1, .int .u64 0, .int .i64 0, .slice none 0 0, .slice none 0 0], .int .i64 0]) ∧ Fr No W w') := Lib.hid (fun W => (wnew_any 1 0#64 W).mono (fun e w' ⟨h1, h2⟩ => ⟨by rw [h1, if_pos (by decide)]; rfl, h2⟩))
  obtain ⟨LO, hLO⟩ : ∃ LO, w.heap.size = LO := ⟨_, rfl⟩
  have HLO := Lib.hid hLO
  have HM : Hid (m ≤ 9223372036854775807) := Lib.hid hm
  have HPK := Lib.hid (fun W x => pick_any W x 1000 (by decide) (by decide))
  obtain ⟨r9, hr9⟩ : ∃ r9, n % 9 = r9 := ⟨_, rfl⟩
  have t1 : (n : Int).tmod 9 = (r9 : Int) := by rw [Int.tmod_eq_emod_of_nonneg (by omega)]; omega
  have u1 : IntKind.u8.wrap (r9 : Int) = (r9 : Int) := by rw [IntKind.wrap_u8]; omega
  have u2 : IntKind.i64.wrap (r9 : Int) = (r9 : Int) := by rw [IntKind.wrap_i64]; omega
  obtain ⟨M, hM⟩ : ∃ M, 28 + r9 = M := ⟨_, rfl⟩
  have u3 : IntKind.i64.wrap (28 + (r9 : Int)) = (M : Int) := by rw [IntKind.wrap_i64]; omega
  have HM36 : Hid (M ≤ 36) := Lib.hid (by omega)
  clear ht hx hm hLO hr9 hM hn
  go_enter Tryd.func5, Tryd.ntmps5
  go_upto_region 2 with (go_at_call 13; refine (HNEW.out _).mono ?_; rintro e w1 ⟨rfl, hf⟩; have HF1 := Lib.hid hf; clear hf)
  have hb5 := heap_alloc_new w1 (.cells #[.int .i64 1, .int .u64 0, .int .i64 0, .slice none 0 0, .slice none 0 0] 26)
  have hf5 := Fr.alloc No w1 (.cells #[.int .i64 1, .int .u64 0, .int .i64 0, .slice none 0 0, .slice none 0 0] 26)
  obtain ⟨E5, hE5⟩ : ∃ E, w1.heap.size = E := ⟨_, rfl⟩
  rw [hE5] at hb5 ⊢
  have HGE5 : Hid (LO ≤ E5) := Lib.hid (by rw [← hE5, ← HLO.out]; exact HF1.out.size)
  clear hE5
  have HA5 : Hid (At5 LO (w1.alloc (.cells #[.int .i64 1, .int .u64 0, .int .i64 0, .slice none 0 0, .slice none 0 0] 26)) E5 (nilD 1 0#64) 0) := Lib.hid ⟨hb5, rfl, ⟨rfl, rfl, World.ownsRow_nil _ _ _ _, World.ownsRow_nil _ _ _ _, fun C hC => absurd hC (List.not_mem_nil), fun C hC => absurd hC (List.not_mem_nil)⟩, (nilD_in 1 0#64 w1).by, rgtW_iff.1 (by rw [nilD_rgt]; rfl)⟩
  have HFA := Lib.hid (HF1.out.no_trans hf5)
  generalize w1.alloc (.cells #[.int .i64 1, .int .u64 0, .int .i64 0, .slice none 0 0, .slice none 0 0] 26) = wA at *
  clear hb5 hf5 HF1 HNEW
  go_upto_region 4 with fail
  have hmk := fun W => run_makeMap (P := Tryd.prog) 59 W
  have HSZ0 := Lib.hid (SetZ.made wA)
  have HFM := Lib.hid (HFA.out.no_trans (Fr.alloc No wA (.map #[] 0)))
  have HA6 := Lib.hid (HA5.out.no (Fr.alloc No wA (.map #[] 0)))
  obtain ⟨X, hX⟩ : ∃ X, wA.heap.size = X := ⟨_, rfl⟩
  have HGX : Hid (LO ≤ X) := Lib.hid (by rw [← hX, ← HLO.out]; exact HFA.out.size)
  go_upto_region 5 with fail
  rw [hX] at HSZ0
  try rw [hX]
  clear hX hmk
  generalize wA.alloc (.map #[] 0) = wM at *
  go_wp2_with fail
  go_loopw [27] (fun v27 wr => ∃ (k : Nat) (a : Wd) (sv : Int) (l : List Int), k ≤ M ∧ v27 = .int .i64 (k : Int) ∧ At5 LO wr E5 a sv ∧ SetZ wr X l ∧ Seen a.v l ∧ Fr No w wr) (fun v27 _ => M - (intOf v27).toNat)
  case atStart => exact ⟨0, nilD 1 0#64, 0, [], by omega, rfl, HA6.out, HSZ0.out, ⟨rfl, rfl, by decide, fun z => ⟨fun h => absurd h (List.not_mem_nil), fun h => absurd h (List.not_mem_nil)⟩, fun z h => absurd h (List.not_mem_nil)⟩, HFM.out⟩
  case round =>
    obtain ⟨k, a, sv, l, hk, rfl, hat, hsz, hseen, hf⟩ := hrel
    have HAT := Lib.hid hat
    have HSZ := Lib.hid hsz
    have HSEEN := Lib.hid hseen
    have HF := Lib.hid hf
    clear hat hsz hseen hf
    by_cases hlt : k < M
    · have hk36 : k < 36 := by have := HM36.out; omega
      have hwk : IntKind.i64.wrap ((k : Int) + 1) = ((k + 1 : Nat) : Int) := by
        rw [show ((k : Int) + 1) = ((k + 1 : Nat) : Int) by omega]
        exact IntWalk.i64_in _ (by omega)
      go_upto_if 34 with fail
      go_cut [9] from 34 to 40 (fun o9 wz => ∃ s0 : Nat, o9 = .int .i64 (s0 : Int) ∧ s0 < 1000 ∧ wz = wr)
      case first =>
        by_cases hkm : k < m
        · have hkl : k < ids.length := by rw [HLX.out]; exact hkm
          obtain ⟨b, o, rfl, _, hc⟩ := (HX.out wr HF.out).2 (by omega)
          have y0 := hc k hkl
          rw [Nat.mul_one] at y0
          unfold ZAt at y0
          have hi1 : (k : Int) < (m : Int) := by omega
          have hi0 : (0 : Int) ≤ (k : Int) := by omega
          have HP := Lib.hid (HPK.out wr ids[k])
          have HPLT := Lib.hid (pick_lt ids[k] (n := 1000) (by decide))
          generalize pick ids[k] 1000 = s0 at *
          generalize ids[k] = ik at *
          clear hc
          go_wp2_with fail
          refine HP.out.mono ?_
          rintro e w2 ⟨rfl, rfl⟩
          go_wp2_with fail
          go_meet
          exact ⟨s0, rfl, HPLT.out, rfl⟩
        · have hi1 : ¬ (k : Int) < (m : Int) := by omega
          go_wp2_with fail
          go_meet
          exact ⟨k, rfl, by omega, rfl⟩
      case rest =>
      obtain ⟨s0, rfl, hs0, rfl⟩ := hcut
      have HS0 := Lib.hid hs0
      clear hs0
      go_wp2_with fail
      go_loopw [9] (fun o9 wz => ∃ z : Int, o9 = .int .i64 z ∧ (0 ≤ z ∧ z + (cntZ l z : Int) ≤ (s0 : Int) + (l.length : Int)) ∧ wz = wc) (fun o9 _ => cntZ l (intOf o9))
      case atStart => exact ⟨(s0 : Int), rfl, ⟨by omega, by have := cntZ_le l (s0 : Int); omega⟩, rfl⟩
      case round =>
        obtain ⟨idv, rfl, hz, rfl⟩ := hrel
        have HZ := Lib.hid hz
        have HID : Hid (0 ≤ idv ∧ idv ≤ 1100) := Lib.hid ⟨hz.1, by have := HS0.out; have := HSEEN.out.le; omega⟩
        clear hz
        have hlk := HSZ.out.look (x := idv) ⟨HID.out.1, by have := HID.out.2; omega⟩
        by_cases hin : idv ∈ l
        · rw [if_pos hin] at hlk
          have HN := Lib.hid (cntZ_next hin)
          have hwz : IntKind.i64.wrap (idv + 1) = idv + 1 := by have := HID.out; rw [IntKind.wrap_i64]; omega
          clear hin
          go_wp2_with fail
          go_roundw
          case rel => exact ⟨idv + 1, rfl, ⟨by have := HZ.out.1; omega, by have := HZ.out.2; have := HN.out; omega⟩, by first | rfl | trivial⟩
          case measure => have := HN.out; simp only [intOf]; omega
        · rw [if_neg hin] at hlk
          have HNI := Lib.hid hin
          clear hin
          obtain ⟨xk, hxk⟩ : ∃ x, k % 8 = x := ⟨_, rfl⟩
          obtain ⟨jk, hjk⟩ : ∃ x, k / 8 = x := ⟨_, rfl⟩
          obtain ⟨yk, hyk⟩ : ∃ x, jk % 8 = x := ⟨_, rfl⟩
          have v1 : (k : Int).tmod 8 = (xk : Int) := by rw [Int.tmod_eq_emod_of_nonneg (by omega)]; omega
          have v2 : (k : Int).tdiv 8 = (jk : Int) := by rw [Int.tdiv_eq_ediv_of_nonneg (by omega)]; omega
          have v3 : (jk : Int).tmod 8 = (yk : Int) := by rw [Int.tmod_eq_emod_of_nonneg (by omega)]; omega
          have v4 : IntKind.i64.wrap (xk : Int) = (xk : Int) := by rw [IntKind.wrap_i64]; omega
          have v5 : IntKind.i64.wrap (jk : Int) = (jk : Int) := by rw [IntKind.wrap_i64]; omega
          have v6 : IntKind.i64.wrap (yk : Int) = (yk : Int) := by rw [IntKind.wrap_i64]; omega
          have HXY : Hid (xk < 8 ∧ yk < 8) := Lib.hid ⟨by omega, by omega⟩
          clear hxk hjk hyk
          go_upto_region 13 with fail
          have hms : ∀ W : World, (Instr.makeSlice 33 (.int .i64 8) (.int .i64 8)).run Tryd.prog W = .ok (.slice (some ⟨W.heap.size, 0, none⟩) 8 8) (W.alloc (.cells (madeCells #[.int .u8 0, .int .i64 0] (8 * 2)) 112)) := fun W => (make_sl 8 (by omega) W).1
          have HRS := Lib.hid (make_sl 8 (by omega) wr).2
          have hfb := Fr.alloc No wr (.cells (madeCells #[.int .u8 0, .int .i64 0] (8 * 2)) 112)
          obtain ⟨bb, hbb⟩ : ∃ bb, wr.heap.size = bb := ⟨_, rfl⟩
          rw [hbb] at HRS
          have HP0 : Hid (∀ W, Fr No (wr.alloc (.cells (madeCells #[.int .u8 0, .int .i64 0] (8 * 2)) 112)) W → InP W (Pl.mk idv (xk : Int) (yk : Int) (some ⟨bb, 0, none⟩) 8 8 (List.replicate 8 (0, 0)) (-1) none 0 0 [] false)) := Lib.hid (fun W hW => ⟨⟨HRS.out.no hW, RdS.nil _ _⟩, by show 8 ≤ _; decide, by show 0 ≤ _; decide, fun s hs => by rw [List.eq_of_mem_replicate hs]; decide, fun s hs => absurd hs (List.not_mem_nil)⟩)
          have hb10 := heap_alloc_new (wr.alloc (.cells (madeCells #[.int .u8 0, .int .i64 0] (8 * 2)) 112)) (.cells #[.int .i64 idv, .int .i64 (xk : Int), .int .i64 (yk : Int), .slice (some ⟨bb, 0, none⟩) 8 8, .int .i64 (-1), .slice none 0 0, .bool false] 35)
          have hf10 := Fr.alloc No (wr.alloc (.cells (madeCells #[.int .u8 0, .int .i64 0] (8 * 2)) 112)) (.cells #[.int .i64 idv, .int .i64 (xk : Int), .int .i64 (yk : Int), .slice (some ⟨bb, 0, none⟩) 8 8, .int .i64 (-1), .slice none 0 0, .bool false] 35)
          have HF10 := Lib.hid (hfb.no_trans hf10)
          have hbg := blk_no hf10 (heap_alloc_new wr (.cells (madeCells #[.int .u8 0, .int .i64 0] (8 * 2)) 112))
          rw [hbb] at hbg
          simp only [World.size_alloc] at hb10
          rw [hbb] at hb10
          go_upto_region 14 with fail
          try simp only [World.size_alloc]
          try rw [hbb]
          have HP1 := Lib.hid (fun W hW => HP0.out W (hf10.no_trans hW))
          generalize (wr.alloc (.cells (madeCells #[.int .u8 0, .int .i64 0] (8 * 2)) 112)).alloc (.cells #[.int .i64 idv, .int .i64 (xk : Int), .int .i64 (yk : Int), .slice (some ⟨bb, 0, none⟩) 8 8, .int .i64 (-1), .slice none 0 0, .bool false] 35) = wP at *
          have HBB : Hid (wP.heap[bb]? = some (.cells (madeCells #[.int .u8 0, .int .i64 0] (8 * 2)) 112 (0, 0))) := Lib.hid hbg
          clear hms HRS HP0 hfb hf10 hbb hlk hbg
          have HB10 := Lib.hid hb10
          clear hb10
          have HATP := Lib.hid (HAT.out.no HF10.out)
          have HSZP := Lib.hid (HSZ.out.no HF10.out)
          obtain ⟨k0, k1, k2, k3, k4⟩ := cells5 HATP.out.hE
          obtain ⟨p0, p1, p2, p3, p4, p5, p6⟩ := cells7 HB10.out
          have HLL := Lib.hid HSEEN.out.ln
          by_cases hfull : a.v.ps.length = 32
          · have HFULL := Lib.hid hfull
            have hl32 : (l.length : Int) ≥ 32 := by have := HLL.out; omega
            clear hfull
            go_wp2_with fail
            refine (setN (P := (Pl.mk idv (xk : Int) (yk : Int) (some ⟨bb, 0, none⟩) 8 8 (List.replicate 8 (0, 0)) (-1) none 0 0 [] false)) (z := 3) (HT.out _ (HF.out.no_trans HF10.out)) HATP.out (HP1.out wP (Fr.refl No wP)) (by show rgtP a.v.size ⟨idv, (xk : Int), (yk : Int), List.replicate 8 (0, 0), -1, [], false⟩ = true; rw [HSEEN.out.sz]; have := HID.out; have := HXY.out; exact np_rgt (by omega) (by omega) (by omega) (by omega) (by omega) (by omega)) (fun h => HNI.out ((HSEEN.out.mem idv).2 h)) (by rw [if_pos HFULL.out])).mono ?_
            rintro e w2 ⟨v, sw, rfl, ⟨hs1, hs2, hs3, hs4, hs5⟩, hf⟩
            have hfv := Fr.alloc No w2 (.cells #[.int .i64 v.size, .int .u64 sw, .int .i64 v.tick, .slice v.A3 v.n3 v.c3, .slice v.A4 v.n4 v.c4] 26)
            have hb11 := heap_alloc_new w2 (.cells #[.int .i64 v.size, .int .u64 sw, .int .i64 v.tick, .slice v.A3 v.n3 v.c3, .slice v.A4 v.n4 v.c4] 26)
            obtain ⟨E11, hE11⟩ : ∃ E, w2.heap.size = E := ⟨_, rfl⟩
            rw [hE11] at hb11
            have HV11 := Lib.hid (show At5 LO (w2.alloc (.cells #[.int .i64 v.size, .int .u64 sw, .int .i64 v.tick, .slice v.A3 v.n3 v.c3, .slice v.A4 v.n4 v.c4] 26)) E11 v sw from ⟨hb11, hs1, (hs3.low (by have := (HF.out.no_trans HF10.out).size; have := HLO.out; omega)).no hfv, hs4, hs5⟩)
            have HVV := Lib.hid hs2
            have HFV := Lib.hid (hf.no_trans hfv)
            clear hs1 hs2 hs3 hs4 hs5 hf hfv hb11 k0 k1 k2 k3 k4 p0 p1 p2 p3 p4 p5 p6
            go_upto_region 15 with fail
            try rw [hE11]
            clear hE11
            generalize w2.alloc (.cells #[.int .i64 v.size, .int .u64 sw, .int .i64 v.tick, .slice v.A3 v.n3 v.c3, .slice v.A4 v.n4 v.c4] 26) = wV at *
            have HAV := Lib.hid (HATP.out.no HFV.out)
            have HSV := Lib.hid (HSZP.out.no HFV.out)
            have HFT := Lib.hid ((HF.out.no_trans HF10.out).no_trans HFV.out)
            have HRV := Lib.hid (fun W (hW : Fr No wV W) => wright_any (HT.out _ (HFT.out.no_trans hW)) (HV11.out.inW.no hW))
            rw [rgtW_iff.2 HV11.out.r] at HRV
            dsimp only [Wd.val, u64v] at HRV
            rw [HV11.out.hs] at HRV
            obtain ⟨k0, k1, k2, k3, k4⟩ := cells5 HV11.out.hE
            have HSEE2 : Hid (Seen v.v l) := Lib.hid (by
              have e : v.v = a.v := by rw [HVV.out, (set_new HATP.out.r (by show rgtP a.v.size ⟨idv, (xk : Int), (yk : Int), List.replicate 8 (0, 0), -1, [], false⟩ = true; rw [HSEEN.out.sz]; have := HID.out; have := HXY.out; exact np_rgt (by omega) (by omega) (by omega) (by omega) (by omega) (by omega)) (fun h => HNI.out ((HSEEN.out.mem idv).2 h))).2.1, if_pos HFULL.out]
              rw [e]
              exact HSEEN.out)
            go_upto_region 18 with (at_len; refine wpList_lenZ rfl _ rfl HSV.out rfl ?_)
            go_upto_region 25 with (go_at_call 8; refine (HRV.out _ (Fr.refl No wV)).mono ?_; rintro e w3 ⟨rfl, hf⟩; have HF3 := Lib.hid hf; clear hf k0 k1 k2 k3 k4)
            have HA3 := Lib.hid (HAV.out.no HF3.out)
            have HV3 := Lib.hid (HV11.out.no HF3.out)
            have HS3 := Lib.hid (HSV.out.no HF3.out)
            have HFR3 := Lib.hid (HFT.out.no_trans HF3.out)
            have hfin := HV3.out.hE
            obtain ⟨y0, y1, y2, y3, y4⟩ := cells5 hfin
            obtain ⟨k0, k1, k2, k3, k4⟩ := cells5 HA3.out.hE
            obtain ⟨z0, z1, z2, z3, z4⟩ := free5 HA3.out.hE
            have HNEW5 := Lib.hid (show At5 LO (set5 w3 E5 (.int .i64 v.size) (.int .u64 sw) (.int .i64 v.tick) (.slice v.A3 v.n3 v.c3) (.slice v.A4 v.n4 v.c4)) E5 v sw from ⟨set5_heap HA3.out.hE _ _ _ _ _, HV3.out.hs, HV3.out.ow.at_ HA3.out.hE (set5_fr _ _ _ _ _ _ _), HV3.out.bt, HV3.out.r⟩)
            have HSN := Lib.hid (HS3.out.oth (set5_fr w3 E5 (.int .i64 v.size) (.int .u64 sw) (.int .i64 v.tick) (.slice v.A3 v.n3 v.c3) (.slice v.A4 v.n4 v.c4)) (HS3.out.ne HA3.out.hE))
            have HFN := Lib.hid (HFR3.out.then_new (set5_fr w3 E5 (.int .i64 v.size) (.int .u64 sw) (.int .i64 v.tick) (.slice v.A3 v.n3 v.c3) (.slice v.A4 v.n4 v.c4)) (fun i hi => by have e : i = E5 := hi; rw [e, HLO.out]; exact HGE5.out))
            clear hfin
            go_wp2_with fail
            go_roundw
            case rel => exact ⟨k + 1, v, sw, l, by omega, by go_num, HNEW5.out, HSN.out, HSEE2.out, HFN.out⟩
            case measure => simp [intOf]; omega
          · have HNF := Lib.hid hfull
            have HL31 : Hid (l.length ≤ 31) := Lib.hid (by have := HSEEN.out.le; have := HLL.out; omega)
            have hl32 : ¬ (l.length : Int) ≥ 32 := by have := HL31.out; omega
            clear hfull
            go_wp2_with fail
            refine (setN (P := (Pl.mk idv (xk : Int) (yk : Int) (some ⟨bb, 0, none⟩) 8 8 (List.replicate 8 (0, 0)) (-1) none 0 0 [] false)) (z := 0) (HT.out _ (HF.out.no_trans HF10.out)) HATP.out (HP1.out wP (Fr.refl No wP)) (by show rgtP a.v.size ⟨idv, (xk : Int), (yk : Int), List.replicate 8 (0, 0), -1, [], false⟩ = true; rw [HSEEN.out.sz]; have := HID.out; have := HXY.out; exact np_rgt (by omega) (by omega) (by omega) (by omega) (by omega) (by omega)) (fun h => HNI.out ((HSEEN.out.mem idv).2 h)) (by rw [if_neg HNF.out])).mono ?_
            rintro e w2 ⟨v, sw, rfl, ⟨hs1, hs2, hs3, hs4, hs5⟩, hf⟩
            have hfv := Fr.alloc No w2 (.cells #[.int .i64 v.size, .int .u64 sw, .int .i64 v.tick, .slice v.A3 v.n3 v.c3, .slice v.A4 v.n4 v.c4] 26)
            have hb11 := heap_alloc_new w2 (.cells #[.int .i64 v.size, .int .u64 sw, .int .i64 v.tick, .slice v.A3 v.n3 v.c3, .slice v.A4 v.n4 v.c4] 26)
            obtain ⟨E11, hE11⟩ : ∃ E, w2.heap.size = E := ⟨_, rfl⟩
            rw [hE11] at hb11
            have HV11 := Lib.hid (show At5 LO (w2.alloc (.cells #[.int .i64 v.size, .int .u64 sw, .int .i64 v.tick, .slice v.A3 v.n3 v.c3, .slice v.A4 v.n4 v.c4] 26)) E11 v sw from ⟨hb11, hs1, (hs3.low (by have := (HF.out.no_trans HF10.out).size; have := HLO.out; omega)).no hfv, hs4, hs5⟩)
            have HVV := Lib.hid hs2
            have HFV := Lib.hid (hf.no_trans hfv)
            clear hs1 hs2 hs3 hs4 hs5 hf hfv hb11 k0 k1 k2 k3 k4 p0 p1 p2 p3 p4 p5 p6
            go_upto_region 15 with fail
            try rw [hE11]
            clear hE11
            generalize w2.alloc (.cells #[.int .i64 v.size, .int .u64 sw, .int .i64 v.tick, .slice v.A3 v.n3 v.c3, .slice v.A4 v.n4 v.c4] 26) = wV at *
            have HAV := Lib.hid (HATP.out.no HFV.out)
            have HSV := Lib.hid (HSZP.out.no HFV.out)
            have HFT := Lib.hid ((HF.out.no_trans HF10.out).no_trans HFV.out)
            have HRV := Lib.hid (fun W (hW : Fr No wV W) => wright_any (HT.out _ (HFT.out.no_trans hW)) (HV11.out.inW.no hW))
            rw [rgtW_iff.2 HV11.out.r] at HRV
            dsimp only [Wd.val, u64v] at HRV
            rw [HV11.out.hs] at HRV
            obtain ⟨k0, k1, k2, k3, k4⟩ := cells5 HV11.out.hE
            have HPS : Hid (v.v = ⟨a.v.size, a.v.sd, a.v.tick, a.v.cs, putL Py.id a.v.ps idv [Pl.py (Pl.mk idv (xk : Int) (yk : Int) (some ⟨bb, 0, none⟩) 8 8 (List.replicate 8 (0, 0)) (-1) none 0 0 [] false)]⟩) := Lib.hid (by
              rw [HVV.out, (set_new HATP.out.r (by show rgtP a.v.size ⟨idv, (xk : Int), (yk : Int), List.replicate 8 (0, 0), -1, [], false⟩ = true; rw [HSEEN.out.sz]; have := HID.out; have := HXY.out; exact np_rgt (by omega) (by omega) (by omega) (by omega) (by omega) (by omega)) (fun h => HNI.out ((HSEEN.out.mem idv).2 h))).2.1, if_neg HNF.out]
              rfl)
            have HSEE2 : Hid (Seen v.v (idv :: l)) := Lib.hid (by
              rw [HPS.out]
              refine ⟨HSEEN.out.sz, ?_, by have := HL31.out; rw [List.length_cons]; omega, fun z => ?_, fun z hz => ?_⟩
              · show (idv :: l).length = (putL Py.id a.v.ps idv [Pl.py (Pl.mk idv (xk : Int) (yk : Int) (some ⟨bb, 0, none⟩) 8 8 (List.replicate 8 (0, 0)) (-1) none 0 0 [] false)]).length
                rw [putL_more (fun x hx e => HNI.out ((HSEEN.out.mem idv).2 (List.mem_map.2 ⟨x, hx, e⟩))), List.length_cons, HLL.out]
              · show z ∈ idv :: l ↔ z ∈ (putL Py.id a.v.ps (Pl.py (Pl.mk idv (xk : Int) (yk : Int) (some ⟨bb, 0, none⟩) 8 8 (List.replicate 8 (0, 0)) (-1) none 0 0 [] false)).id [Pl.py (Pl.mk idv (xk : Int) (yk : Int) (some ⟨bb, 0, none⟩) 8 8 (List.replicate 8 (0, 0)) (-1) none 0 0 [] false)]).map Py.id
                rw [putL_ids, List.mem_cons, HSEEN.out.mem z]
                exact Iff.rfl
              · rcases List.mem_cons.1 hz with h | h
                · rw [h]; have := HID.out; omega
                · exact HSEEN.out.rg z h)
            go_upto_region 18 with (at_len; refine wpList_lenZ rfl _ rfl HSV.out rfl ?_)
            go_upto_region 21 with (go_at_call 8; refine (HRV.out _ (Fr.refl No wV)).mono ?_; rintro e w3 ⟨rfl, hf⟩; have HF3 := Lib.hid hf; clear hf k0 k1 k2 k3 k4)
            have HA3 := Lib.hid (HAV.out.no HF3.out)
            have HV3 := Lib.hid (HV11.out.no HF3.out)
            have HS3 := Lib.hid (HSV.out.no HF3.out)
            have HFR3 := Lib.hid (HFT.out.no_trans HF3.out)
            have HB13 := Lib.hid (blk_no (HFV.out.no_trans HF3.out) HB10.out)
            have HP3 := Lib.hid ((HP1.out _ (HFV.out.no_trans HF3.out)).rd)
            have HNX : Hid (¬ bb = X) := Lib.hid (fun e => (HSZP.out.ne (HBB.out)) e.symm)
            go_upto_region 22 with (at_mapUpdate; refine wpList_putZ rfl _ _ _ rfl HS3.out (by have := HL31.out; omega) idv ⟨HID.out.1, by have := HID.out.2; omega⟩ HNI.out rfl rfl rfl ?_; intro w7 hs7 hf7; have HS7 := Lib.hid hs7; have HF7 := Lib.hid hf7; clear hs7 hf7)
            have HA7 := Lib.hid (HA3.out.keepX HS3.out HF7.out)
            have HV7 := Lib.hid (HV3.out.keepX HS3.out HF7.out)
            have HB17 := Lib.hid (HF7.out.blk HB13.out (fun e => HS3.out.ne HB13.out e.symm))
            have HP7 : Hid (RdP w7 (Pl.mk idv (xk : Int) (yk : Int) (some ⟨bb, 0, none⟩) 8 8 (List.replicate 8 (0, 0)) (-1) none 0 0 [] false)) := Lib.hid ⟨HP3.out.r1.fr HF7.out (fun b o e => by injection e with e; injection e with e1 _; rw [← e1]; exact HNX.out), RdS.nil _ _⟩
            have HFR7 := Lib.hid (HFR3.out.then_new HF7.out (fun i hi => by have e : i = X := hi; rw [e, HLO.out]; exact HGX.out))
            have HPY := Lib.hid (wplayer_any HV7.out.inW (HV7.out.inW.sz HV7.out.r) idv)
            dsimp only [Wd.val, u64v] at HPY
            rw [HV7.out.hs] at HPY
            obtain ⟨k0, k1, k2, k3, k4⟩ := cells5 HV7.out.hE
            go_wp2_with fail
            refine HPY.out.mono ?_
            rintro e w8 hpq
            rcases hpq with ⟨p', Q, hmem, hid, rfl, hq, hoq, hf8⟩ | ⟨hno, _, _⟩
            · dsimp only [Pl.val]
              have HQY : Hid (Pl.py (Pl.mk idv (xk : Int) (yk : Int) (some ⟨bb, 0, none⟩) 8 8 (List.replicate 8 (0, 0)) (-1) none 0 0 [] false) = Q.py) := Lib.hid (by
                rw [hq]
                rw [HPS.out] at hmem
                exact (putL_own (key := Py.id) hmem hid).symm)
              have HOQ := Lib.hid hoq
              have HF8 := Lib.hid hf8
              clear hq hmem hid hoq hf8 HPY k0 k1 k2 k3 k4
              have hb14 := heap_alloc_new w8 (.cells #[.int .i64 Q.id, .int .i64 Q.x, .int .i64 Q.y, .slice Q.A1 Q.n1 Q.c1, .int .i64 Q.wi, .slice Q.A2 Q.n2 Q.c2, .bool Q.ag] 35)
              have hf14 := Fr.alloc No w8 (.cells #[.int .i64 Q.id, .int .i64 Q.x, .int .i64 Q.y, .slice Q.A1 Q.n1 Q.c1, .int .i64 Q.wi, .slice Q.A2 Q.n2 Q.c2, .bool Q.ag] 35)
              have HSP := Lib.hid (fun W (hW : Fr No w8 W) => samepl_yes (HP7.out.no (HF8.out.no_trans hW)) (HOQ.out.no hW).rd HQY.out (by show 8 ≤ 100000; decide) (by show 0 ≤ 100000; decide))
              dsimp only [Pl.val] at HSP
              have HF14 := Lib.hid (HF8.out.no_trans hf14)
              obtain ⟨p0, p1, p2, p3, p4, p5, p6⟩ := cells7 (blk_no HF14.out HB17.out)
              obtain ⟨q0, q1, q2, q3, q4, q5, q6⟩ := cells7 hb14
              go_upto_region 25 with (go_at_call 20; refine (HSP.out _ hf14).mono ?_; rintro e w9 ⟨rfl, hf⟩; have HF9 := Lib.hid (HF14.out.no_trans hf); clear hf)
              clear p0 p1 p2 p3 p4 p5 p6 q0 q1 q2 q3 q4 q5 q6 hb14 hf14
              have HA9 := Lib.hid (HA7.out.no HF9.out)
              have HV9 := Lib.hid (HV7.out.no HF9.out)
              have HS9 := Lib.hid (HS7.out.no HF9.out)
              have HFR9 := Lib.hid (HFR7.out.no_trans HF9.out)
              have hfin := HV9.out.hE
              obtain ⟨y0, y1, y2, y3, y4⟩ := cells5 hfin
              obtain ⟨k0, k1, k2, k3, k4⟩ := cells5 HA9.out.hE
              obtain ⟨z0, z1, z2, z3, z4⟩ := free5 HA9.out.hE
              have HNEW5 := Lib.hid (show At5 LO (set5 w9 E5 (.int .i64 v.size) (.int .u64 sw) (.int .i64 v.tick) (.slice v.A3 v.n3 v.c3) (.slice v.A4 v.n4 v.c4)) E5 v sw from ⟨set5_heap HA9.out.hE _ _ _ _ _, HV9.out.hs, HV9.out.ow.at_ HA9.out.hE (set5_fr _ _ _ _ _ _ _), HV9.out.bt, HV9.out.r⟩)
              have HSN := Lib.hid (HS9.out.oth (set5_fr w9 E5 (.int .i64 v.size) (.int .u64 sw) (.int .i64 v.tick) (.slice v.A3 v.n3 v.c3) (.slice v.A4 v.n4 v.c4)) (HS9.out.ne HA9.out.hE))
              have HFN := Lib.hid (HFR9.out.then_new (set5_fr w9 E5 (.int .i64 v.size) (.int .u64 sw) (.int .i64 v.tick) (.slice v.A3 v.n3 v.c3) (.slice v.A4 v.n4 v.c4)) (fun i hi => by have e : i = E5 := hi; rw [e, HLO.out]; exact HGE5.out))
              clear hfin
              go_wp2_with fail
              go_roundw
              case rel => exact ⟨k + 1, v, sw, idv :: l, by omega, by go_num, HNEW5.out, HSN.out, HSEE2.out, HFN.out⟩
              case measure => simp [intOf]; omega
            · exfalso
              refine hno (Pl.py (Pl.mk idv (xk : Int) (yk : Int) (some ⟨bb, 0, none⟩) 8 8 (List.replicate 8 (0, 0)) (-1) none 0 0 [] false)) ?_ rfl
              rw [HPS.out]
              show _ ∈ putL _ _ _ _
              unfold putL
              exact List.mem_append.2 (.inr (List.mem_append.2 (.inl (List.mem_singleton.2 rfl))))
    · have hkM : k = M := by omega
      subst hkM
      have hn4 : a.n4 = l.length := by
        have h1 := HSEEN.out.ln
        have h2 := HAT.out.ow.e4
        have h3 : a.v.ps.length = a.ps.length := List.length_map _
        omega
      have HW := Lib.hid (HAW.out _ HF.out)
      obtain ⟨k0, k1, k2, k3, k4⟩ := cells5 HAT.out.hE
      rw [hn4] at k4
      clear hn4
      go_wp2_with (first | (at_len; refine wpList_lenZ rfl _ rfl HSZ.out rfl ?_) | (go_at_call 9; refine HW.out.mono ?_; rintro e w4 ⟨rfl, hf4⟩; have HF4 := Lib.hid hf4; clear hf4))
      go_ret
      exact ⟨rfl, HF.out.no_trans HF4.out⟩
theorem players_call {w : World} (ht : ItT w) (n : Nat) (hn : n < 256) {A : Option Addr} {m c : Nat} {ids : List Int} (hx : RwK w 1 (ZAt w) A m ids) (hm : m ≤ 9223372036854775807) : Calls Tryd.prog 5 #[.int .u8 (n : Int), .slice A m c] w fun e w' => e = .returned (.bool true) ∧ Below w.heap.size w w' := (players_walk ht n hn hx hm).mono fun _ _ ⟨h1, h2⟩ => ⟨h1, h2.noBelow⟩
end Go.Proofs.YtjdhbgdpmojobaaDoor

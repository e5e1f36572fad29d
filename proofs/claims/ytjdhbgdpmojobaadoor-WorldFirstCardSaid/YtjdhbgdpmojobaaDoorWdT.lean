/-
  WorldFirst: the walk. No statement of the seat is proved here but as a walk.
-/
import Derived.Test.YtjdhbgdpmojobaaDoorWdS
import Derived.Test.YtjdhbgdpmojobaaDoorUint
import Derived.Test.YtjdhbgdpmojobaaDoorSl
namespace Go.Proofs.YtjdhbgdpmojobaaDoor
open Go.RowKit Go.Deep

/-- A world of nothing. -/
def nilD (size : Int) (sd : W64) : Wd := ⟨size, sd, 0, none, 0, 0, [], none, 0, 0, []⟩
theorem nilD_in (size : Int) (sd : W64) (w : World) : InW w (nilD size sd) := ⟨⟨⟨rfl, fun h => absurd h (by show ¬ 0 < 0; decide)⟩, rfl, fun C hC => absurd hC (List.not_mem_nil)⟩, ⟨⟨rfl, fun h => absurd h (by show ¬ 0 < 0; decide)⟩, rfl, fun C hC => absurd hC (List.not_mem_nil)⟩, by show 0 ≤ _; decide, by show 0 ≤ _; decide, fun C hC => absurd hC (List.not_mem_nil), fun C hC => absurd hC (List.not_mem_nil)⟩
theorem nilD_sz (size : Int) (sd : W64) : SzW (nilD size sd) := ⟨by show 0 ≤ _; decide, by show 0 ≤ _; decide, fun C hC => absurd hC (List.not_mem_nil), fun C hC => absurd hC (List.not_mem_nil)⟩
theorem nilD_rgt {size : Int} (sd : W64) : rgtW (nilD size sd).v = sizB size := by
  unfold rgtW rgtCs rgtPs nilD Wd.v
  dsimp only [List.map]
  rw [show decide (Rise []) = true from decide_eq_true (fun j h => absurd h (by show ¬ j + 1 < 0; omega))]
  simp
/-- Its bytes. -/
def nilB (size : Int) (sd : W64) : List UInt8 := varint size.toNat ++ varint sd.toNat ++ varint 0 ++ varint 0 ++ varint 0
section
variable {w w' : World}
theorem Below.u8 {B : Nat} {a b c : World} (h : Below B a b) (k : Below B b c) : Below B a c := h.trans k
set_option maxRecDepth 100000 in
set_option maxHeartbeats 3200000 in
theorem wbytes_nil (ht : ItT w) {size : Int} (h1 : 1 ≤ size) (h2 : size ≤ 16) (sd : W64) : Calls Tryd.prog 14 #[(nilD size sd).val] w fun e w' => ∃ A c, e = .returned (.tuple #[.slice A (nilB size sd).length c, .int .i64 0]) ∧ w'.ownsRow w.heap.size 5 1 (.slice A (nilB size sd).length c) (nilB size sd).length (bvs (nilB size sd)) ∧ Fr No w w' := by
  have hsb : sizB size = true := by unfold sizB; rw [decide_eq_true h1, decide_eq_true h2]; rfl
  have HRT : Hid (∀ W, Fr No w W → Calls Tryd.prog 8 #[(nilD size sd).val] W fun e w' => e = .returned (.bool true) ∧ Fr No W w') := Lib.hid (fun W hW => by
    have := wright_any (ht.no hW) (nilD_in size sd W)
    rw [nilD_rgt, hsb] at this
    exact this)
  have hn1 : size.toNat < 2 ^ 64 := by omega
  have hn2 : sd.toNat < 2 ^ 64 := sd.isLt
  obtain ⟨sn, rfl⟩ := Int.eq_ofNat_of_zero_le (show 0 ≤ size by omega)
  obtain ⟨dn, hdn⟩ : ∃ dn, sd.toNat = dn := ⟨_, rfl⟩
  have HBE : Hid (nilB (sn : Int) sd = ((([] ++ varint sn) ++ varint dn) ++ varint 0) ++ varint 0 ++ varint 0) := Lib.hid (by unfold nilB; rw [hdn, List.nil_append]; rfl)
  rw [hdn] at hn2
  have l1 := varint_len_ten (n := sn) (by omega)
  have l2 := varint_len_ten hn2
  have l3 := varint_len_ten (n := 0) (by decide)
  obtain ⟨BL, hBL⟩ : ∃ BL, nilB (sn : Int) sd = BL := ⟨_, rfl⟩
  rw [hBL] at HBE ⊢
  unfold nilD Wd.val u64v at HRT ⊢
  dsimp only at HRT ⊢
  rw [hdn] at HRT ⊢
  have HU : Hid (∀ (B : Nat) (l : List UInt8) (n : Nat) (v : Value) (W : World), n < 2 ^ 64 → B ≤ W.heap.size → l.length ≤ 20000 → W.ownsRow B 5 1 v l.length (bvs l) → Calls Tryd.prog 41 #[v, .int .u64 (n : Int)] W (Put B W (l ++ varint n))) := Lib.hid (fun B l n v W a b c d => uint_any B l n v W a b c d)
  have HL : Hid ((varint sn).length ≤ 10 ∧ (varint dn).length ≤ 10 ∧ (varint 0).length ≤ 10) := Lib.hid ⟨l1, l2, l3⟩
  have hw1 : IntKind.u64.wrap (sn : Int) = (sn : Int) := IntWalk.u64_in _ (by omega)
  have HSN : Hid (sn < 2 ^ 64 ∧ dn < 2 ^ 64) := Lib.hid ⟨by omega, hn2⟩
  clear ht hsb hn1 hn2 hdn hBL l1 l2 l3 h1 h2
  have hb0 := heap_alloc_new w (.cells #[.int .i64 (sn : Int), .int .u64 (dn : Int), .int .i64 0, .slice none 0 0, .slice none 0 0] 26)
  have HF0 := Lib.hid (Fr.alloc No w (.cells #[.int .i64 (sn : Int), .int .u64 (dn : Int), .int .i64 0, .slice none 0 0, .slice none 0 0] 26))
  go_enter Tryd.func14, Tryd.ntmps14
  go_upto_region 1 with fail
  obtain ⟨D, hD⟩ : ∃ D, w.heap.size = D := ⟨_, rfl⟩
  rw [hD] at hb0 ⊢
  clear hD
  generalize w.alloc (.cells #[.int .i64 (sn : Int), .int .u64 (dn : Int), .int .i64 0, .slice none 0 0, .slice none 0 0] 26) = wx at *
  obtain ⟨k0, k1, k2, k3, k4⟩ := cells5 hb0
  have HB0 := Lib.hid hb0
  clear hb0
  go_upto_region 3 with (go_at_call 8; refine (HRT.out _ HF0.out).mono ?_; rintro e w1 ⟨rfl, hf⟩; have HB1 := Lib.hid (blk_no hf HB0.out); have HF1 := Lib.hid (HF0.out.no_trans hf); clear hf k0 k1 k2 k3 k4)
  have HBW : Hid (D < w1.heap.size) := Lib.hid (Array.getElem?_eq_some_iff.1 HB1.out).1
  have HKP : Hid (∀ W, Below w1.heap.size w1 W → W.heap[D]? = some (.cells #[.int .i64 (sn : Int), .int .u64 (dn : Int), .int .i64 0, .slice none 0 0, .slice none 0 0] 26 (0, 0))) := Lib.hid (fun W h => (h.block D HBW.out).trans HB1.out)
  obtain ⟨k0, k1, k2, k3, k4⟩ := cells5 HB1.out
  clear HRT HB0 HF0
  go_upto_region 4 with (go_at_call 41; refine (HU.out w1.heap.size [] sn (.slice none 0 0) w1 HSN.out.1 (Nat.le_refl _) (by decide) (World.ownsRow_nil _ _ _ _)).mono ?_; rintro e w2 ⟨v2, rfl, ho, hb⟩; have HO2 := Lib.hid ho; have HW2 := Lib.hid hb; clear ho hb k0 k1 k2 k3 k4)
  obtain ⟨k0, k1, k2, k3, k4⟩ := cells5 (HKP.out _ HW2.out)
  go_upto_region 5 with (go_at_call 41; refine (HU.out w1.heap.size ([] ++ varint sn) dn v2 w2 HSN.out.2 HW2.out.size (by have := HL.out; simp only [List.length_append, List.length_nil]; omega) HO2.out).mono ?_; rintro e w3 ⟨v3, rfl, ho, hb⟩; have HO3 := Lib.hid ho; have HW3 := Lib.hid (HW2.out.trans hb); clear ho hb k0 k1 k2 k3 k4)
  obtain ⟨k0, k1, k2, k3, k4⟩ := cells5 (HKP.out _ HW3.out)
  go_upto_region 6 with (go_at_call 41; refine (HU.out w1.heap.size (([] ++ varint sn) ++ varint dn) 0 v3 w3 (by decide) HW3.out.size (by have := HL.out; simp only [List.length_append, List.length_nil]; omega) HO3.out).mono ?_; rintro e w4 ⟨v4, rfl, ho, hb⟩; have HO4 := Lib.hid ho; have HW4 := Lib.hid (HW3.out.trans hb); clear ho hb k0 k1 k2 k3 k4)
  obtain ⟨k0, k1, k2, k3, k4⟩ := cells5 (HKP.out _ HW4.out)
  go_upto_region 7 with (go_at_call 41; refine (HU.out w1.heap.size ((([] ++ varint sn) ++ varint dn) ++ varint 0) 0 v4 w4 (by decide) HW4.out.size (by have := HL.out; simp only [List.length_append, List.length_nil]; omega) HO4.out).mono ?_; rintro e w5 ⟨v5, rfl, ho, hb⟩; have HO5 := Lib.hid ho; have HW5 := Lib.hid (HW4.out.trans hb); clear ho hb k0 k1 k2 k3 k4)
  obtain ⟨k0, k1, k2, k3, k4⟩ := cells5 (HKP.out _ HW5.out)
  clear HO2 HO3 HO4 HW2 HW3 HW4
  go_wp2_with fail
  go_loopw [4, 36] (fun o4 v36 wr => o4 = v5 ∧ v36 = .int .i64 0 ∧ wr = w5) (fun _ _ _ => 0)
  case atStart => exact ⟨rfl, rfl, rfl⟩
  case round =>
    obtain ⟨rfl, rfl, rfl⟩ := hrel
    go_upto_region 14 with (go_at_call 41; refine (HU.out w1.heap.size (((([] ++ varint sn) ++ varint dn) ++ varint 0) ++ varint 0) 0 _ _ (by decide) HW5.out.size (by have := HL.out; simp only [List.length_append, List.length_nil]; omega) HO5.out).mono ?_; rintro e w6 ⟨v6, rfl, ho, hb⟩; have HO6 := Lib.hid ho; have HW6 := Lib.hid (HW5.out.trans hb); clear ho hb k0 k1 k2 k3 k4)
    obtain ⟨k0, k1, k2, k3, k4⟩ := cells5 (HKP.out _ HW6.out)
    have ho := HO6.out
    rw [← HBE.out] at ho
    obtain ⟨A, c, rfl, _⟩ := own_slice ho
    have HEND : Hid ((w6.ownsRow w.heap.size 5 1 (.slice A BL.length c) BL.length (bvs BL)) ∧ Fr No w w6) := Lib.hid ⟨own_low ho HF1.out.size, HF1.out.no_trans (Fr.of_below HW6.out)⟩
    clear ho HO6 HO5 HW5
    go_wp2_with fail
    go_loopw [4, 59] (fun o4 v59 wr => o4 = .slice A BL.length c ∧ v59 = .int .i64 0 ∧ wr = w6) (fun _ _ _ => 0)
    case atStart => exact ⟨rfl, rfl, rfl⟩
    case round =>
      obtain ⟨rfl, rfl, rfl⟩ := hrel
      go_wp2_with fail
      refine bodyPost_ret (results_tmp2 rfl _ _ _) rfl ?_
      exact ⟨A, c, rfl, HEND.out.1, HEND.out.2⟩
set_option maxRecDepth 100000 in
theorem weq_yes {A A' : Option Addr} {n n' c c' : Nat} {l : List UInt8} (h : Rd w w.heap.size A n l) (h' : Rd w w.heap.size A' n' l) : Calls Tryd.prog 16 #[.slice A n c, .slice A' n' c'] w fun e w' => e = .returned (.bool true) ∧ Fr No w w' := by
  have H1 := Lib.hid (str_rule c h)
  have H2 := Lib.hid (str_rule c' h')
  clear h h'
  go_enter Tryd.func16, Tryd.ntmps16
  go_wp2_with (first | rw [H1.out] | rw [H2.out])
  go_ret
  exact ⟨rfl, Fr.refl _ _⟩
set_option maxRecDepth 100000 in
set_option maxHeartbeats 6400000 in
theorem first_walk (ht : ItT w) (size : Int) (sd : W64) {x y : Int} (hx : x ≤ 9223372036854775807) (hy : y ≤ 9223372036854775807) : Calls Tryd.prog 4 #[.int .i64 size, u64v sd, .agg #[.int .i64 x, .int .i64 y]] w fun e w' => e = .returned (.bool true) ∧ Fr No w w' := by
  have HNEW := Lib.hid (fun W => wnew_any size sd W)
  have HAW := Lib.hid (fun W (hW : Fr No w W) => wawake_any (ht.no hW))
  obtain ⟨SV, hSV⟩ : ∃ SV, (sd.toNat : Int) = SV := ⟨_, rfl⟩
  have HSV := Lib.hid hSV
  have hb0 := heap_alloc_new w (.cells #[.int .i64 x, .int .i64 y] 45)
  have HF0 := Lib.hid (Fr.alloc No w (.cells #[.int .i64 x, .int .i64 y] 45))
  have g0 := (blk_cell hb0 0).trans (by simp : _ = some (.int .i64 x))
  have g1 := (blk_cell hb0 1).trans (by simp : _ = some (.int .i64 y))
  have d0 : (w.alloc (.cells #[.int .i64 x, .int .i64 y] 45)).drew.cell? ⟨w.heap.size, 0, none⟩ = some (.int .i64 x) := g0
  have d1 : (w.alloc (.cells #[.int .i64 x, .int .i64 y] 45)).drew.cell? ⟨w.heap.size, 1, none⟩ = some (.int .i64 y) := g1
  clear hb0
  by_cases hs : 1 ≤ size ∧ size ≤ 16
  · have hsb : sizB size = true := by unfold sizB; rw [decide_eq_true hs.1, decide_eq_true hs.2]; rfl
    rw [hsb, if_pos rfl] at HNEW
    have HBY := Lib.hid (fun W (hW : Fr No w W) => wbytes_nil (ht.no hW) hs.1 hs.2 sd)
    have HRT : Hid (∀ W, Fr No w W → Calls Tryd.prog 8 #[(nilD size sd).val] W fun e w' => e = .returned (.bool true) ∧ Fr No W w') := Lib.hid (fun W hW => by
      have := wright_any (ht.no hW) (nilD_in size sd W)
      rw [nilD_rgt, hsb] at this
      exact this)
    have HPL : Hid (∀ W, Calls Tryd.prog 18 #[(nilD size sd).val, .int .i64 0] W fun e w' => e = .returned (.tuple #[.agg #[.int .i64 0, .int .i64 0, .int .i64 0, .slice none 0 0, .int .i64 0, .slice none 0 0, .bool false], .bool false]) ∧ Fr No W w') := Lib.hid (fun W => (wplayer_any (nilD_in size sd W) (nilD_sz size sd) 0).mono (fun e w' h => by
      rcases h with ⟨p, Q, hm, _⟩ | ⟨_, h2⟩
      · exact absurd hm (List.not_mem_nil)
      · exact h2))
    have hR : RgtW (nilD size sd).v := rgtW_iff.1 (by rw [nilD_rgt]; exact hsb)
    have HCELL := Lib.hid (fun W => gcell_any sd x y W)
    have HAI : Hid ((0 ≤ x ∧ 0 ≤ y ∧ x < 8 * size ∧ y < 8 * size) → ∀ W, Fr No w W → Calls Tryd.prog 15 #[(nilD size sd).val, .int .i64 x, .int .i64 y] W fun e w' => e = .returned (.tuple #[.int .u8 (cellZ sd x y : Int), .bool true]) ∧ Fr No W w') := Lib.hid (fun hin W hW => by
      obtain ⟨a, rfl⟩ := Int.eq_ofNat_of_zero_le hin.1
      obtain ⟨b, rfl⟩ := Int.eq_ofNat_of_zero_le hin.2.1
      refine (wat_in (d := nilD size sd) (a := a) (b := b) (ht.no hW) (nilD_in size sd W) hR hin.2.2.1 hin.2.2.2).mono ?_
      rintro e w' ⟨c, i, h1, h2, h3, h4⟩
      rcases h2 with ⟨hm, _⟩ | ⟨_, rfl⟩
      · exact absurd hm (List.not_mem_nil)
      · have h3' : (cellsL sd ((a / 8 : Nat) : Int).toNat ((b / 8 : Nat) : Int).toNat)[b % 8 * 8 + a % 8]? = some i := h3
        rw [cellsL_at _ _ _ (by omega)] at h3'
        injection h3' with h3'
        refine ⟨?_, h4⟩
        rw [h1, ← h3', Int.toNat_natCast, Int.toNat_natCast, show a / 8 * 8 + (b % 8 * 8 + a % 8) % 8 = a by omega, show b / 8 * 8 + (b % 8 * 8 + a % 8) / 8 = b by omega]
        have : cellZ sd (a : Int) (b : Int) = cellN sd a b := by unfold cellZ; rw [if_pos ⟨by omega, by omega, by omega, by omega⟩, Int.toNat_natCast, Int.toNat_natCast]
        rw [this])
    have HAO : Hid (¬ (0 ≤ x ∧ 0 ≤ y ∧ x < 8 * size ∧ y < 8 * size) → ∀ W, Fr No w W → Calls Tryd.prog 15 #[(nilD size sd).val, .int .i64 x, .int .i64 y] W fun e w' => e = .returned (.tuple #[.int .u8 0, .bool false]) ∧ Fr No W w') := Lib.hid (fun ho W hW => wat_out (d := nilD size sd) (ht.no hW) (nilD_in size sd W) hR hx hy ho)
    have hw8 : IntKind.i64.wrap (8 * size) = 8 * size := by rw [IntKind.wrap_i64]; omega
    obtain ⟨CZ, hCZ⟩ : ∃ CZ, (cellZ sd x y : Int) = CZ := ⟨_, rfl⟩
    rw [hCZ] at HCELL HAI
    obtain ⟨BL, hBL⟩ : ∃ BL, nilB size sd = BL := ⟨_, rfl⟩
    rw [hBL] at HBY
    unfold nilD at HBY HRT HPL HAI HAO
    unfold Wd.val u64v at HBY HRT HPL HAI HAO HNEW
    unfold u64v at HCELL ⊢
    dsimp only at HBY HRT HPL HAI HAO HNEW HCELL
    rw [hSV] at HBY HRT HPL HAI HAO HNEW HCELL ⊢
    have hs0 : size ≥ 1 := hs.1
    have hs1 := hs.2
    clear hsb hR hSV hCZ hBL ht hx hy hs
    go_enter Tryd.func4, Tryd.ntmps4
    go_upto_region 1 with fail
    go_quiet (fail)
    go_upto_region 3 with (go_at_call 13; refine (HNEW.out _).mono ?_; rintro e w1 ⟨rfl, hf⟩; have HF1 := Lib.hid ((HF0.out.no_trans (Fr.drewN No _ _)).no_trans hf); clear hf g0 g1 d0 d1)
    have hbA := heap_alloc_new w1 (.cells #[.int .i64 size, .int .u64 SV, .int .i64 0, .slice none 0 0, .slice none 0 0] 26)
    have hfA := Fr.alloc No w1 (.cells #[.int .i64 size, .int .u64 SV, .int .i64 0, .slice none 0 0, .slice none 0 0] 26)
    obtain ⟨EA, hEA⟩ : ∃ E, w1.heap.size = E := ⟨_, rfl⟩
    rw [hEA] at hbA ⊢
    clear hEA
    have HBA := Lib.hid hbA
    have HFA := Lib.hid (HF1.out.no_trans hfA)
    generalize w1.alloc (.cells #[.int .i64 size, .int .u64 SV, .int .i64 0, .slice none 0 0, .slice none 0 0] 26) = wA at *
    clear hbA hfA HF1 HF0
    go_upto_region 4 with (go_at_call 13; refine (HNEW.out _).mono ?_; rintro e w2 ⟨rfl, hf⟩; have HF2 := Lib.hid hf; clear hf)
    have hbC := heap_alloc_new w2 (.cells #[.int .i64 size, .int .u64 SV, .int .i64 0, .slice none 0 0, .slice none 0 0] 26)
    have hfC := Fr.alloc No w2 (.cells #[.int .i64 size, .int .u64 SV, .int .i64 0, .slice none 0 0, .slice none 0 0] 26)
    obtain ⟨EC, hEC⟩ : ∃ E, w2.heap.size = E := ⟨_, rfl⟩
    rw [hEC] at hbC ⊢
    clear hEC
    have hALL : Hid (∀ W, Fr No (w2.alloc (.cells #[.int .i64 size, .int .u64 SV, .int .i64 0, .slice none 0 0, .slice none 0 0] 26)) W → (W.cell? ⟨EA, 0, none⟩ = some (.int .i64 size) ∧ W.cell? ⟨EA, 1, none⟩ = some (.int .u64 SV) ∧ W.cell? ⟨EA, 2, none⟩ = some (.int .i64 0) ∧ W.cell? ⟨EA, 3, none⟩ = some (.slice none 0 0) ∧ W.cell? ⟨EA, 4, none⟩ = some (.slice none 0 0)) ∧ (W.cell? ⟨EC, 0, none⟩ = some (.int .i64 size) ∧ W.cell? ⟨EC, 1, none⟩ = some (.int .u64 SV) ∧ W.cell? ⟨EC, 2, none⟩ = some (.int .i64 0) ∧ W.cell? ⟨EC, 3, none⟩ = some (.slice none 0 0) ∧ W.cell? ⟨EC, 4, none⟩ = some (.slice none 0 0))) := Lib.hid (fun W hW => ⟨cells5 (blk_no ((HF2.out.no_trans hfC).no_trans hW) HBA.out), cells5 (blk_no hW hbC)⟩)
    have HFC := Lib.hid (HFA.out.no_trans (HF2.out.no_trans hfC))
    generalize w2.alloc (.cells #[.int .i64 size, .int .u64 SV, .int .i64 0, .slice none 0 0, .slice none 0 0] 26) = wC at *
    clear hbC hfC HBA HFA HF2
    obtain ⟨⟨k0, k1, k2, k3, k4⟩, ⟨j0, j1, j2, j3, j4⟩⟩ := hALL.out _ (Fr.refl No wC)
    go_upto_region 9 with (go_at_call 14; refine (HBY.out _ HFC.out).mono ?_; rintro e w3 ⟨A3, c3, rfl, ho, hf⟩; have HO3 := Lib.hid ho; have HF3 := Lib.hid hf; clear ho hf k0 k1 k2 k3 k4 j0 j1 j2 j3 j4)
    obtain ⟨⟨k0, k1, k2, k3, k4⟩, ⟨j0, j1, j2, j3, j4⟩⟩ := hALL.out _ HF3.out
    go_upto_region 10 with (go_at_call 14; refine (HBY.out _ (HFC.out.no_trans HF3.out)).mono ?_; rintro e w4 ⟨A4, c4, rfl, ho, hf⟩; have HO4 := Lib.hid ho; have HO3' := Lib.hid (own_no HO3.out hf); have HF4 := Lib.hid (HF3.out.no_trans hf); clear ho hf k0 k1 k2 k3 k4 j0 j1 j2 j3 j4)
    obtain ⟨⟨k0, k1, k2, k3, k4⟩, ⟨j0, j1, j2, j3, j4⟩⟩ := hALL.out _ HF4.out
    clear HO3
    by_cases hin : 0 ≤ x ∧ 0 ≤ y ∧ x < 8 * size ∧ y < 8 * size
    · have HAT := Lib.hid (HAI.out hin)
      obtain ⟨hx0, hy0, hx1, hy1⟩ := hin
      have hx0' : x ≥ 0 := hx0
      have hy0' : y ≥ 0 := hy0
      clear HAI HAO
      go_upto_region 11 with (go_at_call 15; refine (HAT.out _ (HFC.out.no_trans HF4.out)).mono ?_; rintro e w5 ⟨rfl, hf⟩; have HF5 := Lib.hid (HF4.out.no_trans hf); have HEQ := Lib.hid (fun W (hW : Fr No w5 W) => weq_yes (c := c3) (c' := c4) (Rd.own (own_no HO3'.out (hf.no_trans hW))) (Rd.own (own_no HO4.out (hf.no_trans hW)))); clear hf k0 k1 k2 k3 k4 j0 j1 j2 j3 j4)
      obtain ⟨⟨k0, k1, k2, k3, k4⟩, ⟨j0, j1, j2, j3, j4⟩⟩ := hALL.out _ HF5.out
      go_upto_region 15 with (first
        | (go_at_call 16; refine (HEQ.out _ (Fr.refl No _)).mono ?_; rintro e w6 ⟨rfl, hf⟩; have HF6 := Lib.hid (HF5.out.no_trans hf); clear hf)
        | (go_at_call 17; refine (HCELL.out _).mono ?_; rintro e w7 ⟨rfl, hf⟩; have HFL := Lib.hid (HF6.out.no_trans hf); clear hf k0 k1 k2 k3 k4 j0 j1 j2 j3 j4; obtain ⟨⟨k0, k1, k2, k3, k4⟩, ⟨j0, j1, j2, j3, j4⟩⟩ := hALL.out _ HFL.out)
        | (go_at_call 18; refine (HPL.out _).mono ?_; rintro e w8 ⟨rfl, hf⟩; have HF8 := Lib.hid ((HFL.out.no_trans hf).no_trans (Fr.alloc No _ (.cells #[.int .i64 0, .int .i64 0, .int .i64 0, .slice none 0 0, .int .i64 0, .slice none 0 0, .bool false] 35))); clear hf k0 k1 k2 k3 k4 j0 j1 j2 j3 j4))
      obtain ⟨⟨k0, k1, k2, k3, k4⟩, ⟨j0, j1, j2, j3, j4⟩⟩ := hALL.out _ HF8.out
      go_wp2_with (first
        | (go_at_call 8; refine (HRT.out _ (HFC.out.no_trans HF8.out)).mono ?_; rintro e w9 ⟨rfl, hf⟩; have HF9 := Lib.hid (HF8.out.no_trans hf); clear hf)
        | (go_at_call 9; refine (HAW.out _ (HFC.out.no_trans HF9.out)).mono ?_; rintro e w10 ⟨rfl, hf⟩; have HF10 := Lib.hid (HF9.out.no_trans hf); clear hf))
      go_ret
      exact ⟨rfl, HFC.out.no_trans HF10.out⟩
    · have HAT := Lib.hid (HAO.out hin)
      clear HAI HAO
      go_upto_region 11 with (go_at_call 15; refine (HAT.out _ (HFC.out.no_trans HF4.out)).mono ?_; rintro e w5 ⟨rfl, hf⟩; have HF5 := Lib.hid (HF4.out.no_trans hf); have HEQ := Lib.hid (fun W (hW : Fr No w5 W) => weq_yes (c := c3) (c' := c4) (Rd.own (own_no HO3'.out (hf.no_trans hW))) (Rd.own (own_no HO4.out (hf.no_trans hW)))); clear hf k0 k1 k2 k3 k4 j0 j1 j2 j3 j4)
      obtain ⟨⟨k0, k1, k2, k3, k4⟩, ⟨j0, j1, j2, j3, j4⟩⟩ := hALL.out _ HF5.out
      go_cut [19] from 81 to 99 (fun v19 wz => v19 = .bool false ∧ wz = w5)
      case first =>
        by_cases q1 : 0 ≤ x
        · have q1' : x ≥ 0 := q1
          by_cases q2 : 0 ≤ y
          · have q2' : y ≥ 0 := q2
            by_cases q3 : x < 8 * size
            · have q4 : ¬ y < 8 * size := fun h => hin ⟨q1, q2, q3, h⟩
              go_wp2_with fail
              go_meet
              exact ⟨rfl, rfl⟩
            · go_wp2_with fail
              go_meet
              exact ⟨rfl, rfl⟩
          · have q2' : ¬ y ≥ 0 := q2
            go_wp2_with fail
            go_meet
            exact ⟨rfl, rfl⟩
        · have q1' : ¬ x ≥ 0 := q1
          go_wp2_with fail
          go_meet
          exact ⟨rfl, rfl⟩
      case rest =>
      obtain ⟨rfl, rfl⟩ := hcut
      go_upto_region 15 with (first
        | (go_at_call 16; refine (HEQ.out _ (Fr.refl No _)).mono ?_; rintro e w6 ⟨rfl, hf⟩; have HFL := Lib.hid (HF5.out.no_trans hf); clear hf k0 k1 k2 k3 k4 j0 j1 j2 j3 j4; obtain ⟨⟨k0, k1, k2, k3, k4⟩, ⟨j0, j1, j2, j3, j4⟩⟩ := hALL.out _ HFL.out)
        | (go_at_call 18; refine (HPL.out _).mono ?_; rintro e w8 ⟨rfl, hf⟩; have HF8 := Lib.hid ((HFL.out.no_trans hf).no_trans (Fr.alloc No _ (.cells #[.int .i64 0, .int .i64 0, .int .i64 0, .slice none 0 0, .int .i64 0, .slice none 0 0, .bool false] 35))); clear hf k0 k1 k2 k3 k4 j0 j1 j2 j3 j4))
      obtain ⟨⟨k0, k1, k2, k3, k4⟩, ⟨j0, j1, j2, j3, j4⟩⟩ := hALL.out _ HF8.out
      go_wp2_with (first
        | (go_at_call 8; refine (HRT.out _ (HFC.out.no_trans HF8.out)).mono ?_; rintro e w9 ⟨rfl, hf⟩; have HF9 := Lib.hid (HF8.out.no_trans hf); clear hf)
        | (go_at_call 9; refine (HAW.out _ (HFC.out.no_trans HF9.out)).mono ?_; rintro e w10 ⟨rfl, hf⟩; have HF10 := Lib.hid (HF9.out.no_trans hf); clear hf))
      go_ret
      exact ⟨rfl, HFC.out.no_trans HF10.out⟩
  · have hsb : sizB size = false := by
      unfold sizB
      cases h1 : decide (1 ≤ size) with
      | false => rfl
      | true => cases h2 : decide (size ≤ 16) with
        | false => rfl
        | true => exact absurd ⟨of_decide_eq_true h1, of_decide_eq_true h2⟩ hs
    rw [hsb, if_neg (by decide)] at HNEW
    have HRT : Hid (∀ W, Fr No w W → Calls Tryd.prog 8 #[(nilD 0 0#64).val] W fun e w' => e = .returned (.bool false) ∧ Fr No W w') := Lib.hid (fun W hW => by
      have := wright_any (ht.no hW) (nilD_in 0 0#64 W)
      rw [nilD_rgt, show sizB 0 = false from rfl] at this
      exact this)
    unfold nilD at HRT
    unfold Wd.val u64v at HRT HNEW
    unfold u64v
    dsimp only at HRT HNEW
    rw [hSV] at HNEW ⊢
    rw [show (((0#64 : W64).toNat : Nat) : Int) = 0 from rfl] at HRT HNEW
    clear hsb hSV ht hx hy
    have hgs : ¬ (size ≥ 1 ∧ size ≤ 16) := hs
    go_enter Tryd.func4, Tryd.ntmps4
    go_upto_region 1 with fail
    go_quiet (fail)
    go_upto_region 3 with (go_at_call 13; refine (HNEW.out _).mono ?_; rintro e w1 ⟨rfl, hf⟩; have HF1 := Lib.hid ((HF0.out.no_trans (Fr.drewN No _ _)).no_trans hf); clear hf g0 g1 d0 d1)
    have hbA := heap_alloc_new w1 (.cells #[.int .i64 0, .int .u64 0, .int .i64 0, .slice none 0 0, .slice none 0 0] 26)
    have hfA := Fr.alloc No w1 (.cells #[.int .i64 0, .int .u64 0, .int .i64 0, .slice none 0 0, .slice none 0 0] 26)
    obtain ⟨EA, hEA⟩ : ∃ E, w1.heap.size = E := ⟨_, rfl⟩
    rw [hEA] at hbA ⊢
    clear hEA
    have HBA := Lib.hid hbA
    have HFA := Lib.hid (HF1.out.no_trans hfA)
    generalize w1.alloc (.cells #[.int .i64 0, .int .u64 0, .int .i64 0, .slice none 0 0, .slice none 0 0] 26) = wA at *
    clear hbA hfA HF1 HF0
    go_upto_region 4 with (go_at_call 13; refine (HNEW.out _).mono ?_; rintro e w2 ⟨rfl, hf⟩; have HF2 := Lib.hid (hf.no_trans (Fr.alloc No w2 (.cells #[.int .i64 0, .int .u64 0, .int .i64 0, .slice none 0 0, .slice none 0 0] 26))); clear hf)
    obtain ⟨k0, k1, k2, k3, k4⟩ := cells5 (blk_no HF2.out HBA.out)
    have HFC := Lib.hid (HFA.out.no_trans HF2.out)
    by_cases q1 : size ≥ 1
    · have q2 : ¬ size ≤ 16 := fun h => hgs ⟨q1, h⟩
      clear hgs hs
      go_wp2_with (first
        | (go_at_call 8; refine (HRT.out _ HFC.out).mono ?_; rintro e w9 ⟨rfl, hf⟩; have HF9 := Lib.hid (HFC.out.no_trans hf); clear hf)
        | (go_at_call 9; refine (HAW.out _ HF9.out).mono ?_; rintro e w10 ⟨rfl, hf⟩; have HF10 := Lib.hid (HF9.out.no_trans hf); clear hf))
      go_ret
      exact ⟨rfl, HF10.out⟩
    · clear hgs hs
      go_wp2_with (first
        | (go_at_call 8; refine (HRT.out _ HFC.out).mono ?_; rintro e w9 ⟨rfl, hf⟩; have HF9 := Lib.hid (HFC.out.no_trans hf); clear hf)
        | (go_at_call 9; refine (HAW.out _ HF9.out).mono ?_; rintro e w10 ⟨rfl, hf⟩; have HF10 := Lib.hid (HF9.out.no_trans hf); clear hf))
      go_ret
      exact ⟨rfl, HF10.out⟩
theorem first_call (ht : ItT w) (size : Int) {a : Int} (h0 : 0 ≤ a) (h1 : a ≤ 18446744073709551615) {x y : Int} (hx : x ≤ 9223372036854775807) (hy : y ≤ 9223372036854775807) : Calls Tryd.prog 4 #[.int .i64 size, .int .u64 a, .agg #[.int .i64 x, .int .i64 y]] w fun e w' => e = .returned (.bool true) ∧ Below w.heap.size w w' := by
  obtain ⟨s, rfl⟩ := w64_of h0 h1
  exact (first_walk ht size s hx hy).mono fun e w' ⟨h1, h2⟩ => ⟨h1, h2.noBelow⟩
end
end Go.Proofs.YtjdhbgdpmojobaaDoor

/-
  The contracts of isRight and of roots.Bytes. No statement of the seat is proved here.
-/
import Derived.Test.YtggejecmhfafoaaGreatDoorRtM
import Derived.Test.YtggejecmhfafoaaGreatDoorUfu
import Derived.Lib.SlBytesConst
import Derived.Deep.CutBlock
namespace Go.Proofs.YtggejecmhfafoaaGreatDoor
open Go.RowKit

set_option maxRecDepth 100000 in
theorem within_any (n least : Int) (w : World) :
    Calls Tryz.prog 56 #[.int .i64 n, .int .i64 least] w fun e w' => e = .returned (.bool (decide (least ≤ n ∧ n ≤ 9007199254740992))) ∧ w = w' := by
  obtain ⟨r, HR⟩ : ∃ r, Hid (decide (least ≤ n ∧ n ≤ 9007199254740992) = r) := ⟨_, rfl⟩
  rw [HR.out]
  by_cases h1 : least ≤ n
  · have q1 : decide (least ≤ n) = true := decide_eq_true h1
    by_cases h2 : n ≤ 9007199254740992
    · have hr : Hid (r = true) := by show r = true; rw [← HR.out, decide_eq_true_eq]; exact ⟨h1, h2⟩
      have q2 : decide (n ≤ 9007199254740992) = true := decide_eq_true h2
      clear h1 h2
      go_enter Tryz.func56, Tryz.ntmps56
      go_wp2_with fail
      go_ret
      exact ⟨by rw [hr.out]; rfl, rfl⟩
    · have hr : Hid (r = false) := by show r = false; rw [← HR.out, decide_eq_false_iff_not]; exact fun h => h2 h.2
      have q2 : decide (n ≤ 9007199254740992) = false := decide_eq_false h2
      clear h1 h2
      go_enter Tryz.func56, Tryz.ntmps56
      go_wp2_with fail
      go_ret
      exact ⟨by rw [hr.out]; rfl, rfl⟩
  · have hr : Hid (r = false) := by show r = false; rw [← HR.out, decide_eq_false_iff_not]; exact fun h => h1 h.1
    have q1 : decide (least ≤ n) = false := decide_eq_false h1
    clear h1
    go_enter Tryz.func56, Tryz.ntmps56
    go_wp2_with fail
    go_ret
    exact ⟨by rw [hr.out]; rfl, rfl⟩
/-- Whether a root's numbers may be. -/
def rgt (a b c : Int) : Bool := decide (1 ≤ a ∧ a ≤ 9007199254740992) && (decide (0 ≤ b ∧ b ≤ 9007199254740992) && decide (0 ≤ c ∧ c ≤ 9007199254740992))
set_option maxRecDepth 100000 in
theorem isright_any (a b c : Int) (A : Option Addr) (n k : Nat) (w : World) :
    Calls Tryz.prog 35 #[.agg #[.int .i64 a, .int .i64 b, .int .i64 c, .slice A n k]] w fun e w' => e = .returned (.bool (rgt a b c)) ∧ Below w.heap.size w w' := by
  have W1 := Lib.hid (fun W => within_any a 1 W)
  have W2 := Lib.hid (fun W => within_any b 0 W)
  have W3 := Lib.hid (fun W => within_any c 0 W)
  unfold rgt
  obtain ⟨x, HX⟩ : ∃ x, Hid (decide (1 ≤ a ∧ a ≤ 9007199254740992) = x) := ⟨_, rfl⟩
  obtain ⟨y, HY⟩ : ∃ x, Hid (decide (0 ≤ b ∧ b ≤ 9007199254740992) = x) := ⟨_, rfl⟩
  obtain ⟨z, HZ⟩ : ∃ x, Hid (decide (0 ≤ c ∧ c ≤ 9007199254740992) = x) := ⟨_, rfl⟩
  rw [HX.out] at W1 ⊢
  rw [HY.out] at W2 ⊢
  rw [HZ.out] at W3 ⊢
  go_enter Tryz.func35, Tryz.ntmps35
  go_wp2_with fail
  refine (W1.out _).mono ?_
  rintro e w1 ⟨rfl, rfl⟩
  cases x with
  | false =>
    go_wp2_with fail
    go_ret
    exact ⟨rfl, (Below.refl _ _).alloc (Nat.le_refl _) _⟩
  | true =>
    go_wp2_with fail
    refine (W2.out _).mono ?_
    rintro e w1 ⟨rfl, rfl⟩
    cases y with
    | false =>
      go_wp2_with fail
      go_ret
      exact ⟨rfl, (Below.refl _ _).alloc (Nat.le_refl _) _⟩
    | true =>
      go_wp2_with fail
      refine (W3.out _).mono ?_
      rintro e w1 ⟨rfl, rfl⟩
      go_wp2_with fail
      go_ret
      exact ⟨by simp, (Below.refl _ _).alloc (Nat.le_refl _) _⟩
/-- A root as it stands in memory. -/
def Rn.val (r : Rn) (A : Option Addr) (n k : Nat) : Value := .agg #[.int .i64 (r.s : Int), .int .i64 (r.t : Int), .int .i64 (r.c : Int), .slice A n k]
theorem rgt_right (r : Rn) : rgt r.s r.t r.c = r.right := by
  unfold rgt Rn.right top
  rw [Bool.eq_iff_iff]
  simp only [Bool.and_eq_true, decide_eq_true_eq]
  omega
set_option maxRecDepth 100000 in
theorem bytes_bad (a b c : Int) (A : Option Addr) (n k : Nat) (w : World) (h : rgt a b c = false) :
    Calls Tryz.prog 19 #[.agg #[.int .i64 a, .int .i64 b, .int .i64 c, .slice A n k]] w fun e w' => e = .returned (.tuple #[.slice none 0 0, .int .i64 2]) ∧ Below w.heap.size w w' := by
  have HI := isright_any a b c A n k (w.alloc (.cells #[.int .i64 a, .int .i64 b, .int .i64 c, .slice A n k] 30))
  rw [h] at HI
  have HH := Lib.hid HI
  clear HI h
  go_enter Tryz.func19, Tryz.ntmps19
  go_wp2_with fail
  refine HH.out.mono ?_
  rintro e w1 ⟨rfl, hb⟩
  have HB := Lib.hid hb
  clear hb
  go_wp2_with fail
  go_ret2
  exact ⟨rfl, ((Below.refl _ _).alloc (Nat.le_refl _) _).trans (HB.out.mono (by simp))⟩
/-- What stands behind the magic after k numbers. -/
def outAt (r : Rn) : Nat → List UInt8
  | 0 => mgc
  | 1 => mgc ++ varint r.s
  | 2 => mgc ++ varint r.s ++ varint r.t
  | _ => mgc ++ varint r.s ++ varint r.t ++ varint r.c
def numAt (r : Rn) : Nat → Nat
  | 0 => r.s
  | 1 => r.t
  | _ => r.c
theorem outAt_succ (r : Rn) (k : Nat) (h : k < 3) : outAt r (k + 1) = outAt r k ++ varint (numAt r k) := by
  match k, h with
  | 0, _ => rfl
  | 1, _ => rfl
  | 2, _ => rfl
theorem outAt_len (r : Rn) (h : r.right = true) (k : Nat) : (outAt r k).length ≤ 28 := by
  obtain ⟨_, h2, h3, h4⟩ := (right_iff r).1 h
  have a := varint_len54 h2
  have b := varint_len54 h3
  have c := varint_len54 h4
  have e : mgc.length = 4 := rfl
  match k with
  | 0 => show mgc.length ≤ 28; omega
  | 1 => show (mgc ++ varint r.s).length ≤ 28; rw [List.length_append]; omega
  | 2 => show (mgc ++ varint r.s ++ varint r.t).length ≤ 28; rw [List.length_append, List.length_append]; omega
  | k + 3 => show (mgc ++ varint r.s ++ varint r.t ++ varint r.c).length ≤ 28; rw [List.length_append, List.length_append, List.length_append]; omega
theorem numAt_le (r : Rn) (h : r.right = true) (k : Nat) : numAt r k ≤ top := by
  obtain ⟨_, h2, h3, h4⟩ := (right_iff r).1 h
  match k with
  | 0 => exact h2
  | 1 => exact h3
  | k + 2 => exact h4
theorem heap2R (w : World) (a b : Obj) : ((w.alloc a).alloc b).heap[w.heap.size + 1]? = some b := by
  have h := heap_alloc_new (w.alloc a) b
  rw [World.size_alloc] at h
  exact h
set_option maxHeartbeats 3000000 in
set_option maxRecDepth 100000 in
theorem bytes_ok (r : Rn) (hr : r.right = true) (A : Option Addr) (n k : Nat) (w : World) (h : Rd w w.heap.size A n r.l) (hn : n ≤ 10000) (ht : Tab w) :
    Calls Tryz.prog 19 #[.agg #[.int .i64 (r.s : Int), .int .i64 (r.t : Int), .int .i64 (r.c : Int), .slice A n k]] w fun e w' => ∃ v, e = .returned (.tuple #[v, .int .i64 0]) ∧ Put w.heap.size w r.bytes (.returned v) w' := by
  have HI := isright_any r.s r.t r.c A n k (w.alloc (.cells #[.int .i64 (r.s : Int), .int .i64 (r.t : Int), .int .i64 (r.c : Int), .slice A n k] 30))
  rw [rgt_right, hr] at HI
  have HH := Lib.hid HI
  have H := Lib.hid h
  have HT := Lib.hid ht
  have HN := Lib.hid hn
  have HL := Lib.hid (fun j => outAt_len r hr j)
  have HT2 := Lib.hid (fun j => numAt_le r hr j)
  have hfa := (Below.refl w.heap.size w).alloc (Nat.le_refl _) (.cells #[.int .i64 (r.s : Int), .int .i64 (r.t : Int), .int .i64 (r.c : Int), .slice A n k] 30)
  have hba := heap_alloc_new w (.cells #[.int .i64 (r.s : Int), .int .i64 (r.t : Int), .int .i64 (r.c : Int), .slice A n k] 30)
  have hsz : (w.alloc (.cells #[.int .i64 (r.s : Int), .int .i64 (r.t : Int), .int .i64 (r.c : Int), .slice A n k] 30)).heap.size = w.heap.size + 1 := World.size_alloc _ _
  obtain ⟨P, HP⟩ : ∃ P, Hid (w.heap.size = P) := ⟨_, rfl⟩
  rw [HP.out] at hba hfa hsz H
  have HFA := Lib.hid hfa
  have HBA := Lib.hid hba
  have HSZ := Lib.hid hsz
  clear HI h ht hn hr hfa hba hsz
  go_enter Tryz.func19, Tryz.ntmps19
  go_wp2_with fail
  refine HH.out.mono ?_
  rintro e w1 ⟨rfl, hb⟩
  rw [HP.out]
  rw [HSZ.out] at hb
  have HB1 := Lib.hid (HFA.out.trans (hb.mono (by omega)))
  have HTP := Lib.hid (show 0 < P by rw [← HP.out]; exact HT.out.pos)
  have hb1 := (hb.block P (by omega)).trans HBA.out
  have k0 : w1.cell? ⟨P, 0, none⟩ = some (.int .i64 (r.s : Int)) := by unfold World.cell?; rw [hb1]; rfl
  have k1 : w1.cell? ⟨P, 1, none⟩ = some (.int .i64 (r.t : Int)) := by unfold World.cell?; rw [hb1]; rfl
  have k2 : w1.cell? ⟨P, 2, none⟩ = some (.int .i64 (r.c : Int)) := by unfold World.cell?; rw [hb1]; rfl
  have k3 : w1.cell? ⟨P, 3, none⟩ = some (.slice A n k) := by unfold World.cell?; rw [hb1]; rfl
  have hnI : (n : Int) ≤ 1048576 := by have := HN.out; omega
  have hP1 : P < w1.heap.size := (Array.getElem?_eq_some_iff.1 hb1).1
  have hcv := Lib.run_convert_bytes_const (P := Tryz.prog) w1 28 5 #[.int .u8 72, .int .u8 83, .int .u8 82, .int .u8 49] 4 4 Tryz.underlying28 Tryz.underlying5
  have hMk : Below w1.heap.size w1 (w1.alloc (.cells #[.int .u8 72, .int .u8 83, .int .u8 82, .int .u8 49] 5 (4, 5))) := (Below.refl _ _).alloc (Nat.le_refl _) _
  have hbM := heap_alloc_new w1 (.cells #[.int .u8 72, .int .u8 83, .int .u8 82, .int .u8 49] 5 (4, 5))
  have hsM : (w1.alloc (.cells #[.int .u8 72, .int .u8 83, .int .u8 82, .int .u8 49] 5 (4, 5))).heap.size = w1.heap.size + 1 := World.size_alloc _ _
  have HBP := Lib.hid hb1
  clear hb hb1
  go_upto_region 6 with fail
  obtain ⟨wm, hwm⟩ : ∃ u, w1.alloc (.cells #[.int .u8 72, .int .u8 83, .int .u8 82, .int .u8 49] 5 (4, 5)) = u := ⟨_, rfl⟩
  obtain ⟨Q, hQ⟩ : ∃ Q, w1.heap.size = Q := ⟨_, rfl⟩
  rw [hwm, hQ] at hMk hbM hsM
  rw [hQ] at hP1
  rw [hwm]
  try rw [hQ]
  have HBM := Lib.hid hMk
  have hP2 := (hMk.block P (by omega)).trans HBP.out
  have HPM := Lib.hid hP2
  have HQM := Lib.hid hbM
  have HQ := Lib.hid hQ
  clear k0 k1 k2 k3 hwm hMk hbM hQ hcv
  have k0 : wm.cell? ⟨P, 0, none⟩ = some (.int .i64 (r.s : Int)) := by unfold World.cell?; rw [hP2]; rfl
  have k1 : wm.cell? ⟨P, 1, none⟩ = some (.int .i64 (r.t : Int)) := by unfold World.cell?; rw [hP2]; rfl
  have k2 : wm.cell? ⟨P, 2, none⟩ = some (.int .i64 (r.c : Int)) := by unfold World.cell?; rw [hP2]; rfl
  have hfI := (Below.refl wm.heap.size wm).alloc (Nat.le_refl _) (.cells #[.int .i64 (r.s : Int), .int .i64 (r.t : Int), .int .i64 (r.c : Int)] 3)
  have hbI := heap_alloc_new wm (.cells #[.int .i64 (r.s : Int), .int .i64 (r.t : Int), .int .i64 (r.c : Int)] 3)
  have hsI : (wm.alloc (.cells #[.int .i64 (r.s : Int), .int .i64 (r.t : Int), .int .i64 (r.c : Int)] 3)).heap.size = wm.heap.size + 1 := World.size_alloc _ _
  clear hP2
  go_upto_region 7 with fail
  obtain ⟨w2, hw2⟩ : ∃ u, wm.alloc (.cells #[.int .i64 (r.s : Int), .int .i64 (r.t : Int), .int .i64 (r.c : Int)] 3) = u := ⟨_, rfl⟩
  rw [hw2] at hfI hbI hsI ⊢
  obtain ⟨G, hG⟩ : ∃ G, wm.heap.size = G := ⟨_, rfl⟩
  rw [hG] at hfI hbI hsI hsM
  first | rw [hG] | rw [← hsM]
  have HB12 := Lib.hid (show Below Q w1 w2 from HBM.out.trans (hfI.mono (by omega)))
  have HQ2 := Lib.hid ((hfI.block Q (by omega)).trans HQM.out)
  have HP2 := Lib.hid ((hfI.block P (by omega)).trans HPM.out)
  have HG2 := Lib.hid hbI
  have HSZ2 := Lib.hid (show G = Q + 1 ∧ w2.heap.size = Q + 2 ∧ P < Q from ⟨by omega, by omega, by omega⟩)
  have HGC : Hid (∀ j, j < 3 → w2.cell? ⟨G, j, none⟩ = some (.int .i64 (numAt r j : Int))) := fun j hj => by
    unfold World.cell?
    rw [hbI]
    match j, hj with
    | 0, _ => rfl
    | 1, _ => rfl
    | 2, _ => rfl
  have HQC : Hid (∀ j (h : j < mgc.length), w2.cell? ⟨Q, j, none⟩ = some (.int .u8 (mgc[j].toNat : Int))) := fun j hj => by
    unfold World.cell?
    rw [HQ2.out]
    match j, hj with
    | 0, _ => rfl
    | 1, _ => rfl
    | 2, _ => rfl
    | 3, _ => rfl
  clear k0 k1 k2 hw2 hG hfI hbI hsI hsM hP1 hnI
  go_wp2_with fail
  go_loopw [4, 6, 24] (fun v4 _ v24 wr => ∃ k : Nat, k ≤ 3 ∧ v24 = .int .i64 (k : Int) ∧ Below w2.heap.size w2 wr ∧ ((k = 0 ∧ v4 = .slice (some ⟨Q, 0, none⟩) 4 4 ∧ wr = w2) ∨ (0 < k ∧ wr.ownsRow w2.heap.size 5 1 v4 (outAt r k).length (bvs (outAt r k))))) (fun _ _ v24 _ => 3 - (intOf v24).toNat)
  case atStart => exact ⟨0, by omega, rfl, Below.refl _ _, .inl ⟨rfl, rfl, rfl⟩⟩
  case round =>
    obtain ⟨j, hj, rfl, hbel, hor⟩ := hrel
    have HBL := Lib.hid hbel
    clear hbel
    by_cases hlt : j < 3
    · have hltI : (j : Int) < 3 := by omega
      have hj0 : (0 : Int) ≤ (j : Int) := by omega
      have c0 := (HBL.out.cell (p := ⟨G, j, none⟩) (show G < w2.heap.size by have := HSZ2.out; omega)).trans (HGC.out j hlt)
      have HX := Lib.hid (HT2.out j)
      have HSC := Lib.hid (outAt_succ r j hlt)
      obtain ⟨x, hx⟩ : ∃ x, numAt r j = x := ⟨_, rfl⟩
      rw [hx] at c0 HX HSC
      have hx63 : x < 2 ^ 64 := Nat.lt_of_le_of_lt HX.out (by decide)
      have hwr : IntKind.u64.wrap (x : Int) = (x : Int) := IntWalk.u64_in _ (by omega)
      have HX63 := Lib.hid hx63
      have hwj : IntKind.i64.wrap ((j : Int) + 1) = ((j + 1 : Nat) : Int) := by
        rw [show ((j : Int) + 1) = ((j + 1 : Nat) : Int) by omega]
        exact IntWalk.i64_in _ (by omega)
      clear hx hx63
      rcases hor with ⟨rfl, rfl, rfl⟩ | ⟨hp, ho⟩
      · go_wp2_with fail
        refine (uint_full mgc Q x _ HX63.out (by decide) HQC.out).mono ?_
        rintro e w3 ⟨v3, rfl, ho3, hg3⟩
        have HO3 := Lib.hid ho3
        have HB3 := Lib.hid (show Below wr.heap.size wr w3 from ⟨hg3.os, hg3.tape, hg3.output, hg3.size, fun k hk => hg3.block k hk (by simp)⟩)
        clear ho3 hg3
        go_wp2_with fail
        go_roundw
        case rel => exact ⟨0 + 1, by omega, by go_num, HB3.out, .inr ⟨by omega, by rw [HSC.out]; exact HO3.out⟩⟩
        case measure => simp [intOf]
      · obtain ⟨A4, c4, rfl, hc4, hm4⟩ := own_shape ho
        have HO := Lib.hid ho
        clear ho
        go_wp2_with fail
        refine (uint_gro w2.heap.size (outAt r j) x _ wr HX63.out HBL.out.size (by have := HL.out j; omega) HO.out).mono ?_
        rintro e w3 ⟨v3, rfl, ho3, hg3, _⟩
        have HO3 := Lib.hid ho3
        have HB3 := Lib.hid (show Below w2.heap.size w2 w3 from HBL.out.trans ⟨hg3.os, hg3.tape, hg3.output, hg3.size, fun k hk => hg3.block k (Nat.lt_of_lt_of_le hk HBL.out.size) (fun e => by have := (HO.out.lt k e.symm).1; omega)⟩)
        clear ho3 hg3
        go_wp2_with fail
        go_roundw
        case rel => exact ⟨j + 1, by omega, by go_num, HB3.out, .inr ⟨by omega, by rw [HSC.out]; exact HO3.out⟩⟩
        case measure => simp [intOf]; omega
    · have hj3 : j = 3 := by omega
      subst hj3
      have ho := (hor.resolve_left (fun h => by omega)).2
      obtain ⟨A4, c4, rfl, hc4, hm4⟩ := own_shape ho
      have HO := Lib.hid ho
      have hPr := (HBL.out.block P (by have := HSZ2.out; omega)).trans HP2.out
      have k3 : wr.cell? ⟨P, 3, none⟩ = some (.slice A n k) := by unfold World.cell?; rw [hPr]; rfl
      have HRL := Lib.hid (show Rd wr wr.heap.size A n r.l by
        have h1 := H.out.below (HB1.out)
        have h2 := h1.below ((HB12.out.trans (HBL.out.mono (by have := HSZ2.out; omega))).mono (by have := HSZ2.out; omega))
        exact h2.more (by have := HSZ2.out; have := HBL.out.size; omega))
      have HLN := Lib.hid (show r.l.length = n from H.out.1)
      have HBW := Lib.hid (show Below P w wr from HB1.out.trans ((HB12.out.trans (HBL.out.mono (by have := HSZ2.out; omega))).mono (by have := HSZ2.out; omega)))
      clear ho hor hPr hlt
      go_wp2_with fail
      refine (blob_any A4 A (outAt r 3).length c4 n k (outAt r 3) r.l wr (Rd.own HO.out) HRL.out (by have := HL.out 3; omega) (by have := HN.out; omega)).mono ?_
      rintro e w3 ⟨v3, rfl, ho3, hb3⟩
      obtain ⟨LB, HLB⟩ : ∃ L, Hid (outAt r 3 ++ (varint n ++ r.l) = L) := ⟨_, rfl⟩
      rw [HLB.out] at ho3
      obtain ⟨mb, HMB⟩ : ∃ m, Hid (LB.length = m) := ⟨_, rfl⟩
      obtain ⟨A5, c5, hv5, hc5, hm5⟩ := own_shape ho3
      rw [HMB.out] at hv5 hc5
      subst hv5
      have hrd := Rd.own (by rw [HMB.out] at ho3; exact ho3)
      have HO3 := Lib.hid hrd
      have HB3 := Lib.hid hb3
      have HMB2 := Lib.hid (show mb ≤ 20000 by
        rw [← HMB.out, ← HLB.out, List.length_append, List.length_append, HLN.out]
        have := HL.out 3
        have := HN.out
        have := varint_len_ten (n := n) (by omega)
        omega)
      have HTB := Lib.hid (HT.out.keep (HBW.out.trans (HB3.out.mono (by have := HBW.out.size; have := HP.out; omega))) HTP.out)
      clear ho3 hb3 hrd
      go_wp2_with fail
      refine (seal_any A5 mb c5 LB w3 HO3.out HMB2.out HTB.out).mono ?_
      rintro e w4 ⟨v4, rfl, ho4, hb4⟩
      have HO4 := Lib.hid ho4
      have HB4 := Lib.hid hb4
      clear ho4 hb4
      go_wp2_with fail
      go_ret2
      have hbody : LB = r.body := by rw [← HLB.out, ← HLN.out]; rfl
      have ho := HO4.out
      rw [hbody] at ho
      refine ⟨v4, rfl, v4, rfl, own_mono ho (by have h1 := HBW.out.size; have h2 := HB3.out.size; have := HP.out; omega), ?_⟩
      rw [HP.out]
      exact (HBW.out.trans (HB3.out.mono (by have := HBW.out.size; have := HP.out; omega))).trans (HB4.out.mono (by have := HBW.out.size; have := HB3.out.size; have := HP.out; omega))
end Go.Proofs.YtggejecmhfafoaaGreatDoor

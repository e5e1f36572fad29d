/-
  The contract of get: what getting a thing tells. No statement of the seat is proved here.
-/
import Derived.Test.YtbiglickijmmhaaDoorThM
import Derived.Test.YtbiglickijmmhaaDoorArr
import Derived.Deep.QuietTactic
import Derived.BigQuiet
import Derived.Deep.RegionHeld3
namespace Go.Proofs.YtbiglickijmmhaaDoor
open Go.RowKit

theorem getB_len (l : List UInt8) (p most : Int) (h : 0 ≤ most) : ((getB l p most).1.length : Int) ≤ most := by
  unfold getB
  split
  · simpa using h
  · split
    · simpa using h
    · split
      · simpa using h
      · simp only [List.length_take]
        omega
/-- What GetBlob answers: a slice with its room. -/
theorem gb2_any (l : List UInt8) (A : Option Addr) (n c : Nat) (p most : Int) (w : World) (hr : Rd w w.heap.size A n l) (hn : n ≤ 500000) (hc : n ≤ c) (hm : most ≤ 9223372036854775807) :
    Calls Tryd.prog 21 #[.slice A n c, .int .i64 p, .int .i64 most] w fun e w' => ∃ A' n' c', e = .returned (.tuple #[.slice A' n' c', .int .i64 ((getB l p most).2.1 : Int), .int .i64 ((getB l p most).2.2 : Int)]) ∧ Rd w' w'.heap.size A' n' (getB l p most).1 ∧ n' ≤ c' ∧ Below w.heap.size w w' := by
  by_cases he : (getB l p most).2.2 = 0
  · refine (getblob_ok l A n c p most w hr hn hc hm he).mono ?_
    rintro e w' ⟨v, rfl, hp⟩
    obtain ⟨A', n', c', hv, _, hcc, hd, hb⟩ := hp.str
    injection hv with hv
    subst hv
    exact ⟨A', n', c', by rw [he]; rfl, hd, hcc, hb⟩
  · refine (getblob_err l A n c _ p most w hr hn hc hm he).mono ?_
    rintro e w' ⟨rfl, rfl⟩
    obtain ⟨h1, h2⟩ := getB_zero l p most he
    exact ⟨none, 0, 0, by rw [h2]; rfl, by rw [h1]; exact Rd.nil, Nat.le_refl _, Below.refl _ _⟩
theorem beq_cast (a b : Nat) : ((a : Int) == (b : Int)) = (a == b) := by
  rw [Bool.eq_iff_iff, beq_iff_eq, beq_iff_eq]; omega

set_option maxHeartbeats 800000 in
set_option maxRecDepth 100000 in
theorem get_0 (Ab : Option Addr) (nb cb K N : Nat) (A : Option Addr) (n c : Nat) (l lb : List UInt8) (p : Int) (w : World) (hb : Rd w w.heap.size Ab nb lb) (hnb : nb ≤ 20000) (hcb : nb ≤ cb) (hN : N < 2 ^ 64) (ht : Rd w w.heap.size A n l) (hK : K % 4 = 0) :
    Calls Tryd.prog 26 #[.slice Ab nb cb, .int .i64 p, .agg #[.int .u8 (K : Int), .int .u64 (N : Int), .slice A n c]] w fun e w' => e = .returned (.tuple #[.int .i64 ((getT lb p ⟨K, N, A, n, c, l⟩).1 : Int), .int .i64 ((getT lb p ⟨K, N, A, n, c, l⟩).2.1 : Int), .bool (getT lb p ⟨K, N, A, n, c, l⟩).2.2]) ∧ Below w.heap.size w w' := by
  obtain ⟨wa, hwa⟩ : ∃ wa, w.alloc (.cells #[.int .u8 (K : Int), .int .u64 (N : Int), .slice A n c] 45) = wa := ⟨_, rfl⟩
  have hba : Below w.heap.size w wa := by rw [← hwa]; exact (Below.refl _ _).alloc (Nat.le_refl _) _
  have hbr := (hb.below hba).more hba.size
  have htr := (ht.below hba).more hba.size
  have g0 : wa.cell? ⟨w.heap.size, 0, none⟩ = some (.int .u8 (K : Int)) := by rw [← hwa]; simp
  have g1 : wa.cell? ⟨w.heap.size, 1, none⟩ = some (.int .u64 (N : Int)) := by rw [← hwa]; simp
  have g2 : wa.cell? ⟨w.heap.size, 2, none⟩ = some (.slice A n c) := by rw [← hwa]; simp
  have hNI : (N : Int) < 18446744073709551616 := by omega
  have HNI := Lib.hid hNI
  clear hNI
  have G0 := getuint_any lb Ab nb cb _ p wa hbr (by omega) hcb
  have HG : Hid (getT lb p ⟨K, N, A, n, c, l⟩ = ((getU lb p).2.1, (getU lb p).2.2, (getU lb p).1 == N)) := by
    show _ = _
    unfold getT
    simp only
    rw [if_pos hK]
  unfold tup at G0
  have k0 : ((K : Int) % 4 == 0) = true := by rw [beq_iff_eq]; omega
  generalize getU lb p = r at *
  obtain ⟨v, q, x⟩ := r
  simp only at G0 HG
  have HG0 := Lib.hid G0
  have HWA := Lib.hid hwa
  clear hb ht hbr htr hK G0
  go_enter Tryd.func26, Tryd.ntmps26
  go_wp2_with fail
  refine HG0.out.mono ?_
  rintro e w' ⟨rfl, rfl⟩
  go_wp2_with fail
  go_quiet (fail)
  go_wp2_with fail
  go_ret3
  exact ⟨by rw [HG.out, ← beq_cast]; rfl, Below.drewN hba _⟩

set_option maxHeartbeats 800000 in
set_option maxRecDepth 100000 in
theorem get_1 (Ab : Option Addr) (nb cb K N : Nat) (A : Option Addr) (n c : Nat) (l lb : List UInt8) (p : Int) (w : World) (hb : Rd w w.heap.size Ab nb lb) (hnb : nb ≤ 20000) (hcb : nb ≤ cb) (hN : N < 2 ^ 64) (ht : Rd w w.heap.size A n l) (hK : K % 4 = 1) :
    Calls Tryd.prog 26 #[.slice Ab nb cb, .int .i64 p, .agg #[.int .u8 (K : Int), .int .u64 (N : Int), .slice A n c]] w fun e w' => e = .returned (.tuple #[.int .i64 ((getT lb p ⟨K, N, A, n, c, l⟩).1 : Int), .int .i64 ((getT lb p ⟨K, N, A, n, c, l⟩).2.1 : Int), .bool (getT lb p ⟨K, N, A, n, c, l⟩).2.2]) ∧ Below w.heap.size w w' := by
  obtain ⟨wa, hwa⟩ : ∃ wa, w.alloc (.cells #[.int .u8 (K : Int), .int .u64 (N : Int), .slice A n c] 45) = wa := ⟨_, rfl⟩
  have hba : Below w.heap.size w wa := by rw [← hwa]; exact (Below.refl _ _).alloc (Nat.le_refl _) _
  have hbr := (hb.below hba).more hba.size
  have htr := (ht.below hba).more hba.size
  have g0 : wa.cell? ⟨w.heap.size, 0, none⟩ = some (.int .u8 (K : Int)) := by rw [← hwa]; simp
  have g1 : wa.cell? ⟨w.heap.size, 1, none⟩ = some (.int .u64 (N : Int)) := by rw [← hwa]; simp
  have g2 : wa.cell? ⟨w.heap.size, 2, none⟩ = some (.slice A n c) := by rw [← hwa]; simp
  have hNI : (N : Int) < 18446744073709551616 := by omega
  have HNI := Lib.hid hNI
  clear hNI
  have G0 := getint_any lb Ab nb cb _ p wa hbr (by omega) hcb
  have HG : Hid (getT lb p ⟨K, N, A, n, c, l⟩ = ((getI lb p).2.1, (getI lb p).2.2, (getI lb p).1 == s64 N)) := by
    show _ = _
    unfold getT
    simp only
    rw [if_neg (by omega), if_pos hK]
  unfold tupI at G0
  have k0 : ((K : Int) % 4 == 0) = false := by rw [beq_eq_false_iff_ne]; omega
  have k1 : ((K : Int) % 4 == 1) = true := by rw [beq_iff_eq]; omega
  have HS : Hid (wrap64 (N : Int) = s64 N) := by
    show wrap64 (N : Int) = s64 N
    rw [← IntWalk.i64_left, IntKind.wrap_i64]
    unfold s64
    split <;> omega
  generalize getI lb p = r at *
  obtain ⟨v, q, x⟩ := r
  simp only at G0 HG
  have HG0 := Lib.hid G0
  have HWA := Lib.hid hwa
  clear hb ht hbr htr hK G0
  go_enter Tryd.func26, Tryd.ntmps26
  go_wp2_with fail
  refine HG0.out.mono ?_
  rintro e w' ⟨rfl, rfl⟩
  go_wp2_with fail
  go_quiet (fail)
  go_wp2_with fail
  rw [HS.out]
  go_ret3
  exact ⟨by rw [HG.out]; rfl, Below.drewN hba _⟩

set_option maxHeartbeats 1600000 in
set_option maxRecDepth 100000 in
theorem get_2 (Ab : Option Addr) (nb cb K N : Nat) (A : Option Addr) (n c : Nat) (l lb : List UInt8) (p : Int) (w : World) (hb : Rd w w.heap.size Ab nb lb) (hnb : nb ≤ 20000) (hcb : nb ≤ cb) (hN : N < 2 ^ 64) (ht : Rd w w.heap.size A n l) (hn : n ≤ 1000) (hK : K % 4 = 2) :
    Calls Tryd.prog 26 #[.slice Ab nb cb, .int .i64 p, .agg #[.int .u8 (K : Int), .int .u64 (N : Int), .slice A n c]] w fun e w' => e = .returned (.tuple #[.int .i64 ((getT lb p ⟨K, N, A, n, c, l⟩).1 : Int), .int .i64 ((getT lb p ⟨K, N, A, n, c, l⟩).2.1 : Int), .bool (getT lb p ⟨K, N, A, n, c, l⟩).2.2]) ∧ Below w.heap.size w w' := by
  obtain ⟨wa, hwa⟩ : ∃ wa, w.alloc (.cells #[.int .u8 (K : Int), .int .u64 (N : Int), .slice A n c] 45) = wa := ⟨_, rfl⟩
  have hba : Below w.heap.size w wa := by rw [← hwa]; exact (Below.refl _ _).alloc (Nat.le_refl _) _
  have hbr := (hb.below hba).more hba.size
  have htr := (ht.below hba).more hba.size
  have g0 : wa.cell? ⟨w.heap.size, 0, none⟩ = some (.int .u8 (K : Int)) := by rw [← hwa]; simp
  have g1 : wa.cell? ⟨w.heap.size, 1, none⟩ = some (.int .u64 (N : Int)) := by rw [← hwa]; simp
  have g2 : wa.cell? ⟨w.heap.size, 2, none⟩ = some (.slice A n c) := by rw [← hwa]; simp
  have hNI : (N : Int) < 18446744073709551616 := by omega
  have HNI := Lib.hid hNI
  clear hNI
  have k0 : ((K : Int) % 4 == 0) = false := by rw [beq_eq_false_iff_ne]; omega
  have k1 : ((K : Int) % 4 == 1) = false := by rw [beq_eq_false_iff_ne]; omega
  have k2 : ((K : Int) % 4 == 2) = true := by rw [beq_iff_eq]; omega
  have HL := Lib.hid ht.len
  have G0 := gb2_any lb Ab nb cb p (n : Int) wa hbr (by omega) hcb (by omega)
  have HG : Hid (getT lb p ⟨K, N, A, n, c, l⟩ = ((getB lb p (n : Int)).2.1, (getB lb p (n : Int)).2.2, (getB lb p (n : Int)).1 == l)) := by
    show _ = _
    unfold getT
    simp only
    rw [if_neg (by omega), if_neg (by omega), if_pos hK]
  generalize getB lb p (n : Int) = r at *
  obtain ⟨u, q, x⟩ := r
  simp only at G0 HG
  have HG0 := Lib.hid G0
  have HWA := Lib.hid hwa
  have hlta : w.heap.size < wa.heap.size := by rw [← hwa]; simp
  have HTR := Lib.hid htr
  clear hb ht hbr htr hK G0
  go_enter Tryd.func26, Tryd.ntmps26
  go_wp2_with fail
  refine HG0.out.mono ?_
  rintro e w2 ⟨A2, n2, c2, rfl, d2, hc2, hb2⟩
  have hbw2 : Below w.heap.size w w2 := hba.trans (hb2.mono hba.size)
  have gu := (hb2.cell (p := ⟨w.heap.size, 2, none⟩) hlta).trans g2
  have hlt : (⟨w.heap.size, 2, none⟩ : Addr).block < w2.heap.size := by have := hb2.size; show w.heap.size < _; omega
  have dX := (HTR.out.below hb2).more hb2.size
  have dU := d2
  clear HG0 d2
  go_wp2_with fail
  obtain ⟨v0, HV0⟩ : ∃ u, Hid (w2.drew = u) := ⟨_, rfl⟩
  have hv0 : Below w2.heap.size w2 v0 := by rw [← HV0.out]; exact (Below.refl _ _).drew
  refine wp_region_held_drew (S := fun W => Below w2.heap.size w2 W) (by kernel_rfl) (by rw [HV0.out]; exact hv0) (fun hHeld => ?_)
  rw [HV0.out] at hHeld ⊢
  refine wpAnyH_take (i := 0) (oi := _) (v := .int .i64 (q : Int)) rfl (by kernel_rfl) (by kernel_rfl) (by kernel_rfl) (fun _ _ _ h => h) (Or.inl ⟨by rfl, fun W _ => by rfl⟩) hHeld ?_
  try simp only [Act.put, List.getElem_toArray, List.getElem_cons_zero, List.setIfInBounds_toArray, List.set_cons_zero, List.set_cons_succ]
  refine wpAnyH_take (i := 1) (oi := _) (v := .int .i64 (x : Int)) rfl (by kernel_rfl) (by kernel_rfl) (by kernel_rfl) (fun _ _ _ h => h) (Or.inl ⟨by rfl, fun W _ => by rfl⟩) hHeld ?_
  try simp only [Act.put, List.getElem_toArray, List.getElem_cons_zero, List.getElem_cons_succ, List.setIfInBounds_toArray, List.set_cons_zero, List.set_cons_succ]
  refine wpAnyH_take (i := 2) (oi := _) (v := .slice A2 n2 c2) rfl (by kernel_rfl) (by kernel_rfl) (by kernel_rfl) (fun _ _ _ h => h) (Or.inl ⟨by rfl, fun W _ => by rfl⟩) hHeld ?_
  try simp only [Act.put, List.getElem_toArray, List.getElem_cons_zero, List.getElem_cons_succ, List.setIfInBounds_toArray, List.set_cons_zero, List.set_cons_succ]
  refine wpAnyH_take (i := 3) (oi := _) (v := .string ⟨u.toArray⟩) rfl (by kernel_rfl) (by kernel_rfl) (by kernel_rfl) (fun _ _ _ h => h) (Or.inl ⟨by rfl, fun W hS => by have e := str_rule c2 (dU.below hS); go_simp⟩) hHeld ?_
  try simp only [Act.put, List.getElem_toArray, List.getElem_cons_zero, List.getElem_cons_succ, List.setIfInBounds_toArray, List.set_cons_zero, List.set_cons_succ]
  refine wpAnyH_take (i := 4) (oi := _) (v := .pointer (some ⟨w.heap.size, 2, none⟩)) rfl (by kernel_rfl) (by kernel_rfl) (by kernel_rfl) (fun _ _ _ h => h) (Or.inl ⟨by rfl, fun W _ => by go_simp⟩) hHeld ?_
  try simp only [Act.put, List.getElem_toArray, List.getElem_cons_zero, List.getElem_cons_succ, List.setIfInBounds_toArray, List.set_cons_zero, List.set_cons_succ]
  refine wpAnyH_take (i := 5) (oi := _) (v := .slice A n c) rfl (by kernel_rfl) (by kernel_rfl) (by kernel_rfl) (fun _ _ _ h => h) (Or.inl ⟨by rfl, fun W hS => by have e := (hS.cell (p := ⟨w.heap.size, 2, none⟩) hlt).trans gu; go_simp⟩) hHeld ?_
  try simp only [Act.put, List.getElem_toArray, List.getElem_cons_zero, List.getElem_cons_succ, List.setIfInBounds_toArray, List.set_cons_zero, List.set_cons_succ]
  refine wpAnyH_take (i := 6) (oi := _) (v := .string ⟨l.toArray⟩) rfl (by kernel_rfl) (by kernel_rfl) (by kernel_rfl) (fun _ _ _ h => h) (Or.inl ⟨by rfl, fun W hS => by have e := str_rule c (dX.below hS); go_simp⟩) hHeld ?_
  try simp only [Act.put, List.getElem_toArray, List.getElem_cons_zero, List.getElem_cons_succ, List.setIfInBounds_toArray, List.set_cons_zero, List.set_cons_succ]
  refine wpAnyH_take (i := 7) (oi := _) (v := .bool (u == l)) rfl (by kernel_rfl) (by kernel_rfl) (by kernel_rfl) (fun _ _ _ h => h) (Or.inl ⟨by rfl, fun W _ => by go_simp⟩) hHeld ?_
  try simp only [Act.put, List.getElem_toArray, List.getElem_cons_zero, List.getElem_cons_succ, List.setIfInBounds_toArray, List.set_cons_zero, List.set_cons_succ]
  refine wpAnyH_take (i := 8) (oi := _) (v := .int .i64 (q : Int)) rfl (by kernel_rfl) (by kernel_rfl) (by kernel_rfl) (fun _ _ _ h => h) (Or.inl ⟨by rfl, fun W _ => by rfl⟩) hHeld ?_
  try simp only [Act.put, List.getElem_toArray, List.getElem_cons_zero, List.getElem_cons_succ, List.setIfInBounds_toArray, List.set_cons_zero, List.set_cons_succ]
  refine wpAnyH_take (i := 9) (oi := _) (v := .int .i64 (x : Int)) rfl (by kernel_rfl) (by kernel_rfl) (by kernel_rfl) (fun _ _ _ h => h) (Or.inl ⟨by rfl, fun W _ => by rfl⟩) hHeld ?_
  try simp only [Act.put, List.getElem_toArray, List.getElem_cons_zero, List.getElem_cons_succ, List.setIfInBounds_toArray, List.set_cons_zero, List.set_cons_succ]
  refine wpAnyH_take (i := 10) (oi := _) (v := .bool (u == l)) rfl (by kernel_rfl) (by kernel_rfl) (by kernel_rfl) (fun _ _ _ h => h) (Or.inl ⟨by rfl, fun W _ => by rfl⟩) hHeld ?_
  try simp only [Act.put, List.getElem_toArray, List.getElem_cons_zero, List.getElem_cons_succ, List.setIfInBounds_toArray, List.set_cons_zero, List.set_cons_succ]
  refine wpAnyH_done (by kernel_rfl) ?_ _
  clear hHeld
  go_wp2_with fail
  go_ret3
  exact ⟨by rw [HG.out]; rfl, hbw2.trans (hv0.mono (by have := hbw2.size; omega))⟩

set_option maxHeartbeats 1600000 in
set_option maxRecDepth 100000 in
theorem get_3 (Ab : Option Addr) (nb cb K N : Nat) (A : Option Addr) (n c : Nat) (l lb : List UInt8) (p : Int) (w : World) (hb : Rd w w.heap.size Ab nb lb) (hnb : nb ≤ 20000) (hcb : nb ≤ cb) (hN : N < 2 ^ 64) (ht : Rd w w.heap.size A n l) (hn : n ≤ 1000) (hT : Tab w) (hK : K % 4 = 3) :
    Calls Tryd.prog 26 #[.slice Ab nb cb, .int .i64 p, .agg #[.int .u8 (K : Int), .int .u64 (N : Int), .slice A n c]] w fun e w' => e = .returned (.tuple #[.int .i64 ((getT lb p ⟨K, N, A, n, c, l⟩).1 : Int), .int .i64 ((getT lb p ⟨K, N, A, n, c, l⟩).2.1 : Int), .bool (getT lb p ⟨K, N, A, n, c, l⟩).2.2]) ∧ Below w.heap.size w w' := by
  obtain ⟨wa, hwa⟩ : ∃ wa, w.alloc (.cells #[.int .u8 (K : Int), .int .u64 (N : Int), .slice A n c] 45) = wa := ⟨_, rfl⟩
  have hba : Below w.heap.size w wa := by rw [← hwa]; exact (Below.refl _ _).alloc (Nat.le_refl _) _
  have hbr := (hb.below hba).more hba.size
  have htr := (ht.below hba).more hba.size
  have g0 : wa.cell? ⟨w.heap.size, 0, none⟩ = some (.int .u8 (K : Int)) := by rw [← hwa]; simp
  have g1 : wa.cell? ⟨w.heap.size, 1, none⟩ = some (.int .u64 (N : Int)) := by rw [← hwa]; simp
  have g2 : wa.cell? ⟨w.heap.size, 2, none⟩ = some (.slice A n c) := by rw [← hwa]; simp
  have hNI : (N : Int) < 18446744073709551616 := by omega
  have HNI := Lib.hid hNI
  clear hNI
  have k0 : ((K : Int) % 4 == 0) = false := by rw [beq_eq_false_iff_ne]; omega
  have k1 : ((K : Int) % 4 == 1) = false := by rw [beq_eq_false_iff_ne]; omega
  have k2 : ((K : Int) % 4 == 2) = false := by rw [beq_eq_false_iff_ne]; omega
  have HL := Lib.hid ht.len
  have G0 := gb2_any lb Ab nb cb p ((n : Int) + 4) wa hbr (by omega) hcb (by omega)
  have HTB := Lib.hid hT
  have HTP := Lib.hid hT.pos
  have HG : Hid (getT lb p ⟨K, N, A, n, c, l⟩ = if (getB lb p ((n : Int) + 4)).2.2 ≠ 0 then ((getB lb p ((n : Int) + 4)).2.1, (getB lb p ((n : Int) + 4)).2.2, false) else ((getB lb p ((n : Int) + 4)).2.1, (unS (getB lb p ((n : Int) + 4)).1).2, (unS (getB lb p ((n : Int) + 4)).1).1 == l)) := by
    show _ = _
    unfold getT
    simp only
    rw [if_neg (by omega), if_neg (by omega), if_neg (by omega)]
  have HBL : Hid ((getB lb p ((n : Int) + 4)).1.length ≤ 1004) := by
    show _ ≤ _
    have := getB_len lb p ((n : Int) + 4) (by omega)
    omega
  generalize getB lb p ((n : Int) + 4) = r at *
  obtain ⟨u, q, x⟩ := r
  clear hT
  simp only at G0 HG
  have HG0 := Lib.hid G0
  have HWA := Lib.hid hwa
  have hlta : w.heap.size < wa.heap.size := by rw [← hwa]; simp
  have HTR := Lib.hid htr
  clear hb ht hbr htr hK G0
  go_enter Tryd.func26, Tryd.ntmps26
  go_wp2_with fail
  refine HG0.out.mono ?_
  rintro e w2 ⟨A2, n2, c2, rfl, d2, hc2, hb2⟩
  have hbw2 : Below w.heap.size w w2 := hba.trans (hb2.mono hba.size)
  have gu := (hb2.cell (p := ⟨w.heap.size, 2, none⟩) hlta).trans g2
  have hlt : (⟨w.heap.size, 2, none⟩ : Addr).block < w2.heap.size := by have := hb2.size; show w.heap.size < _; omega
  have dX := (HTR.out.below hb2).more hb2.size
  by_cases hx : x = 0
  · subst hx
    have HG1 : Hid (getT lb p ⟨K, N, A, n, c, l⟩ = (q, (unS u).2, (unS u).1 == l)) := by show _ = _; rw [HG.out, if_neg (by simp)]
    have hn2 : n2 ≤ 2000 := by have h1 := d2.len; have h2 : u.length ≤ 1004 := HBL.out; have h3 : u.length = n2 := h1; omega
    have HUN := un_any u A2 n2 c2 w2 d2 (by omega) hc2 (HTB.out.keep hbw2 HTP.out)
    obtain ⟨uu, HUU⟩ : ∃ x, Unit → (unS u).1 = x := ⟨_, fun _ => rfl⟩
    obtain ⟨y, HYY⟩ : ∃ x, Unit → (unS u).2 = x := ⟨_, fun _ => rfl⟩
    have HG2 : Hid (getT lb p ⟨K, N, A, n, c, l⟩ = (q, y, uu == l)) := by show _ = _; rw [HG1.out, HUU (), HYY ()]
    clear HG HG0 HG1 HBL d2
    go_wp2_with fail
    refine HUN.mono ?_
    rintro e w3 ⟨A3, n3, c3, rfl, d3, hb3⟩
    rw [HYY ()]
    rw [HUU ()] at d3
    have hbw3 : Below w.heap.size w w3 := hbw2.trans (hb3.mono hbw2.size)
    have gu3 := (hb3.cell (p := ⟨w.heap.size, 2, none⟩) hlt).trans gu
    have dX3 := (dX.below hb3).more hb3.size
    have hlt3 : (⟨w.heap.size, 2, none⟩ : Addr).block < w3.heap.size := by have := hb3.size; show w.heap.size < _; omega
    clear HUN HUU HYY hb3 gu dX hlt
    go_wp2_with fail
    obtain ⟨v0, HV0⟩ : ∃ u, Hid (w3.drew = u) := ⟨_, rfl⟩
    have hv0 : Below w3.heap.size w3 v0 := by rw [← HV0.out]; exact (Below.refl _ _).drew
    refine wp_region_held_drew (S := fun W => Below w3.heap.size w3 W) (by kernel_rfl) (by rw [HV0.out]; exact hv0) (fun hHeld => ?_)
    rw [HV0.out] at hHeld ⊢
    refine wpAnyH_take (i := 0) (oi := _) (v := .int .i64 (q : Int)) rfl (by kernel_rfl) (by kernel_rfl) (by kernel_rfl) (fun _ _ _ h => h) (Or.inl ⟨by rfl, fun W _ => by rfl⟩) hHeld ?_
    try simp only [Act.put, List.getElem_toArray, List.getElem_cons_zero, List.setIfInBounds_toArray, List.set_cons_zero, List.set_cons_succ]
    refine wpAnyH_take (i := 1) (oi := _) (v := .int .i64 (y : Int)) rfl (by kernel_rfl) (by kernel_rfl) (by kernel_rfl) (fun _ _ _ h => h) (Or.inl ⟨by rfl, fun W _ => by rfl⟩) hHeld ?_
    try simp only [Act.put, List.getElem_toArray, List.getElem_cons_zero, List.getElem_cons_succ, List.setIfInBounds_toArray, List.set_cons_zero, List.set_cons_succ]
    refine wpAnyH_take (i := 2) (oi := _) (v := .slice A3 n3 c3) rfl (by kernel_rfl) (by kernel_rfl) (by kernel_rfl) (fun _ _ _ h => h) (Or.inl ⟨by rfl, fun W _ => by rfl⟩) hHeld ?_
    try simp only [Act.put, List.getElem_toArray, List.getElem_cons_zero, List.getElem_cons_succ, List.setIfInBounds_toArray, List.set_cons_zero, List.set_cons_succ]
    refine wpAnyH_take (i := 3) (oi := _) (v := .string ⟨uu.toArray⟩) rfl (by kernel_rfl) (by kernel_rfl) (by kernel_rfl) (fun _ _ _ h => h) (Or.inl ⟨by rfl, fun W hS => by have e := str_rule c3 (d3.below hS); go_simp⟩) hHeld ?_
    try simp only [Act.put, List.getElem_toArray, List.getElem_cons_zero, List.getElem_cons_succ, List.setIfInBounds_toArray, List.set_cons_zero, List.set_cons_succ]
    refine wpAnyH_take (i := 4) (oi := _) (v := .pointer (some ⟨w.heap.size, 2, none⟩)) rfl (by kernel_rfl) (by kernel_rfl) (by kernel_rfl) (fun _ _ _ h => h) (Or.inl ⟨by rfl, fun W _ => by go_simp⟩) hHeld ?_
    try simp only [Act.put, List.getElem_toArray, List.getElem_cons_zero, List.getElem_cons_succ, List.setIfInBounds_toArray, List.set_cons_zero, List.set_cons_succ]
    refine wpAnyH_take (i := 5) (oi := _) (v := .slice A n c) rfl (by kernel_rfl) (by kernel_rfl) (by kernel_rfl) (fun _ _ _ h => h) (Or.inl ⟨by rfl, fun W hS => by have e := (hS.cell (p := ⟨w.heap.size, 2, none⟩) hlt3).trans gu3; go_simp⟩) hHeld ?_
    try simp only [Act.put, List.getElem_toArray, List.getElem_cons_zero, List.getElem_cons_succ, List.setIfInBounds_toArray, List.set_cons_zero, List.set_cons_succ]
    refine wpAnyH_take (i := 6) (oi := _) (v := .string ⟨l.toArray⟩) rfl (by kernel_rfl) (by kernel_rfl) (by kernel_rfl) (fun _ _ _ h => h) (Or.inl ⟨by rfl, fun W hS => by have e := str_rule c (dX3.below hS); go_simp⟩) hHeld ?_
    try simp only [Act.put, List.getElem_toArray, List.getElem_cons_zero, List.getElem_cons_succ, List.setIfInBounds_toArray, List.set_cons_zero, List.set_cons_succ]
    refine wpAnyH_take (i := 7) (oi := _) (v := .bool (uu == l)) rfl (by kernel_rfl) (by kernel_rfl) (by kernel_rfl) (fun _ _ _ h => h) (Or.inl ⟨by rfl, fun W _ => by go_simp⟩) hHeld ?_
    try simp only [Act.put, List.getElem_toArray, List.getElem_cons_zero, List.getElem_cons_succ, List.setIfInBounds_toArray, List.set_cons_zero, List.set_cons_succ]
    refine wpAnyH_take (i := 8) (oi := _) (v := .int .i64 (q : Int)) rfl (by kernel_rfl) (by kernel_rfl) (by kernel_rfl) (fun _ _ _ h => h) (Or.inl ⟨by rfl, fun W _ => by rfl⟩) hHeld ?_
    try simp only [Act.put, List.getElem_toArray, List.getElem_cons_zero, List.getElem_cons_succ, List.setIfInBounds_toArray, List.set_cons_zero, List.set_cons_succ]
    refine wpAnyH_take (i := 9) (oi := _) (v := .int .i64 (y : Int)) rfl (by kernel_rfl) (by kernel_rfl) (by kernel_rfl) (fun _ _ _ h => h) (Or.inl ⟨by rfl, fun W _ => by rfl⟩) hHeld ?_
    try simp only [Act.put, List.getElem_toArray, List.getElem_cons_zero, List.getElem_cons_succ, List.setIfInBounds_toArray, List.set_cons_zero, List.set_cons_succ]
    refine wpAnyH_take (i := 10) (oi := _) (v := .bool (uu == l)) rfl (by kernel_rfl) (by kernel_rfl) (by kernel_rfl) (fun _ _ _ h => h) (Or.inl ⟨by rfl, fun W _ => by rfl⟩) hHeld ?_
    try simp only [Act.put, List.getElem_toArray, List.getElem_cons_zero, List.getElem_cons_succ, List.setIfInBounds_toArray, List.set_cons_zero, List.set_cons_succ]
    refine wpAnyH_done (by kernel_rfl) ?_ _
    clear hHeld
    go_wp2_with fail
    go_ret3
    exact ⟨by rw [HG2.out]; rfl, hbw3.trans (hv0.mono (by have := hbw3.size; omega))⟩
  · have HG1 : Hid (getT lb p ⟨K, N, A, n, c, l⟩ = (q, x, false)) := by show _ = _; rw [HG.out, if_pos hx]
    have hb : ((x : Int) != 0) = true := by rw [bne_iff_ne]; omega
    clear HG HG0
    go_wp2_with fail
    go_ret3
    exact ⟨by rw [HG1.out]; rfl, hbw2⟩

theorem get_any (Ab : Option Addr) (nb cb K N : Nat) (A : Option Addr) (n c : Nat) (l lb : List UInt8) (p : Int) (w : World) (hb : Rd w w.heap.size Ab nb lb) (hnb : nb ≤ 20000) (hcb : nb ≤ cb) (hN : N < 2 ^ 64) (ht : Rd w w.heap.size A n l) (hn : n ≤ 1000) (hT : Tab w) :
    Calls Tryd.prog 26 #[.slice Ab nb cb, .int .i64 p, .agg #[.int .u8 (K : Int), .int .u64 (N : Int), .slice A n c]] w fun e w' => e = .returned (.tuple #[.int .i64 ((getT lb p ⟨K, N, A, n, c, l⟩).1 : Int), .int .i64 ((getT lb p ⟨K, N, A, n, c, l⟩).2.1 : Int), .bool (getT lb p ⟨K, N, A, n, c, l⟩).2.2]) ∧ Below w.heap.size w w' := by
  rcases (by omega : K % 4 = 0 ∨ K % 4 = 1 ∨ K % 4 = 2 ∨ K % 4 = 3) with h | h | h | h
  · exact get_0 Ab nb cb K N A n c l lb p w hb hnb hcb hN ht h
  · exact get_1 Ab nb cb K N A n c l lb p w hb hnb hcb hN ht h
  · exact get_2 Ab nb cb K N A n c l lb p w hb hnb hcb hN ht hn h
  · exact get_3 Ab nb cb K N A n c l lb p w hb hnb hcb hN ht hn hT h
end Go.Proofs.YtbiglickijmmhaaDoor

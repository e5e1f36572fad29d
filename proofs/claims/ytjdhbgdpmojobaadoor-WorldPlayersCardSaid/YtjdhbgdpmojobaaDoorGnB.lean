/-
  The world at first: the closure that tells cells; one cell. No statement of the seat is proved here.
-/
import Derived.Test.YtjdhbgdpmojobaaDoorGnA
namespace Go.Proofs.YtjdhbgdpmojobaaDoor
open Go.RowKit Go.Deep

/-- What the closure holds: the seed, the height. -/
def Gcl (w : World) (G H : Nat) (s : W64) (h : Nat) : Prop := w.heap[G]? = some (.cells #[u64v s] 22 (0, 0)) ∧ w.heap[H]? = some (.cells #[.int .i64 (h : Int)] 3 (0, 0))
section
variable {w w' : World} {s : W64} {G H h : Nat}
theorem Gcl.no (hg : Gcl w G H s h) (hf : Fr No w w') : Gcl w' G H s h := ⟨blk_no hf hg.1, blk_no hf hg.2⟩
set_option maxRecDepth 100000 in
set_option maxHeartbeats 200000 in
theorem cellf_any (hg : Gcl w G H s h) (hh : 40 ≤ h ∧ h ≤ 71) (x y : Nat) (hx : x < 128) (hy : y < 128) : Calls Tryd.prog 83 #[.int .i64 (x : Int), .int .i64 (y : Int), .pointer (some ⟨G, 0, none⟩), .pointer (some ⟨H, 0, none⟩)] w
    fun e w' => e = .returned (.int .u8 (celN h (mixB s (BitVec.ofNat 64 (y * 128 + x))).toNat y : Int)) ∧ w' = w := by
  have c0 : w.cell? ⟨G, 0, none⟩ = some (u64v s) := (blk_cell hg.1 0).trans (by simp)
  have c1 : w.cell? ⟨H, 0, none⟩ = some (.int .i64 (h : Int)) := (blk_cell hg.2 0).trans (by simp)
  have w1 : IntKind.i64.wrap ((y : Int) * 128) = ((y * 128 : Nat) : Int) := by rw [IntWalk.i64_in _ (by omega)]; omega
  have w2 : IntKind.i64.wrap (((y * 128 : Nat) : Int) + (x : Int)) = ((y * 128 + x : Nat) : Int) := by rw [IntWalk.i64_in _ (by omega)]; omega
  have w3 : IntKind.u64.wrap ((y * 128 + x : Nat) : Int) = (((BitVec.ofNat 64 (y * 128 + x)).toNat : Nat) : Int) := by
    rw [BitVec.toNat_ofNat, IntWalk.u64_in _ (by omega)]
    omega
  obtain ⟨z, hz⟩ : ∃ z : Int, (h : Int) = z := ⟨_, rfl⟩
  rw [hz] at c1
  have w4 : IntKind.i64.wrap (z - 1) = z - 1 := IntWalk.i64_in _ (by omega)
  have w5 : IntKind.i64.wrap (z + 3) = z + 3 := IntWalk.i64_in _ (by omega)
  obtain ⟨p, hp⟩ : ∃ p : Int, ((y * 128 : Nat) : Int) = p := ⟨_, rfl⟩
  obtain ⟨q, hq⟩ : ∃ q : Int, ((y * 128 + x : Nat) : Int) = q := ⟨_, rfl⟩
  rw [hp] at w1 w2
  rw [hq] at w2 w3
  clear hp hq
  have HM := Lib.hid (fun W => mix_any s (BitVec.ofNat 64 (y * 128 + x)) W)
  clear hg
  generalize BitVec.ofNat 64 (y * 128 + x) = n at *
  have HGR := Lib.hid (fun W => growth_any (mixB s n) W)
  have hm := (mixB s n).isLt
  unfold celN
  unfold u64v at *
  obtain ⟨m, hmm⟩ : ∃ m, (mixB s n).toNat = m := ⟨_, rfl⟩
  rw [hmm] at hm HM HGR ⊢
  clear hmm
  have w6 : IntKind.u64.wrap ((m : Int).tmod 7) = ((m % 7 : Nat) : Int) := by
    rw [Int.tmod_eq_emod_of_nonneg (by omega), IntWalk.u64_in _ (by omega)]; omega
  obtain ⟨r7, hr7⟩ : ∃ r7 : Int, ((m % 7 : Nat) : Int) = r7 := ⟨_, rfl⟩
  rw [hr7] at w6
  by_cases h0 : y + 1 = h
  · have q0 : z - 1 = (y : Int) := by omega
    rw [if_pos h0]
    replace w4 := w4.trans q0
    clear q0 w5 hz h0
    go_enter Tryd.func83, Tryd.ntmps83
    go_wp2_with (go_at_call 82; refine (HM.out _).mono ?_; rintro e w1 ⟨rfl, rfl⟩)
    go_wp2_with (go_at_call 84; refine (HGR.out _).mono ?_; rintro e w1 ⟨rfl, rfl⟩)
    go_ret
    exact ⟨rfl, rfl⟩
  · have q0 : (y : Int) ≠ z - 1 := by omega
    rw [if_neg h0]
    by_cases h1 : y < h
    · have q1 : (y : Int) < z := by omega
      rw [if_pos h1]
      go_enter Tryd.func83, Tryd.ntmps83
      go_wp2_with (go_at_call 82; refine (HM.out _).mono ?_; rintro e w1 ⟨rfl, rfl⟩)
      go_ret
      exact ⟨rfl, rfl⟩
    · have q1 : ¬ (y : Int) < z := by omega
      rw [if_neg h1]
      by_cases h2 : y < h + 3
      · have q2 : (y : Int) < z + 3 := by omega
        rw [if_pos h2]
        go_enter Tryd.func83, Tryd.ntmps83
        go_wp2_with (go_at_call 82; refine (HM.out _).mono ?_; rintro e w1 ⟨rfl, rfl⟩)
        go_ret
        exact ⟨rfl, rfl⟩
      · have q2 : ¬ (y : Int) < z + 3 := by omega
        rw [if_neg h2]
        by_cases h3 : m % 7 = 0
        · rw [if_pos h3]
          obtain rfl : r7 = 0 := by omega
          clear hr7
          go_enter Tryd.func83, Tryd.ntmps83
          go_wp2_with (go_at_call 82; refine (HM.out _).mono ?_; rintro e w1 ⟨rfl, rfl⟩)
          go_ret
          exact ⟨rfl, rfl⟩
        · rw [if_neg h3]
          have q3 : r7 ≠ 0 := by omega
          clear hr7
          go_enter Tryd.func83, Tryd.ntmps83
          go_wp2_with (go_at_call 82; refine (HM.out _).mono ?_; rintro e w1 ⟨rfl, rfl⟩)
          go_ret
          exact ⟨rfl, rfl⟩
set_option maxRecDepth 100000 in
/-- The closure made. -/
theorem gcells_any (w : World) (s : W64) (X : Nat) (hX : X < 16) : Calls Tryd.prog 46 #[u64v s, .int .i64 (X : Int)] w
    fun e w' => e = .returned (.func (.func 83) #[] #[.pointer (some ⟨w.heap.size, 0, none⟩), .pointer (some ⟨w.heap.size + 1, 0, none⟩)]) ∧ Gcl w' w.heap.size (w.heap.size + 1) s (hgtN s X) ∧ Fr No w w' := by
  have w1 : IntKind.u64.wrap (X : Int) = (X : Int) := IntWalk.u64_in _ (by omega)
  have w2 : IntKind.u64.wrap (100000 + (X : Int)) = (((BitVec.ofNat 64 (100000 + X)).toNat : Nat) : Int) := by
    rw [BitVec.toNat_ofNat, IntWalk.u64_in _ (by omega)]
    omega
  have HM := Lib.hid (fun W => mix_any s (BitVec.ofNat 64 (100000 + X)) W)
  unfold hgtN
  generalize BitVec.ofNat 64 (100000 + X) = n at *
  have hm := (mixB s n).isLt
  unfold u64v at *
  obtain ⟨m, hmm⟩ : ∃ m, (mixB s n).toNat = m := ⟨_, rfl⟩
  rw [hmm] at hm HM ⊢
  clear hmm
  obtain ⟨hh, hhh⟩ : ∃ hh : Nat, 40 + m % 32 = hh := ⟨_, rfl⟩
  have he : (hh : Int) = 40 + (m : Int) % 32 := by omega
  rw [hhh]
  clear hhh
  have hb := heap_alloc_new w (.cells #[.int .u64 (s.toNat : Int)] 22)
  have f1 := Fr.alloc No w (.cells #[.int .u64 (s.toNat : Int)] 22)
  have c0 : (w.alloc (.cells #[.int .u64 (s.toNat : Int)] 22)).cell? ⟨w.heap.size, 0, none⟩ = some (.int .u64 (s.toNat : Int)) := (blk_cell hb 0).trans (by simp)
  have HZ := Lib.hid (World.size_alloc w (.cells #[.int .u64 (s.toNat : Int)] 22))
  go_enter Tryd.func46, Tryd.ntmps46
  go_upto_region 1 with fail
  obtain ⟨D, hD⟩ : ∃ D, w.heap.size = D := ⟨_, rfl⟩
  rw [hD] at hb c0 HZ ⊢
  generalize w.alloc (.cells #[.int .u64 (s.toNat : Int)] 22) = w1 at *
  have hb2 := heap_alloc_new w1 (.cells #[.int .i64 (40 + (m : Int) % 32)] 3)
  rw [HZ.out] at hb2
  have f2 := Fr.alloc No w1 (.cells #[.int .i64 (40 + (m : Int) % 32)] 3)
  have HE : Hid (w1.heap.size = D + 1) := HZ
  have HR := Lib.hid (show Gcl (w1.alloc (.cells #[.int .i64 (40 + (m : Int) % 32)] 3)) D (D + 1) s hh ∧ Fr No w (w1.alloc (.cells #[.int .i64 (40 + (m : Int) % 32)] 3)) from ⟨⟨blk_no f2 hb, by rw [he]; exact hb2⟩, f1.no_trans f2⟩)
  clear hb hb2 f1 f2
  go_wp2_with (go_at_call 82; refine (HM.out _).mono ?_; rintro e w1 ⟨rfl, rfl⟩)
  go_ret
  rw [HE.out, hD]
  exact ⟨rfl, HR.out.1, HR.out.2⟩
end
end Go.Proofs.YtjdhbgdpmojobaaDoor

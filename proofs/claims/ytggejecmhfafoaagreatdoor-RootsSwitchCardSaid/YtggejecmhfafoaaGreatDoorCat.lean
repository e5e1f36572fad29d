/-
  The contracts of slices.Grow of nothing and slices.Concat of lists of bytes: the lists' bytes, one behind the other, in memory of their own. No statement of the seat is proved here.
-/
import Derived.Test.YtggejecmhfafoaaGreatDoorApp
import Derived.Lib.AppendZerosOnto
namespace Go.Proofs.YtggejecmhfafoaaGreatDoor
open Go.RowKit

set_option maxRecDepth 100000 in
theorem grow_nil (n : Nat) (w : World) (hn : n ≤ 1000000) :
    Calls Tryz.prog 68 #[.slice none 0 0, .int .i64 (n : Int)] w (Put w.heap.size w []) := by
  obtain ⟨i0, hi, hz0, hz1, hz2⟩ := info_parts info_u8
  by_cases h0 : n = 0
  · subst h0
    go_enter Tryz.func68, Tryz.ntmps68
    go_wp2
    go_ret
    exact ⟨_, rfl, World.ownsRow_nil _ _ _ _, Below.refl _ _⟩
  · have hp : 0 < n := by omega
    have hrz : ∀ ty, (Builtin.append_ #[28, 3] ty #[.slice none 0 0, .int .i64 (n : Int)]).run Tryz.prog w =
        .ok (.slice (some ⟨w.heap.size, 0, none⟩) (0 + n) (grownCap w (0 + n) 0 5)) (w.drew.alloc (.cells (([] : List Value).toArray ++ Builtin.zeroCells (Value.int .u8 0).cells n ++ Builtin.zeroCells (Value.int .u8 0).cells (grownCap w (0 + n) 0 5 - (0 + n))) 5)) := fun ty =>
      Lib.run_append_grow_zeros w 28 3 ty 5 i0 (.int .u8 0) .i64 .i64 Tryz.underlying28 Tryz.underlying3 hi hz0 none 0 0 [] (by simp [Builtin.firstCells]) n hp (by omega) (by omega) (by omega) (by rw [hz2]; omega)
        (by rw [hz2]; exact growslice_fits (by omega) (by omega))
    have hge : n ≤ grownCap w n 0 5 := grownCap_ge w _ _ _
    have hmax : grownCap w n 0 5 ≤ maxLen := grownCap_le_maxLen w _ _ _ (by unfold maxLen; omega)
    simp only [Nat.zero_add] at hrz
    generalize grownCap w n 0 5 = G at *
    have hG : G ≤ 9223372036854775807 := by unfold maxLen at hmax; omega
    have hfin : (w.alloc (.cells (Builtin.zeroCells #[Value.int .u8 0] n ++ Builtin.zeroCells #[Value.int .u8 0] (G - n)) 5)).ownsRow w.heap.size 5 1 (.slice (some ⟨w.heap.size, 0, none⟩) 0 G) 0 [] :=
      World.ownsRow_made w _ G (Nat.le_refl _) hmax (by simp [size_zeroCells]; omega)
    have H := Lib.hid hfin
    clear hfin hmax
    go_enter Tryz.func68, Tryz.ntmps68
    go_wp2_with (at_builtin; refine Lib.wpList_append_run _ rfl _ _ _ _ rfl _ _ rfl rfl _ _ (hrz _) ?_)
    go_ret
    exact ⟨_, rfl, H.out, ((Below.refl _ _).alloc (Nat.le_refl _) _).drew⟩

/-- A part of a concatenation: a slice's address, length, capacity, and its bytes. -/
structure Part where
  A : Option Addr
  n : Nat
  c : Nat
  l : List UInt8
def Part.val (p : Part) : Value := .slice p.A p.n p.c
def cat (ps : List Part) : List UInt8 := (ps.map (·.l)).flatten
set_option maxRecDepth 100000 in
theorem cat_take (ps : List Part) (k : Nat) (h : k < ps.length) : cat (ps.take (k + 1)) = cat (ps.take k) ++ ps[k].l := by
  unfold cat
  rw [List.take_succ_eq_append_getElem h, List.map_append, List.flatten_append]
  congr 1
  simp
set_option maxRecDepth 100000 in
theorem cat_take_le (ps : List Part) (k : Nat) : (cat (ps.take k)).length ≤ (cat ps).length := by
  have : cat ps = cat (ps.take k) ++ cat (ps.drop k) := by
    unfold cat
    rw [← List.flatten_append, ← List.map_append, List.take_append_drop]
  rw [this, List.length_append]; omega

set_option maxHeartbeats 800000 in
set_option maxRecDepth 100000 in
theorem concat_any (ps : List Part) (b K C : Nat) (w : World) (hb : b < w.heap.size) (hK : ps.length = K) (hK0 : 0 < K) (hK9 : K ≤ 100) (htot : (cat ps).length ≤ 500000)
    (hcell : ∀ k (h : k < ps.length), w.cell? ⟨b, k, none⟩ = some (.slice ps[k].A ps[k].n ps[k].c))
    (hrd : ∀ k (h : k < ps.length), Rd w w.heap.size ps[k].A ps[k].n ps[k].l) :
    Calls Tryz.prog 58 #[.slice (some ⟨b, 0, none⟩) K C] w (Put w.heap.size w (cat ps)) := by
  subst hK
  have HC := Lib.hid hcell
  have HR := Lib.hid hrd
  clear hcell hrd
  go_enter Tryz.func58, Tryz.ntmps58
  go_wp2
  go_loop [3, 11] (fun s i => ∃ k : Nat, k ≤ ps.length ∧ i = .int .i64 (k : Int) ∧ s = .int .i64 ((cat (ps.take k)).length : Int)) (fun _ i => ps.length - (intOf i).toNat)
  case atStart => exact ⟨0, Nat.zero_le _, rfl, rfl⟩
  case round =>
    obtain ⟨k, hk, rfl, rfl⟩ := hrel
    have hle := cat_take_le ps k
    by_cases hlt : k < ps.length
    · have hc := HC.out k hlt
      have hl := (HR.out k hlt).len
      have HT := Lib.hid (cat_take ps k hlt)
      have hle2 := cat_take_le ps (k + 1)
      rw [HT.out, List.length_append, hl] at hle2
      have HL := Lib.hid hl
      clear hl
      generalize ps[k].A = pA at *
      generalize ps[k].n = pn at *
      generalize ps[k].c = pc at *
      go_wp2
      go_round
      case rel => exact ⟨k + 1, by omega, by go_num, by rw [HT.out, List.length_append, HL.out]; go_num⟩
      case measure => simp [intOf]; omega
    · have hke : k = ps.length := by omega
      subst hke
      go_wp2_with fail
      refine (grow_nil _ _ (by omega)).mono ?_
      rintro e w1 ⟨v, rfl, ho, hb1⟩
      have hz1 := hb1.size
      go_wp2
      go_loopw [6, 27] (fun u i wr => ∃ k : Nat, k ≤ ps.length ∧ i = .int .i64 (k : Int) ∧ wr.ownsRow w.heap.size 5 1 u (cat (ps.take k)).length (bvs (cat (ps.take k))) ∧ Below w.heap.size w wr) (fun _ i _ => ps.length - (intOf i).toNat)
      case atStart => exact ⟨0, Nat.zero_le _, rfl, ho, hb1⟩
      case round =>
        clear ho hb1 hz1 hle
        obtain ⟨k, hk, rfl, hown, hbr⟩ := hrel
        have hle := cat_take_le ps k
        have hzr := hbr.size
        by_cases hlt : k < ps.length
        · have hc := (hbr.cell (p := ⟨b, k, none⟩) hb).trans (HC.out k hlt)
          have HX := Lib.hid ((HR.out k hlt).below hbr)
          have hl := HX.out.len
          have HT := Lib.hid (cat_take ps k hlt)
          have hle2 := cat_take_le ps (k + 1)
          rw [HT.out, List.length_append, hl] at hle2
          clear hl
          generalize ps[k].A = pA at *
          generalize ps[k].n = pn at *
          generalize ps[k].c = pc at *
          go_wp2_with (at_builtin; refine wpList_append_rd _ rfl (.tmp 31) (.tmp 32) rfl w.heap.size w.heap.size _ _ rfl hown _ _ _ _ rfl HX.out (by omega) hzr ?_; intro v' w2 hown2 hgrow)
          have hb2 : Below w.heap.size w w2 := hbr.grown hgrow hzr (fun g hg => (hown.lt g hg).1)
          rw [← HT.out] at hown2
          go_roundw
          case rel => exact ⟨k + 1, by omega, by go_num, hown2, hb2⟩
          case measure => simp [intOf]; omega
        · have hke : k = ps.length := by omega
          subst hke
          go_wp2
          go_ret
          rw [List.take_length] at hown
          exact ⟨_, rfl, hown, hbr⟩

set_option maxRecDepth 100000 in
/-- Two lists, laid as the row of a variadic call. -/
theorem concat_two (A1 A2 : Option Addr) (n1 c1 n2 c2 : Nat) (l1 l2 : List UInt8) (w : World) (h1 : Rd w w.heap.size A1 n1 l1) (h2 : Rd w w.heap.size A2 n2 l2) (hn1 : n1 ≤ 100000) (hn2 : n2 ≤ 100000) :
    Calls Tryz.prog 58 #[.slice (some ⟨w.heap.size, 0, none⟩) 2 2] (w.alloc (.cells #[.slice A1 n1 c1, .slice A2 n2 c2] 28)) (Put w.heap.size w (l1 ++ l2)) := by
  have e1 := h1.len
  have e2 := h2.len
  refine (concat_any [⟨A1, n1, c1, l1⟩, ⟨A2, n2, c2, l2⟩] w.heap.size 2 2 (w.alloc (.cells #[.slice A1 n1 c1, .slice A2 n2 c2] 28)) (by simp) rfl (by omega) (by omega) (by simp [cat]; omega) ?_ ?_).mono ?_
  · intro k hk
    match k, hk with
    | 0, _ => simp
    | 1, _ => simp
  · intro k hk
    match k, hk with
    | 0, _ => exact (h1.alloc (Nat.le_refl _) _).more (by simp)
    | 1, _ => exact (h2.alloc (Nat.le_refl _) _).more (by simp)
  rintro e w2 ⟨u, rfl, ho2, hb2⟩
  refine ⟨u, rfl, ?_, ((Below.refl _ _).alloc (Nat.le_refl _) _).trans (hb2.mono (by simp))⟩
  have := own_mono (B := w.heap.size) ho2 (by simp)
  simpa [cat] using this
end Go.Proofs.YtggejecmhfafoaaGreatDoor

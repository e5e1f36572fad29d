/-
  Any number as one of the first so many; a net with datagrams that came in. No statement of the seat is proved here.
-/
import Derived.Test.YtndanonhkjgmhaaNtG
import Derived.StillTailTactics
namespace Go.Proofs.Ytndanonhkjgmhaa
open Go.RowKit

/-- Any number as one of 0 to n - 1. -/
def pick (x : Int) (n : Nat) : Nat := (x % (n : Int)).toNat
theorem pick_lt (x : Int) {n : Nat} (h : 0 < n) : pick x n < n := by
  unfold pick
  have := Int.emod_nonneg x (show (n : Int) ≠ 0 by omega)
  have := Int.emod_lt_of_pos x (show (0 : Int) < n by omega)
  omega
theorem pick_cases (x : Int) {n : Nat} (h : 0 < n) : (x.tmod (n : Int) < 0 ∧ (n : Int) + x.tmod (n : Int) = (pick x n : Int)) ∨ (0 ≤ x.tmod (n : Int) ∧ x.tmod (n : Int) = (pick x n : Int)) := by
  have h1 := Int.emod_nonneg x (show (n : Int) ≠ 0 by omega)
  have h2 := Int.emod_lt_of_pos x (show (0 : Int) < n by omega)
  have h3 := Int.tmod_eq_emod (a := x) (b := (n : Int))
  unfold pick
  rw [h3]
  split <;> omega
set_option maxRecDepth 100000 in
theorem pick_any (w : World) (x : Int) (n : Nat) (h : 0 < n) (hn : n ≤ 5000) :
    Calls Try.prog 30 #[.int .i64 x, .int .i64 (n : Int)] w fun e w' => e = .returned (.int .i64 (pick x n : Int)) ∧ w = w' := by
  have hc := pick_cases x h
  have hl := pick_lt x h
  have hz : ¬ ((n : Int) ≤ 0) := by omega
  have hz2 : (n : Int) ≠ 0 := by omega
  rcases hc with ⟨hc1, hc2⟩ | ⟨hc1, hc2⟩
  · have hw : IntKind.i64.wrap (x.tmod (n : Int)) = x.tmod (n : Int) := IntWalk.i64_in _ (by omega)
    have hw2 : wrap64 ((n : Int) + x.tmod (n : Int)) = (pick x n : Int) := by
      rw [hc2]
      exact IntWalk.wrap64_in (pick x n : Int) (by omega)
    clear hc2 hl h
    go_enter Try.func30, Try.ntmps30
    go_wp2_with fail
    go_ret
    exact ⟨rfl, rfl⟩
  · have hw : IntKind.i64.wrap (x.tmod (n : Int)) = (pick x n : Int) := by
      rw [hc2]
      exact IntWalk.i64_in _ (by omega)
    have hc3 : ¬ (x.tmod (n : Int) < 0) := by omega
    rw [hc2] at hc3
    go_enter Try.func30, Try.ntmps30
    go_wp2_with fail
    go_ret
    exact ⟨rfl, rfl⟩
theorem pick_still (w : World) (x : Int) (n : Nat) (h : 0 < n) (hn : n ≤ 5000) :
    Calls Try.prog 30 #[.int .i64 x, .int .i64 (n : Int)] w fun e w' => e = .returned (.int .i64 (pick x n : Int)) ∧ w' = w :=
  (pick_any w x n h hn).mono fun _ _ ⟨a, b⟩ => ⟨a, b.symm⟩
theorem GrAt.below {W W' : World} {b o : Nat} {x : Gr} (h : GrAt W ⟨b, o, none⟩ x) (hb : b < W.heap.size) (hf : Below W.heap.size W W') : GrAt W' ⟨b, o, none⟩ x := by
  obtain ⟨h0, h1, h2, h3, h4⟩ := h
  have hc : ∀ k, W'.cell? ((⟨b, o, none⟩ : Addr).add k) = W.cell? ((⟨b, o, none⟩ : Addr).add k) := fun k => by
    rw [Addr.add_lit]
    exact World.cell?_of_block (a := ⟨b, o + k, none⟩) (hf.block b hb)
  exact ⟨(World.cell?_of_block (a := ⟨b, o, none⟩) (hf.block b hb)).trans h0, (hc 1).trans h1, (hc 2).trans h2, h3, (h4.below hf).more hf.size⟩
theorem grams_below {W W' : World} {A : Option Addr} {n : Nat} {xs : List Gr} (h : RowOf W 3 (GrAt W) A n xs) (hf : Below W.heap.size W W') : RowOf W' 3 (GrAt W') A n xs := by
  refine ⟨h.1, fun hn => ?_⟩
  obtain ⟨b, o, e, hb, hc⟩ := h.2 hn
  exact ⟨b, o, e, Nat.lt_of_lt_of_le hb hf.size, fun j hj => (hc j hj).below hb hf⟩
/-- What is laid of one that came in, and of many. -/
def layG (x : Gr) : Gm := ⟨(pick x.fr 3 : Int), (pick x.to 3 : Int), ⟨x.l.toArray⟩⟩
def lay (xs : List Gr) : List Gm := (xs.filter fun x => decide (x.n ≤ 40)).map layG
theorem lay_len (xs : List Gr) : (lay xs).length ≤ xs.length := by
  unfold lay
  rw [List.length_map]
  exact List.length_filter_le _ _
theorem lay_snoc (xs : List Gr) (i : Nat) (x : Gr) (h : xs[i]? = some x) : lay (xs.take (i + 1)) = lay (xs.take i) ++ (if x.n ≤ 40 then [layG x] else []) := by
  unfold lay
  rw [List.take_add_one, h, List.filter_append, List.map_append]
  congr 1
  simp only [Option.toList, List.filter_cons, List.filter_nil]
  split <;> split <;> simp_all
theorem isn3 (x : Int) : isN 3 (pick x 3 : Int) = true := by
  have := pick_lt x (n := 3) (by omega)
  unfold isN
  rw [Bool.and_eq_true, decide_eq_true_iff, decide_eq_true_iff]
  omega
set_option maxRecDepth 100000 in
theorem laid_any {w : World} {A : Option Addr} {n : Nat} {xs : List Gr} (c : Nat) (hx : RowOf w 3 (GrAt w) A n xs) :
    Calls Try.prog 31 #[.slice A n c] w fun e w' => e = .returned (.tuple #[.pointer (some ⟨w.heap.size, 0, none⟩), .bool true]) ∧ ∃ w1, Fr No w w1 ∧ Nq w1 (.slice none 0 0) w.heap.size 3 (lay (xs.take 30)) w' := by
  have HX := Lib.hid hx
  have HXL := Lib.hid hx.1
  clear hx
  go_enter Try.func31, Try.ntmps31
  go_wp2_with fail
  refine (nq_new 3 w (by decide) (by decide)).mono ?_
  rintro e w1 ⟨rfl, hq, hf⟩
  have HF1 := Lib.hid hf
  have HQ1 := Lib.hid hq
  clear hq hf
  go_wp2_with fail
  go_loopw [5, 6] (fun v5 v6 wr => ∃ i : Nat, i ≤ n ∧ i ≤ 30 ∧ v5 = .int .i64 0 ∧ v6 = .int .i64 (i : Int) ∧ Nq w1 (.slice none 0 0) w.heap.size 3 (lay (xs.take i)) wr) (fun _ v6 _ => n - (intOf v6).toNat)
  case atStart => exact ⟨0, by omega, by omega, rfl, rfl, HQ1.out⟩
  case round =>
    obtain ⟨i, hi, hi30, rfl, rfl, hN⟩ := hrel
    have HN := Lib.hid hN
    clear hN
    by_cases hlt : i < n
    · have hin : (i : Int) < (n : Int) := by omega
      by_cases h30 : i < 30
      · have hin30 : (i : Int) < 30 := by omega
        have hbel : Below w.heap.size w wr := HF1.out.noBelow.trans (HN.out.below HF1.out.size (fun k hk => by rw [foot_nil hk]; exact Nat.le_refl _))
        have hxi : i < xs.length := by rw [HXL.out]; exact hlt
        have HS := Lib.hid (lay_snoc xs i xs[i] (List.getElem?_eq_getElem hxi))
        obtain ⟨b, o, rfl, hb, hcx⟩ := (grams_below HX.out hbel).2 (by omega)
        have hgx := hcx i hxi
        clear hcx hbel
        generalize xs[i] = x at *
        have HLEN : Hid ((lay (xs.take i)).length < 4096) := by
          show _ < _
          have := lay_len (xs.take i)
          rw [List.length_take] at this
          omega
        obtain ⟨q0, q1, q2⟩ := hgx.at_
        have q0' : wr.drew.cell? ⟨b, o + i * 3, none⟩ = some (.int .i64 x.fr) := q0
        have q1' : wr.drew.cell? ⟨b, o + i * 3 + 1, none⟩ = some (.int .i64 x.to) := q1
        have q2' : wr.drew.cell? ⟨b, o + i * 3 + 2, none⟩ = some (.slice x.A x.n x.c) := q2
        have HRD := Lib.hid (show Rd wr.drew wr.drew.heap.size x.A x.n x.l from hgx.2.2.2.2)
        have hi0 : (0 : Int) ≤ (i : Int) := by omega
        have hwi : IntKind.i64.wrap ((i : Int) + 1) = ((i + 1 : Nat) : Int) := by
          rw [show ((i : Int) + 1) = ((i + 1 : Nat) : Int) by omega]
          exact IntWalk.i64_in _ (by omega)
        clear hgx
        by_cases h40 : x.n ≤ 40
        · have h40i : (x.n : Int) ≤ 40 := by omega
          have HS2 : Hid (lay (xs.take (i + 1)) = lay (xs.take i) ++ [layG x]) := by
            show _ = _
            rw [HS.out, if_pos h40]
          go_wp2_with fail
          go_still_tail 18, (by kernel_rfl)
          still_call (pick_still _ x.fr 3 (by omega) (by omega))
          repeat still_step
          still_call (pick_still _ x.to 3 (by omega) (by omega))
          repeat still_step
          refine wpStill_nil ?_
          change wpList _ _ _ _ _ wr.drew
          go_wp2_with fail
          refine (nq_send (HN.out.no (Fr.drew No wr)) HLEN.out (pick x.fr 3) (pick x.to 3) (isn3 _) (isn3 _) x.A x.n x.c (by omega) x.l HRD.out).mono ?_
          rintro e w2 ⟨rfl, hq⟩
          have HQ := Lib.hid hq
          clear hq
          go_wp2_with fail
          go_roundw
          case rel => exact ⟨i + 1, by omega, by omega, rfl, by go_num, by rw [HS2.out]; exact HQ.out⟩
          case measure => simp [intOf]; omega
        · have h40i : ¬ ((x.n : Int) ≤ 40) := by omega
          have HS2 : Hid (lay (xs.take (i + 1)) = lay (xs.take i)) := by
            show _ = _
            rw [HS.out, if_neg h40, List.append_nil]
          go_wp2_with fail
          go_roundw
          case rel => exact ⟨i + 1, by omega, by omega, rfl, by go_num, by rw [HS2.out]; exact HN.out⟩
          case measure => simp [intOf]; omega
      · have hi3 : i = 30 := by omega
        have hin30 : ¬ ((i : Int) < 30) := by omega
        go_wp2_with fail
        go_ret2
        exact ⟨rfl, w1, HF1.out, by have := HN.out; rw [hi3] at this; exact this⟩
    · have hiq : i = n := by omega
      have hin : ¬ ((i : Int) < (n : Int)) := by omega
      go_wp2_with fail
      go_ret2
      refine ⟨rfl, w1, HF1.out, ?_⟩
      have := HN.out
      rw [List.take_of_length_le (by rw [HXL.out]; omega)] at this
      rw [List.take_of_length_le (by rw [HXL.out]; omega)]
      exact this
/-! ### a net's refusals, by what it is since an anchor -/
section
variable {wk w : World} {vk : Value} {P : Nat} {n : Int} {l : List Gm}
theorem nq_send_arg (h : Nq wk vk P n l w) (fr to : Int) (hn : (isN n fr && isN n to) = false) (A : Option Addr) (m c : Nat) :
    Calls Try.prog 12 #[.pointer (some ⟨P, 0, none⟩), .int .i64 fr, .int .i64 to, .slice A m c] w fun e w' => e = .returned (.int .i64 2) ∧ w = w' := by
  obtain ⟨v, hn', _⟩ := h
  exact send_arg hn' fr to hn A m c
theorem nq_send_long (h : Nq wk vk P n l w) (fr to : Int) (hx : isN n fr = true) (hy : isN n to = true) (A : Option Addr) (m c : Nat) (hm : 1048576 < m) :
    Calls Try.prog 12 #[.pointer (some ⟨P, 0, none⟩), .int .i64 fr, .int .i64 to, .slice A m c] w fun e w' => e = .returned (.int .i64 3) ∧ w = w' := by
  obtain ⟨v, hn', _⟩ := h
  exact send_long hn' fr to hx hy A m c hm
theorem nq_send_full (h : Nq wk vk P n l w) (hl : l.length = 4096) (fr to : Int) (hx : isN n fr = true) (hy : isN n to = true) (A : Option Addr) (m c : Nat) (hm : m ≤ 1048576) (bs : List UInt8) (hr : Rd w w.heap.size A m bs) :
    Calls Try.prog 12 #[.pointer (some ⟨P, 0, none⟩), .int .i64 fr, .int .i64 to, .slice A m c] w fun e w' => e = .returned (.int .i64 5) ∧ Fr No w w' := by
  obtain ⟨v, hn', _⟩ := h
  exact send_full hn' hl fr to hx hy A m c hm bs hr
theorem nq_copy_full (h : Nq wk vk P n l w) (hl : l.length = 4096) {i : Int} {g : Gm} (hg : look l i = some g) :
    Calls Try.prog 15 #[.pointer (some ⟨P, 0, none⟩), .int .i64 i] w fun e w' => e = .returned (.int .i64 5) ∧ Fr No w w' := by
  obtain ⟨v, hn', _⟩ := h
  exact copy_full hn' hl hg
end
end Go.Proofs.Ytndanonhkjgmhaa

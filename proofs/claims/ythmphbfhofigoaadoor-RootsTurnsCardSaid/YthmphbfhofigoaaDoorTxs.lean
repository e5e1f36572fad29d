/-
  Texts held against one another. No statement of the seat is proved here.
-/
import Derived.Test.YthmphbfhofigoaaDoorDkU
import Derived.Deep.RegionHeld3
import Derived.BigQuiet
namespace Go.Proofs.YthmphbfhofigoaaDoor
open Go.RowKit Go.Maps

def svs (l : List (List UInt8)) : List Value := l.map Proofs.encStr
theorem svs_length (l : List (List UInt8)) : (svs l).length = l.length := by simp [svs]
set_option maxRecDepth 100000 in
theorem svs_at {l : List (List UInt8)} {j : Nat} {x : List UInt8} (h : l[j]? = some x) : (svs l)[j]? = some (.string ⟨x.toArray⟩) := by
  unfold svs
  rw [List.getElem?_map, h]
  rfl
theorem Fr.drewN (F : Nat → Prop) (w : World) (n : Nat) : Fr F w (w.drewN n) := ⟨rfl, rfl, rfl, Nat.le_refl _, fun _ _ _ => rfl⟩
set_option maxHeartbeats 4000000 in
set_option maxRecDepth 100000 in
theorem texts_any {w : World} {B1 B2 n m : Nat} {v1 v2 : Value} {xs ys : List (List UInt8)} (h1 : w.ownsRow B1 9 1 v1 n (svs xs)) (h2 : w.ownsRow B2 9 1 v2 m (svs ys)) (hn : n ≤ 1000) (hm : m ≤ 1000) :
    Calls Tryd.prog 18 #[v1, v2] w fun e w' => e = .returned (.bool (decide (xs = ys))) ∧ Fr No w w' := by
  have hx : xs.length = n := by have := h1.1; rw [svs_length] at this; omega
  have hy : ys.length = m := by have := h2.1; rw [svs_length] at this; omega
  obtain ⟨A1, c1, rfl⟩ : ∃ A c, v1 = .slice A n c := by
    rcases h1.2 with ⟨rfl, e⟩ | ⟨g, cap, cur, rfl, _⟩
    · exact ⟨none, 0, by rw [e]⟩
    · exact ⟨_, _, rfl⟩
  obtain ⟨A2, c2, rfl⟩ : ∃ A c, v2 = .slice A m c := by
    rcases h2.2 with ⟨rfl, e⟩ | ⟨g, cap, cur, rfl, _⟩
    · exact ⟨none, 0, by rw [e]⟩
    · exact ⟨_, _, rfl⟩
  have H1 := Lib.hid h1
  have H2 := Lib.hid h2
  have HX := Lib.hid (And.intro hx hy)
  clear h1 h2 hx hy
  by_cases hnm : n = m
  · subst hnm
    go_enter Tryd.func18, Tryd.ntmps18
    go_wp2_with fail
    go_loopw [5, 6] (fun vs vi wr => ∃ (i : Nat) (b : Bool), i ≤ n ∧ vs = .bool b ∧ vi = .int .i64 (i : Int) ∧ Fr No w wr ∧ (b = true → xs.take i = ys.take i) ∧ (b = false → xs ≠ ys)) (fun vs vi _ => n - (intOf vi).toNat)
    case atStart => exact ⟨0, true, Nat.zero_le _, rfl, rfl, Fr.refl _ _, fun _ => rfl, fun h => by cases h⟩
    case round =>
      obtain ⟨i, b, hi, rfl, rfl, hf, ht, hne⟩ := hrel
      have HF := Lib.hid hf
      clear hf
      cases b with
      | false =>
        have HQ : Hid (decide (xs = ys) = false) := by show _ = _; rw [decide_eq_false_iff_not]; exact hne rfl
        clear ht hne
        go_wp2_with fail
        go_ret
        exact ⟨by rw [HQ.out]; rfl, HF.out⟩
      | true =>
        by_cases hil : i < n
        · obtain ⟨x, hxi⟩ : ∃ x, xs[i]? = some x := ⟨_, List.getElem?_eq_getElem (by rw [HX.out.1]; exact hil)⟩
          obtain ⟨y, hyi⟩ : ∃ y, ys[i]? = some y := ⟨_, List.getElem?_eq_getElem (by rw [HX.out.2]; exact hil)⟩
          obtain ⟨G, rfl⟩ : ∃ G, A1 = some ⟨G, 0, none⟩ := by
            rcases H1.out.2 with ⟨e, e0⟩ | ⟨G, cap, cur, e, _⟩
            · omega
            · injection e with e; exact ⟨G, e⟩
          obtain ⟨G2, rfl⟩ : ∃ G, A2 = some ⟨G, 0, none⟩ := by
            rcases H2.out.2 with ⟨e, e0⟩ | ⟨G, cap, cur, e, _⟩
            · omega
            · injection e with e; exact ⟨G, e⟩
          have hg1 := H1.out.cells (g := G) rfl i (.string ⟨x.toArray⟩) (svs_at hxi)
          have hg2 := H2.out.cells (g := G2) rfl i (.string ⟨y.toArray⟩) (svs_at hyi)
          rw [Addr.add_lit, Nat.zero_add] at hg1 hg2
          have hw1 := HF.out.cell hg1 (fun e => e)
          have hw2 := HF.out.cell hg2 (fun e => e)
          have hwk : IntKind.i64.wrap ((i : Int) + 1) = ((i + 1 : Nat) : Int) := by
            rw [show ((i : Int) + 1) = ((i + 1 : Nat) : Int) by omega]
            exact IntWalk.i64_in _ (by omega)
          clear hg1 hg2
          go_wp2_with fail
          go_quiet (fail)
          have HF2 := Lib.hid (HF.out.no_trans (Fr.drewN No wr nq))
          have htx : xs.take (i + 1) = xs.take i ++ [x] := by rw [List.take_add_one, hxi]; simp
          have hty : ys.take (i + 1) = ys.take i ++ [y] := by rw [List.take_add_one, hyi]; simp
          have HR := Lib.hid (show ((x == y) = true → xs.take (i + 1) = ys.take (i + 1)) ∧ ((x == y) = false → xs ≠ ys) by
            refine ⟨fun h => ?_, fun h => ?_⟩
            · rw [htx, hty, ht (by simp), eq_of_beq h]
            · intro e
              subst e
              rw [hxi] at hyi
              cases hyi
              simp at h)
          clear ht hne htx hty
          go_wp2_with fail
          go_roundw
          case rel => exact ⟨i + 1, x == y, by omega, by first | rfl | go_num, by go_num, HF2.out, HR.out.1, HR.out.2⟩
          case measure => simp [intOf]; omega
        · have hie : i = n := by omega
          subst hie
          have HQ : Hid (decide (xs = ys) = true) := by
            show _ = _
            rw [decide_eq_true_eq]
            have := ht rfl
            rw [List.take_of_length_le (by have := HX.out.1; omega), List.take_of_length_le (by have := HX.out.2; omega)] at this
            exact this
          clear ht hne
          go_wp2_with fail
          go_ret
          exact ⟨by rw [HQ.out]; rfl, HF.out⟩
  · have hd : ((n : Int) == (m : Int)) = false := by rw [beq_eq_false_iff_ne]; omega
    have HQ : Hid (decide (xs = ys) = false) := by
      show _ = _
      rw [decide_eq_false_iff_not]
      intro e
      have h1 := HX.out.1
      have h2 := HX.out.2
      rw [e] at h1
      omega
    go_enter Tryd.func18, Tryd.ntmps18
    go_wp2_with fail
    go_loopw [5, 6] (fun vs vi wr => vs = .bool false ∧ vi = .int .i64 0 ∧ wr = w) (fun vs vi _ => 0)
    case atStart => exact ⟨by first | rfl | rw [hd], rfl, rfl⟩
    case round =>
      obtain ⟨rfl, rfl, rfl⟩ := hrel
      go_wp2_with fail
      go_ret
      exact ⟨by rw [HQ.out]; rfl, Fr.refl _ _⟩
end Go.Proofs.YthmphbfhofigoaaDoor

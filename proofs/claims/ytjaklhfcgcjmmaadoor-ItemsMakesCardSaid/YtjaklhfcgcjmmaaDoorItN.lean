/-
  The walk of ItemsHold. No statement of the seat is proved here.
-/
import Derived.Test.YtjaklhfcgcjmmaaDoorItG
import Derived.Test.YtjaklhfcgcjmmaaDoorItH
import Derived.Test.YtjaklhfcgcjmmaaDoorItM
import Derived.Deep.CutBlock
namespace Go.Proofs.YtjaklhfcgcjmmaaDoor
open Go.RowKit Go.Deep Go.Maps

/-- What Recipe answers, of whatever number, and what is to be known of it. -/
def Rcp (n : Int) (l : List (Nat × Int)) (q0 : Nat) (q1 : Int) (ok : Bool) : Prop :=
  l.length ≤ 2 ∧ (∀ j (h : j < l.length), 1 ≤ l[j].2 ∧ l[j].2 ≤ stI l[j].1 ∧ l[j].1 < 256 ∧ ∀ i (_ : i < j), (l[i]'(by omega)).1 ≠ l[j].1) ∧ (ok = true → l.length ≠ 0 ∧ 1 ≤ q1 ∧ q1 ≤ stI q0) ∧ q0 < 256 ∧ ok = decide (0 ≤ n ∧ n < 7) ∧
  ∀ W, Calls Tryd.prog 8 #[.int .i64 n] W fun e w' => ∃ A, e = .returned (.tuple #[.slice A l.length l.length, .agg #[.int .u8 (q0 : Int), .int .i64 q1], .bool ok]) ∧
    OwC W.heap.size w' A l.length ∧ RdS w' A l.length l ∧ Fr No W w' ∧ (∀ i, Bk A i → W.heap.size ≤ i ∧ i < w'.heap.size)
theorem of_ok : ∀ k : Fin 7, (ofR k.val).length ≤ 2 ∧ (∀ j : Fin 2, ∀ h : j.val < (ofR k.val).length, 1 ≤ ((ofR k.val)[j.val]).2 ∧ ((ofR k.val)[j.val]).2 ≤ stI ((ofR k.val)[j.val]).1 ∧ ((ofR k.val)[j.val]).1 < 256 ∧ ∀ i : Fin 2, ∀ hi : i.val < j.val, ((ofR k.val)[i.val]'(by omega)).1 ≠ ((ofR k.val)[j.val]).1) ∧ (ofR k.val).length ≠ 0 ∧ 1 ≤ (mkR k.val).2 ∧ (mkR k.val).2 ≤ stI (mkR k.val).1 ∧ (mkR k.val).1 < 256 := by decide
set_option maxRecDepth 100000 in
theorem recipe_v (n : Int) : ∃ (l : List (Nat × Int)) (q0 : Nat) (q1 : Int) (ok : Bool), Rcp n l q0 q1 ok := by
  rcases (show (n < 0 ∨ 7 ≤ n) ∨ (0 ≤ n ∧ n < 7) by omega) with h | ⟨h0, h7⟩
  · refine ⟨[], 0, 0, false, by decide, fun j hj => absurd hj (by simp), (fun h => by cases h), by decide, (by rw [decide_eq_false (by omega)]), fun W => (recipe_no h).mono ?_⟩
    rintro e w1 ⟨rfl, hf⟩
    exact ⟨none, rfl, fun h => absurd h (by decide), RdS.nil _ _, hf, fun i ⟨b, e, _⟩ => by cases e⟩
  · obtain ⟨k, rfl⟩ := Int.eq_ofNat_of_zero_le h0
    have hk : k < 7 := by omega
    obtain ⟨h1, h2, h3, h4, h5, h6⟩ := of_ok ⟨k, hk⟩
    dsimp only at h1 h2 h3 h4 h5 h6
    refine ⟨ofR k, (mkR k).1, (mkR k).2, true, h1, fun j hj => ?_, fun _ => ⟨h3, h4, h5⟩, h6, (by rw [decide_eq_true ⟨h0, h7⟩]), fun W => (recipe_yes hk).mono ?_⟩
    · obtain ⟨a, b, c, d⟩ := h2 ⟨j, by omega⟩ hj
      exact ⟨a, b, c, fun i hi => d ⟨i, by omega⟩ hi⟩
    · rintro e w1 ⟨b, rfl, hlo, hb, hf⟩
      exact ⟨some ⟨b, 0, none⟩, rfl, fun _ => ⟨b, _, rfl, hlo, hb, by simpa using slC_len (ofR k)⟩, RdS.blk hb, hf, fun i ⟨x, e, hi⟩ => by injection e with e; subst e; rw [← hi]; exact ⟨hlo, (Array.getElem?_eq_some_iff.1 hb).1⟩⟩
/-- The names of two things are apart. -/
theorem nm_apart {i k : Nat} (hi : i < 13) (h0 : 0 < i) (h : i ≠ k) : (nmI i).toList ≠ (nmI k).toList := by
  have e : ∀ x, (nmI x).toList = nmL x := fun x => by unfold nmI; rw [ByteArray.toList_mk]
  rw [e, e]
  by_cases hk : k < 13
  · have : ∀ a b : Fin 13, 0 < a.val → a ≠ b → nmL a.val ≠ nmL b.val := by decide
    exact this ⟨i, hi⟩ ⟨k, hk⟩ h0 (by simpa using h)
  · have e2 : nmL k = [] := by
      unfold nmL
      rw [List.getD_eq_getElem?_getD, List.getElem?_eq_none (by simp; omega)]
      rfl
    rw [e2]
    have : ∀ a : Fin 13, 0 < a.val → nmL a.val ≠ [] := by decide
    exact this ⟨i, hi⟩ h0
/-- Of any number: it is no item; or an item. -/
theorem it_two (i : Nat) : ((i < 1 ∨ 13 ≤ i) ∧ stI i = 0 ∧ nmI i = ⟨#[]⟩) ∨ (0 < i ∧ i < 13 ∧ 0 < stI i ∧ (nmI i).toList ≠ []) := by
  by_cases h : i < 13
  · have : ∀ j : Fin 13, ((j.val < 1 ∨ 13 ≤ j.val) ∧ stI j.val = 0 ∧ nmL j.val = []) ∨ (0 < j.val ∧ j.val < 13 ∧ 0 < stI j.val ∧ nmL j.val ≠ []) := by decide
    rcases this ⟨i, h⟩ with ⟨a, b, c⟩ | ⟨a, b, c, d⟩
    · exact .inl ⟨a, b, by unfold nmI; rw [c]⟩
    · exact .inr ⟨a, b, c, by unfold nmI; rw [ByteArray.toList_mk]; exact d⟩
  · refine .inl ⟨.inr (by omega), ?_, ?_⟩
    · unfold stI
      rw [List.getD_eq_getElem?_getD, List.getElem?_eq_none (by simp; omega)]
      rfl
    · unfold nmI nmL
      rw [List.getD_eq_getElem?_getD, List.getElem?_eq_none (by simp; omega)]
      rfl
section
variable {w : World}
set_option maxRecDepth 100000 in
set_option maxHeartbeats 4000000 in
theorem hold_walk (ht : ItT w) (i : Nat) (hi : i < 256) (k : Nat) (hk : k < 256) (n : Int) : Calls Tryd.prog 4 #[.int .u8 (i : Int), .int .u8 (k : Int), .int .i64 n] w fun e w' => e = .returned (.bool true) ∧ Below w.heap.size w w' := by
  obtain ⟨l, q0, q1, ok, hR⟩ := recipe_v n
  have HRV := Lib.hid hR
  have HT := Lib.hid ht
  have HF := Lib.hid (Fr.refl No w)
  clear ht hR
  go_enter Tryd.func4, Tryd.ntmps4
  go_upto_region 2 with fail
  go_cut [58] from 23 to 58 (fun v58 wx => v58 = .bool false ∧ Fr No w wx)
  case first =>
    obtain ⟨st, hs⟩ : ∃ s, stI i = s := ⟨_, rfl⟩
    obtain ⟨nm, hn⟩ : ∃ s, nmI i = s := ⟨_, rfl⟩
    obtain ⟨nk, hnk⟩ : ∃ s, nmI k = s := ⟨_, rfl⟩
    have HS := Lib.hid (stack_w HT.out hi hs)
    have HN := Lib.hid (name_w HT.out hi hn)
    have HNK := Lib.hid (name_w HT.out hk hnk)

    have hcmp : (((i : Int) != (k : Int)) = true ∧ ((i : Int) == (k : Int)) = false) ∨ (((i : Int) != (k : Int)) = false ∧ ((i : Int) == (k : Int)) = true) := by
      by_cases h : (i : Int) = (k : Int)
      · exact .inr ⟨by simp [h], by simp [h]⟩
      · exact .inl ⟨by simp [h], by simp [h]⟩
    rcases it_two i with ⟨h0, h1, h2⟩ | ⟨h0, h1, h2, h3⟩
    · rw [hs] at h1
      rw [hn] at h2
      subst h1 h2
      clear hs hn hnk
      rcases h0 with h0 | h0
      · have e1 : ¬ ((1 : Int) ≤ (i : Int)) := by omega
        rcases hcmp with ⟨e5, e6⟩ | ⟨e5, e6⟩
        all_goals
          go_wp2_with (first
            | (go_at_call 10; refine (HS.out _ HF.out).mono ?_; rintro e w1 ⟨rfl, hf⟩; have HF := Lib.hid hf; clear hf)
            | (go_at_call_of 16 (Value.int .u8 (i : Int)); refine (HN.out _ HF.out).mono ?_; rintro e w1 ⟨rfl, hf⟩; have HF := Lib.hid hf; clear hf)
            | (go_at_call_of 16 (Value.int .u8 (k : Int)); refine (HNK.out _ HF.out).mono ?_; rintro e w1 ⟨rfl, hf⟩; have HF := Lib.hid hf; clear hf))
          all_goals (go_meet; refine ⟨?_, HF.out⟩; first | rfl | (simp; done) | (simp; omega))
      · have e1 : (1 : Int) ≤ (i : Int) := by omega
        have e2 : ¬ ((i : Int) ≤ 12) := by omega
        rcases hcmp with ⟨e5, e6⟩ | ⟨e5, e6⟩
        all_goals
          go_wp2_with (first
            | (go_at_call 10; refine (HS.out _ HF.out).mono ?_; rintro e w1 ⟨rfl, hf⟩; have HF := Lib.hid hf; clear hf)
            | (go_at_call_of 16 (Value.int .u8 (i : Int)); refine (HN.out _ HF.out).mono ?_; rintro e w1 ⟨rfl, hf⟩; have HF := Lib.hid hf; clear hf)
            | (go_at_call_of 16 (Value.int .u8 (k : Int)); refine (HNK.out _ HF.out).mono ?_; rintro e w1 ⟨rfl, hf⟩; have HF := Lib.hid hf; clear hf))
          all_goals (go_meet; refine ⟨?_, HF.out⟩; first | rfl | (simp; done) | (simp; omega))
    · rw [hs] at h2
      rw [hn] at h3
      have e1 : (1 : Int) ≤ (i : Int) := by omega
      have e2 : (i : Int) ≤ 12 := by omega
      have e3 : (nm.toList == (⟨#[]⟩ : ByteArray).toList) = false := by rw [beq_eq_false_iff_ne]; exact fun h => h3 (h.trans (ByteArray.toList_mk []))
      have e4 : (nm.toList == ([] : List UInt8)) = false := by rw [beq_eq_false_iff_ne]; exact h3
      have hik : ((i : Int) == (k : Int)) = false → (nm.toList == nk.toList) = false := fun h => by
        have h8 : i ≠ k := fun e => by rw [e] at h; simp at h
        have h7 := nm_apart h1 h0 h8
        rw [hn, hnk] at h7
        rw [beq_eq_false_iff_ne]
        exact h7
      clear hs hn hnk
      rcases hcmp with ⟨e5, e6⟩ | ⟨e5, e6⟩
      · have e7 := hik e6
        clear hik
        go_wp2_with (first
          | (go_at_call 10; refine (HS.out _ HF.out).mono ?_; rintro e w1 ⟨rfl, hf⟩; have HF := Lib.hid hf; clear hf)
          | (go_at_call_of 16 (Value.int .u8 (i : Int)); refine (HN.out _ HF.out).mono ?_; rintro e w1 ⟨rfl, hf⟩; have HF := Lib.hid hf; clear hf)
          | (go_at_call_of 16 (Value.int .u8 (k : Int)); refine (HNK.out _ HF.out).mono ?_; rintro e w1 ⟨rfl, hf⟩; have HF := Lib.hid hf; clear hf))
        all_goals (go_meet; refine ⟨?_, HF.out⟩; first | rfl | (simp; done) | (simp; omega))
      · clear hik
        go_wp2_with (first
          | (go_at_call 10; refine (HS.out _ HF.out).mono ?_; rintro e w1 ⟨rfl, hf⟩; have HF := Lib.hid hf; clear hf)
          | (go_at_call_of 16 (Value.int .u8 (i : Int)); refine (HN.out _ HF.out).mono ?_; rintro e w1 ⟨rfl, hf⟩; have HF := Lib.hid hf; clear hf)
          | (go_at_call_of 16 (Value.int .u8 (k : Int)); refine (HNK.out _ HF.out).mono ?_; rintro e w1 ⟨rfl, hf⟩; have HF := Lib.hid hf; clear hf))
        all_goals (go_meet; refine ⟨?_, HF.out⟩; first | rfl | (simp; done) | (simp; omega))
  case rest =>
    obtain ⟨rfl, hf⟩ := hcut
    have HF := Lib.hid hf
    clear hf
    go_upto_region 4 with fail
    go_cut [74] from 59 to 74 (fun v74 wx => v74 = .bool false ∧ Fr No w wx)
    case first =>
      rcases it_cases i with ⟨hb, hg, h4⟩ | h4 | ⟨hb, hg, h4, h0, h13, hs⟩
      · have HB := Lib.hid (block_w HT.out hi hb)
        have HG := Lib.hid (gives_w HT.out hi hg)
        clear hb hg
        go_wp2_with (first
          | (go_at_call 12; refine (HB.out _ HF.out).mono ?_; rintro e w1 ⟨rfl, hf⟩; have HF := Lib.hid hf; clear hf)
          | (go_at_call 14; refine (HG.out _ HF.out).mono ?_; rintro e w1 ⟨rfl, hf⟩; have HF := Lib.hid hf; clear hf))
        all_goals (go_meet; exact ⟨rfl, HF.out⟩)
      · have hb : blI i = true := by rw [h4]; rfl
        have hg : gvI i = 11 := by rw [h4]; rfl
        have HB := Lib.hid (block_w HT.out hi hb)
        have HG : Hid (∀ W, Fr No w W → Calls Tryd.prog 14 #[.int .u8 (i : Int)] W fun e w' => e = .returned (.int .u8 11) ∧ Fr No w w') := gives_w HT.out hi hg
        have HS11 : Hid (∀ W, Fr No w W → Calls Tryd.prog 10 #[.int .u8 11] W fun e w' => e = .returned (.int .i64 16) ∧ Fr No w w') := stack_w HT.out (i := 11) (by decide) rfl
        clear hb hg h4
        go_wp2_with (first
          | (go_at_call 12; refine (HB.out _ HF.out).mono ?_; rintro e w1 ⟨rfl, hf⟩; have HF := Lib.hid hf; clear hf)
          | (go_at_call 10; refine (HS11.out _ HF.out).mono ?_; rintro e w1 ⟨rfl, hf⟩; have HF := Lib.hid hf; clear hf)
          | (go_at_call 14; refine (HG.out _ HF.out).mono ?_; rintro e w1 ⟨rfl, hf⟩; have HF := Lib.hid hf; clear hf))
        all_goals (go_meet; exact ⟨rfl, HF.out⟩)
      · obtain ⟨s, hs2⟩ : ∃ s, stI i = s := ⟨_, rfl⟩
        have HB := Lib.hid (block_w HT.out hi hb)
        have HG := Lib.hid (gives_w HT.out hi hg)
        have HS := Lib.hid (stack_w HT.out hi hs2)
        rw [hs2] at hs
        have e1 : ((i : Int) != 0) = true := by simp; omega
        have es : (s == 0) = false := by rw [beq_eq_false_iff_ne]; omega
        clear hb hg hs2
        go_wp2_with (first
          | (go_at_call 12; refine (HB.out _ HF.out).mono ?_; rintro e w1 ⟨rfl, hf⟩; have HF := Lib.hid hf; clear hf)
          | (go_at_call 10; refine (HS.out _ HF.out).mono ?_; rintro e w1 ⟨rfl, hf⟩; have HF := Lib.hid hf; clear hf)
          | (go_at_call 14; refine (HG.out _ HF.out).mono ?_; rintro e w1 ⟨rfl, hf⟩; have HF := Lib.hid hf; clear hf))
        all_goals (go_meet; exact ⟨rfl, HF.out⟩)
    case rest =>
      obtain ⟨rfl, hf⟩ := hcut
      obtain ⟨wv, hwv⟩ : ∃ u, u = wc := ⟨_, rfl⟩
      rw [← hwv] at hf ⊢
      have HF := Lib.hid hf
      obtain ⟨hl2, hl, hok, hq, hokn, hr⟩ := HRV.out
      have HL := Lib.hid hl
      have HOK := Lib.hid hok
      have HON := Lib.hid hokn
      have HR := Lib.hid hr
      obtain ⟨m, hm⟩ : ∃ m, l.length = m := ⟨_, rfl⟩
      have HM := Lib.hid hm
      rw [hm] at hl2 HR
      clear hf hl hok hokn hr hwv hm
      go_upto_region 7 with (go_at_call 8; refine (HR.out _).mono ?_; rintro e w3 ⟨A, rfl, ho, hx, hf, hk⟩; have HO := Lib.hid (ho.no HF.out.size (Fr.alloc No w3 (.cells #[.int .u8 (q0 : Int), .int .i64 q1] 25))); have HX := Lib.hid (hx.no (Fr.alloc No w3 (.cells #[.int .u8 (q0 : Int), .int .i64 q1] 25))); have HK := Lib.hid (fun i hi => And.intro (Nat.le_trans HF.out.size (hk i hi).1) (hk i hi).2); have HTW := Lib.hid (Nat.le_trans HF.out.size hf.size); have HF := Lib.hid ((HF.out.no_trans hf).no_trans (Fr.alloc No w3 (.cells #[.int .u8 (q0 : Int), .int .i64 q1] 25))); have HBT := Lib.hid (heap_alloc_new w3 (.cells #[.int .u8 (q0 : Int), .int .i64 q1] 25)); clear ho hx hf hk)
      obtain ⟨T, hT⟩ : ∃ T, w3.heap.size = T := ⟨_, rfl⟩
      rw [hT] at HBT HK HTW ⊢
      have HLT := Lib.hid (show (w3.alloc (.cells #[.int .u8 (q0 : Int), .int .i64 q1] 25)).heap.size = T + 1 by rw [World.size_alloc, hT])
      clear hT
      generalize w3.alloc (.cells #[.int .u8 (q0 : Int), .int .i64 q1] 25) = w4 at *
      go_cut [89] from 81 to 89 (fun v89 wx => v89 = .bool false ∧ Fr No w4 wx)
      case first =>
        have HC : Hid (∀ W, Fr No w4 W → Calls Tryd.prog 18 #[] W fun e w' => e = .returned (.int .i64 7) ∧ Fr No w4 w') := recipes_w
        have HF4 := Lib.hid (Fr.refl No w4)
        rcases (show n < 0 ∨ (0 ≤ n ∧ n < 7) ∨ (0 ≤ n ∧ 7 ≤ n) by omega) with h | ⟨h0, h⟩ | ⟨h0, h⟩
        all_goals
          go_wp2_with (go_at_call 18; refine (HC.out _ HF4.out).mono ?_; rintro e w1 ⟨rfl, hf⟩; have HF4 := Lib.hid hf; clear hf)
          go_meet
          refine ⟨?_, HF4.out⟩
          have hon := HON.out
          first
            | (have e : ok = false := by rw [hon]; exact decide_eq_false (by omega)
               simp [e] <;> omega)
            | (have e : ok = true := by rw [hon]; exact decide_eq_true (by omega)
               simp [e] <;> omega)
      case rest =>
        obtain ⟨rfl, hf⟩ := hcut
        have hX := heap_alloc_new wc (.map #[] 0)
        obtain ⟨wm, hwm⟩ : ∃ u, u = wc := ⟨_, rfl⟩
        rw [← hwm] at hf ⊢
        have hf5 := hf.no_trans (Fr.alloc No wm (.map #[] 0))
        have HM5 := Lib.hid (SetM.made wm)
        have HBT := Lib.hid (blk_no hf5 HBT.out)
        have HO := Lib.hid (HO.out.no (Nat.le_refl _) hf5)
        have HX := Lib.hid (HX.out.no hf5)
        have HF := Lib.hid (HF.out.no_trans hf5)
        obtain ⟨X, hXX⟩ : ∃ X, wm.heap.size = X := ⟨_, rfl⟩
        have HXL := Lib.hid (show T < X ∧ w.heap.size ≤ X by
          have h1 := hf.size
          have h2 := HLT.out
          have h3 := HTW.out
          omega)
        have hmk := fun W => run_makeMap (P := Tryd.prog) 36 W
        clear hwm
        go_wp2_with fail
        rw [hXX] at HM5
        clear hf hf5 hX hXX hmk
        have HBS : Hid (∀ i, Bk A i → w.heap.size ≤ i ∧ i ≠ T ∧ i ≠ X) := fun i hi => by
          have h1 := HK.out i hi
          have h2 := HXL.out
          exact ⟨h1.1, by omega, by omega⟩
        generalize wm.alloc (.map #[] 0) = w6 at *
        go_loopw [93] (fun v93 wr => ∃ j : Nat, j ≤ m ∧ v93 = .int .i64 (j : Int) ∧ SetM wr X j (fun x => (l.take j).any (fun s => s.1 == x)) ∧ OwC w.heap.size wr A m ∧ RdS wr A m l ∧ wr.heap[T]? = some (.cells #[.int .u8 (q0 : Int), .int .i64 q1] 25 (0, 0)) ∧ Fr No w wr) (fun v93 _ => m - (intOf v93).toNat)
        case atStart => exact ⟨0, by omega, rfl, HM5.out, HO.out, HX.out, HBT.out, HF.out⟩
        case round =>
          obtain ⟨j, hj, rfl, hs, ho, hx, hb, hf⟩ := hrel
          have HMR := Lib.hid hs
          have HO := Lib.hid ho
          have HX := Lib.hid hx
          have HBT := Lib.hid hb
          have HF := Lib.hid hf
          clear hs ho hx hb hf HM5
          by_cases hjm : j < m
          · have hjl : j < l.length := by have := HM.out; omega
            obtain ⟨f1, f2, f3, f4⟩ := HL.out j hjl
            obtain ⟨b, o, rfl, hbl, hc⟩ := HX.out.2 (by omega)
            obtain ⟨x0, x1⟩ := hc j hjl
            have HNI : Hid ((l.take j).any (fun s => s.1 == l[j].1) = false) := by
              show _ = false
              rw [List.any_eq_false]
              intro s hs
              obtain ⟨a, ha, rfl⟩ := List.getElem_of_mem hs
              rw [List.length_take] at ha
              rw [List.getElem_take]
              simpa using f4 a (by omega)
            have HTK : Hid (∀ y, (l.take (j + 1)).any (fun s => s.1 == y) = ((l.take j).any (fun s => s.1 == y) || y == l[j].1)) := fun y => by
              rw [List.take_add_one, List.getElem?_eq_getElem hjl, List.any_append]
              simp only [Option.toList, List.any_cons, List.any_nil, Bool.or_false]
              congr 1
              by_cases h : l[j].1 = y
              · rw [h]
              · rw [beq_eq_false_iff_ne.2 h, beq_eq_false_iff_ne.2 (Ne.symm h)]
            obtain ⟨st, hst⟩ : ∃ s, stI l[j].1 = s := ⟨_, rfl⟩
            rw [hst] at f2
            have HSTK := Lib.hid hst
            clear hc f4 hst
            generalize l[j].1 = x at *
            generalize l[j].2 = y at *
            have e1 : ¬ (y < 1) := by omega
            have e2 : ¬ (st < y) := by omega
            have b1 : decide (y < 1) = false := decide_eq_false e1
            have b2 : decide (st < y) = false := decide_eq_false e2
            have hwj : IntKind.i64.wrap ((j : Int) + 1) = ((j + 1 : Nat) : Int) := by
              rw [show ((j : Int) + 1) = ((j + 1 : Nat) : Int) by omega]
              exact IntWalk.i64_in _ (by omega)
            go_upto_region 13 with fail
            have hD := heap_alloc_new wr (.cells #[.int .u8 (x : Int), .int .i64 y] 25)
            have hfa := Fr.alloc No wr (.cells #[.int .u8 (x : Int), .int .i64 y] 25)
            have hdx : X < wr.heap.size := HMR.out.lt
            obtain ⟨D, hDD⟩ : ∃ D, wr.heap.size = D := ⟨_, rfl⟩
            rw [hDD] at hD hdx ⊢
            have HFA := Lib.hid hfa
            have HDX := Lib.hid hdx
            have HSD := Lib.hid (HF.out.no_trans hfa)
            clear hfa hDD hdx
            generalize wr.alloc (.cells #[.int .u8 (x : Int), .int .i64 y] 25) = wd at *
            have d0 := blk_cell hD 0
            have d1 := blk_cell hD 1
            simp at d0 d1
            have hDW : Hid (∀ W, Fr No wd W → W.cell? ⟨D, 0, none⟩ = some (.int .u8 (x : Int)) ∧ W.cell? ⟨D, 1, none⟩ = some (.int .i64 y)) := fun W hW => ⟨(blk_cell (blk_no hW hD) 0).trans (by simp), (blk_cell (blk_no hW hD) 1).trans (by simp)⟩
            have HD := Lib.hid hD
            have dd := hDW.out wd.drew (Fr.drew No wd)
            have HS3 : Hid (∀ W, Fr No wd W → Calls Tryd.prog 10 #[.int .u8 (x : Int)] W fun e w' => e = .returned (.int .i64 st) ∧ Fr No wd w') := stack_w (HT.out.no HSD.out) f3 (by have := HSTK.out; exact this)
            clear hD
            go_region_held3 (fun W => W.cell? ⟨D, 0, none⟩ = some (.int .u8 (x : Int)) ∧ W.cell? ⟨D, 1, none⟩ = some (.int .i64 y))
              (first | exact d5 | exact dd | exact ⟨d0, d1⟩)
              (first
                | (go_at_call 10; refine (HS3.out _ (Fr.drew No wd)).mono ?_; rintro e w5 ⟨rfl, hf⟩; have HF5 := Lib.hid hf; have d5 := hDW.out w5 hf; have hlk := (((HMR.out.no HFA.out).no hf).look f3); rw [HNI.out] at hlk; clear hf))
            have d50 := d5.1
            have d51 := d5.2
            clear d0 d1 dd d5 hlk b1 b2
            go_wp2_with (at_mapUpdate; refine wpList_putS rfl _ _ _ rfl ((HMR.out.no HFA.out).no HF5.out) (by omega) x f3 rfl rfl rfl ?_; intro w7 hs7 hf7; have HS7 := Lib.hid hs7; have HF7 := Lib.hid hf7; clear hs7 hf7)
            go_roundw
            case rel =>
              have h5 : Fr No wr w5 := HFA.out.no_trans HF5.out
              have hX7 : ∀ i, Bk (some ⟨b, o, none⟩) i → i ≠ X := fun i hi => (HBS.out i hi).2.2
              refine ⟨j + 1, by omega, by go_num, HS7.out.ext (fun y _ => (HTK.out y).symm) (Nat.le_refl _), ?_, (HX.out.no h5).fr HF7.out (fun c hc h => hX7 _ ⟨c, hc, rfl⟩ h), ?_, (HF.out.no_trans h5).then_new HF7.out (fun i h => by have h : i = X := h; rw [h]; exact HXL.out.2)⟩
              · intro h0
                obtain ⟨b', cs, e, h1, h2, h3⟩ := HO.out.no (Nat.le_refl _) h5 h0
                exact ⟨b', cs, e, h1, (HF7.out.block b' (Array.getElem?_eq_some_iff.1 h2).1 (fun h => hX7 b' ⟨_, e, rfl⟩ h)).trans h2, h3⟩
              · have h2 := blk_no h5 HBT.out
                exact (HF7.out.block T (Array.getElem?_eq_some_iff.1 h2).1 (fun h => by have h : T = X := h; have := HXL.out; omega)).trans h2
            case measure => simp [intOf]; omega
          · have hjm2 : j = m := by omega
            subst hjm2
            go_upto_region 17 with fail
            cases ok
            case false =>
              go_quiet (fail)
              have HFY := Lib.hid (HF.out.no_trans (Fr.drewN No wr nq))
              have HOY := Lib.hid (HO.out.no (Nat.le_refl _) (Fr.drewN No wr nq))
              generalize wr.drewN nq = wy at *
              clear HF HO
              go_wp2_with fail
              go_loopw [140] (fun v140 wx => ∃ r : Nat, r ≤ j ∧ v140 = .int .i64 (r : Int) ∧ OwC w.heap.size wx A j ∧ Fr No w wx) (fun v140 _ => j - (intOf v140).toNat)
              case atStart => exact ⟨0, by omega, rfl, HOY.out, HFY.out⟩
              case round =>
                obtain ⟨r, hr, rfl, ho, hf⟩ := hrel
                have HFY := Lib.hid hf
                by_cases hrm : r < j
                · obtain ⟨b, cs, rfl, hlo, hb, hcs⟩ := ho (by omega)
                  have hwr : IntKind.i64.wrap ((r : Int) + 1) = ((r + 1 : Nat) : Int) := by
                    rw [show ((r : Int) + 1) = ((r + 1 : Nat) : Int) by omega]
                    exact IntWalk.i64_in _ (by omega)
                  have c1 := (blk_cell hb (r * 2 + 1)).trans (Array.getElem?_eq_getElem (by omega))
                  have z1 := blk_free hb (r * 2 + 1)
                  have HB := Lib.hid hb
                  have HCS := Lib.hid hcs
                  have HLO2 := Lib.hid hlo
                  clear hf hb ho hlo
                  generalize cs[r * 2 + 1]'_ = u1 at *
                  clear hcs
                  go_wp2_with fail
                  go_roundw
                  case rel => exact ⟨r + 1, by omega, by go_num, fun _ => ⟨b, _, rfl, HLO2.out, heap_cells_set wr b (r * 2 + 1) _ _ (.int .i64 (-1)) HB.out, by simpa using HCS.out⟩, HFY.out.then_new (Fr.setCell (F := fun i => i = b) wr ⟨b, r * 2 + 1, none⟩ (.int .i64 (-1)) rfl) (fun i e => by have e : i = b := e; rw [e]; exact HLO2.out)⟩
                  case measure => simp [intOf]; omega
                · have hrm2 : r = j := by omega
                  subst hrm2
                  clear ho hf HOY
                  go_wp2_with (go_at_call 8; refine (HR.out _).mono ?_; rintro e wq ⟨A2, rfl, _, hx, hf, _⟩; have HX2 := Lib.hid (hx.no (Fr.alloc No wq (.cells #[.int .u8 (q0 : Int), .int .i64 q1] 25))); have HFQ := Lib.hid ((HFY.out.no_trans hf).no_trans (Fr.alloc No wq (.cells #[.int .u8 (q0 : Int), .int .i64 q1] 25))); clear hx hf)
                  go_loopw [156] (fun v156 wx => ∃ s : Nat, s ≤ r ∧ v156 = .int .i64 (s : Int) ∧ RdS wx A2 r l ∧ Fr No w wx) (fun v156 _ => r - (intOf v156).toNat)
                  case atStart => exact ⟨0, by omega, rfl, HX2.out, HFQ.out⟩
                  case round =>
                    obtain ⟨s, hs, rfl, hx, hf⟩ := hrel
                    have HXS := Lib.hid hx
                    have HFS := Lib.hid hf
                    clear hf HX2 HFQ
                    by_cases hsr : s < r
                    · have hsl : s < l.length := by have := HM.out; omega
                      obtain ⟨f1, _⟩ := HL.out s hsl
                      obtain ⟨b, o, rfl, hbl, hc⟩ := hx.2 (by omega)
                      obtain ⟨x0, x1⟩ := hc s hsl
                      clear hc hx
                      generalize (l[s].1 : Int) = x at *
                      generalize l[s].2 = y at *
                      have e1 : ¬ (y < 1) := by omega
                      have hws : IntKind.i64.wrap ((s : Int) + 1) = ((s + 1 : Nat) : Int) := by
                        rw [show ((s : Int) + 1) = ((s + 1 : Nat) : Int) by omega]
                        exact IntWalk.i64_in _ (by omega)
                      go_wp2_with fail
                      go_roundw
                      case rel => exact ⟨s + 1, by omega, by go_num, HXS.out.no (Fr.alloc No _ _), HFS.out.no_trans (Fr.alloc No _ _)⟩
                      case measure => simp [intOf]; omega
                    · have hsr2 : s = r := by omega
                      subst hsr2
                      clear hx
                      have HA := Lib.hid (awake_w HT.out)
                      go_wp2_with (go_at_call 21; refine (HA.out _ HFS.out).mono ?_; rintro e w9 ⟨rfl, hf⟩; have HF9 := Lib.hid hf; clear hf)
                      go_ret
                      exact ⟨rfl, HF9.out.noBelow⟩
            case true =>
              obtain ⟨g1, g2, g3⟩ := HOK.out rfl
              rw [HM.out] at g1
              obtain ⟨sq, hsq⟩ : ∃ s, stI q0 = s := ⟨_, rfl⟩
              rw [hsq] at g3
              have HSQ : Hid (∀ W, Fr No wr W → Calls Tryd.prog 10 #[.int .u8 (q0 : Int)] W fun e w' => e = .returned (.int .i64 sq) ∧ Fr No wr w') := stack_w (HT.out.no HF.out) hq hsq
              have e0 : ((j : Int) == 0) = false := by rw [beq_eq_false_iff_ne]; omega
              have e1 : ¬ (q1 < 1) := by omega
              have e2 : ¬ (sq < q1) := by omega
              have b1 : decide (q1 < 1) = false := decide_eq_false e1
              have b2 : decide (sq < q1) = false := decide_eq_false e2
              have hTW : Hid (∀ W, Fr No wr W → W.cell? ⟨T, 0, none⟩ = some (.int .u8 (q0 : Int)) ∧ W.cell? ⟨T, 1, none⟩ = some (.int .i64 q1)) := fun W hW => ⟨(blk_cell (blk_no hW HBT.out) 0).trans (by simp), (blk_cell (blk_no hW HBT.out) 1).trans (by simp)⟩
              have dd := hTW.out wr.drew (Fr.drew No wr)
              have d0 := hTW.out wr (Fr.refl No wr)
              go_region_held3 (fun W => W.cell? ⟨T, 0, none⟩ = some (.int .u8 (q0 : Int)) ∧ W.cell? ⟨T, 1, none⟩ = some (.int .i64 q1))
                (first | exact d5 | exact dd | exact d0)
                (first
                  | (go_at_call 10; refine (HSQ.out _ (Fr.drew No wr)).mono ?_; rintro e wy ⟨rfl, hf⟩; have HF5 := Lib.hid hf; have d5 := hTW.out wy hf; clear hf))
              have HFY := Lib.hid (HF.out.no_trans HF5.out)
              have HOY := Lib.hid (HO.out.no (Nat.le_refl _) HF5.out)
              clear HF HO d0 dd d5 b1 b2
              go_wp2_with fail
              go_loopw [140] (fun v140 wx => ∃ r : Nat, r ≤ j ∧ v140 = .int .i64 (r : Int) ∧ OwC w.heap.size wx A j ∧ Fr No w wx) (fun v140 _ => j - (intOf v140).toNat)
              case atStart => exact ⟨0, by omega, rfl, HOY.out, HFY.out⟩
              case round =>
                obtain ⟨r, hr, rfl, ho, hf⟩ := hrel
                have HFY := Lib.hid hf
                by_cases hrm : r < j
                · obtain ⟨b, cs, rfl, hlo, hb, hcs⟩ := ho (by omega)
                  have hwr : IntKind.i64.wrap ((r : Int) + 1) = ((r + 1 : Nat) : Int) := by
                    rw [show ((r : Int) + 1) = ((r + 1 : Nat) : Int) by omega]
                    exact IntWalk.i64_in _ (by omega)
                  have c1 := (blk_cell hb (r * 2 + 1)).trans (Array.getElem?_eq_getElem (by omega))
                  have z1 := blk_free hb (r * 2 + 1)
                  have HB := Lib.hid hb
                  have HCS := Lib.hid hcs
                  have HLO2 := Lib.hid hlo
                  clear hf hb ho hlo
                  generalize cs[r * 2 + 1]'_ = u1 at *
                  clear hcs
                  go_wp2_with fail
                  go_roundw
                  case rel => exact ⟨r + 1, by omega, by go_num, fun _ => ⟨b, _, rfl, HLO2.out, heap_cells_set wr b (r * 2 + 1) _ _ (.int .i64 (-1)) HB.out, by simpa using HCS.out⟩, HFY.out.then_new (Fr.setCell (F := fun i => i = b) wr ⟨b, r * 2 + 1, none⟩ (.int .i64 (-1)) rfl) (fun i e => by have e : i = b := e; rw [e]; exact HLO2.out)⟩
                  case measure => simp [intOf]; omega
                · have hrm2 : r = j := by omega
                  subst hrm2
                  clear ho hf HOY
                  go_wp2_with (go_at_call 8; refine (HR.out _).mono ?_; rintro e wq ⟨A2, rfl, _, hx, hf, _⟩; have HX2 := Lib.hid (hx.no (Fr.alloc No wq (.cells #[.int .u8 (q0 : Int), .int .i64 q1] 25))); have HFQ := Lib.hid ((HFY.out.no_trans hf).no_trans (Fr.alloc No wq (.cells #[.int .u8 (q0 : Int), .int .i64 q1] 25))); clear hx hf)
                  go_loopw [156] (fun v156 wx => ∃ s : Nat, s ≤ r ∧ v156 = .int .i64 (s : Int) ∧ RdS wx A2 r l ∧ Fr No w wx) (fun v156 _ => r - (intOf v156).toNat)
                  case atStart => exact ⟨0, by omega, rfl, HX2.out, HFQ.out⟩
                  case round =>
                    obtain ⟨s, hs, rfl, hx, hf⟩ := hrel
                    have HXS := Lib.hid hx
                    have HFS := Lib.hid hf
                    clear hf HX2 HFQ
                    by_cases hsr : s < r
                    · have hsl : s < l.length := by have := HM.out; omega
                      obtain ⟨f1, _⟩ := HL.out s hsl
                      obtain ⟨b, o, rfl, hbl, hc⟩ := hx.2 (by omega)
                      obtain ⟨x0, x1⟩ := hc s hsl
                      clear hc hx
                      generalize (l[s].1 : Int) = x at *
                      generalize l[s].2 = y at *
                      have e1 : ¬ (y < 1) := by omega
                      have hws : IntKind.i64.wrap ((s : Int) + 1) = ((s + 1 : Nat) : Int) := by
                        rw [show ((s : Int) + 1) = ((s + 1 : Nat) : Int) by omega]
                        exact IntWalk.i64_in _ (by omega)
                      go_wp2_with fail
                      go_roundw
                      case rel => exact ⟨s + 1, by omega, by go_num, HXS.out.no (Fr.alloc No _ _), HFS.out.no_trans (Fr.alloc No _ _)⟩
                      case measure => simp [intOf]; omega
                    · have hsr2 : s = r := by omega
                      subst hsr2
                      clear hx
                      have HA := Lib.hid (awake_w HT.out)
                      go_wp2_with (go_at_call 21; refine (HA.out _ HFS.out).mono ?_; rintro e w9 ⟨rfl, hf⟩; have HF9 := Lib.hid hf; clear hf)
                      go_ret
                      exact ⟨rfl, HF9.out.noBelow⟩
end
end Go.Proofs.YtjaklhfcgcjmmaaDoor

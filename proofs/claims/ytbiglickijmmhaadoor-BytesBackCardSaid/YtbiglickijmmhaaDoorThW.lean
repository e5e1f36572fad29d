/-
  The walk of BytesBack: it answers true, and nothing that was there has turned.
-/
import Derived.Test.YtbiglickijmmhaaDoorThP
namespace Go.Proofs.YtbiglickijmmhaaDoor
open Go.RowKit

def allT (Ts : List Th) (i : Nat) : List Th := (Ts.take i).filter fun t => decide (t.n ≤ 40)
def encs (l : List Th) : List UInt8 := l.flatMap Th.put
def endAt (a : Nat) (al : List Th) (j : Nat) : Nat := a + (encs (al.take j)).length
def endsL (a : Nat) (al : List Th) : List Nat := (List.range (al.length + 1)).map (endAt a al)
theorem encs_append (l m : List Th) : encs (l ++ m) = encs l ++ encs m := by simp [encs]
theorem encs_one (t : Th) : encs [t] = t.put := by simp [encs]
theorem endsL_length (a : Nat) (al : List Th) : (endsL a al).length = al.length + 1 := by simp [endsL]
theorem endsL_snoc (a : Nat) (al : List Th) (t : Th) : endsL a (al ++ [t]) = endsL a al ++ [a + (encs (al ++ [t])).length] := by
  unfold endsL
  rw [show (al ++ [t]).length + 1 = (al.length + 1) + 1 by simp, List.range_succ, List.map_append]
  congr 1
  · apply List.map_congr_left
    intro j hj
    rw [List.mem_range] at hj
    unfold endAt
    rw [List.take_append_of_le_length (by omega)]
  · simp only [List.map_cons, List.map_nil, endAt]
    rw [List.take_of_length_le (by simp)]
theorem allT_yes (Ts : List Th) (i : Nat) (h : i < Ts.length) (hn : Ts[i].n ≤ 40) : allT Ts (i + 1) = allT Ts i ++ [Ts[i]] := by
  unfold allT
  rw [List.take_succ_eq_append_getElem h, List.filter_append]
  simp [hn]
theorem allT_no (Ts : List Th) (i : Nat) (h : i < Ts.length) (hn : ¬ Ts[i].n ≤ 40) : allT Ts (i + 1) = allT Ts i := by
  unfold allT
  rw [List.take_succ_eq_append_getElem h, List.filter_append]
  simp [hn]
theorem allT_len (Ts : List Th) (i : Nat) : (allT Ts i).length ≤ i := by
  unfold allT
  refine Nat.le_trans (List.length_filter_le _ _) ?_
  rw [List.length_take]
  omega
theorem allT_mem (Ts : List Th) (i : Nat) (t : Th) (h : t ∈ allT Ts i) : t ∈ Ts ∧ t.n ≤ 40 := by
  unfold allT at h
  rw [List.mem_filter] at h
  exact ⟨List.mem_of_mem_take h.1, by simpa using h.2⟩
/-- Things as a slice has them. -/
def RdT (w : World) (B : Nat) (A : Option Addr) (n : Nat) (Ts : List Th) : Prop :=
  Ts.length = n ∧ (∀ t ∈ Ts, t.N < 2 ^ 64 ∧ Rd w B t.A t.n t.l) ∧
  (0 < n → ∃ b o, A = some ⟨b, o, none⟩ ∧ b < B ∧ ∀ j (h : j < Ts.length), w.cell? ⟨b, o + j * 3, none⟩ = some (.int .u8 (Ts[j].K : Int)) ∧ w.cell? ⟨b, o + j * 3 + 1, none⟩ = some (.int .u64 (Ts[j].N : Int)) ∧ w.cell? ⟨b, o + j * 3 + 2, none⟩ = some (.slice Ts[j].A Ts[j].n Ts[j].c))
theorem encs_len (l : List Th) (h : ∀ t ∈ l, t.put.length ≤ 60) : (encs l).length ≤ 60 * l.length := by
  induction l with
  | nil => simp [encs]
  | cons t l ih =>
    have e : encs (t :: l) = t.put ++ encs l := by simp [encs]
    have h1 := h t (by simp)
    have h2 := ih (fun x hx => h x (by simp [hx]))
    rw [e, List.length_append, List.length_cons]
    omega

theorem own_shape3 {w : World} {B n : Nat} {e : TypeId} {size : Nat} {v : Value} {xs : List Value} (h : w.ownsRow B e size v n xs) : ∃ A c, v = .slice A n c ∧ (0 < n → ∃ g, A = some ⟨g, 0, none⟩) := by
  rcases h.2 with ⟨rfl, rfl⟩ | ⟨g, cap, cur, rfl, _⟩
  · exact ⟨none, 0, rfl, fun h => absurd h (by omega)⟩
  · exact ⟨_, cap, rfl, fun _ => ⟨g, rfl⟩⟩
theorem ends_at (a : Nat) (al : List Th) (j : Nat) (h : j ≤ al.length) : (ivs (endsL a al))[j]? = some (.int .i64 (endAt a al j : Int)) := by
  unfold ivs endsL
  rw [List.getElem?_map, List.getElem?_map, List.getElem?_range (by omega)]
  rfl
theorem endAt_zero (a : Nat) (al : List Th) : endAt a al 0 = a := by simp [endAt, encs]
theorem endAt_succ (a : Nat) (al : List Th) (j : Nat) (h : j < al.length) : endAt a al (j + 1) = endAt a al j + al[j].put.length := by
  unfold endAt
  rw [List.take_succ_eq_append_getElem h, encs_append, encs_one, List.length_append]
  omega
theorem drop_at (la : List UInt8) (al : List Th) (j : Nat) (h : j < al.length) : (la ++ encs al).drop (endAt la.length al j) = al[j].put ++ encs (al.drop (j + 1)) := by
  have e : encs al = encs (al.take j) ++ (al[j].put ++ encs (al.drop (j + 1))) := by
    have h2 : al = al.take j ++ ([al[j]] ++ al.drop (j + 1)) := by
      rw [List.singleton_append, ← List.drop_eq_getElem_cons h, List.take_append_drop]
    have h3 := congrArg encs h2
    rw [encs_append, encs_append, encs_one] at h3
    exact h3
  unfold endAt
  rw [e, ← List.append_assoc, show la.length + (encs (al.take j)).length = (la ++ encs (al.take j)).length by rw [List.length_append], List.drop_left]
theorem get_whole (la : List UInt8) (al : List Th) (j kk : Nat) (h : j < al.length) (hN : al[j].N < 2 ^ 64) (hl : al[j].l.length = al[j].n) (hn : al[j].n ≤ 1000) (hk : endAt la.length al (j + 1) ≤ kk) (hkl : kk ≤ (la ++ encs al).length) :
    getT ((la ++ encs al).take kk) (endAt la.length al j : Int) al[j] = (endAt la.length al (j + 1), 0, true) := by
  have h1 := endAt_succ la.length al j h
  have := getT_put ((la ++ encs al).take kk) ((encs (al.drop (j + 1))).take (kk - endAt la.length al (j + 1))) (endAt la.length al j) al[j] hN hl (by omega) (by rw [List.length_take]; omega) (by
    rw [List.drop_take, drop_at la al j h, List.take_append, List.take_of_length_le (by omega), h1]
    congr 2
    omega)
  rw [this, h1]
theorem get_part (la : List UInt8) (al : List Th) (j kk : Nat) (h : j < al.length) (hN : al[j].N < 2 ^ 64) (hl : al[j].l.length = al[j].n) (hn : al[j].n ≤ 1000) (h0 : endAt la.length al j ≤ kk) (hk : kk < endAt la.length al (j + 1)) (hkl : kk ≤ (la ++ encs al).length) :
    (getT ((la ++ encs al).take kk) (endAt la.length al j : Int) al[j]).1 = 0 ∧ (getT ((la ++ encs al).take kk) (endAt la.length al j : Int) al[j]).2.1 = 11 := by
  have h1 := endAt_succ la.length al j h
  exact getT_cut ((la ++ encs al).take kk) (endAt la.length al j) (kk - endAt la.length al j) al[j] hN hl (by omega) (by rw [List.length_take]; omega) (by omega) (by
    rw [List.drop_take, drop_at la al j h, List.take_append_of_le_length (by omega)])

set_option maxHeartbeats 3200000 in
set_option maxRecDepth 100000 in
theorem back_near (A0 A1 : Option Addr) (n0 c0 n1 c1 : Nat) (Ts : List Th) (la : List UInt8) (z : Nat) (w : World) (hz16 : z < 65536) (hT0 : RdT w w.heap.size A0 n0 Ts) (ha : Rd w w.heap.size A1 n1 la) (hn1 : n1 ≤ 50) (ht : Tab w) :
    Calls Tryd.prog 4 #[.slice A0 n0 c0, .slice A1 n1 c1, .int .u16 (z : Int)] w fun e w' => e = .returned (.bool true) ∧ Below w.heap.size w w' := by
  have HT := Lib.hid ht
  have HTP := Lib.hid ht.pos
  have HA := Lib.hid ha
  have HLA := Lib.hid ha.len
  have HTs := Lib.hid hT0
  have HTL := Lib.hid hT0.1
  obtain ⟨B, HB⟩ : ∃ B, Hid (w.heap.size = B) := ⟨_, rfl⟩
  have C0 := Lib.hid (copybytes_any A1 n1 c1 la w ha (by omega))
  clear ht ha hT0
  go_enter Tryd.func4, Tryd.ntmps4
  go_wp2_with fail
  refine C0.out.mono ?_
  rintro e w1 ⟨v7, rfl, ho7, hb1⟩
  obtain ⟨A7, c7, rfl, hc7, _⟩ := own_shape ho7
  have h9 : (w1.alloc (.cells #[.int .i64 (la.length : Int)] 3)).ownsRow w.heap.size 3 1 (.slice (some ⟨w1.heap.size, 0, none⟩) 1 1) (endsL la.length ([] : List Th)).length (ivs (endsL la.length [])) :=
    ⟨rfl, .inr ⟨w1.heap.size, 1, #[.int .i64 (la.length : Int)], rfl, hb1.size, heap_alloc_new w1 _, Nat.le_refl _, by unfold maxLen; omega, rfl, rfl⟩⟩
  have HP0 := Lib.hid (show P3 w w.heap.size (w1.alloc (.cells #[.int .i64 (la.length : Int)] 3)) (.slice A7 la.length c7) (.slice none 0 0) (.slice (some ⟨w1.heap.size, 0, none⟩) 1 1) (la ++ encs (allT Ts 0)) (allT Ts 0) (endsL la.length (allT Ts 0)) by
    have e0 : allT Ts 0 = [] := rfl
    rw [e0, show la ++ encs [] = la by simp [encs]]
    refine ⟨ho7.alloc _, World.ownsRow_nil _ _ _ _, h9, (fun g _ e => by cases e), (fun g hg e => ?_), (fun g hg e => by cases hg), hb1.alloc hb1.size _⟩
    have h1 := (ho7.lt g hg).2
    have h2 : some w1.heap.size = some g := e
    injection h2 with h2
    omega)
  clear h9 ho7 C0 hb1
  go_wp2_with fail
  go_loopw [7, 8, 9, 10] (fun v7 v8 v9 u wr => ∃ i : Nat, i ≤ n0 ∧ i ≤ 25 ∧ u = .int .i64 (i : Int) ∧ Hid (P3 w w.heap.size wr v7 v8 v9 (la ++ encs (allT Ts i)) (allT Ts i) (endsL la.length (allT Ts i)))) (fun _ _ _ u _ => 25 - (intOf u).toNat)
  case atStart => exact ⟨0, by omega, by omega, rfl, HP0⟩
  case round =>
    clear HP0
    obtain ⟨i, hi, hi25, rfl, HP⟩ := hrel
    by_cases hlt : i < n0 ∧ i < 25
    · obtain ⟨hlt1, hlt2⟩ := hlt
      obtain ⟨b, o, rfl, hb, hcell⟩ := HTs.out.2.2 (by omega)
      have hil : i < Ts.length := by rw [HTL.out]; exact hlt1
      obtain ⟨h0, h1, h2⟩ := hcell i hil
      obtain ⟨hN, hR⟩ := HTs.out.2.1 Ts[i] (List.getElem_mem hil)
      have HYES := Lib.hid (allT_yes Ts i hil)
      have HNO := Lib.hid (allT_no Ts i hil)
      have hwl := allT_len Ts i
      have hbel := HP.out.below
      have HRR := Lib.hid (hR.below hbel)
      have g0 := (hbel.cell (p := ⟨b, o + i * 3, none⟩) hb).trans h0
      have g1 := (hbel.cell (p := ⟨b, o + i * 3 + 1, none⟩) hb).trans h1
      have g2 := (hbel.cell (p := ⟨b, o + i * 3 + 2, none⟩) hb).trans h2
      have H0 := Lib.hid h0
      have H1 := Lib.hid h1
      have H2 := Lib.hid h2
      clear h0 h1 h2 hcell hR
      generalize hti : Ts[i] = t at *
      obtain ⟨tK, tN, tA, tn, tc, tl⟩ := t
      simp only at g0 g1 g2 hN HRR H0 H1 H2
      have HTI := Lib.hid hti
      clear hti
      by_cases h40 : tn ≤ 40
      · go_wp2_with fail
        have hP := HP.out
        have hBr : w.heap.size ≤ wr.heap.size := hbel.size
        have hbl : (la ++ encs (allT Ts i)).length ≤ 2000 := by
          rw [List.length_append, HLA.out]
          have := encs_len (allT Ts i) (fun x hx => by
            obtain ⟨h1, h2⟩ := allT_mem Ts i x hx
            obtain ⟨h3, h4⟩ := HTs.out.2.1 x h1
            exact Th.put_le x h3 (by rw [h4.len]; exact h2))
          omega
        have CP := Lib.hid (put_any w.heap.size (la ++ encs (allT Ts i)) u7 tK tN tA tn tc tl wr hBr (by omega) hP.o7 hN (HRR.out.more hBr) (by omega) (HT.out.keep hbel HTP.out))
        clear hP hN
        go_wp2_with fail
        refine CP.out.mono ?_
        rintro e w2 ⟨v7', rfl, ho2, hg2, ha2⟩
        have hp2 := HP.out.turn7 hBr ho2 hg2 ha2
        have hz2 := hg2.size
        obtain ⟨A7', c7', rfl, hc7', _⟩ := own_shape ho2
        have HP2 := Lib.hid hp2
        have hY := HYES.out h40
        obtain ⟨N7, HN7⟩ : ∃ N, Unit → ((la ++ encs (allT Ts i)) ++ (Th.mk tK tN tA tn tc tl).put).length = N := ⟨_, fun _ => rfl⟩
        have HYL := Lib.hid hY
        have hE : Hid (la ++ encs (allT Ts i) ++ (Th.mk tK tN tA tn tc tl).put = la ++ encs (allT Ts (i + 1))) := by
          show _ = _
          rw [HYL.out, encs_append, encs_one, List.append_assoc]
        have hE2 : Hid (endsL la.length (allT Ts (i + 1)) = endsL la.length (allT Ts i) ++ [N7]) := by
          show _ = _
          rw [← HN7 (), HYL.out, endsL_snoc, encs_append, encs_one]
          simp only [List.length_append, Nat.add_assoc]
        rw [HN7 ()]
        have g0' := (hp2.below.cell (p := ⟨b, o + i * 3, none⟩) hb).trans H0.out
        have g1' := (hp2.below.cell (p := ⟨b, o + i * 3 + 1, none⟩) hb).trans H1.out
        have g2' := (hp2.below.cell (p := ⟨b, o + i * 3 + 2, none⟩) hb).trans H2.out
        clear hp2 ho2 hg2 ha2 hY hc7' CP g0 g1 g2
        have hal1 : (allT Ts i).length ≤ 1000 := by omega
        have hal2 : (endsL la.length (allT Ts i)).length ≤ 1000 := by rw [endsL_length]; omega
        have hB2 : w.heap.size ≤ w2.heap.size := by omega
        go_wp2_with (first
          | (at_builtin; refine wpList_append_th w w2 rfl (.tmp 50) (.tmp 55) rfl w.heap.size _ _ _ _ _ _ HP2.out hB2 hal1 ⟨tK, tN, tA, tn, tc, tl⟩ _ rfl rfl rfl ?_; intro g8 cap8 w3 hp3; (have HP3 := Lib.hid hp3); (have hB3 := hp3.below.size); clear hp3 HP2)
          | (at_builtin; refine wpList_append_end w w3 rfl (.tmp 57) (.tmp 60) rfl w.heap.size _ _ _ _ _ _ HP3.out hB3 hal2 N7 rfl rfl ?_; intro g9 cap9 w4 hp4; (have HP4 := Lib.hid hp4); clear hp4 HP3))
        have HFX := Lib.hid (show P3 w w.heap.size w4 (.slice A7' N7 c7') (.slice (some ⟨g8, 0, none⟩) ((allT Ts i).length + 1) cap8) (.slice (some ⟨g9, 0, none⟩) ((endsL la.length (allT Ts i)).length + 1) cap9) (la ++ encs (allT Ts (i + 1))) (allT Ts (i + 1)) (endsL la.length (allT Ts (i + 1))) by
          rw [hE2.out, ← hE.out, HYL.out]
          have := HP4.out
          rw [HN7 ()] at this
          exact this)
        go_roundw
        case rel => exact ⟨i + 1, by omega, by omega, by go_num, HFX⟩
        case measure => simp [intOf]; omega
      · have hgt : decide (40 < tn) = true := by simp; omega
        have HFX := Lib.hid (show P3 w w.heap.size wr u7 u8 u9 (la ++ encs (allT Ts (i + 1))) (allT Ts (i + 1)) (endsL la.length (allT Ts (i + 1))) by rw [HNO.out h40]; exact HP.out)
        clear HYES HNO
        go_wp2_with fail
        go_roundw
        case rel => exact ⟨i + 1, by omega, by omega, by go_num, HFX⟩
        case measure => simp [intOf]; omega
    · have hal : ∀ x ∈ allT Ts i, x.N < 2 ^ 64 ∧ Rd w w.heap.size x.A x.n x.l ∧ x.n ≤ 40 := fun x hx => by
        obtain ⟨h1, h2⟩ := allT_mem Ts i x hx
        obtain ⟨h3, h4⟩ := HTs.out.2.1 x h1
        exact ⟨h3, h4, h2⟩
      have hwl := allT_len Ts i
      have HAL := Lib.hid hal
      have hK : (allT Ts i).length ≤ 25 := by omega
      clear hal hwl
      generalize allT Ts i = al at *
      have hbl : (la ++ encs al).length ≤ 2000 := by
        rw [List.length_append, HLA.out]
        have := encs_len al (fun x hx => by
          obtain ⟨h1, h2, h3⟩ := HAL.out x hx
          exact Th.put_le x h1 (by rw [h2.len]; exact h3))
        omega
      obtain ⟨A7', c7', rfl, hc7', _⟩ := own_shape HP.out.o7
      have hR7 := Rd.own HP.out.o7
      obtain ⟨T, HTT⟩ : ∃ T, Unit → (la ++ encs al).length = T := ⟨_, fun _ => rfl⟩
      have hTa : n1 ≤ T := by rw [← HTT (), List.length_append, HLA.out]; omega
      rw [HTT ()] at hR7 hbl hc7' ⊢
      have HR7 := Lib.hid hR7
      have HBW := Lib.hid HP.out.below
      have hzw := HP.out.below.size
      have HA2 := Lib.hid ((HA.out.below HP.out.below).more hzw)
      clear hR7
      have hlt3 : decide (T < n1) = false := by simp; omega
      have hT2 : T ≤ 2000 := hbl
      obtain ⟨A8, c8, hsl, d8, hc8⟩ := pre_rule (hi := n1) (n1 : Int) rfl HR7.out hc7' hTa
      rw [show (la ++ encs al).take n1 = la by rw [← HLA.out, List.take_left]] at d8
      obtain ⟨X, HX⟩ : ∃ s : ByteArray, Unit → (⟨la.toArray⟩ : ByteArray) = s := ⟨_, fun _ => rfl⟩
      obtain ⟨q, HQ⟩ : ∃ q, Unit → z % (T - n1 + 1) = q := ⟨_, fun _ => rfl⟩
      have hq : n1 + q ≤ T := by have := HQ (); have := Nat.mod_lt z (show 0 < T - n1 + 1 by omega); omega
      have eT : (T : Int) - (n1 : Int) + 1 = ((T - n1 + 1 : Nat) : Int) := by omega
      have e1 : (z : Int) % ((T : Int) - (n1 : Int) + 1) = (q : Int) := by rw [eT, ← HQ ()]; omega
      have e2 : (z : Int).tmod ((T : Int) - (n1 : Int) + 1) = (q : Int) := by rw [Int.tmod_eq_emod_of_nonneg (by omega)]; exact e1
      obtain ⟨A9, c9, hsl9, d9, hc9⟩ := pre_rule (hi := n1 + q) ((n1 : Int) + (q : Int)) (by omega) HR7.out hc7' hq
      have HD9 := Lib.hid d9
      clear d9 eT
      by_cases hn : i < n0
      case' pos =>
        have h25 : i = 25 := by omega
        subst h25
        go_wp2_with fail
      case' neg =>
        have hge : decide (i < n0) = false := by simpa using hn
        go_wp2_with fail
      all_goals
        obtain ⟨u0, HU0⟩ : ∃ u, Hid (wr.drew = u) := ⟨_, rfl⟩
        have hu0 : Below wr.heap.size wr u0 := by rw [← HU0.out]; exact (Below.refl _ _).drew
        refine wp_region_held_drew (S := fun W => Below wr.heap.size wr W) (by kernel_rfl) (by rw [HU0.out]; exact hu0) (fun hHeld => ?_)
        rw [HU0.out] at hHeld ⊢
        refine wpAnyH_take (i := 0) (oi := _) (v := .slice A7' T c7') rfl (by kernel_rfl) (by kernel_rfl) (by kernel_rfl) (fun _ _ _ h => h) (Or.inl ⟨by rfl, fun W _ => by rfl⟩) hHeld ?_
        try simp only [Act.put, List.getElem_toArray, List.getElem_cons_zero, List.setIfInBounds_toArray, List.set_cons_zero, List.set_cons_succ]
        refine wpAnyH_take (i := 1) (oi := _) (v := .int .i64 (T : Int)) rfl (by kernel_rfl) (by kernel_rfl) (by kernel_rfl) (fun _ _ _ h => h) (Or.inl ⟨by rfl, fun W _ => by go_simp⟩) hHeld ?_
        try simp only [Act.put, List.getElem_toArray, List.getElem_cons_zero, List.getElem_cons_succ, List.setIfInBounds_toArray, List.set_cons_zero, List.set_cons_succ]
        refine wpAnyH_take (i := 2) (oi := _) (v := .slice A1 n1 c1) rfl (by kernel_rfl) (by kernel_rfl) (by kernel_rfl) (fun _ _ _ h => h) (Or.inl ⟨by rfl, fun W _ => by rfl⟩) hHeld ?_
        try simp only [Act.put, List.getElem_toArray, List.getElem_cons_zero, List.getElem_cons_succ, List.setIfInBounds_toArray, List.set_cons_zero, List.set_cons_succ]
        refine wpAnyH_take (i := 3) (oi := _) (v := .int .i64 (n1 : Int)) rfl (by kernel_rfl) (by kernel_rfl) (by kernel_rfl) (fun _ _ _ h => h) (Or.inl ⟨by rfl, fun W _ => by go_simp⟩) hHeld ?_
        try simp only [Act.put, List.getElem_toArray, List.getElem_cons_zero, List.getElem_cons_succ, List.setIfInBounds_toArray, List.set_cons_zero, List.set_cons_succ]
        refine wpAnyH_take (i := 4) (oi := _) (v := .bool false) rfl (by kernel_rfl) (by kernel_rfl) (by kernel_rfl) (fun _ _ _ h => h) (Or.inl ⟨by rfl, fun W _ => by go_simp⟩) hHeld ?_
        try simp only [Act.put, List.getElem_toArray, List.getElem_cons_zero, List.getElem_cons_succ, List.setIfInBounds_toArray, List.set_cons_zero, List.set_cons_succ]
        refine wpAnyH_take (i := 5) (oi := _) (v := .bool false) rfl (by kernel_rfl) (by kernel_rfl) (by kernel_rfl) (fun _ _ _ h => h) (Or.inl ⟨by rfl, fun W _ => by rfl⟩) hHeld ?_
        try simp only [Act.put, List.getElem_toArray, List.getElem_cons_zero, List.getElem_cons_succ, List.setIfInBounds_toArray, List.set_cons_zero, List.set_cons_succ]
        refine wpAnyH_take (i := 6) (oi := _) (v := .slice A7' T c7') rfl (by kernel_rfl) (by kernel_rfl) (by kernel_rfl) (fun _ _ _ h => h) (Or.inl ⟨by rfl, fun W _ => by rfl⟩) hHeld ?_
        try simp only [Act.put, List.getElem_toArray, List.getElem_cons_zero, List.getElem_cons_succ, List.setIfInBounds_toArray, List.set_cons_zero, List.set_cons_succ]
        refine wpAnyH_take (i := 7) (oi := _) (v := .slice A1 n1 c1) rfl (by kernel_rfl) (by kernel_rfl) (by kernel_rfl) (fun _ _ _ h => h) (Or.inl ⟨by rfl, fun W _ => by rfl⟩) hHeld ?_
        try simp only [Act.put, List.getElem_toArray, List.getElem_cons_zero, List.getElem_cons_succ, List.setIfInBounds_toArray, List.set_cons_zero, List.set_cons_succ]
        refine wpAnyH_take (i := 8) (oi := _) (v := .int .i64 (n1 : Int)) rfl (by kernel_rfl) (by kernel_rfl) (by kernel_rfl) (fun _ _ _ h => h) (Or.inl ⟨by rfl, fun W _ => by go_simp⟩) hHeld ?_
        try simp only [Act.put, List.getElem_toArray, List.getElem_cons_zero, List.getElem_cons_succ, List.setIfInBounds_toArray, List.set_cons_zero, List.set_cons_succ]
        refine wpAnyH_take (i := 9) (oi := _) (v := .slice A8 n1 c8) rfl (by kernel_rfl) (by kernel_rfl) (by kernel_rfl) (fun _ _ _ h => h) (Or.inl ⟨by rfl, fun W _ => by have e := hsl W; go_simp⟩) hHeld ?_
        try simp only [Act.put, List.getElem_toArray, List.getElem_cons_zero, List.getElem_cons_succ, List.setIfInBounds_toArray, List.set_cons_zero, List.set_cons_succ]
        refine wpAnyH_take (i := 10) (oi := _) (v := .string X) rfl (by kernel_rfl) (by kernel_rfl) (by kernel_rfl) (fun _ _ _ h => h) (Or.inl ⟨by rfl, fun W hS => by have e := str_rule c8 (d8.below hS); rw [HX ()] at e; go_simp⟩) hHeld ?_
        try simp only [Act.put, List.getElem_toArray, List.getElem_cons_zero, List.getElem_cons_succ, List.setIfInBounds_toArray, List.set_cons_zero, List.set_cons_succ]
        refine wpAnyH_take (i := 11) (oi := _) (v := .slice A1 n1 c1) rfl (by kernel_rfl) (by kernel_rfl) (by kernel_rfl) (fun _ _ _ h => h) (Or.inl ⟨by rfl, fun W _ => by rfl⟩) hHeld ?_
        try simp only [Act.put, List.getElem_toArray, List.getElem_cons_zero, List.getElem_cons_succ, List.setIfInBounds_toArray, List.set_cons_zero, List.set_cons_succ]
        refine wpAnyH_take (i := 12) (oi := _) (v := .string X) rfl (by kernel_rfl) (by kernel_rfl) (by kernel_rfl) (fun _ _ _ h => h) (Or.inl ⟨by rfl, fun W hS => by have e := str_rule c1 (HA2.out.below hS); rw [HX ()] at e; go_simp⟩) hHeld ?_
        try simp only [Act.put, List.getElem_toArray, List.getElem_cons_zero, List.getElem_cons_succ, List.setIfInBounds_toArray, List.set_cons_zero, List.set_cons_succ]
        refine wpAnyH_take (i := 13) (oi := _) (v := .bool false) rfl (by kernel_rfl) (by kernel_rfl) (by kernel_rfl) (fun _ _ _ h => h) (Or.inl ⟨by rfl, fun W _ => by go_simp⟩) hHeld ?_
        try simp only [Act.put, List.getElem_toArray, List.getElem_cons_zero, List.getElem_cons_succ, List.setIfInBounds_toArray, List.set_cons_zero, List.set_cons_succ]
        refine wpAnyH_take (i := 14) (oi := _) (v := .bool false) rfl (by kernel_rfl) (by kernel_rfl) (by kernel_rfl) (fun _ _ _ h => h) (Or.inl ⟨by rfl, fun W _ => by go_simp⟩) hHeld ?_
        try simp only [Act.put, List.getElem_toArray, List.getElem_cons_zero, List.getElem_cons_succ, List.setIfInBounds_toArray, List.set_cons_zero, List.set_cons_succ]
        refine wpAnyH_done (by kernel_rfl) ?_ _
        clear hHeld hsl d8 HX hlt3
        go_wp2_with fail
        have HU := Lib.hid hu0
        clear hu0 HU0 e1 e2 hsl9
        have hzu := HU.out.size
        -- what the rows hold behind the first loop
        have HPU := Lib.hid (show P3 w w.heap.size u0 (.slice A7' T c7') u8 u9 (la ++ encs al) al (endsL la.length al) by
          have h := HP.out
          rw [HTT ()] at h
          exact ⟨h.o7.kept (below_grown' HU.out none) (by cases hv : (Value.slice A7' T c7').ownBlock <;> simp), h.o8.kept (below_grown' HU.out none) (by cases hv : u8.ownBlock <;> simp), h.o9.kept (below_grown' HU.out none) (by cases hv : u9.ownBlock <;> simp), h.s78, h.s79, h.s89, h.below.trans (HU.out.mono hzw)⟩)
        obtain ⟨A8', c8', rfl, hA8⟩ := own_shape3 HPU.out.o8
        obtain ⟨A9', c9', rfl, hA9⟩ := own_shape3 HPU.out.o9
        obtain ⟨g9, rfl⟩ := hA9 (by rw [endsL_length]; omega)
        have HA8 := Lib.hid hA8
        rw [endsL_length]
        have HC9 : Hid (∀ j, j ≤ al.length → u0.cell? ⟨g9, j, none⟩ = some (.int .i64 (endAt la.length al j : Int))) := fun j hj => by
          have h := World.ownsRow.cells HPU.out.o9 (g := g9) rfl j _ (ends_at la.length al j hj)
          rwa [Addr.add_lit, Nat.zero_add] at h
        have HG9 := Lib.hid (World.ownsRow.lt HPU.out.o9 g9 rfl).2
        have HRT := Lib.hid ((HR7.out.below HU.out).more hzu)
        have HRK := Lib.hid ((HD9.out.below HU.out).more hzu)
        have HALU : Hid (∀ x ∈ al, x.N < 2 ^ 64 ∧ Rd u0 u0.heap.size x.A x.n x.l ∧ x.n ≤ 40) := fun x hx => by
          obtain ⟨h1, h2, h3⟩ := HAL.out x hx
          exact ⟨h1, (h2.below HPU.out.below).more (by omega), h3⟩
        have HTU := Lib.hid (HT.out.keep HPU.out.below HTP.out)
        have HTZ := Lib.hid (show 0 < u0.heap.size from HTU.out.pos)
        clear hA8 hA9
        generalize hKK : al.length = K at *
        have HKL := Lib.hid hKK
        clear hKK
        go_loopw [94] (fun u wr => ∃ m : Nat, m ≤ 2 ∧ u = .int .i64 (m : Int) ∧ Below u0.heap.size u0 wr) (fun u _ => 2 - (intOf u).toNat)
        case atStart => exact ⟨0, by omega, rfl, Below.refl _ _⟩
        case round =>
          obtain ⟨m, hm, rfl, hbm⟩ := hrel
          by_cases hm2 : m < 2
          · obtain ⟨Ac, kk, cc, hidx, HRc, hk1, hk2, hkc⟩ : ∃ (Ac : Option Addr) (kk cc : Nat), (∀ W, (Instr.index 47 (.agg #[.slice A7' T c7', .slice A9 (n1 + q) c9]) (.int .i64 (m : Int))).run Tryd.prog W = .ok (.slice Ac kk cc) W) ∧ Hid (Rd u0 u0.heap.size Ac kk ((la ++ encs al).take kk)) ∧ n1 ≤ kk ∧ kk ≤ T ∧ kk ≤ cc := by
              rcases (by omega : m = 0 ∨ m = 1) with rfl | rfl
              · exact ⟨A7', T, c7', fun W => by rfl, (by
                  show Rd _ _ _ _ _
                  have h := HRT.out
                  rwa [List.take_of_length_le (by rw [HTT ()]; exact Nat.le_refl _)]), hTa, Nat.le_refl _, hc7'⟩
              · exact ⟨A9, n1 + q, c9, fun W => by rfl, HRK, by omega, hq, hc9⟩
            have hdm : decide ((m : Int) < 2) = true := by simp; omega
            go_wp2_with fail
            clear hdm
            go_loopw [99] (fun u wr => ∃ j : Nat, j ≤ K ∧ u = .int .i64 (j : Int) ∧ Hid (endAt la.length al j ≤ kk) ∧ Below u0.heap.size u0 wr) (fun u _ => K - (intOf u).toNat)
            case atStart => exact ⟨0, by omega, rfl, (by show endAt _ _ _ ≤ kk; rw [endAt_zero, HLA.out]; exact hk1), hbm⟩
            case round =>
              clear hbm
              obtain ⟨j, hj, rfl, HE0, hbr⟩ := hrel
              by_cases hjk : j < K
              · obtain ⟨g8, rfl⟩ := HA8.out (by omega)
                have hjl : j < al.length := by rw [HKL.out]; exact hjk
                have hg8 := (World.ownsRow.lt HPU.out.o8 g8 rfl).2
                have hcs := World.ownsRow.cells HPU.out.o8 (g := g8) rfl
                have d0 := hcs (j * 3) _ ((by rw [show j * 3 = 3 * j + 0 by omega]; exact thsCells_at al j 0 hjl (by omega)) : (thsCells al)[j * 3]? = some (.int .u8 (al[j].K : Int)))
                have d1 := hcs (j * 3 + 1) _ ((by rw [show j * 3 + 1 = 3 * j + 1 by omega]; exact thsCells_at al j 1 hjl (by omega)) : (thsCells al)[j * 3 + 1]? = some (.int .u64 (al[j].N : Int)))
                have d2 := hcs (j * 3 + 2) _ ((by rw [show j * 3 + 2 = 3 * j + 2 by omega]; exact thsCells_at al j 2 hjl (by omega)) : (thsCells al)[j * 3 + 2]? = some (.slice al[j].A al[j].n al[j].c))
                rw [Addr.add_lit, Nat.zero_add] at d0 d1 d2
                obtain ⟨hN, hRt, hn40⟩ := HALU.out al[j] (List.getElem_mem hjl)
                have hc0 := HC9.out j (by omega)
                have hc1 := HC9.out (j + 1) (by omega)
                have HGW := Lib.hid (get_whole la al j kk hjl hN hRt.len (by omega))
                have HGP := Lib.hid (get_part la al j kk hjl hN hRt.len (by omega) HE0.out)
                have hkT : kk ≤ (la ++ encs al).length := by rw [HTT ()]; exact hk2
                have HKT := Lib.hid hkT
                have hE0 := HE0.out
                clear hkT hcs
                have CG0 := fun W (hb : Below u0.heap.size u0 W) => get_any Ac kk cc al[j].K al[j].N al[j].A al[j].n al[j].c al[j].l ((la ++ encs al).take kk) (endAt la.length al j : Int) W ((HRc.out.below hb).more hb.size) (by omega) hkc hN ((hRt.below hb).more hb.size) (by omega) (HTU.out.keep hb HTZ.out)
                obtain ⟨ra, HRA⟩ : ∃ r, Unit → (getT ((la ++ encs al).take kk) (endAt la.length al j : Int) al[j]).1 = r := ⟨_, fun _ => rfl⟩
                obtain ⟨rb, HRB⟩ : ∃ r, Unit → (getT ((la ++ encs al).take kk) (endAt la.length al j : Int) al[j]).2.1 = r := ⟨_, fun _ => rfl⟩
                obtain ⟨rc, HRC⟩ : ∃ r, Unit → (getT ((la ++ encs al).take kk) (endAt la.length al j : Int) al[j]).2.2 = r := ⟨_, fun _ => rfl⟩
                have CG : ∀ W, Below u0.heap.size u0 W → Calls Tryd.prog 26 #[.slice Ac kk cc, .int .i64 (endAt la.length al j : Int), .agg #[.int .u8 (al[j].K : Int), .int .u64 (al[j].N : Int), .slice al[j].A al[j].n al[j].c]] W fun e w' => e = .returned (.tuple #[.int .i64 (ra : Int), .int .i64 (rb : Int), .bool rc]) ∧ Below W.heap.size W w' := fun W hb => by
                  refine (CG0 W hb).mono ?_
                  rintro e w' ⟨rfl, hb'⟩
                  refine ⟨?_, hb'⟩
                  rw [← HRA (), ← HRB (), ← HRC ()]
                clear CG0
                obtain ⟨E0, HEE⟩ : ∃ E, Unit → endAt la.length al j = E := ⟨_, fun _ => rfl⟩
                obtain ⟨E1, HEF⟩ : ∃ E, Unit → endAt la.length al (j + 1) = E := ⟨_, fun _ => rfl⟩
                have hW2 : E1 ≤ kk → ra = E1 ∧ rb = 0 ∧ rc = true := fun h => by
                  have h2 := HGW.out (by rw [HEF ()]; exact h) HKT.out
                  refine ⟨?_, ?_, ?_⟩
                  · rw [← HRA (), h2, HEF ()]
                  · rw [← HRB (), h2]
                  · rw [← HRC (), h2]
                have hP2 : kk < E1 → ra = 0 ∧ rb = 11 := fun h => by
                  obtain ⟨h2, h3⟩ := HGP.out (by rw [HEF ()]; exact h) HKT.out
                  exact ⟨by rw [← HRA (), h2], by rw [← HRB (), h3]⟩
                have HW2 := Lib.hid hW2
                have HP2 := Lib.hid hP2
                have HE1 : Hid (E1 ≤ kk → endAt la.length al (j + 1) ≤ kk) := fun h => by rw [HEF ()]; exact h
                rw [HEE ()] at hc0 CG hE0
                rw [HEF ()] at hc1
                clear hW2 hP2 HGW HGP HRA HRB HRC HEE HEF hN hRt hn40 HE0
                obtain ⟨tK, HtK⟩ : ∃ x, Unit → al[j].K = x := ⟨_, fun _ => rfl⟩
                obtain ⟨tN, HtN⟩ : ∃ x, Unit → al[j].N = x := ⟨_, fun _ => rfl⟩
                obtain ⟨tA, HtA⟩ : ∃ x, Unit → al[j].A = x := ⟨_, fun _ => rfl⟩
                obtain ⟨tn, Htn⟩ : ∃ x, Unit → al[j].n = x := ⟨_, fun _ => rfl⟩
                obtain ⟨tc, Htc⟩ : ∃ x, Unit → al[j].c = x := ⟨_, fun _ => rfl⟩
                rw [HtK (), HtN (), HtA (), Htn (), Htc ()] at CG
                rw [HtK ()] at d0
                rw [HtN ()] at d1
                rw [HtA (), Htn (), Htc ()] at d2
                clear HtK HtN HtA Htn Htc hidx
                have hjK1 : (j : Int) < (K : Int) + 1 := by omega
                have hjK2 : (j : Int) < (K : Int) := by omega
                have hjK3 : (0 : Int) ≤ (j : Int) := by omega
                have hmin : ¬ kk < E0 := by omega
                go_wp2_with fail
                obtain ⟨v0, HV0⟩ : ∃ u, Hid (wr.drew = u) := ⟨_, rfl⟩
                have hv0 : Below u0.heap.size u0 v0 := by rw [← HV0.out]; exact hbr.drew
                refine wp_region_held_drew (S := fun W => Below u0.heap.size u0 W) (by kernel_rfl) (by rw [HV0.out]; exact hv0) (fun hHeld => ?_)
                rw [HV0.out] at hHeld ⊢
                refine wpAnyH_take (i := 0) (oi := _) (v := .slice Ac kk cc) rfl (by kernel_rfl) (by kernel_rfl) (by kernel_rfl) (fun _ _ _ h => h) (Or.inl ⟨by rfl, fun W _ => by rfl⟩) hHeld ?_
                try simp only [Act.put, List.getElem_toArray, List.getElem_cons_zero, List.setIfInBounds_toArray, List.set_cons_zero, List.set_cons_succ]
                refine wpAnyH_take (i := 1) (oi := _) (v := .slice (some ⟨g9, 0, none⟩) (K + 1) c9') rfl (by kernel_rfl) (by kernel_rfl) (by kernel_rfl) (fun _ _ _ h => h) (Or.inl ⟨by rfl, fun W _ => by rfl⟩) hHeld ?_
                try simp only [Act.put, List.getElem_toArray, List.getElem_cons_zero, List.getElem_cons_succ, List.setIfInBounds_toArray, List.set_cons_zero, List.set_cons_succ]
                refine wpAnyH_take (i := 2) (oi := _) (v := .int .i64 (j : Int)) rfl (by kernel_rfl) (by kernel_rfl) (by kernel_rfl) (fun _ _ _ h => h) (Or.inl ⟨by rfl, fun W _ => by rfl⟩) hHeld ?_
                try simp only [Act.put, List.getElem_toArray, List.getElem_cons_zero, List.getElem_cons_succ, List.setIfInBounds_toArray, List.set_cons_zero, List.set_cons_succ]
                refine wpAnyH_take (i := 3) (oi := _) (v := .pointer (some ⟨g9, j, none⟩)) rfl (by kernel_rfl) (by kernel_rfl) (by kernel_rfl) (fun _ _ _ h => h) (Or.inl ⟨by rfl, fun W _ => by go_simp⟩) hHeld ?_
                try simp only [Act.put, List.getElem_toArray, List.getElem_cons_zero, List.getElem_cons_succ, List.setIfInBounds_toArray, List.set_cons_zero, List.set_cons_succ]
                refine wpAnyH_take (i := 4) (oi := _) (v := .int .i64 (E0 : Int)) rfl (by kernel_rfl) (by kernel_rfl) (by kernel_rfl) (fun _ _ _ h => h) (Or.inl ⟨by rfl, fun W hS => by have e := (hS.cell (p := ⟨g9, j, none⟩) HG9.out).trans hc0; go_simp⟩) hHeld ?_
                try simp only [Act.put, List.getElem_toArray, List.getElem_cons_zero, List.getElem_cons_succ, List.setIfInBounds_toArray, List.set_cons_zero, List.set_cons_succ]
                refine wpAnyH_take (i := 5) (oi := _) (v := .slice Ac kk cc) rfl (by kernel_rfl) (by kernel_rfl) (by kernel_rfl) (fun _ _ _ h => h) (Or.inl ⟨by rfl, fun W _ => by rfl⟩) hHeld ?_
                try simp only [Act.put, List.getElem_toArray, List.getElem_cons_zero, List.getElem_cons_succ, List.setIfInBounds_toArray, List.set_cons_zero, List.set_cons_succ]
                refine wpAnyH_take (i := 6) (oi := _) (v := .int .i64 (kk : Int)) rfl (by kernel_rfl) (by kernel_rfl) (by kernel_rfl) (fun _ _ _ h => h) (Or.inl ⟨by rfl, fun W _ => by go_simp⟩) hHeld ?_
                try simp only [Act.put, List.getElem_toArray, List.getElem_cons_zero, List.getElem_cons_succ, List.setIfInBounds_toArray, List.set_cons_zero, List.set_cons_succ]
                refine wpAnyH_take (i := 7) (oi := _) (v := .int .i64 (E0 : Int)) rfl (by kernel_rfl) (by kernel_rfl) (by kernel_rfl) (fun _ _ _ h => h) (Or.inl ⟨by rfl, fun W _ => by go_simp⟩) hHeld ?_
                try simp only [Act.put, List.getElem_toArray, List.getElem_cons_zero, List.getElem_cons_succ, List.setIfInBounds_toArray, List.set_cons_zero, List.set_cons_succ]
                refine wpAnyH_take (i := 8) (oi := _) (v := .slice (some ⟨g8, 0, none⟩) K c8') rfl (by kernel_rfl) (by kernel_rfl) (by kernel_rfl) (fun _ _ _ h => h) (Or.inl ⟨by rfl, fun W _ => by rfl⟩) hHeld ?_
                try simp only [Act.put, List.getElem_toArray, List.getElem_cons_zero, List.getElem_cons_succ, List.setIfInBounds_toArray, List.set_cons_zero, List.set_cons_succ]
                refine wpAnyH_take (i := 9) (oi := _) (v := .int .i64 (j : Int)) rfl (by kernel_rfl) (by kernel_rfl) (by kernel_rfl) (fun _ _ _ h => h) (Or.inl ⟨by rfl, fun W _ => by rfl⟩) hHeld ?_
                try simp only [Act.put, List.getElem_toArray, List.getElem_cons_zero, List.getElem_cons_succ, List.setIfInBounds_toArray, List.set_cons_zero, List.set_cons_succ]
                refine wpAnyH_take (i := 10) (oi := _) (v := .pointer (some ⟨g8, j * 3, none⟩)) rfl (by kernel_rfl) (by kernel_rfl) (by kernel_rfl) (fun _ _ _ h => h) (Or.inl ⟨by rfl, fun W _ => by go_simp⟩) hHeld ?_
                try simp only [Act.put, List.getElem_toArray, List.getElem_cons_zero, List.getElem_cons_succ, List.setIfInBounds_toArray, List.set_cons_zero, List.set_cons_succ]
                refine wpAnyH_take (i := 11) (oi := _) (v := .agg #[.int .u8 (tK : Int), .int .u64 (tN : Int), .slice tA tn tc]) rfl (by kernel_rfl) (by kernel_rfl) (by kernel_rfl) (fun _ _ _ h => h) (Or.inl ⟨by rfl, fun W hS => by have e0 := (hS.cell (p := ⟨g8, j * 3, none⟩) hg8).trans d0; have e1 := (hS.cell (p := ⟨g8, j * 3 + 1, none⟩) hg8).trans d1; have e2 := (hS.cell (p := ⟨g8, j * 3 + 2, none⟩) hg8).trans d2; go_simp⟩) hHeld ?_
                try simp only [Act.put, List.getElem_toArray, List.getElem_cons_zero, List.getElem_cons_succ, List.setIfInBounds_toArray, List.set_cons_zero, List.set_cons_succ]
                clear hHeld
                refine wpAnyH_ready (rs := [12]) (by kernel_rfl) (by simp) ?_
                refine AllReadyH.cons (o := _) rfl (fun K hK => ?_) AllReadyH.nil
                rw [if_pos (by rfl)]
                go_wp2_with fail
                refine (CG v0 hv0).mono ?_
                rintro e v1 ⟨rfl, hv1'⟩
                have hv1 : Below u0.heap.size u0 v1 := hv0.trans (hv1'.mono hv0.size)
                refine hK.out _ _ hv1 (fun hHeld => ?_)
                clear hK K hv1' CG
                try simp only [Act.put, List.getElem_toArray, List.getElem_cons_zero, List.getElem_cons_succ, List.setIfInBounds_toArray, List.set_cons_zero, List.set_cons_succ]
                refine wpAnyH_take (i := 13) (oi := _) (v := .tuple #[.int .i64 (ra : Int), .int .i64 (rb : Int), .bool rc]) rfl (by kernel_rfl) (by kernel_rfl) (by kernel_rfl) (fun _ _ _ h => h) (Or.inl ⟨by rfl, fun W _ => by rfl⟩) hHeld ?_
                try simp only [Act.put, List.getElem_toArray, List.getElem_cons_zero, List.getElem_cons_succ, List.setIfInBounds_toArray, List.set_cons_zero, List.set_cons_succ]
                refine wpAnyH_take (i := 14) (oi := _) (v := .int .i64 (ra : Int)) rfl (by kernel_rfl) (by kernel_rfl) (by kernel_rfl) (fun _ _ _ h => h) (Or.inl ⟨by rfl, fun W _ => by go_simp⟩) hHeld ?_
                try simp only [Act.put, List.getElem_toArray, List.getElem_cons_zero, List.getElem_cons_succ, List.setIfInBounds_toArray, List.set_cons_zero, List.set_cons_succ]
                refine wpAnyH_take (i := 15) (oi := _) (v := .int .i64 (rb : Int)) rfl (by kernel_rfl) (by kernel_rfl) (by kernel_rfl) (fun _ _ _ h => h) (Or.inl ⟨by rfl, fun W _ => by go_simp⟩) hHeld ?_
                try simp only [Act.put, List.getElem_toArray, List.getElem_cons_zero, List.getElem_cons_succ, List.setIfInBounds_toArray, List.set_cons_zero, List.set_cons_succ]
                refine wpAnyH_take (i := 16) (oi := _) (v := .bool rc) rfl (by kernel_rfl) (by kernel_rfl) (by kernel_rfl) (fun _ _ _ h => h) (Or.inl ⟨by rfl, fun W _ => by go_simp⟩) hHeld ?_
                try simp only [Act.put, List.getElem_toArray, List.getElem_cons_zero, List.getElem_cons_succ, List.setIfInBounds_toArray, List.set_cons_zero, List.set_cons_succ]
                refine wpAnyH_take (i := 17) (oi := _) (v := .int .i64 (ra : Int)) rfl (by kernel_rfl) (by kernel_rfl) (by kernel_rfl) (fun _ _ _ h => h) (Or.inl ⟨by rfl, fun W _ => by rfl⟩) hHeld ?_
                try simp only [Act.put, List.getElem_toArray, List.getElem_cons_zero, List.getElem_cons_succ, List.setIfInBounds_toArray, List.set_cons_zero, List.set_cons_succ]
                refine wpAnyH_take (i := 18) (oi := _) (v := .int .i64 (rb : Int)) rfl (by kernel_rfl) (by kernel_rfl) (by kernel_rfl) (fun _ _ _ h => h) (Or.inl ⟨by rfl, fun W _ => by rfl⟩) hHeld ?_
                try simp only [Act.put, List.getElem_toArray, List.getElem_cons_zero, List.getElem_cons_succ, List.setIfInBounds_toArray, List.set_cons_zero, List.set_cons_succ]
                refine wpAnyH_take (i := 19) (oi := _) (v := .bool rc) rfl (by kernel_rfl) (by kernel_rfl) (by kernel_rfl) (fun _ _ _ h => h) (Or.inl ⟨by rfl, fun W _ => by rfl⟩) hHeld ?_
                try simp only [Act.put, List.getElem_toArray, List.getElem_cons_zero, List.getElem_cons_succ, List.setIfInBounds_toArray, List.set_cons_zero, List.set_cons_succ]
                refine wpAnyH_done (by kernel_rfl) ?_ _
                clear hHeld
                have hc1' := (hv1.cell (p := ⟨g9, j + 1, none⟩) HG9.out).trans hc1
                by_cases hEk : E1 ≤ kk
                · obtain ⟨rfl, rfl, rfl⟩ := HW2.out hEk
                  have hd : decide (kk < ra) = false := by simp; omega
                  have HE2 := Lib.hid (HE1.out hEk)
                  clear HW2 HP2 HE1 d0 d1 d2 hc0 hc1
                  go_wp2_with fail
                  go_roundw
                  case rel => exact ⟨j + 1, by omega, by go_num, HE2, hv1⟩
                  case measure => simp [intOf]; omega
                · have hlt9 : kk < E1 := by omega
                  obtain ⟨rfl, rfl⟩ := HP2.out hlt9
                  have hd : decide (kk < E1) = true := by simpa using hlt9
                  clear HW2 HP2 HE1 d0 d1 d2 hc0 hc1
                  go_wp2_with fail
                  go_roundw
                  case rel => exact ⟨m + 1, by omega, by go_num, hv1⟩
                  case measure => simp [intOf]; omega
              · have hge9 : decide (j < K) = false := by simpa using hjk
                go_wp2_with fail
                go_roundw
                case rel => exact ⟨m + 1, by omega, by go_num, hbr⟩
                case measure => simp [intOf]; omega
          · have hge9 : decide ((m : Int) < 2) = false := by simp; omega
            have HFB := Lib.hid (show Below w.heap.size w wr from HPU.out.below.trans (hbm.mono (by have := HPU.out.below.size; omega)))
            have CA := Lib.hid (awake_any wr (HTU.out.keep hbm HTZ.out))
            clear hbm
            go_wp2_with fail
            refine CA.out.mono ?_
            rintro e wz ⟨rfl, hz⟩
            go_wp2_with fail
            go_ret
            exact ⟨rfl, HFB.out.trans (hz.mono HFB.out.size)⟩

set_option maxHeartbeats 800000 in
set_option maxRecDepth 100000 in
theorem back_far (A0 A1 : Option Addr) (n0 c0 n1 c1 : Nat) (z : Nat) (w : World) (hn1 : 50 < n1) (ht : Tab w) :
    Calls Tryd.prog 4 #[.slice A0 n0 c0, .slice A1 n1 c1, .int .u16 (z : Int)] w fun e w' => e = .returned (.bool true) ∧ Below w.heap.size w w' := by
  have CA := Lib.hid (awake_any w ht)
  clear ht
  go_enter Tryd.func4, Tryd.ntmps4
  go_wp2_with fail
  refine CA.out.mono ?_
  rintro e w1 ⟨rfl, hb⟩
  go_wp2_with fail
  go_ret
  exact ⟨rfl, hb⟩
theorem back_walk (A0 A1 : Option Addr) (n0 c0 n1 c1 : Nat) (Ts : List Th) (la : List UInt8) (y : Int) (w : World) (h0 : 0 ≤ y) (h1 : y < 65536) (hT0 : RdT w w.heap.size A0 n0 Ts) (ha : Rd w w.heap.size A1 n1 la) (ht : Tab w) :
    Calls Tryd.prog 4 #[.slice A0 n0 c0, .slice A1 n1 c1, .int .u16 y] w fun e w' => e = .returned (.bool true) ∧ Below w.heap.size w w' := by
  obtain ⟨z, rfl⟩ : ∃ z : Nat, y = (z : Int) := ⟨y.toNat, by omega⟩
  by_cases h : n1 ≤ 50
  · exact back_near A0 A1 n0 c0 n1 c1 Ts la z w (by omega) hT0 ha h ht
  · exact back_far A0 A1 n0 c0 n1 c1 z w (by omega) ht
end Go.Proofs.YtbiglickijmmhaaDoor

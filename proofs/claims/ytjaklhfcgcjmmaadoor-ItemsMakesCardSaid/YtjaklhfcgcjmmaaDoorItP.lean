/-
  The walk of ItemsMakes. No statement of the seat is proved here.
-/
import Derived.Test.YtjaklhfcgcjmmaaDoorItN
import Derived.Deep.RegionWith
namespace Go.Proofs.YtjaklhfcgcjmmaaDoor
open Go.RowKit Go.Deep Go.Maps

/-- What is had once K recipes were made, beside what there is at first. -/
def fdS (K y : Nat) : Bool := [1, 2, 3, 4, 7, 11].contains y || ([5, 6, 9, 10, 8, 12, 7].take K).contains y
theorem fd_of : ∀ n : Fin 7, ∀ K : Fin 8, n.val ≤ K.val → (∀ j : Fin 2, ∀ h : j.val < (ofR n.val).length, fdS K.val ((ofR n.val)[j.val]).1 = true ∧ ((ofR n.val)[j.val]).1 < 256) ∧ (ofR n.val).length ≤ 2 ∧ (mkR n.val).1 < 256 := by decide +kernel
theorem fd_put : ∀ n : Fin 7, ∀ y : Fin 256, (fdS n.val y.val || y.val == (mkR n.val).1) = fdS (n.val + 1) y.val ∧ (fdS 7 y.val || y.val == (mkR n.val).1) = fdS 7 y.val := by decide +kernel
theorem fd_end : ∀ y : Fin 256, fdS 7 y.val = decide (0 < stI y.val) := by decide +kernel
theorem fd_beg : ∀ y : Fin 256, ((((((false || y.val == 1) || y.val == 2) || y.val == 3) || y.val == 4) || y.val == 7) || y.val == 11) = fdS 0 y.val := by decide +kernel
theorem mk_apart : ∀ a b : Fin 7, a ≠ b → (mkR a.val).1 ≠ (mkR b.val).1 := by decide
theorem of_mk : ∀ n : Fin 7, ∀ j : Fin 2, ∀ h : j.val < (ofR n.val).length, ((ofR n.val)[j.val]).1 ≠ (mkR n.val).1 := by decide
set_option maxRecDepth 100000 in
/-- What Recipe answers, of whatever number: of what, and what it makes. -/
theorem recipe_x (n : Int) : ∃ (l : List (Nat × Int)) (q0 : Nat) (q1 : Int) (ok : Bool), l.length ≤ 2 ∧ (∀ j (h : j < l.length), l[j].1 ≠ q0) ∧ (ok = true → ∃ k : Nat, k < 7 ∧ n = (k : Int) ∧ q0 = (mkR k).1) ∧
    ∀ W, Calls Tryd.prog 8 #[.int .i64 n] W fun e w' => ∃ A, e = .returned (.tuple #[.slice A l.length l.length, .agg #[.int .u8 (q0 : Int), .int .i64 q1], .bool ok]) ∧ RdS w' A l.length l ∧ Fr No W w' := by
  rcases (show (n < 0 ∨ 7 ≤ n) ∨ (0 ≤ n ∧ n < 7) by omega) with h | ⟨h0, h7⟩
  · refine ⟨[], 0, 0, false, by decide, fun j hj => absurd hj (by simp), (fun h => by cases h), fun W => (recipe_no h).mono ?_⟩
    rintro e w1 ⟨rfl, hf⟩
    exact ⟨none, rfl, RdS.nil _ _, hf⟩
  · obtain ⟨k, rfl⟩ := Int.eq_ofNat_of_zero_le h0
    have hk : k < 7 := by omega
    have hl := (fd_of ⟨k, hk⟩ ⟨7, by omega⟩ (by show k ≤ 7; omega)).2.1
    dsimp only at hl
    refine ⟨ofR k, (mkR k).1, (mkR k).2, true, hl, fun j hj => of_mk ⟨k, hk⟩ ⟨j, by omega⟩ hj, fun _ => ⟨k, hk, rfl, rfl⟩, fun W => (recipe_yes hk).mono ?_⟩
    rintro e w1 ⟨b, rfl, _, hb, hf⟩
    exact ⟨some ⟨b, 0, none⟩, rfl, RdS.blk hb, hf⟩
section
variable {w : World}
set_option maxRecDepth 100000 in
/-- What there is at first, laid into a map. -/
theorem beg_puts (w : World) : ∃ w6, SetM w6 w.heap.size 6 (fdS 0) ∧ Fr No w w6 ∧ ∃ w0 w1 w2 w3 w4 w5, w0 = w.alloc (.map #[] 0) ∧ (Instr.mapUpdate 36 (.map (some w.heap.size)) (.int .u8 1) (.int .i64 1)).run Tryd.prog w0 = .ok () w1 ∧
    (Instr.mapUpdate 36 (.map (some w.heap.size)) (.int .u8 2) (.int .i64 1)).run Tryd.prog w1 = .ok () w2 ∧ (Instr.mapUpdate 36 (.map (some w.heap.size)) (.int .u8 3) (.int .i64 1)).run Tryd.prog w2 = .ok () w3 ∧
    (Instr.mapUpdate 36 (.map (some w.heap.size)) (.int .u8 4) (.int .i64 1)).run Tryd.prog w3 = .ok () w4 ∧ (Instr.mapUpdate 36 (.map (some w.heap.size)) (.int .u8 7) (.int .i64 1)).run Tryd.prog w4 = .ok () w5 ∧
    (Instr.mapUpdate 36 (.map (some w.heap.size)) (.int .u8 11) (.int .i64 1)).run Tryd.prog w5 = .ok () w6 := by
  obtain ⟨w1, r1, s1, f1⟩ := (SetM.made w).put (by decide) (x := 1) (by decide)
  obtain ⟨w2, r2, s2, f2⟩ := s1.put (by decide) (x := 2) (by decide)
  obtain ⟨w3, r3, s3, f3⟩ := s2.put (by decide) (x := 3) (by decide)
  obtain ⟨w4, r4, s4, f4⟩ := s3.put (by decide) (x := 4) (by decide)
  obtain ⟨w5, r5, s5, f5⟩ := s4.put (by decide) (x := 7) (by decide)
  obtain ⟨w6, r6, s6, f6⟩ := s5.put (by decide) (x := 11) (by decide)
  have hn : ∀ i, i = w.heap.size → w.heap.size ≤ i := fun i e => by rw [e]; exact Nat.le_refl _
  exact ⟨w6, s6.ext (fun y hy => fd_beg ⟨y, hy⟩) (Nat.le_refl _), ((((((Fr.alloc No w _).then_new f1 hn).then_new f2 hn).then_new f3 hn).then_new f4 hn).then_new f5 hn).then_new f6 hn, _, w1, w2, w3, w4, w5, rfl, r1, r2, r3, r4, r5, r6⟩
set_option maxRecDepth 100000 in
set_option maxHeartbeats 4000000 in
theorem makes_walk (ht : ItT w) (a b : Int) (i : Nat) (hi : i < 256) : Calls Tryd.prog 6 #[.int .i64 a, .int .i64 b, .int .u8 (i : Int)] w fun e w' => e = .returned (.bool true) ∧ Below w.heap.size w w' := by
  obtain ⟨l, q0, q1, ok, hl, hne, hok, hr⟩ := recipe_x a
  obtain ⟨l2, p0, p1, too, _, _, htoo, hr2⟩ := recipe_x b
  have HAP : Hid (ok = true → too = true → a ≠ b → q0 ≠ p0) := fun h1 h2 h3 => by
    obtain ⟨k, hk, rfl, e1⟩ := hok h1
    obtain ⟨j, hj, rfl, e2⟩ := htoo h2
    rw [e1, e2]
    exact mk_apart ⟨k, hk⟩ ⟨j, hj⟩ (fun e => h3 (by injection e with e; rw [e]))
  have HNE := Lib.hid hne
  have HR := Lib.hid hr
  have HR2 := Lib.hid hr2
  have HT := Lib.hid ht
  clear ht hne hok htoo hr hr2
  obtain ⟨m, hm⟩ : ∃ m, l.length = m := ⟨_, rfl⟩
  have HM := Lib.hid hm
  rw [hm] at hl HR
  clear hm
  go_enter Tryd.func6, Tryd.ntmps6
  go_wp2_with (first
    | (go_at_call_of 8 (Value.int .i64 a); refine (HR.out _).mono ?_; rintro e w1 ⟨A, rfl, hx, hf⟩; have HX := Lib.hid (hx.no (Fr.alloc No w1 (.cells #[.int .u8 (q0 : Int), .int .i64 q1] 25))); have HF1 := Lib.hid (hf.no_trans (Fr.alloc No w1 (.cells #[.int .u8 (q0 : Int), .int .i64 q1] 25))); have HB1 := Lib.hid (heap_alloc_new w1 (.cells #[.int .u8 (q0 : Int), .int .i64 q1] 25)); clear hx hf)
    | (go_at_call_of 8 (Value.int .i64 b); refine (HR2.out _).mono ?_; rintro e w2 ⟨A2, rfl, _, hf⟩; have hg := hf.no_trans (Fr.alloc No w2 (.cells #[.int .u8 (p0 : Int), .int .i64 p1] 25)); have HX := Lib.hid (HX.out.no hg); have HF2 := Lib.hid (HF1.out.no_trans hg); have HB1 := Lib.hid (blk_no hg HB1.out); have HB2 := Lib.hid (heap_alloc_new w2 (.cells #[.int .u8 (p0 : Int), .int .i64 p1] 25)); clear hf hg))
  obtain ⟨T1, hT1⟩ : ∃ T, w1.heap.size = T := ⟨_, rfl⟩
  obtain ⟨T2, hT2⟩ : ∃ T, w2.heap.size = T := ⟨_, rfl⟩
  rw [hT1] at HB1
  rw [hT2] at HB2
  rw [hT1, hT2]
  clear hT1 hT2
  go_loopw [38] (fun v38 wr => ∃ j : Nat, j ≤ m ∧ v38 = .int .i64 (j : Int) ∧ RdS wr A m l ∧ wr.heap[T1]? = some (.cells #[.int .u8 (q0 : Int), .int .i64 q1] 25 (0, 0)) ∧ wr.heap[T2]? = some (.cells #[.int .u8 (p0 : Int), .int .i64 p1] 25 (0, 0)) ∧ Fr No w wr) (fun v38 _ => m - (intOf v38).toNat)
  case atStart => exact ⟨0, by omega, rfl, HX.out, blk_no (Fr.refl No _) HB1.out, HB2.out, HF2.out⟩
  case round =>
    obtain ⟨j, hj, rfl, hx, hb1, hb2, hf⟩ := hrel
    have HXR := Lib.hid hx
    have HBA := Lib.hid hb1
    have HBB := Lib.hid hb2
    have HF := Lib.hid hf
    clear hx hb1 hb2 hf HX HB1 HB2 HF1 HF2
    by_cases hjm : j < m
    · have hjl : j < l.length := by have := HM.out; omega
      have hne := HNE.out j hjl
      obtain ⟨b0, o, rfl, _, hc⟩ := HXR.out.2 (by omega)
      obtain ⟨x0, x1⟩ := hc j hjl
      generalize l[j].1 = x at *
      generalize l[j].2 = y at *
      have e1 : ((x : Int) == (q0 : Int)) = false := by rw [beq_eq_false_iff_ne]; omega
      have fa := Fr.alloc No wr (.cells #[.int .u8 (x : Int), .int .i64 y] 25)
      have d0 := blk_cell (blk_no fa HBA.out) 0
      simp at d0
      have hwj : IntKind.i64.wrap ((j : Int) + 1) = ((j + 1 : Nat) : Int) := by
        rw [show ((j : Int) + 1) = ((j + 1 : Nat) : Int) by omega]
        exact IntWalk.i64_in _ (by omega)
      clear hc fa
      go_wp2_with fail
      go_roundw
      case rel => exact ⟨j + 1, by omega, by go_num, HXR.out.no (Fr.alloc No _ _), blk_no (Fr.alloc No _ _) HBA.out, blk_no (Fr.alloc No _ _) HBB.out, HF.out.no_trans (Fr.alloc No _ _)⟩
      case measure => simp [intOf]; omega
    · have hjm2 : j = m := by omega
      subst hjm2
      go_upto_region 9 with fail
      have c0 := blk_cell HBA.out 0
      have d0 := blk_cell HBB.out 0
      simp at c0 d0
      go_cut [63] from 7 to 63 (fun v63 wx => v63 = .bool false ∧ wx = wr)
      case first =>
        have hap : ok = true → too = true → ((a != b) = false) ∨ ((a != b) = true ∧ ((q0 : Int) == (p0 : Int)) = false) := fun h1 h2 => by
          by_cases h3 : a = b
          · exact .inl (by simp [h3])
          · have := HAP.out h1 h2 h3
            exact .inr ⟨by simp [h3], by rw [beq_eq_false_iff_ne]; omega⟩
        cases ok
        · clear hap
          go_wp2_with fail
          go_meet
          exact ⟨rfl, rfl⟩
        · cases too
          · clear hap
            go_wp2_with fail
            go_meet
            exact ⟨rfl, rfl⟩
          · rcases hap rfl rfl with e1 | ⟨e1, e2⟩
            all_goals
              go_wp2_with fail
              go_meet
              exact ⟨rfl, rfl⟩
      case rest =>
        obtain ⟨rfl, rfl⟩ := hcut
        clear c0 d0
        obtain ⟨w6, hs6, hf6, v0, v1, v2, v3, v4, v5, rfl, r1, r2, r3, r4, r5, r6⟩ := beg_puts wc
        have hmk := fun W => run_makeMap (P := Tryd.prog) 36 W
        have HC : Hid (∀ W, Fr No w W → Calls Tryd.prog 18 #[] W fun e w' => e = .returned (.int .i64 7) ∧ Fr No w w' ∧ Fr No W w') := fun _ hW => recipes_any.mono (fun _ _ ⟨h1, h2⟩ => ⟨h1, hW.no_trans h2, h2⟩)
        have HS6 := Lib.hid hs6
        have HF6 := Lib.hid (HF.out.no_trans hf6)
        have hXl := HF.out.size
        clear hs6 hf6 HXR HBA HBB HF
        obtain ⟨X, hX⟩ : ∃ X, wc.heap.size = X := ⟨_, rfl⟩
        have HXL := Lib.hid (show w.heap.size ≤ X by omega)
        rw [hX] at HS6 r1 r2 r3 r4 r5 r6
        go_wp2_with (go_at_call 18; refine (HC.out _ HF6.out).mono ?_; rintro e w7 ⟨rfl, hf, hg⟩; have HF7 := Lib.hid hf; have HS7 := Lib.hid (HS6.out.no hg); clear hf hg)
        clear hX hmk r1 r2 r3 r4 r5 r6 HS6 HF6
        go_loopw [67] (fun v67 wr => ∃ r : Nat, r ≤ 7 ∧ v67 = .int .i64 (r : Int) ∧ SetM wr X (6 + r * 7) (fdS (min (r * 7) 7)) ∧ Fr No w wr) (fun v67 _ => 7 - (intOf v67).toNat)
        case atStart => exact ⟨0, by omega, rfl, HS7.out, HF7.out⟩
        case round =>
          obtain ⟨r, hr, rfl, hs, hf⟩ := hrel
          have HS := Lib.hid hs
          have HF := Lib.hid hf
          clear hs hf HS7 HF7
          by_cases hr7 : r < 7
          · have hwr : IntKind.i64.wrap ((r : Int) + 1) = ((r + 1 : Nat) : Int) := by
              rw [show ((r : Int) + 1) = ((r + 1 : Nat) : Int) by omega]
              exact IntWalk.i64_in _ (by omega)
            go_wp2_with (go_at_call 18; refine (HC.out _ HF.out).mono ?_; rintro e w8 ⟨rfl, hf, hg⟩; have HF8 := Lib.hid hf; have HS8 := Lib.hid (HS.out.no hg); clear hf hg)
            clear HS HF
            go_loopw [70] (fun v70 wx => ∃ n : Nat, n ≤ 7 ∧ v70 = .int .i64 (n : Int) ∧ SetM wx X (6 + r * 7 + n) (fdS (min (r * 7 + n) 7)) ∧ Fr No w wx) (fun v70 _ => 7 - (intOf v70).toNat)
            case atStart => exact ⟨0, by omega, rfl, HS8.out, HF8.out⟩
            case round =>
              obtain ⟨n, hn, rfl, hs, hf⟩ := hrel
              have HSN := Lib.hid hs
              have HFN := Lib.hid hf
              clear hs hf HS8 HF8
              by_cases hn7 : n < 7
              · have hwn : IntKind.i64.wrap ((n : Int) + 1) = ((n + 1 : Nat) : Int) := by
                  rw [show ((n : Int) + 1) = ((n + 1 : Nat) : Int) by omega]
                  exact IntWalk.i64_in _ (by omega)
                obtain ⟨K, hK⟩ : ∃ K, min (r * 7 + n) 7 = K := ⟨_, rfl⟩
                rw [hK] at HSN
                obtain ⟨fo, fl, fm⟩ := fd_of ⟨n, hn7⟩ ⟨K, by omega⟩ (by show n ≤ K; omega)
                have HPUT : Hid (∀ y, y < 256 → (fdS K y || y == (mkR n).1) = fdS (min (r * 7 + (n + 1)) 7) y) := fun y hy => by
                  obtain ⟨p1, p2⟩ := fd_put ⟨n, hn7⟩ ⟨y, hy⟩
                  dsimp only at p1 p2
                  by_cases hr0 : r = 0
                  · have e1 : K = n := by rw [← hK, hr0]; omega
                    have e2 : min (r * 7 + (n + 1)) 7 = n + 1 := by rw [hr0]; omega
                    rw [e1, e2]; exact p1
                  · have e1 : K = 7 := by omega
                    have e2 : min (r * 7 + (n + 1)) 7 = 7 := by omega
                    rw [e1, e2]; exact p2
                dsimp only at fo fl fm
                have HRY := Lib.hid (fun W => recipe_yes (w := W) hn7)
                have HFO : Hid (∀ j (h : j < (ofR n).length), fdS K ((ofR n)[j]).1 = true ∧ ((ofR n)[j]).1 < 256) := fun j hj => fo ⟨j, by omega⟩ hj
                clear hK fo
                generalize ofR n = l5 at *
                generalize mkR n = q at *
                obtain ⟨g0, g1⟩ := q
                dsimp only at HRY HPUT fm
                obtain ⟨m5, hm5⟩ : ∃ m, l5.length = m := ⟨_, rfl⟩
                have HM5 := Lib.hid hm5
                rw [hm5] at HRY fl
                clear hm5
                go_wp2_with (go_at_call 8; refine (HRY.out _).mono ?_; rintro e w9 ⟨b9, rfl, _, hb, hf⟩; have hx := RdS.blk hb; rw [HM5.out] at hx; have hfa := hf.no_trans (Fr.alloc No w9 (.cells #[.int .u8 (g0 : Int), .int .i64 g1] 25)); have HX9 := Lib.hid (hx.no (Fr.alloc No w9 (.cells #[.int .u8 (g0 : Int), .int .i64 g1] 25))); have HB9 := Lib.hid (heap_alloc_new w9 (.cells #[.int .u8 (g0 : Int), .int .i64 g1] 25)); have HF9 := Lib.hid (HFN.out.no_trans hfa); have HS9 := Lib.hid (HSN.out.no hfa); clear hb hf hx hfa)
                obtain ⟨T9, hT9⟩ : ∃ T, w9.heap.size = T := ⟨_, rfl⟩
                rw [hT9] at HB9 ⊢
                clear hT9 HSN HFN
                generalize w9.alloc (.cells #[.int .u8 (g0 : Int), .int .i64 g1] 25) = wp at *
                go_loopw [20, 81] (fun v20 v81 wx => ∃ j : Nat, j ≤ m5 ∧ v20 = .bool true ∧ v81 = .int .i64 (j : Int) ∧ SetM wx X (6 + r * 7 + n) (fdS K) ∧ RdS wx (some ⟨b9, 0, none⟩) m5 l5 ∧ wx.heap[T9]? = some (.cells #[.int .u8 (g0 : Int), .int .i64 g1] 25 (0, 0)) ∧ Fr No w wx) (fun _ v81 _ => m5 - (intOf v81).toNat)
                case atStart => exact ⟨0, by omega, rfl, rfl, HS9.out, HX9.out, HB9.out, HF9.out⟩
                case round =>
                  obtain ⟨j, hj, rfl, rfl, hs, hx, hb, hf⟩ := hrel
                  have HSJ := Lib.hid hs
                  have HXJ := Lib.hid hx
                  have HBJ := Lib.hid hb
                  have HFJ := Lib.hid hf
                  clear hs hx hb hf HS9 HX9 HB9 HF9
                  by_cases hj5 : j < m5
                  · have hjl : j < l5.length := by have := HM5.out; omega
                    obtain ⟨f1, f2⟩ := HFO.out j hjl
                    obtain ⟨b0, o, hbo, _, hc⟩ := HXJ.out.2 (by omega)
                    injection hbo with hbo
                    injection hbo with hb1 hb2
                    subst hb1 hb2
                    obtain ⟨x0, x1⟩ := hc j hjl
                    rw [Nat.zero_add] at x0 x1
                    clear hc
                    generalize l5[j].1 = x at *
                    generalize l5[j].2 = y at *
                    have hlk := (HSJ.out.no (Fr.alloc No wr (.cells #[.int .u8 (x : Int), .int .i64 y] 25))).look f2
                    rw [f1] at hlk
                    have hwj : IntKind.i64.wrap ((j : Int) + 1) = ((j + 1 : Nat) : Int) := by
                      rw [show ((j : Int) + 1) = ((j + 1 : Nat) : Int) by omega]
                      exact IntWalk.i64_in _ (by omega)
                    clear f1
                    go_wp2_with fail
                    go_roundw
                    case rel => exact ⟨j + 1, by omega, rfl, by go_num, HSJ.out.no (Fr.alloc No _ _), HXJ.out.no (Fr.alloc No _ _), blk_no (Fr.alloc No _ _) HBJ.out, HFJ.out.no_trans (Fr.alloc No _ _)⟩
                    case measure => simp [intOf]; omega
                  · have hj52 : j = m5 := by omega
                    subst hj52
                    have d0 := blk_cell HBJ.out 0
                    simp at d0
                    go_wp2_with (at_mapUpdate; refine wpList_putS rfl _ _ _ rfl HSJ.out (by omega) g0 fm rfl rfl rfl ?_; intro w7 hs7 hf7; have HS7 := Lib.hid hs7; have HF7 := Lib.hid hf7; clear hs7 hf7)
                    go_roundw
                    case rel => exact ⟨n + 1, by omega, by go_num, HS7.out.ext HPUT.out (by omega), HFJ.out.then_new HF7.out (fun i h => by have h : i = X := h; rw [h]; exact HXL.out)⟩
                    case measure => simp [intOf]; omega
              · have hn72 : n = 7 := by omega
                subst hn72
                go_wp2_with fail
                go_roundw
                case rel => exact ⟨r + 1, by omega, by go_num, (by have e1 : 6 + (r + 1) * 7 = 6 + r * 7 + 7 := by omega
                                                                   have e2 : (r + 1) * 7 = r * 7 + 7 := by omega
                                                                   rw [e1, e2]; exact HSN.out), HFN.out⟩
                case measure => simp [intOf]; omega
          · have hr72 : r = 7 := by omega
            subst hr72
            go_wp2_with fail
            have HA : Hid (∀ W, Fr No w W → Calls Tryd.prog 21 #[] W fun e w' => e = .returned (.bool true) ∧ Fr No w w') := awake_w HT.out
            obtain ⟨st, hst⟩ : ∃ s, stI i = s := ⟨_, rfl⟩
            have HSK : Hid (∀ W, Fr No w W → Calls Tryd.prog 10 #[.int .u8 (i : Int)] W fun e w' => e = .returned (.int .i64 st) ∧ Fr No w w' ∧ Fr No W w') := fun W hW => (stack_any (HT.out.no hW) hi).mono (fun _ _ ⟨h1, h2⟩ => ⟨by rw [h1, hst], hW.no_trans h2, h2⟩)
            have hfd : fdS 7 i = decide (0 < st) := by rw [← hst]; exact fd_end ⟨i, hi⟩
            have hsd := HS.out.no (Fr.drew No wr)
            have hlk := hsd.look hi
            have HFD := Lib.hid (HF.out.no_trans (Fr.drew No wr))
            have HLK : Hid (∀ W, Fr No wr.drew W → (Instr.lookup 36 (.map (some X)) (.int .u8 (i : Int)) false).run Tryd.prog W = .ok (.int .i64 (if fdS 7 i then 1 else 0)) W) := fun W hW => (hsd.no hW).look hi
            rw [show min (7 * 7) 7 = 7 from rfl, hfd] at hlk
            rw [hfd] at HLK
            clear hsd hst hfd
            by_cases h0 : 0 < st
            · rw [decide_eq_true h0] at hlk HLK
              have b1 : decide (0 < st) = true := decide_eq_true h0
              go_region_with (first
                | (go_at_call 10; refine (HSK.out _ HFD.out).mono ?_; rintro e w5 ⟨rfl, hf, hg⟩; have HF5 := Lib.hid hf; have hlk5 := HLK.out w5 hg; clear hf hg)
                | (go_at_call 21; refine (HA.out _ HF5.out).mono ?_; rintro e w6 ⟨rfl, hf⟩; have HF6 := Lib.hid hf; clear hf))
              all_goals
                go_wp2_with fail
                go_ret
                exact ⟨rfl, HF6.out.noBelow⟩
            · rw [decide_eq_false h0] at hlk HLK
              have b1 : decide (0 < st) = false := decide_eq_false h0
              go_region_with (first
                | (go_at_call 10; refine (HSK.out _ HFD.out).mono ?_; rintro e w5 ⟨rfl, hf, hg⟩; have HF5 := Lib.hid hf; have hlk5 := HLK.out w5 hg; clear hf hg)
                | (go_at_call 21; refine (HA.out _ HF5.out).mono ?_; rintro e w6 ⟨rfl, hf⟩; have HF6 := Lib.hid hf; clear hf))
              all_goals
                go_wp2_with fail
                go_ret
                exact ⟨rfl, HF6.out.noBelow⟩
end
end Go.Proofs.YtjaklhfcgcjmmaaDoor

/-
  Chunks and players of a world: whether they rise, where one of a key stands, whether one is wrong. No statement of the seat is proved here.
-/
import Derived.Test.YtjdhbgdpmojobaaDoorWdG
import Derived.Test.YtjdhbgdpmojobaaDoorWdE
namespace Go.Proofs.YtjdhbgdpmojobaaDoor
open Go.RowKit Go.Deep

section
variable {w w' : World} {A : Option Addr} {n c lo : Nat}
set_option maxRecDepth 100000 in
theorem place_any {x y : Int} (hx0 : 0 ≤ x) (hx1 : x < 16) (hy0 : 0 ≤ y) (hy1 : y < 16) (A1 A2 A3 : Option Addr) (n1 c1 n2 c2 n3 c3 : Nat) (w : World) : Calls Tryd.prog 30 #[.agg #[.int .i64 x, .int .i64 y, .slice A1 n1 c1, .slice A2 n2 c2, .slice A3 n3 c3]] w fun e w' => e = .returned (.int .i64 (y * 16 + x)) ∧ Fr No w w' := by
  have HF0 := Lib.hid (Fr.alloc No w (.cells #[.int .i64 x, .int .i64 y, .slice A1 n1 c1, .slice A2 n2 c2, .slice A3 n3 c3] 31))
  obtain ⟨g0, g1, g2, g3, g4⟩ := cells5 (heap_alloc_new w (.cells #[.int .i64 x, .int .i64 y, .slice A1 n1 c1, .slice A2 n2 c2, .slice A3 n3 c3] 31))
  have h1 : IntKind.i64.wrap (y * 16) = y * 16 := by rw [IntKind.wrap_i64]; omega
  have h2 : IntKind.i64.wrap (y * 16 + x) = y * 16 + x := by rw [IntKind.wrap_i64]; omega
  go_enter Tryd.func30, Tryd.ntmps30
  go_wp2_with fail
  go_ret
  exact ⟨by first | rfl | (simp only [h1, h2]; rfl) | (simp [h1, h2, Act.put]), HF0.out⟩
set_option maxRecDepth 100000 in
theorem id_any (P : Pl) (w : World) : Calls Tryd.prog 37 #[P.val] w fun e w' => e = .returned (.int .i64 P.id) ∧ Fr No w w' := by
  obtain ⟨id, x, y, A1, n1, c1, l1, wi, A2, n2, c2, l2, ag⟩ := P
  dsimp only [Pl.val]
  have HF0 := Lib.hid (Fr.alloc No w (.cells #[.int .i64 id, .int .i64 x, .int .i64 y, .slice A1 n1 c1, .int .i64 wi, .slice A2 n2 c2, .bool ag] 35))
  obtain ⟨g0, g1, g2, g3, g4, g5, g6⟩ := cells7 (heap_alloc_new w (.cells #[.int .i64 id, .int .i64 x, .int .i64 y, .slice A1 n1 c1, .int .i64 wi, .slice A2 n2 c2, .bool ag] 35))
  go_enter Tryd.func37, Tryd.ntmps37
  go_wp2_with fail
  go_ret
  exact ⟨rfl, HF0.out⟩
set_option maxRecDepth 100000 in
set_option maxHeartbeats 3200000 in
theorem rises_ck {l : List Ch} (hx : RdCs w A n l) (hr : ∀ C ∈ l, 0 ≤ C.x ∧ C.x < 16 ∧ 0 ≤ C.y ∧ C.y < 16) (c : Nat) (hn : n ≤ 9223372036854775807) :
    Calls Tryd.prog 53 #[.slice A n c, .func (.func 30) #[] #[]] w fun e w' => e = .returned (.bool (decide (Rise (l.map (fun C => plcK C.ck))))) ∧ Fr No w w' := by
  have HX := Lib.hid (fun W (hW : Fr No w W) => hx.no hW)
  have HL := Lib.hid hx.2.1
  have HK : Hid (∀ j (hj : j < l.length) W, Calls Tryd.prog 30 #[.agg #[.int .i64 l[j].x, .int .i64 l[j].y, .slice l[j].A1 l[j].n1 l[j].c1, .slice l[j].A2 l[j].n2 l[j].c2, .slice l[j].A3 l[j].n3 l[j].c3]] W fun e w' => e = .returned (.int .i64 (plcK l[j].ck)) ∧ Fr No W w') := Lib.hid (fun j hj W => place_any (hr _ (List.getElem_mem hj)).1 (hr _ (List.getElem_mem hj)).2.1 (hr _ (List.getElem_mem hj)).2.2.1 (hr _ (List.getElem_mem hj)).2.2.2 _ _ _ _ _ _ _ _ _ W)
  have HT : Hid ((∀ j (h : j + 1 < l.length), plcK l[j].ck < plcK l[j + 1].ck) → decide (Rise (l.map (fun C => plcK C.ck))) = true) := Lib.hid (fun h => decide_eq_true (fun j hj => by
    rw [List.length_map] at hj
    rw [List.getElem_map, List.getElem_map]
    exact h j hj))
  have HN : Hid (∀ j (h : j + 1 < l.length), ¬ plcK l[j].ck < plcK l[j + 1].ck → decide (Rise (l.map (fun C => plcK C.ck))) = false) := Lib.hid (fun j h hq => decide_eq_false (fun hr => hq (by
    have := hr j (by rw [List.length_map]; exact h)
    rw [List.getElem_map, List.getElem_map] at this
    exact this)))
  clear hx hr
  go_enter Tryd.func53, Tryd.ntmps53
  go_wp2_with fail
  go_loopw [5] (fun v5 wr => ∃ k : Nat, (k = 1 ∨ k ≤ n) ∧ 1 ≤ k ∧ v5 = .int .i64 (k : Int) ∧ (∀ i (h : i + 1 < l.length), i + 1 < k → plcK l[i].ck < plcK l[i + 1].ck) ∧ Fr No w wr) (fun v5 _ => n - (intOf v5).toNat)
  case atStart => exact ⟨1, .inl rfl, Nat.le_refl _, rfl, fun _ _ h => absurd h (by omega), Fr.refl _ _⟩
  case round =>
    obtain ⟨k, hj, hk1, rfl, hi, hf⟩ := hrel
    have HF := Lib.hid hf
    have HI := Lib.hid hi
    clear hi hf
    by_cases hlt : k < n
    · obtain ⟨j, HJ⟩ : ∃ j, Hid (k = j + 1) := ⟨k - 1, Lib.hid (by omega)⟩
      have hjl : j < l.length := by have := HJ.out; rw [HL.out]; omega
      have hkl : k < l.length := by rw [HL.out]; exact hlt
      obtain ⟨b, o, hA, hb, x0, x1, x2, x3, x4⟩ := (HX.out wr HF.out).at j hjl
      subst hA
      obtain ⟨b', o', hA, _, y0, y1, y2, y3, y4⟩ := (HX.out wr HF.out).at k hkl
      injection hA with hA
      injection hA with e1 e2
      subst e1 e2
      have H1 := Lib.hid (HK.out j hjl)
      have H2 := Lib.hid (HK.out k hkl)
      have HALL : Hid (∀ W, Fr No wr W → (W.cell? ⟨b, o + j * 5, none⟩ = some (.int .i64 l[j].x) ∧ W.cell? ⟨b, o + j * 5 + 1, none⟩ = some (.int .i64 l[j].y) ∧ W.cell? ⟨b, o + j * 5 + 2, none⟩ = some (.slice l[j].A1 l[j].n1 l[j].c1) ∧ W.cell? ⟨b, o + j * 5 + 3, none⟩ = some (.slice l[j].A2 l[j].n2 l[j].c2) ∧ W.cell? ⟨b, o + j * 5 + 4, none⟩ = some (.slice l[j].A3 l[j].n3 l[j].c3)) ∧ (W.cell? ⟨b, o + k * 5, none⟩ = some (.int .i64 l[k].x) ∧ W.cell? ⟨b, o + k * 5 + 1, none⟩ = some (.int .i64 l[k].y) ∧ W.cell? ⟨b, o + k * 5 + 2, none⟩ = some (.slice l[k].A1 l[k].n1 l[k].c1) ∧ W.cell? ⟨b, o + k * 5 + 3, none⟩ = some (.slice l[k].A2 l[k].n2 l[k].c2) ∧ W.cell? ⟨b, o + k * 5 + 4, none⟩ = some (.slice l[k].A3 l[k].n3 l[k].c3))) := Lib.hid (fun W hW => by
        have q : ∀ p, W.cell? ⟨b, p, none⟩ = wr.cell? ⟨b, p, none⟩ := fun p => hW.cell (p := ⟨b, p, none⟩) hb (fun e => e)
        exact ⟨⟨(q _).trans x0, (q _).trans x1, (q _).trans x2, (q _).trans x3, (q _).trans x4⟩, ⟨(q _).trans y0, (q _).trans y1, (q _).trans y2, (q _).trans y3, (q _).trans y4⟩⟩)
      have HGO : Hid (plcK l[j].ck < plcK l[k].ck → ∀ i (h : i + 1 < l.length), i + 1 < k + 1 → plcK l[i].ck < plcK l[i + 1].ck) := Lib.hid (fun hq i h hij => by
        have hJ := HJ.out
        subst hJ
        by_cases e : i = j
        · subst e; exact hq
        · exact HI.out i h (by omega))
      have HNO : Hid (¬ plcK l[j].ck < plcK l[k].ck → decide (Rise (l.map (fun C => plcK C.ck))) = false) := Lib.hid (fun hq => by
        have hJ := HJ.out
        subst hJ
        exact HN.out j hkl (by omega))
      obtain ⟨p, hp⟩ : ∃ p, plcK l[j].ck = p := ⟨_, rfl⟩
      obtain ⟨q, hq⟩ : ∃ q, plcK l[k].ck = q := ⟨_, rfl⟩
      rw [hp] at H1 HGO HNO
      rw [hq] at H2 HGO HNO
      clear hp hq
      have hwk : IntKind.i64.wrap ((k : Int) - 1) = (j : Int) := by have := HJ.out; rw [IntKind.wrap_i64]; omega
      have hwn : IntKind.i64.wrap ((k : Int) + 1) = ((k + 1 : Nat) : Int) := by rw [IntKind.wrap_i64]; omega
      have hl1 : (k : Int) < (n : Int) := by omega
      have hl2 : (j : Int) < (n : Int) := by have := HJ.out; omega
      have hl3 : (0 : Int) ≤ (j : Int) := by omega
      have hl4 : (0 : Int) ≤ (k : Int) := by omega
      clear x0 y0 x1 y1 x2 y2 x3 y3 x4 y4
      have d0 := HALL.out wr (Fr.refl No wr)
      have dd := HALL.out wr.drew (Fr.drew No wr)
      generalize l[j].x = ux at *
      generalize l[j].y = uy at *
      generalize l[j].A1 = uA1 at *
      generalize l[j].n1 = un1 at *
      generalize l[j].c1 = uc1 at *
      generalize l[j].A2 = uA2 at *
      generalize l[j].n2 = un2 at *
      generalize l[j].c2 = uc2 at *
      generalize l[j].A3 = uA3 at *
      generalize l[j].n3 = un3 at *
      generalize l[j].c3 = uc3 at *
      generalize l[k].x = vx at *
      generalize l[k].y = vy at *
      generalize l[k].A1 = vA1 at *
      generalize l[k].n1 = vn1 at *
      generalize l[k].c1 = vc1 at *
      generalize l[k].A2 = vA2 at *
      generalize l[k].n2 = vn2 at *
      generalize l[k].c2 = vc2 at *
      generalize l[k].A3 = vA3 at *
      generalize l[k].n3 = vn3 at *
      generalize l[k].c3 = vc3 at *
      have hb : decide (p ≥ q) = true ∨ decide (p ≥ q) = false := by cases decide (p ≥ q) <;> simp
      go_upto_region 4 with fail
      go_cut [25] from 12 to 26 (fun v25 wz => v25 = .bool (decide (p ≥ q)) ∧ Fr No wr wz)
      case first =>
        go_region_held3 (fun W => (W.cell? ⟨b, o + j * 5, none⟩ = some (.int .i64 ux) ∧ W.cell? ⟨b, o + j * 5 + 1, none⟩ = some (.int .i64 uy) ∧ W.cell? ⟨b, o + j * 5 + 2, none⟩ = some (.slice uA1 un1 uc1) ∧ W.cell? ⟨b, o + j * 5 + 3, none⟩ = some (.slice uA2 un2 uc2) ∧ W.cell? ⟨b, o + j * 5 + 4, none⟩ = some (.slice uA3 un3 uc3)) ∧ (W.cell? ⟨b, o + k * 5, none⟩ = some (.int .i64 vx) ∧ W.cell? ⟨b, o + k * 5 + 1, none⟩ = some (.int .i64 vy) ∧ W.cell? ⟨b, o + k * 5 + 2, none⟩ = some (.slice vA1 vn1 vc1) ∧ W.cell? ⟨b, o + k * 5 + 3, none⟩ = some (.slice vA2 vn2 vc2) ∧ W.cell? ⟨b, o + k * 5 + 4, none⟩ = some (.slice vA3 vn3 vc3)))
          (first | exact d6 | exact d5 | exact dd | exact d0)
          (first
            | (go_at_call_of 30 (Value.agg #[.int .i64 ux, .int .i64 uy, .slice uA1 un1 uc1, .slice uA2 un2 uc2, .slice uA3 un3 uc3]); refine (H1.out _).mono ?_; rintro e w5 ⟨rfl, hf⟩; have HF5 := Lib.hid ((Fr.drew No wr).no_trans hf); have d5 := HALL.out w5 HF5.out; clear hf)
            | (go_at_call_of 30 (Value.agg #[.int .i64 vx, .int .i64 vy, .slice vA1 vn1 vc1, .slice vA2 vn2 vc2, .slice vA3 vn3 vc3]); refine (H2.out _).mono ?_; rintro e w6 ⟨rfl, hf⟩; have HF6 := Lib.hid (HF5.out.no_trans hf); have d6 := HALL.out w6 HF6.out; clear hf))
        go_wp2_with fail
        go_meet
        exact ⟨rfl, HF6.out⟩
      case rest =>
      obtain ⟨rfl, hfz⟩ := hcut
      have HFZ := Lib.hid (HF.out.no_trans hfz)
      clear hfz d0 dd hb
      by_cases hq : p < q
      · have hq' : ¬ p ≥ q := by omega
        rw [decide_eq_false hq']
        go_wp2_with fail
        go_roundw
        case rel => exact ⟨k + 1, .inr (by omega), by omega, by go_num, HGO.out hq, HFZ.out⟩
        case measure => simp [intOf]; omega
      · have hq' : p ≥ q := by omega
        rw [decide_eq_true hq']
        go_wp2_with fail
        go_ret
        exact ⟨by rw [HNO.out hq]; rfl, HFZ.out⟩
    · have hlt' : ¬ (k : Int) < (n : Int) := by omega
      go_wp2_with fail
      go_ret
      exact ⟨by rw [HT.out (fun i h => HI.out i h (by have := HL.out; omega))]; rfl, HF.out⟩
set_option maxRecDepth 100000 in
theorem s1_ck (C : Ch) (hc : 0 ≤ C.x ∧ C.x < 16 ∧ 0 ≤ C.y ∧ C.y < 16) {S : Nat} (hS : w.heap[S]? = some (.cells #[.func (.func 30) #[] #[]] 75 (0, 0))) (z : Int) : Calls Tryd.prog 61 #[.agg #[.int .i64 C.x, .int .i64 C.y, .slice C.A1 C.n1 C.c1, .slice C.A2 C.n2 C.c2, .slice C.A3 C.n3 C.c3], .int .i64 z, .pointer (some ⟨S, 0, none⟩)] w fun e w' => e = .returned (.int .i64 (cmpZ (plcK C.ck) z)) ∧ Fr No w w' := by
  have HK : Hid (∀ W, Calls Tryd.prog 30 #[.agg #[.int .i64 C.x, .int .i64 C.y, .slice C.A1 C.n1 C.c1, .slice C.A2 C.n2 C.c2, .slice C.A3 C.n3 C.c3]] W fun e w' => e = .returned (.int .i64 (plcK C.ck)) ∧ Fr No W w') := Lib.hid (fun W => place_any hc.1 hc.2.1 hc.2.2.1 hc.2.2.2 _ _ _ _ _ _ _ _ _ W)
  have HC := Lib.hid (fun a W => cmp_int a z (w := W))
  obtain ⟨p, hp⟩ : ∃ p, cmpZ (plcK C.ck) z = p := ⟨_, rfl⟩
  have HC1 : Hid (∀ W, Calls Tryd.prog 62 #[.int .i64 (plcK C.ck), .int .i64 z] W fun e w' => e = .returned (.int .i64 p) ∧ w' = W) := Lib.hid (fun W => by rw [← hp]; exact HC.out _ W)
  rw [hp]
  clear HC hp
  have HF0 := Lib.hid (Fr.alloc No w (.cells #[.int .i64 C.x, .int .i64 C.y, .slice C.A1 C.n1 C.c1, .slice C.A2 C.n2 C.c2, .slice C.A3 C.n3 C.c3] 31))
  have hb := heap_alloc_new w (.cells #[.int .i64 C.x, .int .i64 C.y, .slice C.A1 C.n1 C.c1, .slice C.A2 C.n2 C.c2, .slice C.A3 C.n3 C.c3] 31)
  have hS1 := (blk_cell (blk_no HF0.out hS) 0).trans (by simp : _ = some (Value.func (.func 30) #[] #[]))
  obtain ⟨g0, g1, g2, g3, g4⟩ := cells5 hb
  clear hb hS
  generalize (plcK C.ck) = kk at *
  generalize C.x = ax at *
  generalize C.y = ay at *
  generalize C.A1 = aA1 at *
  generalize C.n1 = an1 at *
  generalize C.c1 = ac1 at *
  generalize C.A2 = aA2 at *
  generalize C.n2 = an2 at *
  generalize C.c2 = ac2 at *
  generalize C.A3 = aA3 at *
  generalize C.n3 = an3 at *
  generalize C.c3 = ac3 at *
  go_enter Tryd.func61, Tryd.ntmps61
  go_wp2_with (first
    | (go_at_call 30; refine (HK.out _).mono ?_; rintro e w5 ⟨rfl, hf⟩; have HF5 := Lib.hid hf; clear hf)
    | (go_at_call 62; refine (HC1.out _).mono ?_; rintro e w6 ⟨rfl, rfl⟩))
  go_ret
  exact ⟨rfl, HF0.out.no_trans HF5.out⟩
set_option maxRecDepth 100000 in
set_option maxHeartbeats 3200000 in
theorem bsearch_ck {l : List Ch} (hx : RdCs w A n l) (hr : ∀ C ∈ l, 0 ≤ C.x ∧ C.x < 16 ∧ 0 ≤ C.y ∧ C.y < 16) (c : Nat) (hn : n ≤ 100000) (t : Int) {S : Nat} (hS : w.heap[S]? = some (.cells #[.func (.func 30) #[] #[]] 75 (0, 0))) (hs : ∀ i j (h : j < l.length) (hij : i < j), plcK l[i].ck < plcK l[j].ck) :
    Calls Tryd.prog 60 #[.slice A n c, .int .i64 t, .func (.func 61) #[] #[.pointer (some ⟨S, 0, none⟩)]] w fun e w' =>
      ∃ k : Nat, e = .returned (.tuple #[.int .i64 (k : Int), .bool (if h : k < l.length then decide (plcK l[k].ck = t) else false)]) ∧ AtB (l.map (fun C => plcK C.ck)) t k ∧ Fr No w w' := by
  have HX := Lib.hid (fun W (hW : Fr No w W) => hx.no hW)
  have HL := Lib.hid hx.2.1
  have HS := Lib.hid hs
  have HC0 : Hid (∀ j (hj : j < l.length) W, Fr No w W → Calls Tryd.prog 61 #[.agg #[.int .i64 l[j].x, .int .i64 l[j].y, .slice l[j].A1 l[j].n1 l[j].c1, .slice l[j].A2 l[j].n2 l[j].c2, .slice l[j].A3 l[j].n3 l[j].c3], .int .i64 t, .pointer (some ⟨S, 0, none⟩)] W fun e w' => e = .returned (.int .i64 (cmpZ (plcK l[j].ck) t)) ∧ Fr No W w') := Lib.hid (fun j hj W hW => s1_ck l[j] (hr _ (List.getElem_mem hj)) (blk_no hW hS) t)
  clear hx hs hS hr
  go_enter Tryd.func60, Tryd.ntmps60
  go_wp2_with fail
  go_loopw [9, 10] (fun v9 v10 wr => ∃ i j : Nat, i ≤ j ∧ j ≤ n ∧ v9 = .int .i64 (i : Int) ∧ v10 = .int .i64 (j : Int) ∧ (∀ k (h : k < l.length), k < i → plcK l[k].ck < t) ∧ (∀ k (h : k < l.length), j ≤ k → t ≤ plcK l[k].ck) ∧ Fr No w wr) (fun v9 v10 _ => (intOf v10).toNat - (intOf v9).toNat)
  case atStart => exact ⟨0, n, by omega, by omega, rfl, rfl, fun l _ h => absurd h (by omega), fun l h1 h2 => absurd h1 (by have := HL.out; omega), Fr.refl _ _⟩
  case round =>
    obtain ⟨i, j, hij, hj, rfl, rfl, h1, h2, hf⟩ := hrel
    have HF := Lib.hid hf
    have H1 := Lib.hid h1
    have H2 := Lib.hid h2
    clear hf h1 h2
    by_cases hlt : i < j
    · obtain ⟨h, hh⟩ : ∃ h, (i + j) / 2 = h := ⟨_, rfl⟩
      have hhn : h < n := by omega
      have hhl : h < l.length := by rw [HL.out]; exact hhn
      obtain ⟨b, o, rfl, _, y0, y1, y2, y3, y4⟩ := (HX.out wr HF.out).at h hhl
      have hw1 : IntKind.i64.wrap ((i : Int) + (j : Int)) = ((i + j : Nat) : Int) := by
        rw [show ((i : Int) + (j : Int)) = ((i + j : Nat) : Int) by omega]
        exact IntWalk.i64_in _ (by omega)
      have hw2 : IntKind.u64.wrap ((i + j : Nat) : Int) = ((i + j : Nat) : Int) := by
        exact IntWalk.u64_in _ (by omega)
      have HC := Lib.hid (HC0.out h hhl)
      obtain ⟨z, hz⟩ : ∃ z, cmpZ (plcK l[h].ck) t = z := ⟨_, rfl⟩
      have HZ := Lib.hid (cmpZ_lt (a := plcK l[h].ck) (b := t))
      rw [hz] at HC HZ
      have hi2 : ((i : Int) + (j : Int)) / 2 = (h : Int) := by omega
      by_cases hz0 : z < 0
      · have hbt := HZ.out.1 hz0
        go_wp2_with (refine (HC.out _ HF.out).mono ?_; rintro e w5 ⟨rfl, hf⟩; have HF5 := Lib.hid hf; clear hf)
        go_roundw
        case rel =>
          refine ⟨h + 1, j, by omega, hj, by first | rfl | go_num, rfl, fun k hl hlh => ?_, H2.out, HF.out.no_trans HF5.out⟩
          rcases Nat.lt_or_ge k h with e | e
          · exact Int.lt_trans (HS.out k h hhl e) hbt
          · obtain rfl : k = h := by omega
            exact hbt
        case measure => simp [intOf]; omega
      · have hbt : t ≤ plcK l[h].ck := by
          have := mt HZ.out.2 hz0
          omega
        go_wp2_with (refine (HC.out _ HF.out).mono ?_; rintro e w5 ⟨rfl, hf⟩; have HF5 := Lib.hid hf; clear hf)
        go_roundw
        case rel =>
          refine ⟨i, h, by omega, by omega, rfl, rfl, H1.out, fun k hl hlh => ?_, HF.out.no_trans HF5.out⟩
          rcases Nat.lt_or_ge h k with e | e
          · exact Int.le_of_lt (Int.lt_of_le_of_lt hbt (HS.out h k hl e))
          · obtain rfl : k = h := by omega
            exact hbt
        case measure => simp [intOf]; omega
    · have hije : i = j := by omega
      subst hije
      have HA : Hid (AtB (l.map (fun C => plcK C.ck)) t i) := Lib.hid ⟨by rw [List.length_map, HL.out]; exact hj, fun k hl hli => by rw [List.getElem_map]; exact H1.out k (by simpa using hl) hli, fun k hl hli => by rw [List.getElem_map]; exact H2.out k (by simpa using hl) hli⟩
      by_cases hin : i < n
      · have hil : i < l.length := by rw [HL.out]; exact hin
        obtain ⟨b, o, rfl, _, y0, y1, y2, y3, y4⟩ := (HX.out wr HF.out).at i hil
        have HC := Lib.hid (HC0.out i hil)
        obtain ⟨z, hz⟩ : ∃ z, cmpZ (plcK l[i].ck) t = z := ⟨_, rfl⟩
        have HZ := Lib.hid (cmpZ_eq (a := plcK l[i].ck) (b := t))
        rw [hz] at HC HZ
        clear hz
        have hlt' : (i : Int) < (n : Int) := by omega
        go_wp2_with (refine (HC.out _ HF.out).mono ?_; rintro e w5 ⟨rfl, hf⟩; have HF5 := Lib.hid hf; clear hf)
        refine bodyPost_ret (results_tmp2 rfl _ _ _) rfl ?_
        refine ⟨i, ?_, HA.out, HF.out.no_trans HF5.out⟩
        rw [dif_pos hil, ← HZ.out]
        rfl
      · have hil : ¬ i < l.length := by rw [HL.out]; exact hin
        have hlt' : ¬ (i : Int) < (n : Int) := by omega
        go_wp2_with fail
        refine bodyPost_ret (results_tmp2 rfl _ _ _) rfl ?_
        refine ⟨i, ?_, HA.out, HF.out⟩
        rw [dif_neg hil]
        rfl
set_option maxRecDepth 100000 in
theorem search_ck {l : List Ch} (hx : RdCs w A n l) (hr : ∀ C ∈ l, 0 ≤ C.x ∧ C.x < 16 ∧ 0 ≤ C.y ∧ C.y < 16) (c : Nat) (hn : n ≤ 100000) (t : Int) (hs : ∀ i j (h : j < l.length) (hij : i < j), plcK l[i].ck < plcK l[j].ck) :
    Calls Tryd.prog 29 #[.slice A n c, .func (.func 30) #[] #[], .int .i64 t] w fun e w' =>
      ∃ (k : Nat) (f : Bool), e = .returned (.tuple #[.int .i64 (k : Int), .bool f]) ∧ (f = if h : k < l.length then decide (plcK l[k].ck = t) else false) ∧ AtB (l.map (fun C => plcK C.ck)) t k ∧ Fr No w w' := by
  have hb := heap_alloc_new w (.cells #[.func (.func 30) #[] #[]] 75)
  have HF0 := Lib.hid (Fr.alloc No w (.cells #[.func (.func 30) #[] #[]] 75))
  have HB : Hid (Calls Tryd.prog 60 #[.slice A n c, .int .i64 t, .func (.func 61) #[] #[.pointer (some ⟨w.heap.size, 0, none⟩)]] (w.alloc (.cells #[.func (.func 30) #[] #[]] 75)) fun e w' =>
      ∃ (k : Nat) (f : Bool), e = .returned (.tuple #[.int .i64 (k : Int), .bool f]) ∧ (f = if h : k < l.length then decide (plcK l[k].ck = t) else false) ∧ AtB (l.map (fun C => plcK C.ck)) t k ∧ Fr No (w.alloc (.cells #[.func (.func 30) #[] #[]] 75)) w') :=
    Lib.hid ((bsearch_ck (hx.no HF0.out) hr c hn t hb hs).mono (fun e w' ⟨k, h1, h2, h3⟩ => ⟨k, _, h1, rfl, h2, h3⟩))
  clear hx hs hb hr
  go_enter Tryd.func29, Tryd.ntmps29
  go_wp2_with (refine HB.out.mono ?_; rintro e w5 ⟨k, f, rfl, hff, hk, hf⟩; have HFF := Lib.hid hff; have HK := Lib.hid hk; have HF5 := Lib.hid hf; clear hf hk hff)
  refine bodyPost_ret (results_tmp2 rfl _ _ _) rfl ?_
  exact ⟨k, f, rfl, HFF.out, HK.out, HF0.out.no_trans HF5.out⟩
set_option maxRecDepth 100000 in
set_option maxHeartbeats 3200000 in
theorem rises_py {l : List Pl} (hx : RdPs w A n l) (c : Nat) (hn : n ≤ 9223372036854775807) :
    Calls Tryd.prog 56 #[.slice A n c, .func (.func 37) #[] #[]] w fun e w' => e = .returned (.bool (decide (Rise (l.map (Pl.id))))) ∧ Fr No w w' := by
  have HX := Lib.hid (fun W (hW : Fr No w W) => hx.no hW)
  have HL := Lib.hid hx.2.1
  have HK : Hid (∀ j (hj : j < l.length) W, Calls Tryd.prog 37 #[.agg #[.int .i64 l[j].id, .int .i64 l[j].x, .int .i64 l[j].y, .slice l[j].A1 l[j].n1 l[j].c1, .int .i64 l[j].wi, .slice l[j].A2 l[j].n2 l[j].c2, .bool l[j].ag]] W fun e w' => e = .returned (.int .i64 (l[j].id)) ∧ Fr No W w') := Lib.hid (fun j hj W => id_any l[j] W)
  have HT : Hid ((∀ j (h : j + 1 < l.length), l[j].id < l[j + 1].id) → decide (Rise (l.map (Pl.id))) = true) := Lib.hid (fun h => decide_eq_true (fun j hj => by
    rw [List.length_map] at hj
    rw [List.getElem_map, List.getElem_map]
    exact h j hj))
  have HN : Hid (∀ j (h : j + 1 < l.length), ¬ l[j].id < l[j + 1].id → decide (Rise (l.map (Pl.id))) = false) := Lib.hid (fun j h hq => decide_eq_false (fun hr => hq (by
    have := hr j (by rw [List.length_map]; exact h)
    rw [List.getElem_map, List.getElem_map] at this
    exact this)))
  clear hx
  go_enter Tryd.func56, Tryd.ntmps56
  go_wp2_with fail
  go_loopw [5] (fun v5 wr => ∃ k : Nat, (k = 1 ∨ k ≤ n) ∧ 1 ≤ k ∧ v5 = .int .i64 (k : Int) ∧ (∀ i (h : i + 1 < l.length), i + 1 < k → l[i].id < l[i + 1].id) ∧ Fr No w wr) (fun v5 _ => n - (intOf v5).toNat)
  case atStart => exact ⟨1, .inl rfl, Nat.le_refl _, rfl, fun _ _ h => absurd h (by omega), Fr.refl _ _⟩
  case round =>
    obtain ⟨k, hj, hk1, rfl, hi, hf⟩ := hrel
    have HF := Lib.hid hf
    have HI := Lib.hid hi
    clear hi hf
    by_cases hlt : k < n
    · obtain ⟨j, HJ⟩ : ∃ j, Hid (k = j + 1) := ⟨k - 1, Lib.hid (by omega)⟩
      have hjl : j < l.length := by have := HJ.out; rw [HL.out]; omega
      have hkl : k < l.length := by rw [HL.out]; exact hlt
      obtain ⟨b, o, hA, hb, x0, x1, x2, x3, x4, x5, x6⟩ := (HX.out wr HF.out).at j hjl
      subst hA
      obtain ⟨b', o', hA, _, y0, y1, y2, y3, y4, y5, y6⟩ := (HX.out wr HF.out).at k hkl
      injection hA with hA
      injection hA with e1 e2
      subst e1 e2
      have H1 := Lib.hid (HK.out j hjl)
      have H2 := Lib.hid (HK.out k hkl)
      have HALL : Hid (∀ W, Fr No wr W → (W.cell? ⟨b, o + j * 7, none⟩ = some (.int .i64 l[j].id) ∧ W.cell? ⟨b, o + j * 7 + 1, none⟩ = some (.int .i64 l[j].x) ∧ W.cell? ⟨b, o + j * 7 + 2, none⟩ = some (.int .i64 l[j].y) ∧ W.cell? ⟨b, o + j * 7 + 3, none⟩ = some (.slice l[j].A1 l[j].n1 l[j].c1) ∧ W.cell? ⟨b, o + j * 7 + 4, none⟩ = some (.int .i64 l[j].wi) ∧ W.cell? ⟨b, o + j * 7 + 5, none⟩ = some (.slice l[j].A2 l[j].n2 l[j].c2) ∧ W.cell? ⟨b, o + j * 7 + 6, none⟩ = some (.bool l[j].ag)) ∧ (W.cell? ⟨b, o + k * 7, none⟩ = some (.int .i64 l[k].id) ∧ W.cell? ⟨b, o + k * 7 + 1, none⟩ = some (.int .i64 l[k].x) ∧ W.cell? ⟨b, o + k * 7 + 2, none⟩ = some (.int .i64 l[k].y) ∧ W.cell? ⟨b, o + k * 7 + 3, none⟩ = some (.slice l[k].A1 l[k].n1 l[k].c1) ∧ W.cell? ⟨b, o + k * 7 + 4, none⟩ = some (.int .i64 l[k].wi) ∧ W.cell? ⟨b, o + k * 7 + 5, none⟩ = some (.slice l[k].A2 l[k].n2 l[k].c2) ∧ W.cell? ⟨b, o + k * 7 + 6, none⟩ = some (.bool l[k].ag))) := Lib.hid (fun W hW => by
        have q : ∀ p, W.cell? ⟨b, p, none⟩ = wr.cell? ⟨b, p, none⟩ := fun p => hW.cell (p := ⟨b, p, none⟩) hb (fun e => e)
        exact ⟨⟨(q _).trans x0, (q _).trans x1, (q _).trans x2, (q _).trans x3, (q _).trans x4, (q _).trans x5, (q _).trans x6⟩, ⟨(q _).trans y0, (q _).trans y1, (q _).trans y2, (q _).trans y3, (q _).trans y4, (q _).trans y5, (q _).trans y6⟩⟩)
      have HGO : Hid (l[j].id < l[k].id → ∀ i (h : i + 1 < l.length), i + 1 < k + 1 → l[i].id < l[i + 1].id) := Lib.hid (fun hq i h hij => by
        have hJ := HJ.out
        subst hJ
        by_cases e : i = j
        · subst e; exact hq
        · exact HI.out i h (by omega))
      have HNO : Hid (¬ l[j].id < l[k].id → decide (Rise (l.map (Pl.id))) = false) := Lib.hid (fun hq => by
        have hJ := HJ.out
        subst hJ
        exact HN.out j hkl (by omega))
      have hwk : IntKind.i64.wrap ((k : Int) - 1) = (j : Int) := by have := HJ.out; rw [IntKind.wrap_i64]; omega
      have hwn : IntKind.i64.wrap ((k : Int) + 1) = ((k + 1 : Nat) : Int) := by rw [IntKind.wrap_i64]; omega
      have hl1 : (k : Int) < (n : Int) := by omega
      have hl2 : (j : Int) < (n : Int) := by have := HJ.out; omega
      have hl3 : (0 : Int) ≤ (j : Int) := by omega
      have hl4 : (0 : Int) ≤ (k : Int) := by omega
      clear x0 y0 x1 y1 x2 y2 x3 y3 x4 y4 x5 y5 x6 y6
      have d0 := HALL.out wr (Fr.refl No wr)
      have dd := HALL.out wr.drew (Fr.drew No wr)
      generalize l[j].id = p at *
      generalize l[j].x = ux at *
      generalize l[j].y = uy at *
      generalize l[j].A1 = uA1 at *
      generalize l[j].n1 = un1 at *
      generalize l[j].c1 = uc1 at *
      generalize l[j].wi = uwi at *
      generalize l[j].A2 = uA2 at *
      generalize l[j].n2 = un2 at *
      generalize l[j].c2 = uc2 at *
      generalize l[j].ag = uag at *
      generalize l[k].id = q at *
      generalize l[k].x = vx at *
      generalize l[k].y = vy at *
      generalize l[k].A1 = vA1 at *
      generalize l[k].n1 = vn1 at *
      generalize l[k].c1 = vc1 at *
      generalize l[k].wi = vwi at *
      generalize l[k].A2 = vA2 at *
      generalize l[k].n2 = vn2 at *
      generalize l[k].c2 = vc2 at *
      generalize l[k].ag = vag at *
      have hb : decide (p ≥ q) = true ∨ decide (p ≥ q) = false := by cases decide (p ≥ q) <;> simp
      go_upto_region 4 with fail
      go_cut [25] from 12 to 26 (fun v25 wz => v25 = .bool (decide (p ≥ q)) ∧ Fr No wr wz)
      case first =>
        go_region_held3 (fun W => (W.cell? ⟨b, o + j * 7, none⟩ = some (.int .i64 p) ∧ W.cell? ⟨b, o + j * 7 + 1, none⟩ = some (.int .i64 ux) ∧ W.cell? ⟨b, o + j * 7 + 2, none⟩ = some (.int .i64 uy) ∧ W.cell? ⟨b, o + j * 7 + 3, none⟩ = some (.slice uA1 un1 uc1) ∧ W.cell? ⟨b, o + j * 7 + 4, none⟩ = some (.int .i64 uwi) ∧ W.cell? ⟨b, o + j * 7 + 5, none⟩ = some (.slice uA2 un2 uc2) ∧ W.cell? ⟨b, o + j * 7 + 6, none⟩ = some (.bool uag)) ∧ (W.cell? ⟨b, o + k * 7, none⟩ = some (.int .i64 q) ∧ W.cell? ⟨b, o + k * 7 + 1, none⟩ = some (.int .i64 vx) ∧ W.cell? ⟨b, o + k * 7 + 2, none⟩ = some (.int .i64 vy) ∧ W.cell? ⟨b, o + k * 7 + 3, none⟩ = some (.slice vA1 vn1 vc1) ∧ W.cell? ⟨b, o + k * 7 + 4, none⟩ = some (.int .i64 vwi) ∧ W.cell? ⟨b, o + k * 7 + 5, none⟩ = some (.slice vA2 vn2 vc2) ∧ W.cell? ⟨b, o + k * 7 + 6, none⟩ = some (.bool vag)))
          (first | exact d6 | exact d5 | exact dd | exact d0)
          (first
            | (go_at_call_of 37 (Value.agg #[.int .i64 p, .int .i64 ux, .int .i64 uy, .slice uA1 un1 uc1, .int .i64 uwi, .slice uA2 un2 uc2, .bool uag]); refine (H1.out _).mono ?_; rintro e w5 ⟨rfl, hf⟩; have HF5 := Lib.hid ((Fr.drew No wr).no_trans hf); have d5 := HALL.out w5 HF5.out; clear hf)
            | (go_at_call_of 37 (Value.agg #[.int .i64 q, .int .i64 vx, .int .i64 vy, .slice vA1 vn1 vc1, .int .i64 vwi, .slice vA2 vn2 vc2, .bool vag]); refine (H2.out _).mono ?_; rintro e w6 ⟨rfl, hf⟩; have HF6 := Lib.hid (HF5.out.no_trans hf); have d6 := HALL.out w6 HF6.out; clear hf))
        go_wp2_with fail
        go_meet
        exact ⟨rfl, HF6.out⟩
      case rest =>
      obtain ⟨rfl, hfz⟩ := hcut
      have HFZ := Lib.hid (HF.out.no_trans hfz)
      clear hfz d0 dd hb
      by_cases hq : p < q
      · have hq' : ¬ p ≥ q := by omega
        rw [decide_eq_false hq']
        go_wp2_with fail
        go_roundw
        case rel => exact ⟨k + 1, .inr (by omega), by omega, by go_num, HGO.out hq, HFZ.out⟩
        case measure => simp [intOf]; omega
      · have hq' : p ≥ q := by omega
        rw [decide_eq_true hq']
        go_wp2_with fail
        go_ret
        exact ⟨by rw [HNO.out hq]; rfl, HFZ.out⟩
    · have hlt' : ¬ (k : Int) < (n : Int) := by omega
      go_wp2_with fail
      go_ret
      exact ⟨by rw [HT.out (fun i h => HI.out i h (by have := HL.out; omega))]; rfl, HF.out⟩
set_option maxRecDepth 100000 in
theorem s1_py (C : Pl) {S : Nat} (hS : w.heap[S]? = some (.cells #[.func (.func 37) #[] #[]] 82 (0, 0))) (z : Int) : Calls Tryd.prog 71 #[.agg #[.int .i64 C.id, .int .i64 C.x, .int .i64 C.y, .slice C.A1 C.n1 C.c1, .int .i64 C.wi, .slice C.A2 C.n2 C.c2, .bool C.ag], .int .i64 z, .pointer (some ⟨S, 0, none⟩)] w fun e w' => e = .returned (.int .i64 (cmpZ (C.id) z)) ∧ Fr No w w' := by
  have HK : Hid (∀ W, Calls Tryd.prog 37 #[.agg #[.int .i64 C.id, .int .i64 C.x, .int .i64 C.y, .slice C.A1 C.n1 C.c1, .int .i64 C.wi, .slice C.A2 C.n2 C.c2, .bool C.ag]] W fun e w' => e = .returned (.int .i64 (C.id)) ∧ Fr No W w') := Lib.hid (fun W => id_any C W)
  have HC := Lib.hid (fun a W => cmp_int a z (w := W))
  obtain ⟨p, hp⟩ : ∃ p, cmpZ (C.id) z = p := ⟨_, rfl⟩
  have HC1 : Hid (∀ W, Calls Tryd.prog 62 #[.int .i64 (C.id), .int .i64 z] W fun e w' => e = .returned (.int .i64 p) ∧ w' = W) := Lib.hid (fun W => by rw [← hp]; exact HC.out _ W)
  rw [hp]
  clear HC hp
  have HF0 := Lib.hid (Fr.alloc No w (.cells #[.int .i64 C.id, .int .i64 C.x, .int .i64 C.y, .slice C.A1 C.n1 C.c1, .int .i64 C.wi, .slice C.A2 C.n2 C.c2, .bool C.ag] 35))
  have hb := heap_alloc_new w (.cells #[.int .i64 C.id, .int .i64 C.x, .int .i64 C.y, .slice C.A1 C.n1 C.c1, .int .i64 C.wi, .slice C.A2 C.n2 C.c2, .bool C.ag] 35)
  have hS1 := (blk_cell (blk_no HF0.out hS) 0).trans (by simp : _ = some (Value.func (.func 37) #[] #[]))
  obtain ⟨g0, g1, g2, g3, g4, g5, g6⟩ := cells7 hb
  clear hb hS
  generalize (C.id) = kk at *
  generalize C.x = ax at *
  generalize C.y = ay at *
  generalize C.A1 = aA1 at *
  generalize C.n1 = an1 at *
  generalize C.c1 = ac1 at *
  generalize C.wi = awi at *
  generalize C.A2 = aA2 at *
  generalize C.n2 = an2 at *
  generalize C.c2 = ac2 at *
  generalize C.ag = aag at *
  go_enter Tryd.func71, Tryd.ntmps71
  go_wp2_with (first
    | (go_at_call 37; refine (HK.out _).mono ?_; rintro e w5 ⟨rfl, hf⟩; have HF5 := Lib.hid hf; clear hf)
    | (go_at_call 62; refine (HC1.out _).mono ?_; rintro e w6 ⟨rfl, rfl⟩))
  go_ret
  exact ⟨rfl, HF0.out.no_trans HF5.out⟩
set_option maxRecDepth 100000 in
set_option maxHeartbeats 3200000 in
theorem bsearch_py {l : List Pl} (hx : RdPs w A n l) (c : Nat) (hn : n ≤ 100000) (t : Int) {S : Nat} (hS : w.heap[S]? = some (.cells #[.func (.func 37) #[] #[]] 82 (0, 0))) (hs : ∀ i j (h : j < l.length) (hij : i < j), l[i].id < l[j].id) :
    Calls Tryd.prog 70 #[.slice A n c, .int .i64 t, .func (.func 71) #[] #[.pointer (some ⟨S, 0, none⟩)]] w fun e w' =>
      ∃ k : Nat, e = .returned (.tuple #[.int .i64 (k : Int), .bool (if h : k < l.length then decide (l[k].id = t) else false)]) ∧ AtB (l.map (Pl.id)) t k ∧ Fr No w w' := by
  have HX := Lib.hid (fun W (hW : Fr No w W) => hx.no hW)
  have HL := Lib.hid hx.2.1
  have HS := Lib.hid hs
  have HC0 : Hid (∀ j (hj : j < l.length) W, Fr No w W → Calls Tryd.prog 71 #[.agg #[.int .i64 l[j].id, .int .i64 l[j].x, .int .i64 l[j].y, .slice l[j].A1 l[j].n1 l[j].c1, .int .i64 l[j].wi, .slice l[j].A2 l[j].n2 l[j].c2, .bool l[j].ag], .int .i64 t, .pointer (some ⟨S, 0, none⟩)] W fun e w' => e = .returned (.int .i64 (cmpZ (l[j].id) t)) ∧ Fr No W w') := Lib.hid (fun j hj W hW => s1_py l[j] (blk_no hW hS) t)
  clear hx hs hS
  go_enter Tryd.func70, Tryd.ntmps70
  go_wp2_with fail
  go_loopw [9, 10] (fun v9 v10 wr => ∃ i j : Nat, i ≤ j ∧ j ≤ n ∧ v9 = .int .i64 (i : Int) ∧ v10 = .int .i64 (j : Int) ∧ (∀ k (h : k < l.length), k < i → l[k].id < t) ∧ (∀ k (h : k < l.length), j ≤ k → t ≤ l[k].id) ∧ Fr No w wr) (fun v9 v10 _ => (intOf v10).toNat - (intOf v9).toNat)
  case atStart => exact ⟨0, n, by omega, by omega, rfl, rfl, fun l _ h => absurd h (by omega), fun l h1 h2 => absurd h1 (by have := HL.out; omega), Fr.refl _ _⟩
  case round =>
    obtain ⟨i, j, hij, hj, rfl, rfl, h1, h2, hf⟩ := hrel
    have HF := Lib.hid hf
    have H1 := Lib.hid h1
    have H2 := Lib.hid h2
    clear hf h1 h2
    by_cases hlt : i < j
    · obtain ⟨h, hh⟩ : ∃ h, (i + j) / 2 = h := ⟨_, rfl⟩
      have hhn : h < n := by omega
      have hhl : h < l.length := by rw [HL.out]; exact hhn
      obtain ⟨b, o, rfl, _, y0, y1, y2, y3, y4, y5, y6⟩ := (HX.out wr HF.out).at h hhl
      have hw1 : IntKind.i64.wrap ((i : Int) + (j : Int)) = ((i + j : Nat) : Int) := by
        rw [show ((i : Int) + (j : Int)) = ((i + j : Nat) : Int) by omega]
        exact IntWalk.i64_in _ (by omega)
      have hw2 : IntKind.u64.wrap ((i + j : Nat) : Int) = ((i + j : Nat) : Int) := by
        exact IntWalk.u64_in _ (by omega)
      have HC := Lib.hid (HC0.out h hhl)
      obtain ⟨z, hz⟩ : ∃ z, cmpZ (l[h].id) t = z := ⟨_, rfl⟩
      have HZ := Lib.hid (cmpZ_lt (a := l[h].id) (b := t))
      rw [hz] at HC HZ
      have hi2 : ((i : Int) + (j : Int)) / 2 = (h : Int) := by omega
      by_cases hz0 : z < 0
      · have hbt := HZ.out.1 hz0
        go_wp2_with (refine (HC.out _ HF.out).mono ?_; rintro e w5 ⟨rfl, hf⟩; have HF5 := Lib.hid hf; clear hf)
        go_roundw
        case rel =>
          refine ⟨h + 1, j, by omega, hj, by first | rfl | go_num, rfl, fun k hl hlh => ?_, H2.out, HF.out.no_trans HF5.out⟩
          rcases Nat.lt_or_ge k h with e | e
          · exact Int.lt_trans (HS.out k h hhl e) hbt
          · obtain rfl : k = h := by omega
            exact hbt
        case measure => simp [intOf]; omega
      · have hbt : t ≤ l[h].id := by
          have := mt HZ.out.2 hz0
          omega
        go_wp2_with (refine (HC.out _ HF.out).mono ?_; rintro e w5 ⟨rfl, hf⟩; have HF5 := Lib.hid hf; clear hf)
        go_roundw
        case rel =>
          refine ⟨i, h, by omega, by omega, rfl, rfl, H1.out, fun k hl hlh => ?_, HF.out.no_trans HF5.out⟩
          rcases Nat.lt_or_ge h k with e | e
          · exact Int.le_of_lt (Int.lt_of_le_of_lt hbt (HS.out h k hl e))
          · obtain rfl : k = h := by omega
            exact hbt
        case measure => simp [intOf]; omega
    · have hije : i = j := by omega
      subst hije
      have HA : Hid (AtB (l.map (Pl.id)) t i) := Lib.hid ⟨by rw [List.length_map, HL.out]; exact hj, fun k hl hli => by rw [List.getElem_map]; exact H1.out k (by simpa using hl) hli, fun k hl hli => by rw [List.getElem_map]; exact H2.out k (by simpa using hl) hli⟩
      by_cases hin : i < n
      · have hil : i < l.length := by rw [HL.out]; exact hin
        obtain ⟨b, o, rfl, _, y0, y1, y2, y3, y4, y5, y6⟩ := (HX.out wr HF.out).at i hil
        have HC := Lib.hid (HC0.out i hil)
        obtain ⟨z, hz⟩ : ∃ z, cmpZ (l[i].id) t = z := ⟨_, rfl⟩
        have HZ := Lib.hid (cmpZ_eq (a := l[i].id) (b := t))
        rw [hz] at HC HZ
        clear hz
        have hlt' : (i : Int) < (n : Int) := by omega
        go_wp2_with (refine (HC.out _ HF.out).mono ?_; rintro e w5 ⟨rfl, hf⟩; have HF5 := Lib.hid hf; clear hf)
        refine bodyPost_ret (results_tmp2 rfl _ _ _) rfl ?_
        refine ⟨i, ?_, HA.out, HF.out.no_trans HF5.out⟩
        rw [dif_pos hil, ← HZ.out]
        rfl
      · have hil : ¬ i < l.length := by rw [HL.out]; exact hin
        have hlt' : ¬ (i : Int) < (n : Int) := by omega
        go_wp2_with fail
        refine bodyPost_ret (results_tmp2 rfl _ _ _) rfl ?_
        refine ⟨i, ?_, HA.out, HF.out⟩
        rw [dif_neg hil]
        rfl
set_option maxRecDepth 100000 in
theorem search_py {l : List Pl} (hx : RdPs w A n l) (c : Nat) (hn : n ≤ 100000) (t : Int) (hs : ∀ i j (h : j < l.length) (hij : i < j), l[i].id < l[j].id) :
    Calls Tryd.prog 36 #[.slice A n c, .func (.func 37) #[] #[], .int .i64 t] w fun e w' =>
      ∃ (k : Nat) (f : Bool), e = .returned (.tuple #[.int .i64 (k : Int), .bool f]) ∧ (f = if h : k < l.length then decide (l[k].id = t) else false) ∧ AtB (l.map (Pl.id)) t k ∧ Fr No w w' := by
  have hb := heap_alloc_new w (.cells #[.func (.func 37) #[] #[]] 82)
  have HF0 := Lib.hid (Fr.alloc No w (.cells #[.func (.func 37) #[] #[]] 82))
  have HB : Hid (Calls Tryd.prog 70 #[.slice A n c, .int .i64 t, .func (.func 71) #[] #[.pointer (some ⟨w.heap.size, 0, none⟩)]] (w.alloc (.cells #[.func (.func 37) #[] #[]] 82)) fun e w' =>
      ∃ (k : Nat) (f : Bool), e = .returned (.tuple #[.int .i64 (k : Int), .bool f]) ∧ (f = if h : k < l.length then decide (l[k].id = t) else false) ∧ AtB (l.map (Pl.id)) t k ∧ Fr No (w.alloc (.cells #[.func (.func 37) #[] #[]] 82)) w') :=
    Lib.hid ((bsearch_py (hx.no HF0.out) c hn t hb hs).mono (fun e w' ⟨k, h1, h2, h3⟩ => ⟨k, _, h1, rfl, h2, h3⟩))
  clear hx hs hb
  go_enter Tryd.func36, Tryd.ntmps36
  go_wp2_with (refine HB.out.mono ?_; rintro e w5 ⟨k, f, rfl, hff, hk, hf⟩; have HFF := Lib.hid hff; have HK := Lib.hid hk; have HF5 := Lib.hid hf; clear hf hk hff)
  refine bodyPost_ret (results_tmp2 rfl _ _ _) rfl ?_
  exact ⟨k, f, rfl, HFF.out, HK.out, HF0.out.no_trans HF5.out⟩
end
end Go.Proofs.YtjdhbgdpmojobaaDoor

/-
  The document's disk: 'put'. No statement of the seat is proved here.
-/
import Derived.Test.YtnkgcafebmacjaaDtE
import Derived.Deep.QuietTactic
import Derived.BigQuiet
namespace Go.Proofs.Ytnkgcafebmacjaa
open Go.RowKit Go.Maps

theorem Fr.drewNn (F : Nat → Prop) (w : World) (n : Nat) : Fr F w (w.drewN n) := ⟨rfl, rfl, rfl, Nat.le_refl _, fun _ _ _ => rfl⟩
def losF (nm : List UInt8) (l : List Fl) : List Fl := l.filter fun g => Op.bytesLess g.nm nm
def hisF (nm : List UInt8) (l : List Fl) : List Fl := l.filter fun g => !(Op.bytesLess g.nm nm || g.nm == nm)
theorem take_flt (p : Fl → Bool) {fs : List Fl} {i : Nat} {g : Fl} (h : fs[i]? = some g) : (fs.take (i + 1)).filter p = (fs.take i).filter p ++ (if p g then [g] else []) := by
  rw [List.take_add_one, h, List.filter_append]
  cases hp : p g <;> simp [hp]
/-- What put leaves: a disk with these files. -/
def Putd (w : World) (mo lf : Int) (dn : Bool) (L : List Fl) (e : Ending) (w' : World) : Prop :=
  ∃ A2 c2, e = .returned (.agg #[.int .i64 mo, .slice A2 L.length c2, .int .i64 lf, .bool dn]) ∧ Rk w' A2 L.length L ∧ Fr No w w'
/-- .. whose row is new. -/
def PutF (w : World) (mo lf : Int) (dn : Bool) (L : List Fl) (e : Ending) (w' : World) : Prop :=
  ∃ A2 c2, e = .returned (.agg #[.int .i64 mo, .slice A2 L.length c2, .int .i64 lf, .bool dn]) ∧ Rk w' A2 L.length L ∧ Fr No w w' ∧ ∀ a, A2 = some a → w.heap.size ≤ a.block
set_option maxRecDepth 100000 in
theorem putd_end {w w1 w8 : World} {P : Nat} (hP : w.heap.size = P) (hf1 : Fr No w w1) (hf8 : Fr No w1 w8) (h2 : w1.heap[P + 1 + 1]? = some (.cells #[.int .i64 0, .slice none 0 0, .int .i64 0, .bool false] 29 (0, 0)))
    {v : Value} {L : List Fl} (ho : w8.ownsRow w1.heap.size 73 3 v L.length (rfsCells L)) (hr : ∀ g ∈ L, Rd w w.heap.size g.A g.bs.length g.bs) (mo lf : Int) (dn : Bool) :
    (((((w8.setCell ⟨P, 1, none⟩ v).setCell ⟨P + 1 + 1, 0, none⟩ (.int .i64 mo)).setCell ⟨P + 1 + 1, 1, none⟩ v).setCell ⟨P + 1 + 1, 2, none⟩ (.int .i64 lf)).setCell ⟨P + 1 + 1, 3, none⟩ (.bool dn)).heap[P + 1 + 1]? = some (.cells #[.int .i64 mo, v, .int .i64 lf, .bool dn] 29 (0, 0)) ∧
      PutF w mo lf dn L (.returned (.agg #[.int .i64 mo, v, .int .i64 lf, .bool dn])) (((((w8.setCell ⟨P, 1, none⟩ v).setCell ⟨P + 1 + 1, 0, none⟩ (.int .i64 mo)).setCell ⟨P + 1 + 1, 1, none⟩ v).setCell ⟨P + 1 + 1, 2, none⟩ (.int .i64 lf)).setCell ⟨P + 1 + 1, 3, none⟩ (.bool dn)) := by
  have hlt := (Array.getElem?_eq_some_iff.1 h2).1
  have e8 := (hf8.block (P + 1 + 1) hlt (fun e => e)).trans h2
  have e9 : (w8.setCell ⟨P, 1, none⟩ v).heap[P + 1 + 1]? = _ := (Below.heap_setCell _ _ _ _ (show P + 1 + 1 ≠ P by omega)).trans e8
  have hb := heap_cells_set _ (P + 1 + 1) 3 _ _ (.bool dn) (heap_cells_set _ (P + 1 + 1) 2 _ _ (.int .i64 lf) (heap_cells_set _ (P + 1 + 1) 1 _ _ v (heap_cells_set _ (P + 1 + 1) 0 _ _ (.int .i64 mo) e9)))
  have hfr : Fr (fun k => k = P ∨ k = P + 1 + 1) w8 (((((w8.setCell ⟨P, 1, none⟩ v).setCell ⟨P + 1 + 1, 0, none⟩ (.int .i64 mo)).setCell ⟨P + 1 + 1, 1, none⟩ v).setCell ⟨P + 1 + 1, 2, none⟩ (.int .i64 lf)).setCell ⟨P + 1 + 1, 3, none⟩ (.bool dn)) :=
    ((((Fr.setCell w8 ⟨P, 1, none⟩ _ (F := fun k => k = P ∨ k = P + 1 + 1) (.inl rfl)).trans (Fr.setCell _ ⟨P + 1 + 1, 0, none⟩ _ (F := fun k => k = P ∨ k = P + 1 + 1) (.inr rfl)) (fun _ _ e => e)).trans (Fr.setCell _ ⟨P + 1 + 1, 1, none⟩ _ (F := fun k => k = P ∨ k = P + 1 + 1) (.inr rfl)) (fun _ _ e => e)).trans (Fr.setCell _ ⟨P + 1 + 1, 2, none⟩ _ (F := fun k => k = P ∨ k = P + 1 + 1) (.inr rfl)) (fun _ _ e => e)).trans (Fr.setCell _ ⟨P + 1 + 1, 3, none⟩ _ (F := fun k => k = P ∨ k = P + 1 + 1) (.inr rfl)) (fun _ _ e => e)
  refine ⟨?_, ?_⟩
  · rw [hb]
    rfl
  · have hown := own_keep (w' := _) ho (fun k hk => hfr.block k (ho.lt k hk).2 (fun e => by have := (ho.lt k hk).1; omega))
    have hfw := (hf1.no_trans hf8).trans hfr (fun i hi e => by omega)
    obtain ⟨A2, c2, rfl, hk⟩ := own_files hown (fun g hg => (hfw.rd (Nat.le_refl _) (hr g hg)).more hfw.size)
    exact ⟨A2, c2, rfl, hk, hfw, fun a ha => by subst ha; exact Nat.le_trans hf1.size (hown.lt a.block rfl).1⟩
set_option maxHeartbeats 8000000 in
set_option maxRecDepth 100000 in
theorem rput_fr {w : World} {A : Option Addr} {n c : Nat} {fs : List Fl} (h : Rk w A n fs) (hn : n ≤ 500) (mo lf : Int) (dn : Bool) (f : Fl) (hf : Rd w w.heap.size f.A f.bs.length f.bs) (gone : Bool) :
    Calls Try.prog 42 #[.agg #[.int .i64 mo, .slice A n c, .int .i64 lf, .bool dn], .agg #[.string ⟨f.nm.toArray⟩, .slice f.A f.bs.length f.c, .int .i64 (f.fm : Int)], .bool gone] w (PutF w mo lf dn (losF f.nm fs ++ (if gone then [] else [f]) ++ hisF f.nm fs)) := by
  have H := Lib.hid h
  have HFR := Lib.hid hf
  have HLN := Lib.hid h.len
  clear h hf
  obtain ⟨L, HLL⟩ : ∃ L, Hid (losF f.nm fs ++ (if gone then [] else [f]) ++ hisF f.nm fs = L) := ⟨_, rfl⟩
  rw [HLL.out]
  obtain ⟨Q, HQ⟩ : ∃ Q : Ending → World → Prop, Hid (PutF w mo lf dn L = Q) := ⟨_, rfl⟩
  rw [HQ.out]
  go_enter Try.func42, Try.ntmps42
  go_wp2_with fail
  obtain ⟨w1, hw1⟩ : ∃ w1, ((w.alloc (.cells #[.int .i64 mo, .slice A n c, .int .i64 lf, .bool dn] 29)).alloc (.cells #[.string ⟨f.nm.toArray⟩, .slice f.A f.bs.length f.c, .int .i64 (f.fm : Int)] 73)).alloc (.cells #[.int .i64 0, .slice none 0 0, .int .i64 0, .bool false] 29) = w1 := ⟨_, rfl⟩
  have hf1 : Fr No w w1 := by rw [← hw1]; exact ((Fr.alloc No w _).no_trans (Fr.alloc No _ _)).no_trans (Fr.alloc No _ _)
  have HB0 := Lib.hid (show w1.heap[w.heap.size]? = some (.cells #[.int .i64 mo, .slice A n c, .int .i64 lf, .bool dn] 29 (0, 0)) by
    rw [← hw1]
    exact (Below.heap_alloc _ _ _ (by simp; omega)).trans ((Below.heap_alloc _ _ _ (by simp)).trans (heap_alloc_new w _)))
  have HB1 := Lib.hid (show w1.heap[w.heap.size + 1]? = some (.cells #[.string ⟨f.nm.toArray⟩, .slice f.A f.bs.length f.c, .int .i64 (f.fm : Int)] 73 (0, 0)) by
    rw [← hw1]
    exact (Below.heap_alloc _ _ _ (by simp)).trans (heap2' w _ _))
  have HB2 := Lib.hid (show w1.heap[w.heap.size + 1 + 1]? = some (.cells #[.int .i64 0, .slice none 0 0, .int .i64 0, .bool false] 29 (0, 0)) by rw [← hw1]; exact heap3 w _ _ _)
  rw [hw1]
  clear hw1
  have HF1 := Lib.hid hf1
  have HSZ := Lib.hid (show w.heap.size + 1 + 1 < w1.heap.size from (Array.getElem?_eq_some_iff.1 HB2.out).1)
  obtain ⟨P, HP⟩ : ∃ P, Hid (w.heap.size = P) := ⟨_, rfl⟩
  rw [HP.out] at HB0 HB1 HB2 HSZ ⊢
  clear hf1
  have HK1 := Lib.hid (H.out.no HF1.out)
  go_loopw [7, 8, 9] (fun v7 v8 v9 wr => ∃ (i : Nat) (Aa Ab : Option Addr) (na ca nb cb : Nat), i ≤ n ∧ v7 = .slice Aa na ca ∧ v8 = .slice Ab nb cb ∧ v9 = .int .i64 (i : Int) ∧ Pt w1 wr (.slice Aa na ca) (.slice Ab nb cb) (losF f.nm (fs.take i)) (hisF f.nm (fs.take i))) (fun _ _ v9 _ => n - (intOf v9).toNat)
  case atStart => exact ⟨0, none, none, 0, 0, 0, 0, by omega, rfl, rfl, rfl, ⟨World.ownsRow_nil _ _ _ _, World.ownsRow_nil _ _ _ _, (fun g _ e => by cases e), Fr.refl _ _⟩⟩
  case round =>
    obtain ⟨i, Aa, Ab, na, ca, nb, cb, hi, rfl, rfl, rfl, hPt⟩ := hrel
    have HPT := Lib.hid hPt
    clear hPt
    have HBX := Lib.hid (show ∀ W, Fr No w1 W → W.cell? ⟨P, 1, none⟩ = some (.slice A n c) ∧ W.cell? ⟨P + 1, 0, none⟩ = some (.string ⟨f.nm.toArray⟩) from fun W hW => ⟨hW.cell (by unfold World.cell?; rw [HB0.out]; rfl) (fun e => e), hW.cell (by unfold World.cell?; rw [HB1.out]; rfl) (fun e => e)⟩)
    by_cases hlt : i < n
    · obtain ⟨g, hg⟩ : ∃ g, fs[i]? = some g := ⟨_, List.getElem?_eq_getElem (by have := HLN.out; omega)⟩
      have HG := Lib.hid hg
      obtain ⟨b, o, rfl, hb, hc⟩ := HK1.out.at_ (by omega)
      have hcg := hc i g hg
      have HCG := Lib.hid (show ∀ W, Fr No w1 W → W.cell? ⟨b, o + i * 3, none⟩ = some (.string ⟨g.nm.toArray⟩) ∧ W.cell? ⟨b, o + i * 3 + 1, none⟩ = some (.slice g.A g.bs.length g.c) ∧ W.cell? ⟨b, o + i * 3 + 2, none⟩ = some (.int .i64 (g.fm : Int)) from fun W hW => ⟨hW.cell hcg.1 (fun e => e), hW.cell hcg.2.1 (fun e => e), hW.cell hcg.2.2 (fun e => e)⟩)
      have hin : (i : Int) < (n : Int) := by omega
      have hi0 : (0 : Int) ≤ (i : Int) := by omega
      have hwi : IntKind.i64.wrap ((i : Int) + 1) = ((i + 1 : Nat) : Int) := by
        rw [show ((i : Int) + 1) = ((i + 1 : Nat) : Int) by omega]
        exact IntWalk.i64_in _ (by omega)
      have HL1 := Lib.hid (show (losF f.nm (fs.take i)).length ≤ 1000 ∧ (hisF f.nm (fs.take i)).length ≤ 1000 from by
        have a1 := List.length_filter_le (fun g : Fl => Op.bytesLess g.nm f.nm) (fs.take i)
        have a2 := List.length_filter_le (fun g : Fl => !(Op.bytesLess g.nm f.nm || g.nm == f.nm)) (fs.take i)
        rw [List.length_take] at a1 a2
        exact ⟨by unfold losF; omega, by unfold hisF; omega⟩)
      clear hc hcg hg
      obtain ⟨x0, x1⟩ := HBX.out _ HPT.out.fr
      obtain ⟨y0, y1, y2⟩ := HCG.out _ HPT.out.fr
      go_wp2_with fail
      go_quiet (fail)
      obtain ⟨w4, hw4⟩ : ∃ w4, wr.drewN nq = w4 := ⟨_, rfl⟩
      have HP4 := Lib.hid (HPT.out.no (show Fr No wr w4 from by rw [← hw4]; exact Fr.drewNn No wr nq))
      rw [hw4]
      clear hw4 x0 x1 y0 y1 y2
      obtain ⟨x0, x1⟩ := HBX.out _ HP4.out.fr
      obtain ⟨y0, y1, y2⟩ := HCG.out _ HP4.out.fr
      cases hb1 : Op.bytesLess g.nm f.nm with
      | true =>
        go_wp2_with (at_builtin; refine wpList_append_rf w1 _ rfl (.tmp 26) (.tmp 32) rfl HP4.out HL1.out.1 g _ rfl rfl _ rfl rfl ?_; intro g5 cap5 w5 hw5; have HP5 := Lib.hid hw5; clear hw5 x0 x1 y0 y1 y2; obtain ⟨x0, x1⟩ := HBX.out _ HP5.out.fr; obtain ⟨y0, y1, y2⟩ := HCG.out _ HP5.out.fr)
        go_quiet (fail)
        obtain ⟨w6, hw6⟩ : ∃ w6, w5.drewN nq = w6 := ⟨_, rfl⟩
        have HP6 := Lib.hid (HP5.out.no (show Fr No w5 w6 from by rw [← hw6]; exact Fr.drewNn No w5 nq))
        rw [hw6]
        clear hw6 x0 x1 y0 y1 y2
        obtain ⟨x0, x1⟩ := HBX.out _ HP6.out.fr
        go_wp2_with fail
        go_roundw
        case rel => exact ⟨i + 1, _, _, _, _, _, _, by omega, rfl, rfl, by go_num, by
          unfold losF hisF
          rw [take_flt _ HG.out, take_flt _ HG.out, hb1]
          simp only [Bool.true_or, Bool.not_true, if_true, Bool.false_eq_true, if_false, List.append_nil]
          exact HP6.out⟩
        case measure => simp [intOf]; omega
      | false =>
        go_wp2_with fail
        go_quiet (fail)
        obtain ⟨w6, hw6⟩ : ∃ w6, w4.drewN nq = w6 := ⟨_, rfl⟩
        have HP6 := Lib.hid (HP4.out.no (show Fr No w4 w6 from by rw [← hw6]; exact Fr.drewNn No w4 nq))
        rw [hw6]
        clear hw6 x0 x1 y0 y1 y2
        obtain ⟨x0, x1⟩ := HBX.out _ HP6.out.fr
        obtain ⟨y0, y1, y2⟩ := HCG.out _ HP6.out.fr
        cases hb2 : (g.nm == f.nm) with
        | false =>
          go_wp2_with (at_builtin; refine wpList_append_rf w1 _ rfl (.tmp 43) (.tmp 49) rfl HP6.out.swap HL1.out.2 g _ rfl rfl _ rfl rfl ?_; intro g7 cap7 w7 hw7; have HP7 := Lib.hid hw7.swap; clear hw7)
          go_roundw
          case rel => exact ⟨i + 1, _, _, _, _, _, _, by omega, rfl, rfl, by go_num, by
            unfold losF hisF
            rw [take_flt _ HG.out, take_flt _ HG.out, hb1, hb2]
            simp only [Bool.false_or, Bool.not_false, if_true, Bool.false_eq_true, if_false, List.append_nil]
            exact HP7.out⟩
          case measure => simp [intOf]; omega
        | true =>
          go_wp2_with fail
          go_roundw
          case rel => exact ⟨i + 1, _, _, _, _, _, _, by omega, rfl, rfl, by go_num, by
            unfold losF hisF
            rw [take_flt _ HG.out, take_flt _ HG.out, hb1, hb2]
            simp only [Bool.or_true, Bool.not_true, Bool.false_eq_true, if_false, List.append_nil]
            exact HP6.out⟩
          case measure => simp [intOf]; omega
    · have hie : i = n := by omega
      subst hie
      clear hlt hi
      have htk : fs.take i = fs := by rw [List.take_of_length_le (by have := HLN.out; omega)]
      have HPZ := Lib.hid HPT.out
      rw [htk] at HPZ
      have HL1 := Lib.hid (show (losF f.nm fs).length ≤ 500 ∧ (hisF f.nm fs).length ≤ 500 from by
        have a1 := List.length_filter_le (fun g : Fl => Op.bytesLess g.nm f.nm) fs
        have a2 := List.length_filter_le (fun g : Fl => !(Op.bytesLess g.nm f.nm || g.nm == f.nm)) fs
        have := HLN.out
        exact ⟨by unfold losF; omega, by unfold hisF; omega⟩)
      have HBY := Lib.hid (show ∀ W, Fr No w1 W → (W.cell? ⟨P, 0, none⟩ = some (.int .i64 mo) ∧ W.cell? ⟨P, 1, none⟩ = some (.slice A i c) ∧ W.cell? ⟨P, 2, none⟩ = some (.int .i64 lf) ∧ W.cell? ⟨P, 3, none⟩ = some (.bool dn)) ∧
          (W.cell? ⟨P + 1, 0, none⟩ = some (.string ⟨f.nm.toArray⟩) ∧ W.cell? ⟨P + 1, 1, none⟩ = some (.slice f.A f.bs.length f.c) ∧ W.cell? ⟨P + 1, 2, none⟩ = some (.int .i64 (f.fm : Int))) ∧
          (W.cell? ⟨P + 1 + 1, 0, none⟩ = some (.int .i64 0) ∧ W.cell? ⟨P + 1 + 1, 1, none⟩ = some (.slice none 0 0) ∧ W.cell? ⟨P + 1 + 1, 2, none⟩ = some (.int .i64 0) ∧ W.cell? ⟨P + 1 + 1, 3, none⟩ = some (.bool false)) from fun W hW => by
        have e0 := (hW.block P (Array.getElem?_eq_some_iff.1 HB0.out).1 (fun e => e)).trans HB0.out
        have e1 := (hW.block (P + 1) (Array.getElem?_eq_some_iff.1 HB1.out).1 (fun e => e)).trans HB1.out
        have e2 := (hW.block (P + 1 + 1) (Array.getElem?_eq_some_iff.1 HB2.out).1 (fun e => e)).trans HB2.out
        unfold World.cell?
        simp only [e0, e1, e2]
        exact ⟨⟨rfl, rfl, rfl, rfl⟩, ⟨rfl, rfl, rfl⟩, rfl, rfl, rfl, rfl⟩)
      have HZY := Lib.hid (show ∀ W, Fr No w1 W → W.frozen? ⟨P, 1, none⟩ = false ∧ W.frozen? ⟨P + 1 + 1, 0, none⟩ = false ∧ W.frozen? ⟨P + 1 + 1, 1, none⟩ = false ∧ W.frozen? ⟨P + 1 + 1, 2, none⟩ = false ∧ W.frozen? ⟨P + 1 + 1, 3, none⟩ = false from fun W hW => by
        have e0 := (hW.block P (Array.getElem?_eq_some_iff.1 HB0.out).1 (fun e => e)).trans HB0.out
        have e2 := (hW.block (P + 1 + 1) (Array.getElem?_eq_some_iff.1 HB2.out).1 (fun e => e)).trans HB2.out
        unfold World.frozen?
        simp [e0, e2])
      clear htk
      cases gone with
      | true =>
        have HRL := Lib.hid (show ∀ g ∈ L, Rd w w.heap.size g.A g.bs.length g.bs from fun g hg => by
          rw [← HLL.out] at hg
          rcases List.mem_append.1 hg with e | e
          · rcases List.mem_append.1 e with e | e
            · exact H.out.rd g (List.mem_filter.1 e).1
            · simp at e
          · exact H.out.rd g (List.mem_filter.1 e).1)
        by_cases h0 : (hisF f.nm fs).length = 0
        · have hll : losF f.nm fs = L := by rw [← HLL.out]; simp [List.length_eq_zero_iff.1 h0]
          obtain ⟨nbA, hnb⟩ : ∃ A c, Value.slice Ab nb cb = .slice A 0 c := by
            obtain ⟨A, c, e⟩ := own_sl HPZ.out.ob
            rw [h0] at e
            exact ⟨A, c, e⟩
          obtain ⟨hnc, hne⟩ := hnb
          injection hne with _ e2 _
          subst e2
          obtain ⟨x0, x1⟩ := HBX.out _ HPZ.out.fr
          obtain ⟨⟨p0, p1, p2, p3⟩, ⟨b0, b1, b2⟩, r0, r1, r2, r3⟩ := HBY.out _ HPZ.out.fr
          obtain ⟨z0, z1, z2, z3, z4⟩ := HZY.out _ HPZ.out.fr
          have hca := own_cap HPZ.out.oa
          go_wp2_with (at_builtin; refine wpList_append_noth rfl (.tmp 57) (.tmp 58) rfl Aa Ab na ca cb hca rfl rfl ?_)
          have hend := putd_end HP.out HF1.out HPZ.out.fr HB2.out (v := (.slice Aa na ca)) (L := L) (by rw [← hll]; exact HPZ.out.oa) HRL.out mo lf dn
          refine bodyPost_ret (results_cell_row (p := 6) rfl _ _ (P + 1 + 1) 29 #[.int .i64 mo, (.slice Aa na ca), .int .i64 lf, .bool dn] (0, 0) _ rfl hend.1 Try.underlying29 rfl (by kernel_rfl)) rfl ?_
          rw [← HQ.out]
          exact hend.2
        · obtain ⟨G, hAb, hnb⟩ : ∃ G, Ab = some ⟨G, 0, none⟩ ∧ nb = (hisF f.nm fs).length := by
            rcases HPZ.out.ob.2 with ⟨e, e0⟩ | ⟨G, cap, cur, e, _⟩
            · exact absurd e0 h0
            · injection e with e1 e2 e3
              exact ⟨G, e1, e2⟩
          subst hAb hnb
          have hll : losF f.nm fs ++ hisF f.nm fs = L := by rw [← HLL.out]; simp
          obtain ⟨x0, x1⟩ := HBX.out _ HPZ.out.fr
          obtain ⟨⟨p0, p1, p2, p3⟩, ⟨b0, b1, b2⟩, r0, r1, r2, r3⟩ := HBY.out _ HPZ.out.fr
          obtain ⟨z0, z1, z2, z3, z4⟩ := HZY.out _ HPZ.out.fr
          go_wp2_with (at_builtin; refine wpList_append_rfs w1 _ rfl (.tmp 57) (.tmp 58) rfl HPZ.out rfl (by omega) (by have := HL1.out; omega) rfl rfl ?_; intro g8 cap8 w8 hown8 hf8; have HO8 := Lib.hid hown8; have HF8 := Lib.hid hf8; clear hown8 hf8 x0 x1 p0 p1 p2 p3 b0 b1 b2 r0 r1 r2 r3 z0 z1 z2 z3 z4; obtain ⟨⟨p0, p1, p2, p3⟩, _, r0, r1, r2, r3⟩ := HBY.out _ HF8.out; obtain ⟨z0, z1, z2, z3, z4⟩ := HZY.out _ HF8.out)
          have hend := putd_end HP.out HF1.out HF8.out HB2.out (v := (.slice (some ⟨g8, 0, none⟩) ((losF f.nm fs).length + (hisF f.nm fs).length) cap8)) (L := L) (by rw [← hll]; exact HO8.out) HRL.out mo lf dn
          refine bodyPost_ret (results_cell_row (p := 6) rfl _ _ (P + 1 + 1) 29 #[.int .i64 mo, (.slice (some ⟨g8, 0, none⟩) ((losF f.nm fs).length + (hisF f.nm fs).length) cap8), .int .i64 lf, .bool dn] (0, 0) _ rfl hend.1 Try.underlying29 rfl (by kernel_rfl)) rfl ?_
          rw [← HQ.out]
          exact hend.2
      | false =>
        have HRL := Lib.hid (show ∀ g ∈ L, Rd w w.heap.size g.A g.bs.length g.bs from fun g hg => by
          rw [← HLL.out] at hg
          rcases List.mem_append.1 hg with e | e
          · rcases List.mem_append.1 e with e | e
            · exact H.out.rd g (List.mem_filter.1 e).1
            · simp at e; rw [e]; exact HFR.out
          · exact H.out.rd g (List.mem_filter.1 e).1)
        by_cases h0 : (hisF f.nm fs).length = 0
        · have hll : (losF f.nm fs ++ [f]) = L := by rw [← HLL.out]; simp [List.length_eq_zero_iff.1 h0]
          obtain ⟨nbA, hnb⟩ : ∃ A c, Value.slice Ab nb cb = .slice A 0 c := by
            obtain ⟨A, c, e⟩ := own_sl HPZ.out.ob
            rw [h0] at e
            exact ⟨A, c, e⟩
          obtain ⟨hnc, hne⟩ := hnb
          injection hne with _ e2 _
          subst e2
          obtain ⟨x0, x1⟩ := HBX.out _ HPZ.out.fr
          obtain ⟨⟨p0, p1, p2, p3⟩, ⟨b0, b1, b2⟩, r0, r1, r2, r3⟩ := HBY.out _ HPZ.out.fr
          obtain ⟨z0, z1, z2, z3, z4⟩ := HZY.out _ HPZ.out.fr
          go_wp2_with (first
            | (at_builtin; refine wpList_append_rf w1 _ rfl (.tmp 53) (.tmp 55) rfl HPZ.out (by have := HL1.out; omega) f _ rfl rfl _ rfl rfl ?_; intro g6 cap6 w6 hw6; have HP6 := Lib.hid hw6; clear hw6 x0 x1 p0 p1 p2 p3 b0 b1 b2 r0 r1 r2 r3 z0 z1 z2 z3 z4; obtain ⟨⟨p0, p1, p2, p3⟩, ⟨b0, b1, b2⟩, r0, r1, r2, r3⟩ := HBY.out _ HP6.out.fr; obtain ⟨z0, z1, z2, z3, z4⟩ := HZY.out _ HP6.out.fr; have hca := own_cap HP6.out.oa)
            | (at_builtin; refine wpList_append_noth rfl (.tmp 57) (.tmp 58) rfl _ _ _ _ _ hca rfl rfl ?_))
          have hend := putd_end HP.out HF1.out HP6.out.fr HB2.out (v := (.slice (some ⟨g6, 0, none⟩) ((losF f.nm fs).length + 1) cap6)) (L := L) (by rw [← hll]; exact HP6.out.oa) HRL.out mo lf dn
          refine bodyPost_ret (results_cell_row (p := 6) rfl _ _ (P + 1 + 1) 29 #[.int .i64 mo, (.slice (some ⟨g6, 0, none⟩) ((losF f.nm fs).length + 1) cap6), .int .i64 lf, .bool dn] (0, 0) _ rfl hend.1 Try.underlying29 rfl (by kernel_rfl)) rfl ?_
          rw [← HQ.out]
          exact hend.2
        · obtain ⟨G, hAb, hnb⟩ : ∃ G, Ab = some ⟨G, 0, none⟩ ∧ nb = (hisF f.nm fs).length := by
            rcases HPZ.out.ob.2 with ⟨e, e0⟩ | ⟨G, cap, cur, e, _⟩
            · exact absurd e0 h0
            · injection e with e1 e2 e3
              exact ⟨G, e1, e2⟩
          subst hAb hnb
          have hll : (losF f.nm fs ++ [f]) ++ hisF f.nm fs = L := by rw [← HLL.out]; simp
          obtain ⟨x0, x1⟩ := HBX.out _ HPZ.out.fr
          obtain ⟨⟨p0, p1, p2, p3⟩, ⟨b0, b1, b2⟩, r0, r1, r2, r3⟩ := HBY.out _ HPZ.out.fr
          obtain ⟨z0, z1, z2, z3, z4⟩ := HZY.out _ HPZ.out.fr
          go_wp2_with (first
            | (at_builtin; refine wpList_append_rf w1 _ rfl (.tmp 53) (.tmp 55) rfl HPZ.out (by have := HL1.out; omega) f _ rfl rfl _ rfl rfl ?_; intro g6 cap6 w6 hw6; have HP6 := Lib.hid hw6; clear hw6 x0 x1 p0 p1 p2 p3 b0 b1 b2 r0 r1 r2 r3 z0 z1 z2 z3 z4; obtain ⟨⟨p0, p1, p2, p3⟩, ⟨b0, b1, b2⟩, r0, r1, r2, r3⟩ := HBY.out _ HP6.out.fr; obtain ⟨z0, z1, z2, z3, z4⟩ := HZY.out _ HP6.out.fr)
            | (at_builtin; refine wpList_append_rfs w1 _ rfl (.tmp 57) (.tmp 58) rfl HP6.out rfl (by omega) (by have := HL1.out; rw [List.length_append, List.length_singleton]; omega) rfl rfl ?_; intro g8 cap8 w8 hown8 hf8; have HO8 := Lib.hid hown8; have HF8 := Lib.hid hf8; clear hown8 hf8 p0 p1 p2 p3 b0 b1 b2 r0 r1 r2 r3 z0 z1 z2 z3 z4; obtain ⟨⟨p0, p1, p2, p3⟩, _, r0, r1, r2, r3⟩ := HBY.out _ HF8.out; obtain ⟨z0, z1, z2, z3, z4⟩ := HZY.out _ HF8.out))
          have hend := putd_end HP.out HF1.out HF8.out HB2.out (v := (.slice (some ⟨g8, 0, none⟩) (((losF f.nm fs).length + 1) + (hisF f.nm fs).length) cap8)) (L := L) (by
            rw [← hll]
            have e : (losF f.nm fs ++ [f]).length = (losF f.nm fs).length + 1 := by simp
            have h := HO8.out
            rw [e] at h
            exact h) HRL.out mo lf dn
          refine bodyPost_ret (results_cell_row (p := 6) rfl _ _ (P + 1 + 1) 29 #[.int .i64 mo, (.slice (some ⟨g8, 0, none⟩) (((losF f.nm fs).length + 1) + (hisF f.nm fs).length) cap8), .int .i64 lf, .bool dn] (0, 0) _ rfl hend.1 Try.underlying29 rfl (by kernel_rfl)) rfl ?_
          rw [← HQ.out]
          exact hend.2
set_option maxRecDepth 100000 in
theorem rput_any {w : World} {A : Option Addr} {n c : Nat} {fs : List Fl} (h : Rk w A n fs) (hn : n ≤ 500) (mo lf : Int) (dn : Bool) (f : Fl) (hf : Rd w w.heap.size f.A f.bs.length f.bs) (gone : Bool) :
    Calls Try.prog 42 #[.agg #[.int .i64 mo, .slice A n c, .int .i64 lf, .bool dn], .agg #[.string ⟨f.nm.toArray⟩, .slice f.A f.bs.length f.c, .int .i64 (f.fm : Int)], .bool gone] w (Putd w mo lf dn (losF f.nm fs ++ (if gone then [] else [f]) ++ hisF f.nm fs)) :=
  (rput_fr h hn mo lf dn f hf gone).mono fun _ _ ⟨A2, c2, h1, h2, h3, _⟩ => ⟨A2, c2, h1, h2, h3⟩
/-- No block of F's. -/
def Nf (F : Nat → Prop) (A : Option Addr) : Prop := ∀ a, A = some a → ¬ F a.block
def Off (F : Nat → Prop) (A : Option Addr) (fs : List Fl) : Prop := (0 < fs.length → Nf F A) ∧ ∀ f ∈ fs, 0 < f.bs.length → Nf F f.A
theorem nf_new {F : Nat → Prop} {b c : Nat} (hF : ∀ k, F k → k < b) (hb : b ≤ c) {A : Option Addr} (h : ∀ a, A = some a → c ≤ a.block) : Nf F A := fun a ha hf => by
  have := hF _ hf
  have := h a ha
  omega
theorem nf_none {F : Nat → Prop} : Nf F none := fun _ h => by cases h
theorem off_put {F : Nat → Prop} {fs : List Fl} (h : ∀ f ∈ fs, 0 < f.bs.length → Nf F f.A) (nm : List UInt8) {g : List Fl} (hg : ∀ f ∈ g, 0 < f.bs.length → Nf F f.A) : ∀ f ∈ losF nm fs ++ g ++ hisF nm fs, 0 < f.bs.length → Nf F f.A := fun f hf => by
  rcases List.mem_append.1 hf with hf | hf
  · rcases List.mem_append.1 hf with hf | hf
    · exact h f (List.mem_filter.1 hf).1
    · exact hg f hf
  · exact h f (List.mem_filter.1 hf).1
theorem off_one {F : Nat → Prop} {g : Fl} (h : 0 < g.bs.length → Nf F g.A) : ∀ f ∈ (if false = true then [] else [g]), 0 < f.bs.length → Nf F f.A := fun f hf => by
  have e : f = g := by simpa using hf
  rw [e]
  exact h
def PutN (F : Nat → Prop) (w : World) (mo lf : Int) (dn : Bool) (L : List Fl) (e : Ending) (w' : World) : Prop :=
  ∃ A2 c2, e = .returned (.agg #[.int .i64 mo, .slice A2 L.length c2, .int .i64 lf, .bool dn]) ∧ Rk w' A2 L.length L ∧ Fr No w w' ∧ Nf F A2
set_option maxRecDepth 100000 in
theorem rput_n {F : Nat → Prop} {b : Nat} (hF : ∀ k, F k → k < b) {w : World} (hb : b ≤ w.heap.size) {A : Option Addr} {n c : Nat} {fs : List Fl} (h : Rk w A n fs) (hn : n ≤ 500) (mo lf : Int) (dn : Bool) (f : Fl) (hf : Rd w w.heap.size f.A f.bs.length f.bs) (gone : Bool) :
    Calls Try.prog 42 #[.agg #[.int .i64 mo, .slice A n c, .int .i64 lf, .bool dn], .agg #[.string ⟨f.nm.toArray⟩, .slice f.A f.bs.length f.c, .int .i64 (f.fm : Int)], .bool gone] w (PutN F w mo lf dn (losF f.nm fs ++ (if gone then [] else [f]) ++ hisF f.nm fs)) :=
  (rput_fr h hn mo lf dn f hf gone).mono fun _ _ ⟨A2, c2, h1, h2, h3, h4⟩ => ⟨A2, c2, h1, h2, h3, nf_new hF hb h4⟩
end Go.Proofs.Ytnkgcafebmacjaa

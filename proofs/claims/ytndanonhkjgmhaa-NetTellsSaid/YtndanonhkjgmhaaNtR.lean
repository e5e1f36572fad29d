/-
  NetMoved: the walk. No statement of the seat is proved here.
-/
import Derived.Test.YtndanonhkjgmhaaNtQ
import Derived.Deep.RegionHeld3
import Derived.Deep.AppendLies
namespace Go.Proofs.Ytndanonhkjgmhaa
open Go.RowKit

set_option maxRecDepth 100000 in
/-- Datagrams appended to a row of the call's own, as a step of a region. -/
theorem step_append_grs (wr : World) {ops : Array Oper} {o : Oper} {a : Act} {K : Act → World → Prop} {Q : Exit → Act → World → Prop} {E : Prop} (hgd : o.guard = none) (s x : Operand)
    (ho : o.op = .call { callee := .builtin .append, args := #[s, x], argTypes := #[62, 62] })
    {lo : Nat} {r : Value} {L : List Gr} (h : wr.ownsRow lo 30 3 r L.length (grsCells L)) (ys : List Gr) (hl : L.length + ys.length ≤ 5000) (hlo : lo ≤ wr.heap.size)
    (ad : Addr) (m c q : Nat) (hm : ys.length = m) (hq : L.length + m = q) (hc : ∀ j u, (grsCells ys)[j]? = some u → wr.cell? (ad.add j) = some u) (hs : a.eval s = r) (hx : a.eval x = .slice (some ad) m c)
    (hk : ∀ A' c' w', w'.ownsRow lo 30 3 (.slice A' q c') (L ++ ys).length (grsCells (L ++ ys)) → wr.grownBy w' r.ownBlock → ((Value.slice A' q c').ownBlock = r.ownBlock ∨ (Value.slice A' q c').ownBlock = some wr.heap.size) → K (a.put o.dst (.slice A' q c')) w') :
    if Region.wanted o (yielded ops a.tmps) = true then Oper.wp Try.prog o a wr K Q else E := by
  have hw : Region.wanted o (yielded ops a.tmps) = true := by simp [Region.wanted, hgd]
  rw [if_pos hw]
  obtain ⟨i0, hi, hz0, hz1, hz2⟩ := info_parts info_ag
  obtain ⟨v', w', hr, h2, h3, _, h5⟩ := run_append_own_at (P := Try.prog) (w := wr) lo 62 o.type 30 i0 _ 3 40 Try.underlying62 hi hz0 hz1 hz2 rfl (by omega) r L.length (grsCells L) h ad m c (grsCells ys) (by rw [grsCells_length, hm])
    hc (fun u hu => by
      unfold grsCells at hu
      obtain ⟨g, _, hg⟩ := List.mem_flatMap.1 hu
      exact grCells_one g u hg) (by unfold maxLen; omega) (by omega) hlo
  have hlen : (L ++ ys).length = q := by rw [List.length_append, hm, hq]
  rw [hq, ← grsCells_append] at h2
  have hv : ∃ A' c', v' = .slice A' q c' := by
    rcases h2.2 with ⟨e, e0⟩ | ⟨G, cap, cur, e, _⟩
    · exact ⟨none, 0, by rw [e, e0]⟩
    · exact ⟨_, _, e⟩
  obtain ⟨A', c', rfl⟩ := hv
  unfold Oper.wp execOp
  simp only [ho, resolve, invoke, builtin, Sem.run_bind, Sem.run_pure, Result.andThen_ok, List.map_toArray, List.map_cons, List.map_nil, hs, hx, hr]
  exact hk A' c' w' (by rw [hlen]; exact h2) h3 h5
/-- A row of the call's own over datagrams that may be read. -/
theorem rows_of {lo c : Nat} {w : World} {A : Option Addr} {L : List Gr} {n : Nat} (hn : L.length = n) (h : w.ownsRow lo 30 3 (.slice A n c) L.length (grsCells L)) (hb : ∀ f ∈ L, f.n ≤ f.c ∧ Rd w w.heap.size f.A f.n f.l) : RowOf w 3 (GrAt w) A n L := by
  subst hn
  refine ⟨rfl, fun hn => ?_⟩
  obtain ⟨G, rfl, _, hG, hc⟩ := row_cells h (j := 0) (by rw [grsCells_length]; omega)
  refine ⟨G, 0, rfl, hG, fun j hj => ?_⟩
  have hj' := List.getElem?_eq_getElem hj
  have q : ∀ k u, k < 3 → (grCells L[j])[k]? = some u → w.cell? ((⟨G, 0 + j * 3, none⟩ : Addr).add k) = some u := fun k u hk hu => by
    rw [Addr.add_lit, Nat.zero_add]
    exact hc _ _ ((grsCells_at L j k hj' hk).trans hu)
  have q0 := q 0 _ (by omega) rfl
  have e : (⟨G, 0 + j * 3, none⟩ : Addr).add 0 = ⟨G, 0 + j * 3, none⟩ := by simp [Addr.add]
  rw [e] at q0
  have hb := hb _ (List.getElem_mem hj)
  exact ⟨q0, q 1 _ (by omega) rfl, q 2 _ (by omega) rfl, hb.1, hb.2⟩
/-- What is copied, and dropped where it was, has gone to the end. -/
theorem drop_last (L : List Gm) (g : Gm) (n : Nat) (h : L.length = n) : dropI (L ++ [g]) (n : Int) = L := by
  rw [dropI_nat, ← h, List.eraseIdx_append_of_length_le (Nat.le_refl _), Nat.sub_self]
  simp
theorem look_last (L : List Gm) (g : Gm) (n : Nat) (h : L.length = n) : look (L ++ [g]) (n : Int) = some g := by
  rw [look_nat, ← h, List.getElem?_append_right (Nat.le_refl _), Nat.sub_self]
  rfl
theorem drop_mid (L : List Gm) (g : Gm) (k : Nat) (h : k < L.length) : dropI (L ++ [g]) (k : Int) = L.take k ++ L.drop (k + 1) ++ [g] := by
  rw [dropI_nat, List.eraseIdx_append_of_lt_length h, List.eraseIdx_eq_take_drop_succ]
theorem new_of {wr : World} {r r' : Value} (h : r'.ownBlock = r.ownBlock ∨ r'.ownBlock = some wr.heap.size) (h0 : r.ownBlock = none) : ∀ i, r'.ownBlock = some i → wr.heap.size ≤ i := fun i e => by
  rcases h with h | h
  · rw [h, h0] at e; cases e
  · rw [h] at e
    exact Nat.le_of_eq (by injection e)
theorem new_from {wr : World} {r r' : Value} {lo : Nat} (h : r'.ownBlock = r.ownBlock ∨ r'.ownBlock = some wr.heap.size) (h0 : ∀ i, r.ownBlock = some i → lo ≤ i) (hlo : lo ≤ wr.heap.size) : ∀ i, r'.ownBlock = some i → lo ≤ i := fun i e => by
  rcases h with h | h
  · exact h0 i (h ▸ e)
  · rw [h] at e
    have : wr.heap.size = i := by injection e
    omega
theorem grown_keep {wr w' : World} {row : Option Nat} (h : wr.grownBy w' row) : ∀ (b : Nat) (o : Obj), wr.heap[b]? = some o → row ≠ some b → w'.heap[b]? = some o := fun b _ hb hne =>
  (h.block b (Array.getElem?_eq_some_iff.1 hb).1 (fun e => hne e.symm)).trans hb
theorem gr_cells {W : World} {B : Nat} {m : Gr} (h : W.heap[B]? = some (.cells #[.int .i64 m.fr, .int .i64 m.to, .slice m.A m.n m.c] 30 (0, 0))) : ∀ j u, (grsCells [m])[j]? = some u → W.cell? ((⟨B, 0, none⟩ : Addr).add j) = some u := fun j u hu => by
  have e : grsCells [m] = grCells m := by simp [grsCells]
  rw [e] at hu
  rw [Addr.add_lit, Nat.zero_add, blk_cell h j]
  show (grCells m).toArray[j]? = _
  rw [List.getElem?_toArray]
  exact hu
theorem Nq.up {wk w7 W : World} {vk v7 : Value} {P : Nat} {n : Int} {l : List Gm} (hx : Nx P vk wk w7 v7) (h : Nq w7 v7 P n l W) : Nq wk vk P n l W := by
  obtain ⟨v', hn, hx'⟩ := h
  exact ⟨v', hn, hx.trans hx'⟩
/-- Turned round by so many. -/
def rot (L : List Gm) (j : Nat) : List Gm := L.drop j ++ L.take j
theorem rot_len (L : List Gm) {j : Nat} (h : j ≤ L.length) : (rot L j).length = L.length := by
  unfold rot
  rw [List.length_append, List.length_drop, List.length_take]
  omega
theorem rot_zero (L : List Gm) : rot L 0 = L := by simp [rot]
theorem rot_all (L : List Gm) (n : Nat) (h : L.length = n) : rot L n = L := by simp [rot, ← h]
theorem rot_step (L : List Gm) {j : Nat} (h : j < L.length) : ∃ g, look (rot L j) 0 = some g ∧ look (rot L j ++ [g]) 0 = some g ∧ dropI (rot L j ++ [g]) 0 = rot L (j + 1) := by
  have e := List.drop_eq_getElem_cons h
  have e2 : L.take (j + 1) = L.take j ++ [L[j]] := by rw [List.take_add_one, List.getElem?_eq_getElem h]; rfl
  refine ⟨L[j], ?_, ?_, ?_⟩
  · unfold rot
    rw [e]
    rfl
  · unfold rot
    rw [e]
    rfl
  · unfold rot
    rw [e, e2]
    show (L.drop (j + 1) ++ L.take j) ++ [L[j]] = _
    rw [List.append_assoc]
set_option maxHeartbeats 4000000 in
set_option maxRecDepth 100000 in
theorem moved_walk {w : World} {A : Option Addr} {n : Nat} {xs : List Gr} (c : Nat) (hx : RowOf w 3 (GrAt w) A n xs) (pl : Int) :
    Calls Try.prog 7 #[.slice A n c, .int .i64 pl] w fun e w' => e = .returned (.bool true) ∧ Below w.heap.size w w' := by
  have HLD := Lib.hid (laid_any c hx)
  have hlen : (lay (xs.take 30)).length ≤ 30 := by
    have := lay_len (xs.take 30)
    rw [List.length_take] at this
    omega
  clear hx
  generalize lay (xs.take 30) = L at *
  obtain ⟨N, HNL⟩ : ∃ N, Hid (L.length = N) := ⟨_, rfl⟩
  have hN30 : N ≤ 30 := by rw [← HNL.out]; exact hlen
  clear hlen
  go_enter Try.func7, Try.ntmps7
  go_wp2_with fail
  refine HLD.out.mono ?_
  rintro e w2 ⟨rfl, w1, hf1, hq⟩
  obtain ⟨v, hn, hx⟩ := hq
  have HB2 := Lib.hid (show Below w.heap.size w w2 from hf1.noBelow.trans (hx.1.below hf1.size (fun k hk => by rw [foot_nil hk]; exact Nat.le_refl _)))
  have HFT := Lib.hid (show ∀ k, foot w.heap.size v k → w.heap.size ≤ k from fun k hk => by
    rcases hk with e | e
    · exact Nat.le_of_eq e.symm
    · rcases hx.2 with q | q
      · rw [q] at e; cases e
      · exact Nat.le_trans hf1.size (q k e))
  have HN := Lib.hid hn
  clear hf1 hn hx
  go_wp2_with fail
  refine (all_any HN.out).mono ?_
  rintro e w3 ⟨r, M, rfl, hr, hM, hf3⟩
  obtain ⟨A2, c2, e, hc2⟩ := hr.sl
  have hML : M.length = N := by rw [← HNL.out, ← hM, List.length_map]
  rw [hML] at e hc2
  subst e
  have HR0 := Lib.hid hr
  have HF3 := Lib.hid hf3
  have HM := Lib.hid hM
  have HML := Lib.hid hML
  have HQ3 := Lib.hid (show Nq w3 v w.heap.size 3 L w3 from ⟨v, HN.out.no hf3, Nx.refl _ _ _⟩)
  have HFT4 := Lib.hid (show ∀ k, foot w.heap.size v k → k < w2.heap.size from fun k hk => HN.out.lt hk)
  have HB3 : Hid (∀ W T, Nq w3 v w.heap.size 3 T W → Below w.heap.size w W) := fun W T hW =>
    (HB2.out.trans (HF3.out.noBelow.mono HB2.out.size)).trans (hW.below (Nat.le_trans HB2.out.size HF3.out.size) HFT.out)
  have HW3 : Hid (∀ W T, Nq w3 v w.heap.size 3 T W → Rw w2.heap.size W (.slice A2 N c2) M) := fun W T hW =>
    HR0.out.keep hW.fr (fun k hlo _ hk => by have := HFT4.out _ hk; omega)
  have HR3 : Hid (∀ W T, Nq w3 v w.heap.size 3 T W → RowOf W 3 (GrAt W) A2 N M) := fun W T hW => by
    have q := HW3.out W T hW
    rw [← HML.out] at q ⊢
    exact q.of
  clear hr hf3 hM hML
  by_cases h0 : N = 0
  · subst h0
    have hL : L = [] := List.eq_nil_of_length_eq_zero HNL.out
    subst hL
    go_wp2_with fail
    refine (nq_copy_none HQ3.out (i := 0) rfl).mono ?_
    rintro e w4 ⟨rfl, hf⟩
    have H4 := Lib.hid (HQ3.out.no hf)
    clear hf
    go_wp2_with fail
    refine (awake_any _).mono ?_
    rintro e w5 ⟨rfl, hb⟩
    have HB5 := Lib.hid ((HB3.out _ _ H4.out).trans (hb.mono (HB3.out _ _ H4.out).size))
    clear hb
    go_wp2_with fail
    go_ret
    exact ⟨rfl, HB5.out⟩
  · have hNz : ¬ ((N : Int) = 0) := by omega
    go_wp2_with fail
    refine (pick_any _ pl N (by omega) (by omega)).mono ?_
    rintro e w4 ⟨rfl, rfl⟩
    have hkN : pick pl N < N := pick_lt pl (by omega)
    generalize pick pl N = k at *
    obtain ⟨g, hg⟩ : ∃ g, look L (k : Int) = some g := ⟨_, by rw [look_nat]; exact List.getElem?_eq_getElem (by rw [HNL.out]; exact hkN)⟩
    have HG := Lib.hid hg
    clear hg
    go_wp2_with fail
    refine (nq_copy HQ3.out (by rw [HNL.out]; omega) HG.out).mono ?_
    rintro e w4 ⟨rfl, hq⟩
    have HQ4 := Lib.hid hq
    clear hq
    go_wp2_with fail
    refine (nq_drop_yes HQ4.out (i := (N : Int)) (l' := L) (by rw [look_last L g N HNL.out]; rfl) (drop_last L g N HNL.out)).mono ?_
    rintro e w5 ⟨rfl, hq⟩
    have HQ5 := Lib.hid hq
    clear hq
    go_wp2_with fail
    refine (nq_all HQ5.out).mono ?_
    rintro e w6 ⟨r6, M6, rfl, hr6, hM6, hf6⟩
    have H6 := Lib.hid (HQ5.out.no hf6)
    obtain ⟨A6, c6, e, hc6⟩ := hr6.sl
    have hML6 : M6.length = N := by rw [← HNL.out, ← hM6, List.length_map]
    subst e
    have hS6 := hr6.of
    rw [hML6] at hS6 ⊢
    have HRW := Lib.hid (rows_yes (c := c6) (c' := c2) hS6 (HR3.out _ _ H6.out) (by rw [hM6, HM.out]) (by omega))
    clear hr6 hM6 hf6 hc6 hML6 hS6
    go_wp2_with fail
    refine HRW.out.mono ?_
    rintro e w7 ⟨rfl, hf⟩
    have H7 := Lib.hid (H6.out.no hf)
    clear hf
    go_wp2_with fail
    refine (nq_copy H7.out (by rw [HNL.out]; omega) HG.out).mono ?_
    rintro e w8 ⟨rfl, hq⟩
    have HQ8 := Lib.hid hq
    clear hq
    go_wp2_with fail
    refine (nq_drop_yes HQ8.out (i := (k : Int)) (l' := L.take k ++ L.drop (k + 1) ++ [g]) (by rw [look_nat, List.getElem?_append_left (by rw [HNL.out]; exact hkN), List.getElem?_eq_getElem (by rw [HNL.out]; exact hkN)]; rfl) (drop_mid L g k (by rw [HNL.out]; exact hkN))).mono ?_
    rintro e w9 ⟨rfl, hq⟩
    have HQ9 := Lib.hid hq
    clear hq
    obtain ⟨G, rfl, hGlo, hGlt, hcs⟩ := row_cells (show w9.ownsRow w2.heap.size 30 3 (.slice A2 N c2) N (grsCells M) by have := (HW3.out _ _ HQ9.out).row; rw [HML.out] at this; exact this) (j := 0) (by rw [grsCells_length, HML.out]; omega)
    have HC : Hid (∀ W, Fr No w9 W → ∀ j u, (grsCells M)[j]? = some u → W.cell? ⟨G, j, none⟩ = some u) := fun W hW j u hu => (hW.cell (p := ⟨G, j, none⟩) hGlt (fun e => e)).trans (hcs j u hu)
    clear hcs
    obtain ⟨m, HMK⟩ : ∃ m, Hid (M[k]? = some m) := ⟨_, List.getElem?_eq_getElem (by rw [HML.out]; exact hkN)⟩
    have HS : Hid (∀ W, Fr No w9 W → W.cell? ⟨G, k * 3, none⟩ = some (.int .i64 m.fr) ∧ W.cell? ⟨G, k * 3 + 1, none⟩ = some (.int .i64 m.to) ∧ W.cell? ⟨G, k * 3 + 2, none⟩ = some (.slice m.A m.n m.c) ∧ Fr No w9 W) := fun W hW =>
      ⟨HC.out W hW _ _ (grsCells_at M k 0 HMK.out (by omega)), HC.out W hW _ _ (grsCells_at M k 1 HMK.out (by omega)), HC.out W hW _ _ (grsCells_at M k 2 HMK.out (by omega)), hW⟩
    have hs0 := HS.out _ (Fr.drew No w9)
    have hkc : (k : Int) ≤ (c2 : Int) := by omega
    obtain ⟨K1, hK1, HK1⟩ : ∃ K1 : Nat, (k : Int) + 1 = (K1 : Int) ∧ Hid (k + 1 = K1) := ⟨k + 1, by omega, rfl⟩
    have hK1N : (K1 : Int) ≤ (N : Int) := by omega
    have hNc : (N : Int) ≤ (c2 : Int) := by omega
    have hK1c : (K1 : Int) ≤ (c2 : Int) := by omega
    have hK10 : (0 : Int) ≤ (K1 : Int) := by omega
    have hwK1 : IntKind.i64.wrap (K1 : Int) = (K1 : Int) := IntWalk.i64_in _ (by omega)
    have hkN2 : (k : Int) < (N : Int) := by omega
    have hk0 : (0 : Int) ≤ (k : Int) := by omega
    go_wp2_with fail
    have HFR : Hid (∀ W, (W.cell? ⟨G, k * 3, none⟩ = some (.int .i64 m.fr) ∧ W.cell? ⟨G, k * 3 + 1, none⟩ = some (.int .i64 m.to) ∧ W.cell? ⟨G, k * 3 + 2, none⟩ = some (.slice m.A m.n m.c) ∧ Fr No w9 W) → Fr No w9 W) := fun W h => h.2.2.2
    have HC1 : Hid (∀ W, Fr No w9 W → ∀ j u, (grsCells (M.take k))[j]? = some u → W.cell? ((⟨G, 0, none⟩ : Addr).add j) = some u) := fun W hW j u hu => by
      rw [Addr.add_lit, Nat.zero_add]
      refine HC.out W hW j u ?_
      have e : grsCells M = grsCells (M.take k) ++ grsCells (M.drop k) := by rw [← grsCells_append, List.take_append_drop]
      rw [e, List.getElem?_append_left (List.getElem?_eq_some_iff.1 hu).1]
      exact hu
    obtain ⟨AD, HAD, HC2⟩ : ∃ AD : Addr, Hid (Value.slice (if c2 = K1 then some ⟨G, 0, none⟩ else some ⟨G, K1 * 3, none⟩) (N - K1) (c2 - K1) = .slice (some AD) (N - K1) (c2 - K1)) ∧ Hid (∀ W, Fr No w9 W → ∀ j u, (grsCells (M.drop K1))[j]? = some u → W.cell? (AD.add j) = some u) := by
      by_cases hcK : c2 = K1
      · refine ⟨⟨G, 0, none⟩, by rw [if_pos hcK]; exact rfl, fun W hW j u hu => ?_⟩
        have e : M.drop K1 = [] := List.drop_eq_nil_of_le (by rw [HML.out]; omega)
        rw [e] at hu
        cases hu
      · refine ⟨⟨G, K1 * 3, none⟩, by rw [if_neg hcK]; exact rfl, fun W hW j u hu => ?_⟩
        rw [Addr.add_lit]
        refine HC.out W hW _ u ?_
        have e : grsCells M = grsCells (M.take K1) ++ grsCells (M.drop K1) := by rw [← grsCells_append, List.take_append_drop]
        have hl : (grsCells (M.take K1)).length = K1 * 3 := by rw [grsCells_length, List.length_take, HML.out]; congr 1; omega
        rw [e, List.getElem?_append_right (by omega), hl, show K1 * 3 + j - K1 * 3 = j by omega]
        exact hu
    have HLO : Hid (∀ W, Fr No w9 W → w2.heap.size ≤ W.heap.size) := fun W hW => Nat.le_trans (Nat.le_of_lt (Nat.lt_of_le_of_lt hGlo hGlt)) hW.size
    have HLT : Hid ((M.take k).length = k ∧ (M.drop K1).length = N - K1 ∧ k + (N - K1) = N - 1 ∧ N - 1 + 1 = N ∧ N ≤ 30) := by
      have := HK1.out
      refine ⟨by rw [List.length_take, HML.out]; omega, by rw [List.length_drop, HML.out], by omega, by omega, hN30⟩
    obtain ⟨v7, hn9, hx9⟩ := HQ9.out
    have HN9 := Lib.hid hn9
    have HX9 := Lib.hid hx9
    clear hn9 hx9
    go_region_held3 (fun W => W.cell? ⟨G, k * 3, none⟩ = some (.int .i64 m.fr) ∧ W.cell? ⟨G, k * 3 + 1, none⟩ = some (.int .i64 m.to) ∧ W.cell? ⟨G, k * 3 + 2, none⟩ = some (.slice m.A m.n m.c) ∧ Fr No w9 W)
      (first | exact hs0 | exact HS.out _ ((HFR.out _ (by assumption)).no_trans (Fr.alloc No _ _)) | exact hs5 | exact hs6 | exact hs7)
      (first
        | (refine step_append_grs _ (by rfl) (.tmp 62) (.tmp 65) (by rfl) (lo := w2.heap.size) (r := .slice none 0 0) (L := []) (World.ownsRow_nil _ _ _ _) (M.take k) (by have := HLT.out; show 0 + _ ≤ _; omega) (HLO.out _ (HFR.out _ (by assumption))) ⟨G, 0, none⟩ k c2 k HLT.out.1 (Nat.zero_add k) (HC1.out _ (HFR.out _ (by assumption))) rfl rfl ?_
           intro A1 c1 w5 ho5 hg5 hn5
           have hf5 := Fr.grown (F := No) hg5 (fun k hk => by cases hk)
           have hs5 := HS.out w5 ((HFR.out _ (by assumption)).no_trans hf5)
           have HO5 : Hid (w5.ownsRow w2.heap.size 30 3 (.slice A1 k c1) (M.take k).length (grsCells (M.take k))) := ho5
           have HN5 := Lib.hid (new_of hn5 rfl)
           have HNB5 := Lib.hid (new_from (lo := w9.heap.size) hn5 (fun i e => by cases e) (HFR.out _ (by assumption)).size)
           have HK5 := Lib.hid (fun b o h => blk_no (b := b) (o := o) hf5 h)
           clear ho5 hg5 hn5 hf5)
        | (refine step_append_grs _ (by rfl) (.tmp 66) (.tmp 70) (by rfl) (lo := w2.heap.size) (r := .slice A1 k c1) (L := M.take k) (by first | exact HO5.out | exact HO5.out.alloc _) (M.drop K1) (by have := HLT.out; omega) (HLO.out _ (HFR.out _ (by assumption))) AD (N - K1) (c2 - K1) (N - 1) HLT.out.2.1 (by have := HLT.out; omega) (HC2.out _ (HFR.out _ (by assumption))) rfl (by exact HAD.out) ?_
           intro A3 c3 w6 ho6 hg6 hn6
           have hf6 := (HFR.out _ (by assumption)).then_new (Fr.grown (F := fun i => (Value.slice A1 k c1).ownBlock = some i) hg6 (fun k hk => hk)) HNB5.out
           have hs6 := HS.out w6 hf6
           have HO6 := Lib.hid ho6
           have HNB6 := Lib.hid (new_from (lo := w9.heap.size) hn6 HNB5.out (HFR.out _ (by assumption)).size)
           have HK6 := Lib.hid (grown_keep hg6)
           clear ho6 hg6 hn6 hf6)
        | (refine step_append_grs _ (by rfl) (.tmp 71) (.tmp 76) (by rfl) (lo := w2.heap.size) (r := .slice A3 (N - 1) c3) (L := M.take k ++ M.drop K1) (by first | exact HO6.out | exact HO6.out.alloc _) [m] (by have := HLT.out; rw [List.length_append]; show _ + 1 ≤ _; omega) (HLO.out _ (HFR.out _ (by assumption))) _ 1 1 N rfl (by have := HLT.out; rw [List.length_append]; omega)
             (gr_cells (by first | exact heap_alloc_new _ _ | exact HK6.out _ _ (heap_alloc_new _ _) (fun e => Nat.lt_irrefl _ (HO5.out.lt _ e).2) | exact HK6.out _ _ (HK5.out _ _ (heap_alloc_new _ _)) (fun e => by have := HN5.out _ e; simp at this; omega))) rfl rfl ?_
           intro A7 c7 w7 ho7 hg7 hn7
           have hf7 := (HFR.out _ (by assumption)).then_new (Fr.grown (F := fun i => (Value.slice A3 (N - 1) c3).ownBlock = some i) hg7 (fun k hk => hk)) HNB6.out
           have hs7 := HS.out w7 hf7
           have HF7 := Lib.hid hf7
           have HO7 := Lib.hid ho7
           have HNB7 := Lib.hid (new_from (lo := w9.heap.size) hn7 HNB6.out (HFR.out _ (by assumption)).size)
           clear ho7 hg7 hn7 hf7))
    all_goals (
      rw [HAD.out]
      have HT : Hid (L.take k ++ L.drop (k + 1) ++ [g] = (M.take k ++ M.drop K1 ++ [m]).map Gr.gm) := by
        show _ = _
        have e1 : m.gm = g := by
          have e := HG.out
          rw [look_nat, ← HM.out, List.getElem?_map, HMK.out] at e
          exact Option.some.inj e
        rw [List.map_append, List.map_append, List.map_take, List.map_drop, HM.out, List.map_singleton, e1, HK1.out]
      have HTL : Hid ((L.take k ++ L.drop (k + 1) ++ [g]).length = N) := by
        show _ = _
        have := HLT.out
        rw [HT.out, List.length_map, List.length_append, List.length_append, this.1, this.2.1]
        show _ + 1 = _
        omega
      generalize L.take k ++ L.drop (k + 1) ++ [g] = T at *
      have HN7 := Lib.hid (HN9.out.no HF7.out)
      have HX7 := Lib.hid (show Nx w.heap.size v w3 w7 v7 from HX9.out.then_no HF7.out)
      have HQ7 := Lib.hid (show Nq w7 v7 w.heap.size 3 T w7 from ⟨v7, HN7.out, Nx.refl _ _ _⟩)
      have HR7 : Hid (∀ W T', Nq w7 v7 w.heap.size 3 T' W → RowOf W 3 (GrAt W) A7 N (M.take k ++ M.drop K1 ++ [m])) := fun W T' hW => by
        have hR := HW3.out W T' (hW.up HX7.out)
        refine rows_of (by have := HTL.out; rw [HT.out, List.length_map] at this; exact this) (own_keep HO7.out (fun i hi => hW.fr.block i (HO7.out.lt i hi).2 (fun hf => by have := HN9.out.lt hf; have := HNB7.out i hi; omega))) (fun f hf => ?_)
        have hfM : f ∈ M := by
          rcases List.mem_append.1 hf with hf | hf
          · rcases List.mem_append.1 hf with hf | hf
            · exact List.mem_of_mem_take hf
            · exact List.mem_of_mem_drop hf
          · rw [List.mem_singleton.1 hf]
            exact List.mem_of_getElem? HMK.out
        have := hR.bx f hfM
        exact ⟨this.1, this.2.rd⟩
      go_wp2_with fail
      refine (nq_all HQ7.out).mono ?_
      rintro e wa ⟨ra, Ma, rfl, hra, hMa, hfa⟩
      have Ha := Lib.hid (HQ7.out.no hfa)
      obtain ⟨Aa, ca, e, hca⟩ := hra.sl
      have hMLa : Ma.length = N := by rw [← HTL.out, ← hMa, List.length_map]
      subst e
      have hSa := hra.of
      rw [hMLa] at hSa ⊢
      have HRWa := Lib.hid (rows_yes (c := ca) (c' := c7) hSa (HR7.out _ _ Ha.out) (by rw [hMa, HT.out]) (by omega))
      clear hra hMa hfa hca hMLa hSa
      go_wp2_with fail
      refine HRWa.out.mono ?_
      rintro e wb ⟨rfl, hf⟩
      have Hb := Lib.hid (show Nq w7 v7 w.heap.size 3 (rot T 0) wb by rw [rot_zero]; exact Ha.out.no hf)
      clear hf
      go_wp2_with fail
      go_loopw [85] (fun v85 wr => ∃ j : Nat, j ≤ N ∧ v85 = .int .i64 (j : Int) ∧ Nq w7 v7 w.heap.size 3 (rot T j) wr) (fun v85 _ => N - (intOf v85).toNat)
      case atStart => exact ⟨0, by omega, rfl, Hb.out⟩
      case round =>
        obtain ⟨j, hj, rfl, hq⟩ := hrel
        have HQ := Lib.hid hq
        clear hq
        by_cases hlt : j < N
        · obtain ⟨g1, hg1, hg2, hg3⟩ := rot_step T (j := j) (by rw [HTL.out]; exact hlt)
          have HG1 := Lib.hid hg1
          have HG2 := Lib.hid hg2
          have HG3 := Lib.hid hg3
          have HRL : Hid ((rot T j).length < 4096) := by
            show _ < _
            rw [rot_len T (by rw [HTL.out]; exact hj), HTL.out]
            omega
          clear hg1 hg2 hg3
          have hin : (j : Int) < (N : Int) := by omega
          have hj0 : (0 : Int) ≤ (j : Int) := by omega
          have hwi : IntKind.i64.wrap ((j : Int) + 1) = ((j + 1 : Nat) : Int) := by
            rw [show ((j : Int) + 1) = ((j + 1 : Nat) : Int) by omega]
            exact IntWalk.i64_in _ (by omega)
          go_wp2_with fail
          refine (nq_copy HQ.out HRL.out HG1.out).mono ?_
          rintro e wc ⟨rfl, hq⟩
          have HQc := Lib.hid hq
          clear hq
          go_wp2_with fail
          refine (nq_drop_yes HQc.out (i := 0) (l' := rot T (j + 1)) (by rw [HG2.out]; rfl) HG3.out).mono ?_
          rintro e wd ⟨rfl, hq⟩
          have HQd := Lib.hid hq
          clear hq
          go_wp2_with fail
          go_roundw
          case rel => exact ⟨j + 1, by omega, by go_num, HQd.out⟩
          case measure => simp [intOf]; omega
        · have hin : ¬ ((j : Int) < (N : Int)) := by omega
          have hjN : j = N := by omega
          have HQe := Lib.hid (show Nq w7 v7 w.heap.size 3 T wr by have := HQ.out; rw [hjN, rot_all T N HTL.out] at this; exact this)
          clear hjN
          go_wp2_with fail
          refine (nq_all HQe.out).mono ?_
          rintro e we ⟨re, Me, rfl, hre, hMe, hfe⟩
          have He := Lib.hid (HQe.out.no hfe)
          obtain ⟨Ae, ce, e, hce⟩ := hre.sl
          have hMLe : Me.length = N := by rw [← HTL.out, ← hMe, List.length_map]
          subst e
          have hSe := hre.of
          rw [hMLe] at hSe ⊢
          have HRWe := Lib.hid (rows_yes (c := ce) (c' := c7) hSe (HR7.out _ _ He.out) (by rw [hMe, HT.out]) (by omega))
          clear hre hMe hfe hce hMLe hSe
          go_wp2_with fail
          refine HRWe.out.mono ?_
          rintro e wf ⟨rfl, hf⟩
          have HQf := Lib.hid (He.out.no hf)
          clear hf
          go_wp2_with fail
          refine (awake_any _).mono ?_
          rintro e wg ⟨rfl, hb⟩
          have HBg := Lib.hid ((HB3.out _ _ (HQf.out.up HX7.out)).trans (hb.mono (HB3.out _ _ (HQf.out.up HX7.out)).size))
          clear hb
          go_wp2_with fail
          go_ret
          exact ⟨rfl, HBg.out⟩)
end Go.Proofs.Ytndanonhkjgmhaa

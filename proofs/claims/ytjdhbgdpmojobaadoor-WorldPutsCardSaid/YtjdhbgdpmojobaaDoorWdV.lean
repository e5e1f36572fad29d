/-
  Two puts in either order, one more put (mathematics); right worlds stay right; two worlds held against one another. No statement of the seat is proved here.
-/
import Derived.Test.YtjdhbgdpmojobaaDoorWdU
import Derived.Test.YtjdhbgdpmojobaaDoorWdO
import Derived.Test.YtjdhbgdpmojobaaDoorChZ
namespace Go.Proofs.YtjdhbgdpmojobaaDoor
open Go.RowKit Go.Deep

section
variable {α : Type} {key : α → Int} {l N N' : List α} {t t' : Int}
theorem filt2 (p q r : α → Bool) (h : ∀ x, (p x && q x) = r x) : (l.filter q).filter p = l.filter r := by
  rw [List.filter_filter]
  exact List.filter_congr (fun x _ => h x)
theorem filt_all (p : α → Bool) (h : ∀ x ∈ l, p x = true) : l.filter p = l := List.filter_eq_self.2 h
theorem filt_none (p : α → Bool) (h : ∀ x ∈ l, p x = false) : l.filter p = [] := List.filter_eq_nil_iff.2 (fun x hx => by rw [h x hx]; exact Bool.false_ne_true)
theorem putL_two (hN : ∀ x ∈ N, key x = t) (hN' : ∀ x ∈ N', key x = t') (hlt : t < t') : putL key (putL key l t N) t' N' = putL key (putL key l t' N') t N := by
  have a1 : (l.filter (fun x => decide (key x < t))).filter (fun x => decide (key x < t')) = l.filter (fun x => decide (key x < t)) := filt2 _ _ _ (fun x => by by_cases h : key x < t <;> simp [h]; omega)
  have a2 : N.filter (fun x => decide (key x < t')) = N := filt_all _ (fun x hx => by rw [hN x hx]; exact decide_eq_true hlt)
  have a3 : (l.filter (fun x => decide (key x < t))).filter (fun x => decide (t' < key x)) = [] := by
    rw [List.filter_filter]
    exact filt_none _ (fun x _ => by by_cases h : key x < t <;> simp [h]; omega)
  have a4 : N.filter (fun x => decide (t' < key x)) = [] := filt_none _ (fun x hx => by rw [hN x hx]; exact decide_eq_false (by omega))
  have a5 : (l.filter (fun x => decide (t < key x))).filter (fun x => decide (t' < key x)) = l.filter (fun x => decide (t' < key x)) := filt2 _ _ _ (fun x => by by_cases h : t' < key x <;> simp [h]; omega)
  have b1 : (l.filter (fun x => decide (key x < t'))).filter (fun x => decide (key x < t)) = l.filter (fun x => decide (key x < t)) := filt2 _ _ _ (fun x => by by_cases h : key x < t <;> simp [h]; omega)
  have b2 : N'.filter (fun x => decide (key x < t)) = [] := filt_none _ (fun x hx => by rw [hN' x hx]; exact decide_eq_false (by omega))
  have b3 : (l.filter (fun x => decide (t' < key x))).filter (fun x => decide (key x < t)) = [] := by
    rw [List.filter_filter]
    exact filt_none _ (fun x _ => by by_cases h : key x < t <;> simp [h]; omega)
  have b4 : N'.filter (fun x => decide (t < key x)) = N' := filt_all _ (fun x hx => by rw [hN' x hx]; exact decide_eq_true hlt)
  have b5 : (l.filter (fun x => decide (t' < key x))).filter (fun x => decide (t < key x)) = l.filter (fun x => decide (t' < key x)) := filt2 _ _ _ (fun x => by by_cases h : t' < key x <;> simp [h]; omega)
  have c1 : (l.filter (fun x => decide (t < key x))).filter (fun x => decide (key x < t')) = (l.filter (fun x => decide (key x < t'))).filter (fun x => decide (t < key x)) := by
    rw [List.filter_filter, List.filter_filter]
    exact List.filter_congr (fun x _ => Bool.and_comm _ _)
  unfold putL
  simp only [List.filter_append, a1, a2, a3, a4, a5, b1, b2, b3, b4, b5, c1, List.nil_append, List.append_nil, List.append_assoc]
theorem putL_comm (hN : ∀ x ∈ N, key x = t) (hN' : ∀ x ∈ N', key x = t') (hne : t ≠ t') : putL key (putL key l t N) t' N' = putL key (putL key l t' N') t N := by
  rcases Int.lt_or_gt_of_ne hne with h | h
  · exact putL_two hN hN' h
  · exact (putL_two hN' hN h).symm
theorem putL_again (hN : ∀ x ∈ N, key x = t) : putL key (putL key l t N) t N = putL key l t N := by
  have a1 : (l.filter (fun x => decide (key x < t))).filter (fun x => decide (key x < t)) = l.filter (fun x => decide (key x < t)) := filt2 _ _ _ (fun x => Bool.and_self _)
  have a2 : N.filter (fun x => decide (key x < t)) = [] := filt_none _ (fun x hx => by rw [hN x hx]; exact decide_eq_false (by omega))
  have a3 : (l.filter (fun x => decide (t < key x))).filter (fun x => decide (key x < t)) = [] := by
    rw [List.filter_filter]
    exact filt_none _ (fun x _ => by by_cases h : key x < t <;> simp [h]; omega)
  have b1 : (l.filter (fun x => decide (key x < t))).filter (fun x => decide (t < key x)) = [] := by
    rw [List.filter_filter]
    exact filt_none _ (fun x _ => by by_cases h : key x < t <;> simp [h]; omega)
  have b2 : N.filter (fun x => decide (t < key x)) = [] := filt_none _ (fun x hx => by rw [hN x hx]; exact decide_eq_false (by omega))
  have b3 : (l.filter (fun x => decide (t < key x))).filter (fun x => decide (t < key x)) = l.filter (fun x => decide (t < key x)) := filt2 _ _ _ (fun x => Bool.and_self _)
  unfold putL
  simp only [List.filter_append, a1, a2, a3, b1, b2, b3, List.nil_append, List.append_nil]
theorem putL_mem {x : α} (h : x ∈ putL key l t N) : x ∈ l ∨ x ∈ N := by
  unfold putL at h
  rcases List.mem_append.1 h with h | h
  · exact .inl (List.mem_filter.1 h).1
  · rcases List.mem_append.1 h with h | h
    · exact .inr h
    · exact .inl (List.mem_filter.1 h).1
theorem filt_len (p q : α → Bool) (h : ∀ x, ¬ (p x = true ∧ q x = true)) : ∀ l : List α, (l.filter p).length + (l.filter q).length ≤ l.length
  | [] => by simp
  | x :: l => by
    have ih := filt_len p q h l
    have hx := h x
    rw [List.filter_cons, List.filter_cons, List.length_cons]
    split <;> split <;> (try simp only [List.length_cons]) <;> first | omega | exact absurd ⟨by assumption, by assumption⟩ hx
theorem filt_len1 (p q : α → Bool) (h : ∀ x, ¬ (p x = true ∧ q x = true)) : ∀ l : List α, (∃ x ∈ l, p x = false ∧ q x = false) → (l.filter p).length + (l.filter q).length + 1 ≤ l.length
  | [], ⟨_, hx, _⟩ => absurd hx (List.not_mem_nil)
  | x :: l, ⟨y, hy, hp, hq⟩ => by
    rcases List.mem_cons.1 hy with rfl | hy
    · have := filt_len p q h l
      rw [List.filter_cons_of_neg (by rw [hp]; decide), List.filter_cons_of_neg (by rw [hq]; decide), List.length_cons]
      omega
    · have ih := filt_len1 p q h l ⟨y, hy, hp, hq⟩
      have hx := h x
      rw [List.filter_cons, List.filter_cons, List.length_cons]
      split <;> split <;> (try simp only [List.length_cons]) <;> first | omega | exact absurd ⟨by assumption, by assumption⟩ hx
theorem putL_len1 (hm : ∃ x ∈ l, key x = t) : (putL key l t N).length + 1 ≤ l.length + N.length := by
  unfold putL
  rw [List.length_append, List.length_append]
  obtain ⟨x, hx, he⟩ := hm
  have := filt_len1 (fun x => decide (key x < t)) (fun x => decide (t < key x)) (fun x ⟨h1, h2⟩ => by have := of_decide_eq_true h1; have := of_decide_eq_true h2; omega) l ⟨x, hx, decide_eq_false (by omega), decide_eq_false (by omega)⟩
  omega
theorem putL_len : (putL key l t N).length ≤ l.length + N.length := by
  unfold putL
  rw [List.length_append, List.length_append]
  have := filt_len (fun x => decide (key x < t)) (fun x => decide (t < key x)) (fun x ⟨h1, h2⟩ => by have := of_decide_eq_true h1; have := of_decide_eq_true h2; omega) l
  omega
theorem Rise.pw {r : List Int} (h : Rise r) : r.Pairwise (· < ·) := List.pairwise_iff_getElem.2 (fun i j _ hj hij => h.lt i j hj hij)
theorem Rise.of {r : List Int} (h : r.Pairwise (· < ·)) : Rise r := fun j hj => List.pairwise_iff_getElem.1 h j (j + 1) (by omega) hj (by omega)
theorem putL_rise (hr : Rise (l.map key)) (hN : ∀ x ∈ N, key x = t) (h1 : N.length ≤ 1) : Rise ((putL key l t N).map key) := by
  have hp := List.pairwise_map.1 hr.pw
  refine Rise.of (List.pairwise_map.2 ?_)
  unfold putL
  refine List.pairwise_append.2 ⟨hp.filter _, List.pairwise_append.2 ⟨?_, hp.filter _, ?_⟩, ?_⟩
  · match N, h1 with
    | [], _ => exact List.Pairwise.nil
    | [x], _ => exact List.pairwise_singleton _ _
  · intro a ha b hb
    have := of_decide_eq_true (List.mem_filter.1 hb).2
    rw [hN a ha]
    exact this
  · intro a ha b hb
    have h2 := of_decide_eq_true (List.mem_filter.1 ha).2
    rcases List.mem_append.1 hb with h | h
    · rw [hN b h]; exact h2
    · have := of_decide_eq_true (List.mem_filter.1 h).2
      omega
end
/-- What one put adds. -/
abbrev newC (sd : W64) (c : Ck) : List Ck := if firstB sd c = true then [] else [c]
theorem newC_key (sd : W64) (c : Ck) : ∀ x ∈ newC sd c, plcK x = plcK c := by
  intro x hx
  unfold newC at hx
  split at hx
  · cases hx
  · rw [List.mem_singleton.1 hx]
theorem newC_len (sd : W64) (c : Ck) : (newC sd c).length ≤ 1 := by unfold newC; split <;> simp
section
variable {v : Wv} {c c' : Ck} {p p' : Py}
theorem RgtW.put (r : RgtW v) : RgtW (putV v c) := by
  unfold putV
  split
  · split
    · rename_i hc
      have hc' := rgtCW_iff.1 hc
      refine ⟨r.s, r.t, fun d hd => ?_, putL_rise (key := plcK) r.cr (newC_key _ _) (newC_len _ _), r.pn, r.p, r.pr⟩
      rcases putL_mem (key := plcK) hd with h | h
      · exact r.c d h
      · split at h
        · cases h
        · rw [List.mem_singleton.1 h]; exact hc'
    · exact r
  · exact r
theorem ByW.put (hb : ByW v) (hc : ByC c) : ByW (putV v c) := by
  unfold putV
  split
  · split
    · refine ⟨fun d hd => ?_, hb.p⟩
      rcases putL_mem (key := plcK) hd with h | h
      · exact hb.c d h
      · split at h
        · cases h
        · rw [List.mem_singleton.1 h]; exact hc
    · exact hb
  · exact hb
theorem putE_r (r : RgtW v) : putE v c = if rgtCW v.size c = true then 0 else 101 := by unfold putE; rw [if_pos (rgtW_iff.2 r)]
theorem putV_r (r : RgtW v) : putV v c = if rgtCW v.size c = true then ⟨v.size, v.sd, v.tick, putL plcK v.cs (plcK c) (newC v.sd c), v.ps⟩ else v := by unfold putV; rw [if_pos (rgtW_iff.2 r)]; rfl
theorem putV_keep : (putV v c).size = v.size ∧ (putV v c).sd = v.sd ∧ (putV v c).ps = v.ps := by unfold putV; split <;> (try split) <;> exact ⟨rfl, rfl, rfl⟩
theorem put_comm (r : RgtW v) (h0 : rgtCW v.size c = true) (h1 : rgtCW v.size c' = true) (hne : plcK c ≠ plcK c') : putV (putV v c) c' = putV (putV v c') c := by
  rw [putV_r r.put, putV_r (c := c) r.put, putV_keep.1, putV_keep.1, if_pos h1, if_pos h0, putV_r r, putV_r r, if_pos h0, if_pos h1]
  show Wv.mk _ _ _ _ _ = Wv.mk _ _ _ _ _
  rw [putL_comm (newC_key _ _) (newC_key _ _) hne]
theorem put_again (r : RgtW v) (h0 : rgtCW v.size c = true) : putV (putV v c) c = putV v c := by
  rw [putV_r r.put, putV_keep.1, if_pos h0, putV_r r, if_pos h0]
  show Wv.mk _ _ _ _ _ = Wv.mk _ _ _ _ _
  rw [putL_again (newC_key _ _)]
/-- There is room for a player. -/
def Sok (v : Wv) (p : Py) : Prop := v.ps.length ≤ 31 ∨ p.id ∈ v.ps.map Py.id ∨ rgtP v.size p = false
theorem setE_s (h : Sok v p) : setE v p = if rgtP v.size p = true then 0 else 110 := by
  unfold setE
  rcases h with h | h | h
  · rw [if_neg (show ¬ (¬ p.id ∈ v.ps.map Py.id ∧ v.ps.length = 32) from fun q => by have := q.2; omega)]
  · rw [if_neg (show ¬ (¬ p.id ∈ v.ps.map Py.id ∧ v.ps.length = 32) from fun q => q.1 h)]
  · rw [h]; rfl
theorem setV_s (h : Sok v p) : setV v p = if rgtP v.size p = true then ⟨v.size, v.sd, v.tick, v.cs, putL Py.id v.ps p.id [p]⟩ else v := by
  unfold setV
  rw [setE_s h]
  cases rgtP v.size p <;> rfl
theorem setE_r (h : v.ps.length ≤ 31) : setE v p = if rgtP v.size p = true then 0 else 110 := setE_s (.inl h)
theorem setV_r (h : v.ps.length ≤ 31) : setV v p = if rgtP v.size p = true then ⟨v.size, v.sd, v.tick, v.cs, putL Py.id v.ps p.id [p]⟩ else v := setV_s (.inl h)
theorem setV_len (h : v.ps.length ≤ 31) : (setV v p).ps.length ≤ v.ps.length + 1 := by
  rw [setV_r h]
  split
  · have := putL_len (key := Py.id) (l := v.ps) (t := p.id) (N := [p])
    exact this
  · omega
theorem one_key (p : Py) : ∀ x ∈ [p], Py.id x = p.id := fun x hx => by rw [List.mem_singleton.1 hx]
theorem RgtW.set (r : RgtW v) (h : Sok v p) : RgtW (setV v p) := by
  rw [setV_s h]
  split
  · rename_i hp
    refine ⟨r.s, r.t, r.c, r.cr, ?_, fun q hq => ?_, putL_rise (key := Py.id) r.pr (one_key p) (Nat.le_refl 1)⟩
    · show (putL Py.id v.ps p.id [p]).length ≤ 32
      rcases h with h | h | h
      · have := putL_len (key := Py.id) (l := v.ps) (t := p.id) (N := [p])
        simp only [List.length_singleton] at this
        omega
      · obtain ⟨x, hx, he⟩ := List.mem_map.1 h
        have := putL_len1 (key := Py.id) (l := v.ps) (t := p.id) (N := [p]) ⟨x, hx, he⟩
        simp only [List.length_singleton] at this
        have := r.pn
        omega
      · rw [h] at hp; cases hp
    · rcases putL_mem (key := Py.id) hq with h | h
      · exact r.p q h
      · rw [List.mem_singleton.1 h]; exact hp
  · exact r
theorem ByW.set (hb : ByW v) (hp : By p.bag ∧ By p.off) : ByW (setV v p) := by
  unfold setV
  split
  · refine ⟨hb.c, fun q hq => ?_⟩
    rcases putL_mem (key := Py.id) hq with h | h
    · exact hb.p q h
    · rw [List.mem_singleton.1 h]; exact hp
  · exact hb
theorem setV_keep : (setV v p).size = v.size := by unfold setV; split <;> rfl
theorem set_comm (h : v.ps.length ≤ 30) (h0 : rgtP v.size p = true) (h1 : rgtP v.size p' = true) (hne : p.id ≠ p'.id) : setV (setV v p) p' = setV (setV v p') p := by
  have l0 := setV_len (v := v) (p := p) (by omega)
  have l1 := setV_len (v := v) (p := p') (by omega)
  rw [setV_r (v := setV v p) (by omega), setV_r (v := setV v p') (by omega), setV_keep, setV_keep, if_pos h1, if_pos h0, setV_r (by omega), setV_r (by omega), if_pos h0, if_pos h1]
  show Wv.mk _ _ _ _ _ = Wv.mk _ _ _ _ _
  rw [putL_comm (one_key p) (one_key p') hne]
theorem set_mem (h : Sok v p) (h0 : rgtP v.size p = true) : p.id ∈ (setV v p).ps.map Py.id := by
  rw [setV_s h, if_pos h0]
  refine List.mem_map.2 ⟨p, ?_, rfl⟩
  show p ∈ putL Py.id v.ps p.id [p]
  unfold putL
  exact List.mem_append.2 (.inr (List.mem_append.2 (.inl (List.mem_singleton.2 rfl))))
theorem Sok.again (h : Sok v p) : Sok (setV v p) p := by
  cases hq : rgtP v.size p with
  | true => exact .inr (.inl (set_mem h hq))
  | false => exact .inr (.inr (by rw [setV_keep]; exact hq))
theorem set_twice (h : Sok v p) : setV (setV v p) p = setV v p := by
  rw [setV_s h.again, setV_keep]
  split
  · rename_i h0
    rw [setV_s h, if_pos h0]
    show Wv.mk _ _ _ _ _ = Wv.mk _ _ _ _ _
    rw [putL_again (one_key p)]
  · rfl
theorem set_again (h : v.ps.length ≤ 30) (h0 : rgtP v.size p = true) : setV (setV v p) p = setV v p := by
  have l0 := setV_len (v := v) (p := p) (by omega)
  rw [setV_r (v := setV v p) (by omega), setV_keep, if_pos h0, setV_r (by omega), if_pos h0]
  show Wv.mk _ _ _ _ _ = Wv.mk _ _ _ _ _
  rw [putL_again (one_key p)]
end
section
variable {w w' : World}
set_option maxRecDepth 100000 in
set_option maxHeartbeats 1600000 in
theorem samepl_yes {P Q : Pl} (hP : RdP w P) (hQ : RdP w Q) (he : P.py = Q.py) (h1 : P.n1 ≤ 100000) (h2 : P.n2 ≤ 100000) : Calls Tryd.prog 20 #[P.val, Q.val] w fun e w' => e = .returned (.bool true) ∧ Fr No w w' := by
  obtain ⟨id, x, y, A1, n1, c1, l1, wi, A2, n2, c2, l2, ag⟩ := P
  obtain ⟨id', x', y', B1, m1, e1, k1, wi', B2, m2, e2, k2, ag'⟩ := Q
  dsimp only [Pl.py] at he
  injection he with q1 q2 q3 q4 q5 q6 q7
  subst q1 q2 q3 q4 q5 q6 q7
  have r1 := hP.r1
  have s1 := hQ.r1
  have r2 := hP.r2
  have s2 := hQ.r2
  dsimp only at r1 r2 s1 s2 h1 h2
  obtain rfl : n1 = m1 := by rw [← r1.1, ← s1.1]
  obtain rfl : n2 = m2 := by rw [← r2.1, ← s2.1]
  have HS1 := Lib.hid (fun W (hW : Fr No w W) => same_yes (r1.no hW) (s1.no hW) c1 e1 h1)
  have HS2 := Lib.hid (fun W (hW : Fr No w W) => same_yes (r2.no hW) (s2.no hW) c2 e2 h2)
  clear hP hQ r1 s1 r2 s2 h1 h2
  dsimp only [Pl.val]
  have hb0 := heap_alloc_new w (.cells #[.int .i64 id, .int .i64 x, .int .i64 y, .slice A1 n1 c1, .int .i64 wi, .slice A2 n2 c2, .bool ag] 35)
  have hf0 := Fr.alloc No w (.cells #[.int .i64 id, .int .i64 x, .int .i64 y, .slice A1 n1 c1, .int .i64 wi, .slice A2 n2 c2, .bool ag] 35)
  have hb1 := heap_alloc_new (w.alloc (.cells #[.int .i64 id, .int .i64 x, .int .i64 y, .slice A1 n1 c1, .int .i64 wi, .slice A2 n2 c2, .bool ag] 35)) (.cells #[.int .i64 id, .int .i64 x, .int .i64 y, .slice B1 n1 e1, .int .i64 wi, .slice B2 n2 e2, .bool ag] 35)
  have hf1 := Fr.alloc No (w.alloc (.cells #[.int .i64 id, .int .i64 x, .int .i64 y, .slice A1 n1 c1, .int .i64 wi, .slice A2 n2 c2, .bool ag] 35)) (.cells #[.int .i64 id, .int .i64 x, .int .i64 y, .slice B1 n1 e1, .int .i64 wi, .slice B2 n2 e2, .bool ag] 35)
  have hbD := blk_no hf1 hb0
  have HFX := Lib.hid (hf0.no_trans hf1)
  simp only [World.size_alloc] at hb1
  clear hb0 hf0 hf1
  go_enter Tryd.func20, Tryd.ntmps20
  go_upto_region 1 with fail
  obtain ⟨D, hD⟩ : ∃ D, w.heap.size = D := ⟨_, rfl⟩
  rw [hD] at hbD hb1 ⊢
  clear hD
  generalize (w.alloc (.cells #[.int .i64 id, .int .i64 x, .int .i64 y, .slice A1 n1 c1, .int .i64 wi, .slice A2 n2 c2, .bool ag] 35)).alloc (.cells #[.int .i64 id, .int .i64 x, .int .i64 y, .slice B1 n1 e1, .int .i64 wi, .slice B2 n2 e2, .bool ag] 35) = wx at *
  have hALL : Hid (∀ W, Fr No wx W → W.cell? ⟨D, 5, none⟩ = some (.slice A2 n2 c2) ∧ W.cell? ⟨D + 1, 5, none⟩ = some (.slice B2 n2 e2)) := Lib.hid (fun W hW => ⟨(cells7 (blk_no hW hbD)).2.2.2.2.2.1, (cells7 (blk_no hW hb1)).2.2.2.2.2.1⟩)
  obtain ⟨g0, g1, g2, g3, g4, g5, g6⟩ := cells7 hbD
  obtain ⟨k0, k1, k2, k3, k4, k5, k6⟩ := cells7 hb1
  clear hbD hb1
  go_wp2_with fail
  refine (HS1.out _ HFX.out).mono ?_
  rintro e w1 ⟨rfl, hf⟩
  have HF1 := Lib.hid hf
  clear hf g0 g1 g2 g3 g4 g5 g6 k0 k1 k2 k3 k4 k5 k6
  obtain ⟨g5, k5⟩ := hALL.out _ HF1.out
  go_wp2_with fail
  refine (HS2.out _ (HFX.out.no_trans HF1.out)).mono ?_
  rintro e w2 ⟨rfl, hf⟩
  have HF2 := Lib.hid hf
  clear hf
  go_wp2_with fail
  go_ret
  exact ⟨rfl, HFX.out.no_trans (HF1.out.no_trans HF2.out)⟩
set_option maxRecDepth 100000 in
set_option maxHeartbeats 3200000 in
theorem wsame_yes {a b : Wd} (ha3 : RdCs w a.A3 a.n3 a.cs) (ha4 : RdPs w a.A4 a.n4 a.ps) (hb3 : RdCs w b.A3 b.n3 b.cs) (hb4 : RdPs w b.A4 b.n4 b.ps) (z : SzW a) (he : a.v = b.v) : Calls Tryd.prog 11 #[a.val, b.val] w fun e w' => e = .returned (.bool true) ∧ Fr No w w' := by
  obtain ⟨size, sd, tick, A3, n3, c3, cs, A4, n4, c4, ps⟩ := a
  obtain ⟨size', sd', tick', B3, m3, e3, ds, B4, m4, e4, qs⟩ := b
  dsimp only [Wd.v] at he
  injection he with q1 q2 q3 q4 q5
  subst q1 q2 q3
  have l3 : cs.length = ds.length := by have := congrArg List.length q4; rwa [List.length_map, List.length_map] at this
  have l4 : ps.length = qs.length := by have := congrArg List.length q5; rwa [List.length_map, List.length_map] at this
  have a3 : cs.length = n3 := ha3.2.1
  have a4 : ps.length = n4 := ha4.2.1
  obtain rfl : m3 = n3 := by have : ds.length = m3 := hb3.2.1; omega
  obtain rfl : m4 = n4 := by have : qs.length = m4 := hb4.2.1; omega
  have HX3 := Lib.hid (fun W (hW : Fr No w W) => ha3.no hW)
  have HX4 := Lib.hid (fun W (hW : Fr No w W) => ha4.no hW)
  have HY3 := Lib.hid (fun W (hW : Fr No w W) => hb3.no hW)
  have HY4 := Lib.hid (fun W (hW : Fr No w W) => hb4.no hW)
  have HL : Hid (cs.length = m3 ∧ ds.length = m3 ∧ ps.length = m4 ∧ qs.length = m4) := Lib.hid ⟨by omega, by omega, by omega, by omega⟩
  have HN3 : Hid (m3 ≤ 100000) := Lib.hid z.z3
  have HN4 : Hid (m4 ≤ 100000) := Lib.hid z.z4
  have HC : Hid (∀ k (hk : k < cs.length) (hk' : k < ds.length) W, Fr No w W → Calls Tryd.prog 35 #[.agg #[.int .i64 cs[k].x, .int .i64 cs[k].y, .slice cs[k].A1 cs[k].n1 cs[k].c1, .slice cs[k].A2 cs[k].n2 cs[k].c2, .slice cs[k].A3 cs[k].n3 cs[k].c3], .agg #[.int .i64 ds[k].x, .int .i64 ds[k].y, .slice ds[k].A1 ds[k].n1 ds[k].c1, .slice ds[k].A2 ds[k].n2 ds[k].c2, .slice ds[k].A3 ds[k].n3 ds[k].c3]] W fun e w' => e = .returned (.bool true) ∧ Fr No W w') := Lib.hid (fun k hk hk' W hW => by
    have hz := z.zc _ (List.getElem_mem hk)
    have hr := (ha3.no hW).2.2 _ (List.getElem_mem hk)
    refine chsame_yes hr ((hb3.no hW).2.2 _ (List.getElem_mem hk')) ?_ hz.z1 hz.z2 hz.z3 (fun b hb => ?_)
    · have e1 := List.getElem_map (l := cs) Ch.ck (i := k) (h := by simpa using hk)
      have e2 := List.getElem_map (l := ds) Ch.ck (i := k) (h := by simpa using hk')
      rw [← e1, ← e2]
      congr 1
    · have := hz.z4 b hb
      obtain ⟨j, hj, rfl⟩ := List.getElem_of_mem hb
      obtain ⟨_, _, _, _, hc⟩ := hr.r3.2 (by have := hr.r3.1; omega)
      have := (hc j hj).2.2.1
      omega)
  have HP : Hid (∀ k (hk : k < ps.length) (hk' : k < qs.length) W, Fr No w W → Calls Tryd.prog 20 #[.agg #[.int .i64 ps[k].id, .int .i64 ps[k].x, .int .i64 ps[k].y, .slice ps[k].A1 ps[k].n1 ps[k].c1, .int .i64 ps[k].wi, .slice ps[k].A2 ps[k].n2 ps[k].c2, .bool ps[k].ag], .agg #[.int .i64 qs[k].id, .int .i64 qs[k].x, .int .i64 qs[k].y, .slice qs[k].A1 qs[k].n1 qs[k].c1, .int .i64 qs[k].wi, .slice qs[k].A2 qs[k].n2 qs[k].c2, .bool qs[k].ag]] W fun e w' => e = .returned (.bool true) ∧ Fr No W w') := Lib.hid (fun k hk hk' W hW => by
    have hz := z.zp _ (List.getElem_mem hk)
    refine samepl_yes ((ha4.no hW).2.2 _ (List.getElem_mem hk)) ((hb4.no hW).2.2 _ (List.getElem_mem hk')) ?_ hz.1 hz.2
    have e1 := List.getElem_map (l := ps) Pl.py (i := k) (h := by simpa using hk)
    have e2 := List.getElem_map (l := qs) Pl.py (i := k) (h := by simpa using hk')
    rw [← e1, ← e2]
    congr 1)
  obtain ⟨SV, hSV⟩ : ∃ SV, (sd.toNat : Int) = SV := ⟨_, rfl⟩
  dsimp only [Wd.val, u64v]
  rw [hSV]
  clear ha3 ha4 hb3 hb4 z q4 q5 l3 l4 a3 a4 hSV
  have hb0 := heap_alloc_new w (.cells #[.int .i64 size, .int .u64 SV, .int .i64 tick, .slice A3 m3 c3, .slice A4 m4 c4] 26)
  have hf0 := Fr.alloc No w (.cells #[.int .i64 size, .int .u64 SV, .int .i64 tick, .slice A3 m3 c3, .slice A4 m4 c4] 26)
  have hb1 := heap_alloc_new (w.alloc (.cells #[.int .i64 size, .int .u64 SV, .int .i64 tick, .slice A3 m3 c3, .slice A4 m4 c4] 26)) (.cells #[.int .i64 size, .int .u64 SV, .int .i64 tick, .slice B3 m3 e3, .slice B4 m4 e4] 26)
  have hf1 := Fr.alloc No (w.alloc (.cells #[.int .i64 size, .int .u64 SV, .int .i64 tick, .slice A3 m3 c3, .slice A4 m4 c4] 26)) (.cells #[.int .i64 size, .int .u64 SV, .int .i64 tick, .slice B3 m3 e3, .slice B4 m4 e4] 26)
  have hbD := blk_no hf1 hb0
  have HFX := Lib.hid (hf0.no_trans hf1)
  simp only [World.size_alloc] at hb1
  clear hb0 hf0 hf1
  go_enter Tryd.func11, Tryd.ntmps11
  go_upto_region 1 with fail
  obtain ⟨D, hD⟩ : ∃ D, w.heap.size = D := ⟨_, rfl⟩
  rw [hD] at hbD hb1 ⊢
  clear hD
  generalize (w.alloc (.cells #[.int .i64 size, .int .u64 SV, .int .i64 tick, .slice A3 m3 c3, .slice A4 m4 c4] 26)).alloc (.cells #[.int .i64 size, .int .u64 SV, .int .i64 tick, .slice B3 m3 e3, .slice B4 m4 e4] 26) = wx at *
  have hALL : Hid (∀ W, Fr No wx W → (W.cell? ⟨D, 3, none⟩ = some (.slice A3 m3 c3) ∧ W.cell? ⟨D, 4, none⟩ = some (.slice A4 m4 c4)) ∧ (W.cell? ⟨D + 1, 3, none⟩ = some (.slice B3 m3 e3) ∧ W.cell? ⟨D + 1, 4, none⟩ = some (.slice B4 m4 e4))) := Lib.hid (fun W hW => ⟨⟨(cells5 (blk_no hW hbD)).2.2.2.1, (cells5 (blk_no hW hbD)).2.2.2.2⟩, ⟨(cells5 (blk_no hW hb1)).2.2.2.1, (cells5 (blk_no hW hb1)).2.2.2.2⟩⟩)
  obtain ⟨g0, g1, g2, g3, g4⟩ := cells5 hbD
  obtain ⟨k0, k1, k2, k3, k4⟩ := cells5 hb1
  clear hbD hb1
  go_wp2_with fail
  clear g0 g1 g2 g3 g4 k0 k1 k2 k3 k4
  go_loopw [47] (fun v47 wr => ∃ k : Nat, k ≤ m3 ∧ v47 = .int .i64 (k : Int) ∧ Fr No wx wr) (fun v47 _ => m3 - (intOf v47).toNat)
  case atStart => exact ⟨0, by omega, rfl, Fr.refl _ _⟩
  case round =>
    obtain ⟨k, hk, rfl, hf⟩ := hrel
    have HF := Lib.hid hf
    clear hf
    by_cases hlt : k < m3
    · have hkl : k < cs.length := by rw [HL.out.1]; exact hlt
      have hkl' : k < ds.length := by rw [HL.out.2.1]; exact hlt
      obtain ⟨b, o, rfl, hbs, y0, y1, y2, y3, y4⟩ := (HX3.out wr (HFX.out.no_trans HF.out)).at k hkl
      obtain ⟨b', o', rfl, hbs', x0, x1, x2, x3, x4⟩ := (HY3.out wr (HFX.out.no_trans HF.out)).at k hkl'
      have HR := Lib.hid (HC.out k hkl hkl')
      have hwk : IntKind.i64.wrap ((k : Int) + 1) = ((k + 1 : Nat) : Int) := by
        rw [show ((k : Int) + 1) = ((k + 1 : Nat) : Int) by omega]
        exact IntWalk.i64_in _ (by have := HN3.out; omega)
      have hi1 : (k : Int) < (m3 : Int) := by omega
      have hi0 : (0 : Int) ≤ (k : Int) := by omega
      have hWS : Hid (∀ W, Fr No wr W → (W.cell? ⟨D, 3, none⟩ = some (.slice (some ⟨b, o, none⟩) m3 c3) ∧ W.cell? ⟨D + 1, 3, none⟩ = some (.slice (some ⟨b', o', none⟩) m3 e3)) ∧ (W.cell? ⟨b, o + k * 5, none⟩ = some (.int .i64 cs[k].x) ∧ W.cell? ⟨b, o + k * 5 + 1, none⟩ = some (.int .i64 cs[k].y) ∧ W.cell? ⟨b, o + k * 5 + 2, none⟩ = some (.slice cs[k].A1 cs[k].n1 cs[k].c1) ∧ W.cell? ⟨b, o + k * 5 + 3, none⟩ = some (.slice cs[k].A2 cs[k].n2 cs[k].c2) ∧ W.cell? ⟨b, o + k * 5 + 4, none⟩ = some (.slice cs[k].A3 cs[k].n3 cs[k].c3)) ∧ (W.cell? ⟨b', o' + k * 5, none⟩ = some (.int .i64 ds[k].x) ∧ W.cell? ⟨b', o' + k * 5 + 1, none⟩ = some (.int .i64 ds[k].y) ∧ W.cell? ⟨b', o' + k * 5 + 2, none⟩ = some (.slice ds[k].A1 ds[k].n1 ds[k].c1) ∧ W.cell? ⟨b', o' + k * 5 + 3, none⟩ = some (.slice ds[k].A2 ds[k].n2 ds[k].c2) ∧ W.cell? ⟨b', o' + k * 5 + 4, none⟩ = some (.slice ds[k].A3 ds[k].n3 ds[k].c3))) := Lib.hid (fun W hW => ⟨⟨(hALL.out W (HF.out.no_trans hW)).1.1, (hALL.out W (HF.out.no_trans hW)).2.1⟩, ⟨(cell_no hW hbs _).trans y0, (cell_no hW hbs _).trans y1, (cell_no hW hbs _).trans y2, (cell_no hW hbs _).trans y3, (cell_no hW hbs _).trans y4⟩, ⟨(cell_no hW hbs' _).trans x0, (cell_no hW hbs' _).trans x1, (cell_no hW hbs' _).trans x2, (cell_no hW hbs' _).trans x3, (cell_no hW hbs' _).trans x4⟩⟩)
      clear hbs hbs' y0 y1 y2 y3 y4 x0 x1 x2 x3 x4
      generalize cs[k].x = u0 at *
      generalize cs[k].y = u1 at *
      generalize cs[k].A1 = uA1 at *
      generalize cs[k].n1 = un1 at *
      generalize cs[k].c1 = uc1 at *
      generalize cs[k].A2 = uA2 at *
      generalize cs[k].n2 = un2 at *
      generalize cs[k].c2 = uc2 at *
      generalize cs[k].A3 = uA3 at *
      generalize cs[k].n3 = un3 at *
      generalize cs[k].c3 = uc3 at *
      generalize ds[k].x = v0 at *
      generalize ds[k].y = v1 at *
      generalize ds[k].A1 = vA1 at *
      generalize ds[k].n1 = vn1 at *
      generalize ds[k].c1 = vc1 at *
      generalize ds[k].A2 = vA2 at *
      generalize ds[k].n2 = vn2 at *
      generalize ds[k].c2 = vc2 at *
      generalize ds[k].A3 = vA3 at *
      generalize ds[k].n3 = vn3 at *
      generalize ds[k].c3 = vc3 at *
      have d0 := hWS.out wr (Fr.refl No wr)
      have dd := hWS.out wr.drew (Fr.drew No wr)
      go_upto_region 6 with fail
      go_region_held3 (fun W => (W.cell? ⟨D, 3, none⟩ = some (.slice (some ⟨b, o, none⟩) m3 c3) ∧ W.cell? ⟨D + 1, 3, none⟩ = some (.slice (some ⟨b', o', none⟩) m3 e3)) ∧ (W.cell? ⟨b, o + k * 5, none⟩ = some (.int .i64 u0) ∧ W.cell? ⟨b, o + k * 5 + 1, none⟩ = some (.int .i64 u1) ∧ W.cell? ⟨b, o + k * 5 + 2, none⟩ = some (.slice uA1 un1 uc1) ∧ W.cell? ⟨b, o + k * 5 + 3, none⟩ = some (.slice uA2 un2 uc2) ∧ W.cell? ⟨b, o + k * 5 + 4, none⟩ = some (.slice uA3 un3 uc3)) ∧ (W.cell? ⟨b', o' + k * 5, none⟩ = some (.int .i64 v0) ∧ W.cell? ⟨b', o' + k * 5 + 1, none⟩ = some (.int .i64 v1) ∧ W.cell? ⟨b', o' + k * 5 + 2, none⟩ = some (.slice vA1 vn1 vc1) ∧ W.cell? ⟨b', o' + k * 5 + 3, none⟩ = some (.slice vA2 vn2 vc2) ∧ W.cell? ⟨b', o' + k * 5 + 4, none⟩ = some (.slice vA3 vn3 vc3)))
        (first | exact d5 | exact dd | exact d0)
        (first
          | (go_at_call 35; refine (HR.out _ (HFX.out.no_trans (HF.out.no_trans (Fr.drew No wr)))).mono ?_; rintro e w5 ⟨rfl, hf⟩; have HF5 := Lib.hid ((Fr.drew No wr).no_trans hf); have d5 := hWS.out w5 HF5.out; clear hf))
      go_wp2_with fail
      go_roundw
      case rel => exact ⟨k + 1, by omega, by go_num, HF.out.no_trans HF5.out⟩
      case measure => simp [intOf]; omega
    · have hkn : k = m3 := by omega
      subst hkn
      obtain ⟨⟨g3, g4⟩, ⟨k3, k4⟩⟩ := hALL.out _ HF.out
      go_wp2_with fail
      clear g3 g4 k3 k4
      go_loopw [66] (fun v66 wr => ∃ q : Nat, q ≤ m4 ∧ v66 = .int .i64 (q : Int) ∧ Fr No wx wr) (fun v66 _ => m4 - (intOf v66).toNat)
      case atStart => exact ⟨0, by omega, rfl, HF.out⟩
      case round =>
        obtain ⟨q, hq, rfl, hf⟩ := hrel
        have HFq := Lib.hid hf
        clear hf
        by_cases hlt : q < m4
        · have hkl : q < ps.length := by rw [HL.out.2.2.1]; exact hlt
          have hkl' : q < qs.length := by rw [HL.out.2.2.2]; exact hlt
          obtain ⟨b, o, rfl, hbs, y0, y1, y2, y3, y4, y5, y6⟩ := (HX4.out wr (HFX.out.no_trans HFq.out)).at q hkl
          obtain ⟨b', o', rfl, hbs', x0, x1, x2, x3, x4, x5, x6⟩ := (HY4.out wr (HFX.out.no_trans HFq.out)).at q hkl'
          have HR := Lib.hid (HP.out q hkl hkl')
          have hwk : IntKind.i64.wrap ((q : Int) + 1) = ((q + 1 : Nat) : Int) := by
            rw [show ((q : Int) + 1) = ((q + 1 : Nat) : Int) by omega]
            exact IntWalk.i64_in _ (by have := HN4.out; omega)
          have hi1 : (q : Int) < (m4 : Int) := by omega
          have hi0 : (0 : Int) ≤ (q : Int) := by omega
          have hWS : Hid (∀ W, Fr No wr W → (W.cell? ⟨D, 4, none⟩ = some (.slice (some ⟨b, o, none⟩) m4 c4) ∧ W.cell? ⟨D + 1, 4, none⟩ = some (.slice (some ⟨b', o', none⟩) m4 e4)) ∧ (W.cell? ⟨b, o + q * 7, none⟩ = some (.int .i64 ps[q].id) ∧ W.cell? ⟨b, o + q * 7 + 1, none⟩ = some (.int .i64 ps[q].x) ∧ W.cell? ⟨b, o + q * 7 + 2, none⟩ = some (.int .i64 ps[q].y) ∧ W.cell? ⟨b, o + q * 7 + 3, none⟩ = some (.slice ps[q].A1 ps[q].n1 ps[q].c1) ∧ W.cell? ⟨b, o + q * 7 + 4, none⟩ = some (.int .i64 ps[q].wi) ∧ W.cell? ⟨b, o + q * 7 + 5, none⟩ = some (.slice ps[q].A2 ps[q].n2 ps[q].c2) ∧ W.cell? ⟨b, o + q * 7 + 6, none⟩ = some (.bool ps[q].ag)) ∧ (W.cell? ⟨b', o' + q * 7, none⟩ = some (.int .i64 qs[q].id) ∧ W.cell? ⟨b', o' + q * 7 + 1, none⟩ = some (.int .i64 qs[q].x) ∧ W.cell? ⟨b', o' + q * 7 + 2, none⟩ = some (.int .i64 qs[q].y) ∧ W.cell? ⟨b', o' + q * 7 + 3, none⟩ = some (.slice qs[q].A1 qs[q].n1 qs[q].c1) ∧ W.cell? ⟨b', o' + q * 7 + 4, none⟩ = some (.int .i64 qs[q].wi) ∧ W.cell? ⟨b', o' + q * 7 + 5, none⟩ = some (.slice qs[q].A2 qs[q].n2 qs[q].c2) ∧ W.cell? ⟨b', o' + q * 7 + 6, none⟩ = some (.bool qs[q].ag))) := Lib.hid (fun W hW => ⟨⟨(hALL.out W (HFq.out.no_trans hW)).1.2, (hALL.out W (HFq.out.no_trans hW)).2.2⟩, ⟨(cell_no hW hbs _).trans y0, (cell_no hW hbs _).trans y1, (cell_no hW hbs _).trans y2, (cell_no hW hbs _).trans y3, (cell_no hW hbs _).trans y4, (cell_no hW hbs _).trans y5, (cell_no hW hbs _).trans y6⟩, ⟨(cell_no hW hbs' _).trans x0, (cell_no hW hbs' _).trans x1, (cell_no hW hbs' _).trans x2, (cell_no hW hbs' _).trans x3, (cell_no hW hbs' _).trans x4, (cell_no hW hbs' _).trans x5, (cell_no hW hbs' _).trans x6⟩⟩)
          clear hbs hbs' y0 y1 y2 y3 y4 y5 y6 x0 x1 x2 x3 x4 x5 x6
          generalize ps[q].id = u0 at *
          generalize ps[q].x = u1 at *
          generalize ps[q].y = u2 at *
          generalize ps[q].wi = u3 at *
          generalize ps[q].ag = u4 at *
          generalize ps[q].A1 = uA1 at *
          generalize ps[q].n1 = un1 at *
          generalize ps[q].c1 = uc1 at *
          generalize ps[q].A2 = uA2 at *
          generalize ps[q].n2 = un2 at *
          generalize ps[q].c2 = uc2 at *
          generalize qs[q].id = v0 at *
          generalize qs[q].x = v1 at *
          generalize qs[q].y = v2 at *
          generalize qs[q].wi = v3 at *
          generalize qs[q].ag = v4 at *
          generalize qs[q].A1 = vA1 at *
          generalize qs[q].n1 = vn1 at *
          generalize qs[q].c1 = vc1 at *
          generalize qs[q].A2 = vA2 at *
          generalize qs[q].n2 = vn2 at *
          generalize qs[q].c2 = vc2 at *
          have d0 := hWS.out wr (Fr.refl No wr)
          have dd := hWS.out wr.drew (Fr.drew No wr)
          go_upto_region 12 with fail
          go_region_held3 (fun W => (W.cell? ⟨D, 4, none⟩ = some (.slice (some ⟨b, o, none⟩) m4 c4) ∧ W.cell? ⟨D + 1, 4, none⟩ = some (.slice (some ⟨b', o', none⟩) m4 e4)) ∧ (W.cell? ⟨b, o + q * 7, none⟩ = some (.int .i64 u0) ∧ W.cell? ⟨b, o + q * 7 + 1, none⟩ = some (.int .i64 u1) ∧ W.cell? ⟨b, o + q * 7 + 2, none⟩ = some (.int .i64 u2) ∧ W.cell? ⟨b, o + q * 7 + 3, none⟩ = some (.slice uA1 un1 uc1) ∧ W.cell? ⟨b, o + q * 7 + 4, none⟩ = some (.int .i64 u3) ∧ W.cell? ⟨b, o + q * 7 + 5, none⟩ = some (.slice uA2 un2 uc2) ∧ W.cell? ⟨b, o + q * 7 + 6, none⟩ = some (.bool u4)) ∧ (W.cell? ⟨b', o' + q * 7, none⟩ = some (.int .i64 v0) ∧ W.cell? ⟨b', o' + q * 7 + 1, none⟩ = some (.int .i64 v1) ∧ W.cell? ⟨b', o' + q * 7 + 2, none⟩ = some (.int .i64 v2) ∧ W.cell? ⟨b', o' + q * 7 + 3, none⟩ = some (.slice vA1 vn1 vc1) ∧ W.cell? ⟨b', o' + q * 7 + 4, none⟩ = some (.int .i64 v3) ∧ W.cell? ⟨b', o' + q * 7 + 5, none⟩ = some (.slice vA2 vn2 vc2) ∧ W.cell? ⟨b', o' + q * 7 + 6, none⟩ = some (.bool v4)))
            (first | exact d5 | exact dd | exact d0)
            (first
              | (go_at_call 20; refine (HR.out _ (HFX.out.no_trans (HFq.out.no_trans (Fr.drew No wr)))).mono ?_; rintro e w5 ⟨rfl, hf⟩; have HF5 := Lib.hid ((Fr.drew No wr).no_trans hf); have d5 := hWS.out w5 HF5.out; clear hf))
          go_wp2_with fail
          go_roundw
          case rel => exact ⟨q + 1, by omega, by go_num, HFq.out.no_trans HF5.out⟩
          case measure => simp [intOf]; omega
        · have hqn : q = m4 := by omega
          subst hqn
          go_wp2_with fail
          go_ret
          exact ⟨rfl, HFX.out.no_trans HFq.out⟩
end
end Go.Proofs.YtjdhbgdpmojobaaDoor

/-
  Drop, Forget, Take; calls at what New did not make. No statement of the seat is proved here.
-/
import Derived.Test.YtndanonhkjgmhaaNtD
namespace Go.Proofs.Ytndanonhkjgmhaa
open Go.RowKit

def pD (i : Int) (k : Nat) (_ : Gm) : Bool := (k : Int) == i
def pF (x : Int) (_ : Nat) (g : Gm) : Bool := g.to == x
def dropI (l : List Gm) (i : Int) : List Gm := if 0 ≤ i then l.eraseIdx i.toNat else l
def keepN (l : List Gm) (x : Int) : List Gm := l.filter fun g => !(g.to == x)
theorem stay_past (i : Int) : ∀ (l : List Gm) (j : Nat), i < (j : Int) → stay (pD i) j l = l
  | [], _, _ => rfl
  | g :: r, j, h => by
    have ih := stay_past i r (j + 1) (by omega)
    have e : pD i j g = false := by unfold pD; rw [beq_eq_false_iff_ne]; omega
    simp only [stay, e, ih]
    rfl
theorem stay_at (k : Nat) : ∀ (l : List Gm) (j : Nat), stay (pD ((j + k : Nat) : Int)) j l = l.eraseIdx k
  | [], _ => rfl
  | g :: r, j => by
    cases k with
    | zero =>
      have e : pD ((j + 0 : Nat) : Int) j g = true := by unfold pD; simp
      simp only [stay, e, if_true]
      rw [stay_past _ r (j + 1) (by omega)]
      rfl
    | succ k =>
      have e : pD ((j + (k + 1) : Nat) : Int) j g = false := by unfold pD; rw [beq_eq_false_iff_ne]; omega
      have ih := stay_at k r (j + 1)
      rw [show j + 1 + k = j + (k + 1) by omega] at ih
      simp only [stay, e, ih]
      rfl
theorem stay_drop (l : List Gm) (i : Int) : stay (pD i) 0 l = dropI l i := by
  unfold dropI
  split
  · have := stay_at i.toNat l 0
    rw [Nat.zero_add, Int.toNat_of_nonneg (by assumption)] at this
    exact this
  · exact stay_past i l 0 (by omega)
theorem stay_keep (x : Int) : ∀ (l : List Gm) (j : Nat), stay (pF x) j l = keepN l x
  | [], _ => rfl
  | g :: r, j => by
    have ih := stay_keep x r (j + 1)
    unfold keepN at ih ⊢
    cases e : (g.to == x) with
    | true =>
      have e2 : pF x j g = true := e
      simp only [stay, e2, if_true, ih]
      rw [List.filter_cons_of_neg (by simp [e])]
    | false =>
      have e2 : pF x j g = false := e
      simp only [stay, e2, ih]
      rw [List.filter_cons_of_pos (by simp [e])]
      rfl
theorem dropI_nat (l : List Gm) (k : Nat) : dropI l (k : Int) = l.eraseIdx k := by
  unfold dropI
  rw [if_pos (by omega)]
  rfl
theorem dropI_len (l : List Gm) (i : Int) : (dropI l i).length = if (look l i).isSome then l.length - 1 else l.length := by
  unfold dropI look
  split
  · rw [List.length_eraseIdx]
    by_cases h : i.toNat < l.length
    · simp [h]
    · simp [h]
  · rfl
theorem dropI_none {l : List Gm} {i : Int} (h : look l i = none) : dropI l i = l := by
  unfold dropI
  unfold look at h
  split
  · rename_i h0
    rw [if_pos h0] at h
    exact List.eraseIdx_of_length_le (List.getElem?_eq_none_iff.1 h)
  · rfl

set_option maxRecDepth 100000 in
theorem drop1_any (i : Int) (k : Nat) (g : Gm) (C : Nat) (W : World) (hc : W.cell? ⟨C, 0, none⟩ = some (.int .i64 i)) :
    Calls Try.prog 38 #[.int .i64 (k : Int), .agg #[.int .i64 g.fr, .int .i64 g.to, .string g.ds], .pointer (some ⟨C, 0, none⟩)] W fun e W' => e = .returned (.bool (pD i k g)) ∧ Fr No W W' := by
  have h2 := ((Fr.alloc No W (.cells #[.int .i64 g.fr, .int .i64 g.to, .string g.ds] 78)).cell (p := ⟨C, 0, none⟩) (World.block_lt_of_cell? W _ hc) (fun e => e)).trans hc
  go_enter Try.func38, Try.ntmps38
  go_wp2_with fail
  go_ret
  exact ⟨rfl, Fr.alloc _ _ _⟩
set_option maxRecDepth 100000 in
theorem forget1_any (x : Int) (k : Nat) (g : Gm) (C : Nat) (W : World) (hc : W.cell? ⟨C, 0, none⟩ = some (.int .i64 x)) :
    Calls Try.prog 40 #[.int .i64 (k : Int), .agg #[.int .i64 g.fr, .int .i64 g.to, .string g.ds], .pointer (some ⟨C, 0, none⟩)] W fun e W' => e = .returned (.bool (pF x k g)) ∧ Fr No W W' := by
  have h2 := ((Fr.alloc No W (.cells #[.int .i64 g.fr, .int .i64 g.to, .string g.ds] 78)).cell (p := ⟨C, 0, none⟩) (World.block_lt_of_cell? W _ hc) (fun e => e)).trans hc
  go_enter Try.func40, Try.ntmps40
  go_wp2_with fail
  go_ret
  exact ⟨rfl, Fr.alloc _ _ _⟩
section
variable {w : World} {P : Nat} {n : Int} {v : Value} {l : List Gm}
set_option maxRecDepth 100000 in
theorem leave_drop (h : Ntw w P n v l) (i : Int) (C : Nat) (hC : w.cell? ⟨C, 0, none⟩ = some (.int .i64 i)) (hCf : ¬ foot P v C) :
    Calls Try.prog 37 #[.pointer (some ⟨P, 0, none⟩), .func (.func 38) #[] #[.pointer (some ⟨C, 0, none⟩)]] w fun e w' =>
      e = .returned (.int .i64 ((l.length - (dropI l i).length : Nat) : Int)) ∧ ∃ v', Ntw w' P n v' (dropI l i) ∧ Nx P v w w' v' ∧ v'.ownBlock = v.ownBlock := by
  have HM := Lib.hid (made_any P w h.c0)
  have hr := rleave_drop h C (.int .i64 i) hC hCf (pD i) (fun k g W hW => drop1_any i k g C W hW)
  rw [stay_drop] at hr
  have HR := Lib.hid hr
  clear h hC hCf hr
  go_enter Try.func37, Try.ntmps37
  go_wp2_with fail
  refine HM.out.mono ?_
  rintro e w1 ⟨rfl, rfl⟩
  go_wp2_with fail
  refine HR.out.mono ?_
  rintro e w1 ⟨rfl, v', hn, hx, hov⟩
  have HN := Lib.hid hn
  have HX := Lib.hid hx
  clear hn hx
  go_wp2_with fail
  go_ret
  exact ⟨rfl, v', HN.out, HX.out, hov⟩
set_option maxRecDepth 100000 in
theorem leave_forget (h : Ntw w P n v l) (x : Int) (C : Nat) (hC : w.cell? ⟨C, 0, none⟩ = some (.int .i64 x)) (hCf : ¬ foot P v C) :
    Calls Try.prog 37 #[.pointer (some ⟨P, 0, none⟩), .func (.func 40) #[] #[.pointer (some ⟨C, 0, none⟩)]] w fun e w' =>
      e = .returned (.int .i64 ((l.length - (keepN l x).length : Nat) : Int)) ∧ ∃ v', Ntw w' P n v' (keepN l x) ∧ Nx P v w w' v' := by
  have HM := Lib.hid (made_any P w h.c0)
  have hr := rleave_forget h C (.int .i64 x) hC hCf (pF x) (fun k g W hW => forget1_any x k g C W hW)
  rw [stay_keep] at hr
  have HR := Lib.hid hr
  clear h hC hCf hr
  go_enter Try.func37, Try.ntmps37
  go_wp2_with fail
  refine HM.out.mono ?_
  rintro e w1 ⟨rfl, rfl⟩
  go_wp2_with fail
  refine HR.out.mono ?_
  rintro e w1 ⟨rfl, v', hn, hx, _⟩
  have HN := Lib.hid hn
  have HX := Lib.hid hx
  clear hn hx
  go_wp2_with fail
  go_ret
  exact ⟨rfl, v', HN.out, HX.out⟩
set_option maxRecDepth 100000 in
theorem drop_any (h : Ntw w P n v l) (i : Int) :
    Calls Try.prog 14 #[.pointer (some ⟨P, 0, none⟩), .int .i64 i] w fun e w' => e = .returned (.bool (look l i).isSome) ∧ ∃ v', Ntw w' P n v' (dropI l i) ∧ Nx P v w w' v' ∧ v'.ownBlock = v.ownBlock := by
  have h1 := h.no (Fr.alloc No w (.cells #[.int .i64 i] 3))
  have HL := Lib.hid (leave_drop h1 i w.heap.size ((blk_cell (heap_alloc_new w _) 0).trans rfl) (fun e => by have := h.lt e; omega))
  obtain ⟨q, HQ⟩ : ∃ q, Hid (l.length - (dropI l i).length = q) := ⟨_, rfl⟩
  have HB : Hid (decide (0 < q) = (look l i).isSome) := by
    show _ = _
    rw [← HQ.out, dropI_len]
    cases hg : look l i with
    | none => simp
    | some g =>
      obtain ⟨k, rfl, hk, _⟩ := look_some hg
      simp
      omega
  rw [HQ.out] at HL
  rw [← HB.out]
  clear h h1
  go_enter Try.func14, Try.ntmps14
  go_wp2_with fail
  refine HL.out.mono ?_
  rintro e w1 ⟨rfl, v', hn, hx, hov⟩
  have HN := Lib.hid hn
  have HX := Lib.hid hx
  clear hn hx
  go_wp2_with fail
  go_ret
  exact ⟨rfl, v', HN.out, (Nx.of_no (Fr.alloc No _ _)).trans HX.out, hov⟩
set_option maxRecDepth 100000 in
theorem forget_any (h : Ntw w P n v l) (x : Int) :
    Calls Try.prog 18 #[.pointer (some ⟨P, 0, none⟩), .int .i64 x] w fun e w' => e = .returned (.int .i64 ((l.length - (keepN l x).length : Nat) : Int)) ∧ ∃ v', Ntw w' P n v' (keepN l x) ∧ Nx P v w w' v' := by
  have h1 := h.no (Fr.alloc No w (.cells #[.int .i64 x] 3))
  have HL := Lib.hid (leave_forget h1 x w.heap.size ((blk_cell (heap_alloc_new w _) 0).trans rfl) (fun e => by have := h.lt e; omega))
  clear h h1
  go_enter Try.func18, Try.ntmps18
  go_wp2_with fail
  refine HL.out.mono ?_
  rintro e w1 ⟨rfl, v', hn, hx⟩
  have HN := Lib.hid hn
  have HX := Lib.hid hx
  clear hn hx
  go_wp2_with fail
  go_ret
  exact ⟨rfl, v', HN.out, (Nx.of_no (Fr.alloc No _ _)).trans HX.out⟩
set_option maxRecDepth 100000 in
theorem take_yes (h : Ntw w P n v l) {i : Int} {g : Gm} (hg : look l i = some g) :
    Calls Try.prog 13 #[.pointer (some ⟨P, 0, none⟩), .int .i64 i] w fun e w' => ∃ A c, e = .returned (.tuple #[.agg #[.int .i64 g.fr, .int .i64 g.to, .slice A g.ds.size c], .bool true]) ∧ g.ds.size ≤ c ∧ Bx w.heap.size w' A g.ds.size g.ds.data.toList ∧ ∃ v', Ntw w' P n v' (dropI l i) ∧ Nx P v w w' v' ∧ v'.ownBlock = v.ownBlock := by
  have h1 := h.no (Fr.alloc No w (.cells #[.int .i64 0, .int .i64 0, .slice none 0 0] 30))
  have HA := Lib.hid (look_yes h1 hg)
  have HD := Lib.hid (fun W (hW : Fr No w W) => drop_any (h.no hW) i)
  have HFT := Lib.hid (fun k (hk : foot P v k) => h.lt hk)
  rw [hg] at HD
  clear h h1 hg
  go_enter Try.func13, Try.ntmps13
  go_wp2_with fail
  refine HA.out.mono ?_
  rintro e w1 ⟨A, c, rfl, hc, hx, hf⟩
  have HX := Lib.hid hx
  have HF := Lib.hid hf
  have HC := Lib.hid hc
  clear hx hf hc
  go_wp2_with fail
  refine (HD.out _ (((Fr.alloc No _ _).no_trans HF.out).no_trans (Fr.alloc No _ _))).mono ?_
  rintro e w2 ⟨rfl, v', hn, hx, hov⟩
  have HN := Lib.hid hn
  have HX2 := Lib.hid hx
  clear hn hx
  have hs1 := HF.out.size
  have hs2 := HX2.out.1.size
  rw [World.size_alloc] at hs1 hs2
  have HB1 : Hid (w2.heap[w1.heap.size]? = some (.cells #[.int .i64 g.fr, .int .i64 g.to, .slice A g.ds.size c] 30 (0, 0))) :=
    (HX2.out.1.block _ (by rw [World.size_alloc]; omega) (fun e => by have := HFT.out _ e; omega)).trans (heap_alloc_new w1 _)
  have HB0 : Hid (w2.heap[w.heap.size]? = some (.cells #[.int .i64 0, .int .i64 0, .slice none 0 0] 30 (0, 0))) :=
    (HX2.out.1.block _ (by rw [World.size_alloc]; omega) (fun e => by have := HFT.out _ e; omega)).trans (blk_no (Fr.alloc No w1 _) (blk_no HF.out (heap_alloc_new w _)))
  have q0 := blk_cell HB0.out 0
  have q1 := blk_cell HB0.out 1
  have q2 := blk_cell HB0.out 2
  have f0 := blk_free HB0.out 0
  have f1 := blk_free HB0.out 1
  have f2 := blk_free HB0.out 2
  have r0 := blk_cell HB1.out 0
  have r1 := blk_cell HB1.out 1
  have r2 := blk_cell HB1.out 2
  go_wp2_with fail
  refine bodyPost_ret (results_cell_tmp_row (p := 4) rfl _ _ w.heap.size 30 #[.int .i64 g.fr, .int .i64 g.to, .slice A g.ds.size c] (0, 0) _ rfl (set3_blk HB0.out _ _ _) Try.underlying30 rfl (by kernel_rfl)) rfl ?_
  have hset := set3_fr w2 w.heap.size (.int .i64 g.fr) (.int .i64 g.to) (.slice A g.ds.size c)
  refine ⟨A, c, rfl, HC.out, ?_, v', ?_, ?_, hov⟩
  · have hx := ((HX.out.keep (Fr.alloc No w1 _) (fun _ _ _ e => e)).keep HX2.out.1 (fun k hk _ e => by have := HFT.out _ e; rw [World.size_alloc] at hk; omega)).keep hset (fun k hk _ e => by rw [World.size_alloc] at hk; omega)
    rw [World.size_alloc] at hx
    exact hx.lo (by omega)
  · refine HN.out.keep hset (fun k hk e => ?_)
    rcases hk with e2 | e2
    · have := HFT.out P (.inl rfl)
      omega
    · rcases HX2.out.2 with q | q
      · have := HFT.out k (.inr (q ▸ e2))
        omega
      · have := q k e2
        rw [World.size_alloc] at this
        omega
  · have hx := (Nx.of_no (((Fr.alloc No w _).no_trans HF.out).no_trans (Fr.alloc No _ _))).trans HX2.out
    exact ⟨hx.1.then_new hset (fun i hi => by rw [hi]; exact Nat.le_refl _), hx.2⟩
set_option maxRecDepth 100000 in
theorem take_no (h : Ntw w P n v l) {i : Int} (hg : look l i = none) :
    Calls Try.prog 13 #[.pointer (some ⟨P, 0, none⟩), .int .i64 i] w fun e w' => e = .returned (.tuple #[.agg #[.int .i64 0, .int .i64 0, .slice none 0 0], .bool false]) ∧ Fr No w w' := by
  have h1 := h.no (Fr.alloc No w (.cells #[.int .i64 0, .int .i64 0, .slice none 0 0] 30))
  have HA := Lib.hid (look_no h1 hg)
  clear h h1 hg
  go_enter Try.func13, Try.ntmps13
  go_wp2_with fail
  refine HA.out.mono ?_
  rintro e w1 ⟨rfl, hf⟩
  have HF := Lib.hid hf
  clear hf
  have HB0 := Lib.hid (blk_no (Fr.alloc No w1 (.cells #[.int .i64 0, .int .i64 0, .slice none 0 0] 30)) (blk_no HF.out (heap_alloc_new w _)))
  have q0 := blk_cell HB0.out 0
  have q1 := blk_cell HB0.out 1
  have q2 := blk_cell HB0.out 2
  have f0 := blk_free HB0.out 0
  have f1 := blk_free HB0.out 1
  have f2 := blk_free HB0.out 2
  go_wp2_with fail
  refine bodyPost_ret (results_cell_tmp_row (p := 4) rfl _ _ w.heap.size 30 #[.int .i64 0, .int .i64 0, .slice none 0 0] (0, 0) _ rfl (set3_blk HB0.out _ _ _) Try.underlying30 rfl (by kernel_rfl)) rfl ?_
  exact ⟨rfl, (((Fr.alloc No _ _).no_trans HF.out).no_trans (Fr.alloc No _ _)).then_new (set3_fr _ _ _ _ _) (fun i hi => by rw [hi]; exact Nat.le_refl _)⟩
end
end Go.Proofs.Ytndanonhkjgmhaa

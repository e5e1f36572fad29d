/-
  The walk of BagAll. No statement of the seat is proved here.
-/
import Derived.Test.YtegoebkdcogggaaDoorBgI
namespace Go.Proofs.YtegoebkdcogggaaDoor
open Go.RowKit Go.Deep

section
variable {p : Nat → Bool} {i : Nat} {st n : Int} {l : List (Nat × Int)}
theorem fillL_snoc (s : Nat × Int) : fillL p i st (l ++ [s]) n = fillS p i st (fillL p i st l n) s := by
  unfold fillL
  rw [List.foldl_append]
  rfl
/-- A slot more, behind the others, where there was room. -/
theorem putL_snoc (h : (putL i st l n).2 ≤ 0) (hi : i ≠ 0 ∨ n ≤ 0) : putL i st (l ++ [(0, 0)]) n = ((putL i st l n).1 ++ [(0, 0)], (putL i st l n).2) := by
  have h1 : fillL (fun a => a == i) i st (l ++ [(0, 0)]) n = ((fillL (fun a => a == i) i st l n).1 ++ [(0, 0)], (fillL (fun a => a == i) i st l n).2) := by
    rw [fillL_snoc]
    unfold fillS
    rw [if_neg]
    rintro ⟨h2, h3⟩
    rcases hi with hi | hi
    · simp at h3
      exact hi h3.symm
    · rw [fillL_none hi] at h2
      dsimp only at h2
      omega
  unfold putL at h ⊢
  rw [h1]
  dsimp only
  rw [fillL_snoc]
  unfold fillS
  rw [if_neg (fun h2 => by have := h2.1; omega)]
theorem allF_snoc (cur more cur' : List (Nat × Int)) (hm : rgt more = true) (h : allF cur more = some cur') : allF (cur ++ [(0, 0)]) more = some (cur' ++ [(0, 0)]) := by
  induction more generalizing cur with
  | nil =>
    have e : cur = cur' := by injection h
    rw [e]
    rfl
  | cons s more ih =>
    have hs := rgt_at hm (s := s) List.mem_cons_self
    have hm2 : rgt more = true := by
      rw [rgt_iff] at hm ⊢
      exact fun t ht => hm t (List.mem_cons_of_mem _ ht)
    unfold allF at h ⊢
    split at h
    · cases h
    · rename_i h2
      have h3 := putL_snoc (i := s.1) (st := stI s.1) (l := cur) (n := s.2) (by omega) (by
        rcases hs with ⟨_, h4⟩ | h4
        · exact .inr (by omega)
        · refine .inl (fun e => ?_)
          rw [e] at h4
          have : stI 0 = 0 := rfl
          omega)
      rw [h3]
      dsimp only
      rw [if_neg h2]
      exact ih _ hm2 h
theorem rgt_snoc (h : rgt l = true) : rgt (l ++ [(0, 0)]) = true := by
  rw [rgt_iff] at h ⊢
  intro s hs
  rcases List.mem_append.1 hs with hs | hs
  · exact h s hs
  · rw [List.mem_singleton.1 hs]
    rfl
theorem rgt_rep (m : Nat) : rgt (List.replicate m (0, 0)) = true := by
  rw [rgt_iff]
  intro s hs
  rw [List.eq_of_mem_replicate hs]
  rfl
theorem allF_rep (m : Nat) (cur : List (Nat × Int)) : allF cur (List.replicate m (0, 0)) = some cur := by
  induction m with
  | zero => rfl
  | succ m ih =>
    have e : putL 0 (stI 0) cur 0 = (cur, 0) := by
      unfold putL
      rw [fillL_none (Int.le_refl 0), fillL_none (Int.le_refl 0)]
    rw [List.replicate_succ]
    unfold allF
    dsimp only
    rw [e]
    exact ih
end
set_option maxRecDepth 100000 in
/-- Slots appended, where the operation stands behind a guard that says yes. -/
theorem wpList_append_slG {lo : Nat} {v : Value} {l : List (Nat × Int)} (w : World) {ops : Array Oper} {rest : List Oper} {o : Oper} {a : Act} {Q : Exit → Act → World → Prop} (hw : Region.wanted o (yielded ops a.tmps) = true) (s x : Operand)
    (ho : o.op = .call { callee := .builtin .append, args := #[s, x], argTypes := #[22, 22] })
    (hs : a.eval s = v) (hown : OwS lo w v l) (A : Option Addr) (m c : Nat) (news : List (Nat × Int)) (hx : a.eval x = .slice A m c)
    (hr : RdS w A m news) (hlen : l.length + m ≤ 1000000) (hbase : lo ≤ w.heap.size)
    (h : ∀ v' w', OwS lo w' v' (l ++ news) → w.grownBy w' v.ownBlock → wpList Tryd.prog ops Q rest (a.put o.dst v') w') : wpList Tryd.prog ops Q (o :: rest) a w := by
  obtain ⟨v', w', hrun, h2, h3⟩ := run_append_sl w o.type hown A m c news hr hlen hbase
  refine wpList_step fun K hK => ?_
  rw [if_pos hw]
  exact Lib.wp_append_run w s x 22 22 ho v (.slice A m c) hs hx v' w' hrun (hK _ _ (h v' w' h2 h3))
section
variable {w : World} {A B : Option Addr} {n k : Nat} {l more : List (Nat × Int)}
set_option maxRecDepth 100000 in
set_option maxHeartbeats 1000000 in
theorem all_walk (ht : ItT w) (hx : RdS w A n l) (hb : By l) (c : Nat) (hy : RdS w B k more) (hby : By more) (d : Nat) : Calls Tryd.prog 7 #[.slice A n c, .slice B k d] w fun e w' => e = .returned (.bool true) ∧ Below w.heap.size w w' := by
  have HA := Lib.hid (awake_w ht)
  have HF := Lib.hid (Fr.refl No w)
  have HRX := Lib.hid (fun W (hW : Fr No w W) => right_law (ht.no hW) (hx.no hW) hb c)
  have HRY := Lib.hid (fun W (hW : Fr No w W) => right_law (ht.no hW) (hy.no hW) hby d)
  cases hr : (decide (n ≤ 300) && rgt l) with
  | false =>
    rw [hr] at HRX
    clear ht hx hb hy hby hr
    go_enter Tryd.func7, Tryd.ntmps7
    go_wp2_with fail
    refine (HRX.out _ HF.out).mono ?_
    rintro e w1 ⟨rfl, hf⟩
    have HF1 := Lib.hid hf
    clear hf
    go_wp2_with (refine (HA.out _ HF1.out).mono ?_; rintro e w2 ⟨rfl, hf⟩; have HF2 := Lib.hid hf; clear hf)
    go_ret
    exact ⟨rfl, HF2.out.noBelow⟩
  | true =>
    rw [hr] at HRX
    cases hr2 : (decide (k ≤ 300) && rgt more) with
    | false =>
      rw [hr2] at HRY
      clear ht hx hb hy hby hr hr2
      go_enter Tryd.func7, Tryd.ntmps7
      go_wp2_with fail
      refine (HRX.out _ HF.out).mono ?_
      rintro e w1 ⟨rfl, hf⟩
      have HF1 := Lib.hid hf
      clear hf
      go_wp2_with fail
      refine (HRY.out _ HF1.out).mono ?_
      rintro e w2 ⟨rfl, hf⟩
      have HF2 := Lib.hid (HF1.out.no_trans hf)
      clear hf
      go_wp2_with (refine (HA.out _ HF2.out).mono ?_; rintro e w3 ⟨rfl, hf⟩; have HF3 := Lib.hid hf; clear hf)
      go_ret
      exact ⟨rfl, HF3.out.noBelow⟩
    | true =>
      rw [hr2] at HRY
      simp only [Bool.and_eq_true, decide_eq_true_eq] at hr hr2
      obtain ⟨hn, hr⟩ := hr
      obtain ⟨hk, hr2⟩ := hr2
      have HX := Lib.hid (fun W (hW : Fr No w W) => hx.no hW)
      have HALL := Lib.hid (fun W (hW : Fr No w W) => all_any (ht.no hW) (hx.no hW) (hy.no hW) hb hby c d (by omega) (by omega))
      have HFITS := Lib.hid (fun W (hW : Fr No w W) => fits_any (ht.no hW) (hx.no hW) (hy.no hW) hb hby c d (by omega) (by omega))
      have HZ : Hid (∀ W W0 (z : Nat), Fr No w W0 → W = W0.alloc (.cells (madeCells #[.int .u8 0, .int .i64 0] (k * 2)) 30) → Calls Tryd.prog 21 #[.slice A n c, .slice (some ⟨W0.heap.size, 0, none⟩) k z] W fun e w' => e = .returned (.bool true) ∧ Fr No W w') := by
        rintro W W0 z hW rfl
        have hfa := hW.no_trans (Fr.alloc No W0 (.cells (madeCells #[.int .u8 0, .int .i64 0] (k * 2)) 30))
        have e : (AllL l (List.replicate k (0, 0))).2 = 0 := by
          unfold AllL
          rw [if_neg (by rw [hr, rgt_rep]; simp), allF_rep]
        refine (fits_any (ht.no hfa) (hx.no hfa) (make_sl k (by omega) W0).2 hb (fun s hs => by rw [List.eq_of_mem_replicate hs]; decide) c z (by omega) (by omega)).mono ?_
        rintro e' w' ⟨h1, h2⟩
        rw [e] at h1
        exact ⟨h1, h2⟩
      have HN : Hid (∀ W, Fr No w W → Calls Tryd.prog 21 #[.slice none 0 0, .slice none 0 0] W fun e w' => e = .returned (.bool true) ∧ Fr No W w') := fun W hW => (fits_any (ht.no hW) (RdS.nil W none) (RdS.nil W none) (fun s hs => by cases hs) (fun s hs => by cases hs) 0 0 (by decide) (by decide))
      have hmk := fun W => (make_sl k (by omega) W).1
      have HLN := Lib.hid hx.1
      cases ha : allF l more with
      | none =>
        have e : AllL l more = (l, 104) := by unfold AllL; rw [if_neg (by rw [hr, hr2]; simp), ha]
        rw [e] at HALL HFITS
        have HFI : Hid (∀ W, Fr No w W → Calls Tryd.prog 21 #[.slice A n c, .slice B k d] W fun e w' => e = .returned (.bool false) ∧ Fr No W w') := HFITS.out
        clear ht hx hb hy hby hr hr2 ha e HFITS
        go_enter Tryd.func7, Tryd.ntmps7
        go_wp2_with fail
        refine (HRX.out _ HF.out).mono ?_
        rintro e w1 ⟨rfl, hf⟩
        have HF1 := Lib.hid hf
        clear hf
        go_wp2_with fail
        refine (HRY.out _ HF1.out).mono ?_
        rintro e w2 ⟨rfl, hf⟩
        have HF2 := Lib.hid (HF1.out.no_trans hf)
        clear hf
        go_wp2_with (go_at_call 14; refine (HALL.out _ HF2.out).mono ?_; rintro e w3 ⟨A3, c3, rfl, ho, hf⟩; have HX3 := Lib.hid ho.rd; have HF3 := Lib.hid (HF2.out.no_trans hf); clear ho hf)
        refine (HFI.out _ HF3.out).mono ?_
        rintro e w4 ⟨rfl, hf⟩
        have HX4 := Lib.hid (HX3.out.no hf)
        have HF4 := Lib.hid (HF3.out.no_trans hf)
        clear hf
        go_wp2_with (go_at_call 20; refine (same_yes HX4.out (HX.out _ HF4.out) _ _ (by omega)).mono ?_; rintro e w5 ⟨rfl, hf⟩; have HFL := Lib.hid (HF4.out.no_trans hf); clear hf)
        refine (HZ.out _ _ _ HFL.out rfl).mono ?_
        rintro e w6 ⟨rfl, hf⟩
        have HF6 := Lib.hid ((HFL.out.no_trans (Fr.alloc No _ _)).no_trans hf)
        clear hf
        go_wp2_with fail
        refine (HN.out _ HF6.out).mono ?_
        rintro e w7 ⟨rfl, hf⟩
        have HF7 := Lib.hid (HF6.out.no_trans hf)
        clear hf
        go_wp2_with (go_at_call 10; refine (HA.out _ HF7.out).mono ?_; rintro e w8 ⟨rfl, hf⟩; have HF8 := Lib.hid hf; clear hf)
        go_ret
        exact ⟨rfl, HF8.out.noBelow⟩
      | some cur =>
        have e : AllL l more = (cur, 0) := by unfold AllL; rw [if_neg (by rw [hr, hr2]; simp), ha]
        rw [e] at HALL HFITS
        have HFI : Hid (∀ W, Fr No w W → Calls Tryd.prog 21 #[.slice A n c, .slice B k d] W fun e w' => e = .returned (.bool true) ∧ Fr No W w') := HFITS.out
        have e2 : (AllL (l ++ [(0, 0)]) more).2 = 0 := by unfold AllL; rw [if_neg (by rw [rgt_snoc hr, hr2]; simp), allF_snoc l more cur hr2 ha]
        have HF1M : Hid (∀ W A' c', Fr No w W → RdS W A' (n + 1) (l ++ [(0, 0)]) → Calls Tryd.prog 21 #[.slice A' (n + 1) c', .slice B k d] W fun e w' => e = .returned (.bool true) ∧ Fr No W w') := fun W A' c' hW hx' => (fits_any (ht.no hW) hx' (hy.no hW) (fun s hs => by
          rcases List.mem_append.1 hs with hs | hs
          · exact hb s hs
          · rw [List.mem_singleton.1 hs]; decide) hby c' d (by omega) (by omega)).mono (fun _ _ ⟨h1, h2⟩ => by rw [e2] at h1; exact ⟨h1, h2⟩)
        clear ht hx hb hy hby hr hr2 ha e HFITS e2
        go_enter Tryd.func7, Tryd.ntmps7
        go_wp2_with fail
        refine (HRX.out _ HF.out).mono ?_
        rintro e w1 ⟨rfl, hf⟩
        have HF1 := Lib.hid hf
        clear hf
        go_wp2_with fail
        refine (HRY.out _ HF1.out).mono ?_
        rintro e w2 ⟨rfl, hf⟩
        have HF2 := Lib.hid (HF1.out.no_trans hf)
        clear hf
        go_wp2_with (go_at_call 14; refine (HALL.out _ HF2.out).mono ?_; rintro e w3 ⟨A3, c3, rfl, ho, hf⟩; have HX3 := Lib.hid ho.rd; have HF3 := Lib.hid (HF2.out.no_trans hf); clear ho hf)
        refine (HFI.out _ HF3.out).mono ?_
        rintro e w4 ⟨rfl, hf⟩
        have HX4 := Lib.hid (HX3.out.no hf)
        have HF4 := Lib.hid (HF3.out.no_trans hf)
        clear hf
        go_wp2_with (first
          | (at_builtin; refine wpList_append_slG _ (by rfl) (.tmp 46) (.tmp 47) rfl (lo := w4.heap.size) (l := []) rfl (OwS.made w4 _ rfl) A n c l rfl (HX.out _ (HF4.out.no_trans (Fr.alloc No _ _))) (by simp; omega) (by rw [World.size_alloc]; omega) ?_; intro v5 w5 ho hg; have HO5 := Lib.hid ho; have HF5 := Lib.hid ((HF4.out.no_trans (Fr.alloc No w4 (.cells #[] 30))).then_new (Fr.grown (F := fun i => i = w4.heap.size) hg (fun i h => by injection h with h; exact h.symm)) (fun i h => by have h : i = _ := h; have := HF4.out.size; omega)); have HSZ := Lib.hid hg.size; clear ho hg)
          | (at_builtin; refine wpList_append_slG _ (by rfl) (.tmp 48) (.tmp 50) rfl (lo := w4.heap.size) (l := [] ++ l) rfl (HO5.out.no (Fr.alloc No w5 (.cells #[.int .u8 0, .int .i64 0] 30))) (some ⟨w5.heap.size, 0, none⟩) 1 1 [(0, 0)] rfl (RdS.blk (l := [(0, 0)]) (heap_alloc_new w5 (.cells #[.int .u8 0, .int .i64 0] 30))) (by have := HLN.out; simp; omega) (by have := HSZ.out; rw [World.size_alloc] at this ⊢; omega) ?_; intro v6 w6 ho hg; obtain ⟨A6, c6, hv⟩ : ∃ A6 c6, v6 = .slice A6 (n + 1) c6 := (by obtain ⟨a, b, h, _⟩ := ho.sl; exact ⟨a, b, by rw [h, List.nil_append, List.length_append, HLN.out]; rfl⟩); subst hv; have HO6 := Lib.hid ho; have HF6 := Lib.hid ((HF5.out.no_trans (Fr.alloc No w5 (.cells #[.int .u8 0, .int .i64 0] 30))).then_new (Fr.grown (F := fun i => v5.ownBlock = some i) hg (fun i h => h)) (fun i h => by have := (HO5.out.lt i h).1; have := HF4.out.size; omega)); clear ho hg))
        refine (HF1M.out _ _ _ HF6.out (by have := HO6.out.rd; rw [List.nil_append] at this; exact this)).mono ?_
        rintro e w7 ⟨rfl, hf⟩
        have HFL := Lib.hid (HF6.out.no_trans hf)
        clear hf
        go_wp2_with fail
        refine (HZ.out _ _ _ HFL.out rfl).mono ?_
        rintro e w6 ⟨rfl, hf⟩
        have HF6 := Lib.hid ((HFL.out.no_trans (Fr.alloc No _ _)).no_trans hf)
        clear hf
        go_wp2_with fail
        refine (HN.out _ HF6.out).mono ?_
        rintro e w7 ⟨rfl, hf⟩
        have HF7 := Lib.hid (HF6.out.no_trans hf)
        clear hf
        go_wp2_with (go_at_call 10; refine (HA.out _ HF7.out).mono ?_; rintro e w8 ⟨rfl, hf⟩; have HF8 := Lib.hid hf; clear hf)
        go_ret
        exact ⟨rfl, HF8.out.noBelow⟩
end
end Go.Proofs.YtegoebkdcogggaaDoor

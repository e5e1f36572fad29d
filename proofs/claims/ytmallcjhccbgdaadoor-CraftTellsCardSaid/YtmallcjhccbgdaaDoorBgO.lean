/-
  Bags: Spend, whatever it answers; what spending leaves (mathematics). No statement of the seat is proved here.
-/
import Derived.Test.YtmallcjhccbgdaaDoorBgN
namespace Go.Proofs.YtmallcjhccbgdaaDoor
open Go.RowKit Go.Deep

section
variable {i : Nat} {l : List (Nat × Int)} {m : Int}
theorem spF_cons (s : Nat × Int) : spF i (s :: l) m = spS i s (spF i l m) := rfl
/-- What is spent from. -/
theorem spF_all {Q : Nat × Int → Prop} (hl : ∀ s ∈ l, Q s) (hq : ∀ s ∈ l, s.1 = i → ∀ q : Int, 0 ≤ q → q ≤ s.2 → Q (lessS s q)) (h0 : 0 ≤ m) (hp : ∀ s ∈ l, 0 ≤ s.2) : ∀ s ∈ (spF i l m).1, Q s := by
  induction l with
  | nil => intro s hs; cases hs
  | cons a l ih =>
    have ih := ih (fun s hs => hl s (List.mem_cons_of_mem _ hs)) (fun s hs => hq s (List.mem_cons_of_mem _ hs)) (fun s hs => hp s (List.mem_cons_of_mem _ hs))
    have hr := spF_left i (l := l) h0 (fun s hs => hp s (List.mem_cons_of_mem _ hs))
    rw [spF_cons]
    generalize spF i l m = r at ih hr ⊢
    have ha := hp a List.mem_cons_self
    unfold spS
    split
    · rename_i e
      intro s hs
      rcases List.mem_cons.1 hs with rfl | hs
      · exact hq a List.mem_cons_self e _ (by omega) (by omega)
      · exact ih s hs
    · intro s hs
      rcases List.mem_cons.1 hs with rfl | hs
      · exact hl _ List.mem_cons_self
      · exact ih s hs
theorem lessS_by {s : Nat × Int} (h : s.1 < 256) (q : Int) : (lessS s q).1 < 256 := by
  unfold lessS
  split
  · decide
  · exact h
theorem spF_by (hb : By l) (h0 : 0 ≤ m) (hp : ∀ s ∈ l, 0 ≤ s.2) : By (spF i l m).1 := spF_all (Q := fun s => s.1 < 256) hb (fun s hs _ q _ _ => lessS_by (hb s hs) q) h0 hp
theorem spF_rgt (hr : rgt l = true) (h0 : 0 ≤ m) : rgt (spF i l m).1 = true := by
  refine (rgt_iff _).2 (spF_all (Q := fun s => wrg s = false) ((rgt_iff l).1 hr) ?_ h0 (fun s hs => (pos_of hr hs).2.1))
  intro s hs _ q hq0 hq
  have h := rgt_at hr hs
  obtain ⟨a, b⟩ := s
  dsimp only at h hq
  unfold lessS
  split
  · decide
  · rename_i e
    exact (wrg_iff _ _).2 (by dsimp only at e ⊢; omega)
/-- What is there less of i is what was spent. -/
theorem spF_sum (f : Nat × Int → Int) (k : Int) (hf : ∀ s ∈ l, s.1 = i → ∀ q : Int, 0 ≤ q → q ≤ s.2 → f (lessS s q) = f s - k * q) (h0 : 0 ≤ m) (hp : ∀ s ∈ l, 0 ≤ s.2) : sumF f (spF i l m).1 = sumF f l - k * (m - (spF i l m).2) := by
  induction l with
  | nil =>
    show sumF f [] = sumF f [] - k * (m - m)
    rw [Int.sub_self, Int.mul_zero, Int.sub_zero]
  | cons a l ih =>
    have ih := ih (fun s hs => hf s (List.mem_cons_of_mem _ hs)) (fun s hs => hp s (List.mem_cons_of_mem _ hs))
    have hr := spF_left i (l := l) h0 (fun s hs => hp s (List.mem_cons_of_mem _ hs))
    have hfa := hf a List.mem_cons_self
    have ha := hp a List.mem_cons_self
    rw [spF_cons]
    generalize spF i l m = r at ih hr ⊢
    rw [sumF_cons]
    unfold spS
    split
    · rename_i e
      dsimp only
      rw [sumF_cons, hfa e _ (by omega) (by omega), ih, show m - (r.2 - min r.2 a.2) = (m - r.2) + min r.2 a.2 by omega, Int.mul_add]
      omega
    · dsimp only
      rw [sumF_cons, ih]
      omega
/-- What is left to spend. -/
theorem spF_rest (h0 : 0 ≤ m) (hp : ∀ s ∈ l, 0 ≤ s.2) : (spF i l m).2 = max 0 (m - sumF (fun s => if s.1 = i then s.2 else 0) l) := by
  induction l with
  | nil =>
    show m = max 0 (m - 0)
    omega
  | cons a l ih =>
    have ih := ih (fun s hs => hp s (List.mem_cons_of_mem _ hs))
    have ha := hp a List.mem_cons_self
    have hs : 0 ≤ sumF (fun s => if s.1 = i then s.2 else 0) l := sumF_nonneg (fun s hs => by
      have := hp s (List.mem_cons_of_mem _ hs)
      split <;> omega)
    rw [spF_cons, sumF_cons]
    generalize spF i l m = r at ih ⊢
    unfold spS
    split
    · rename_i e
      dsimp only
      rw [ih]
      omega
    · rw [ih]
      omega
theorem cntF_sum : cntF i l = sumF (fun s => if s.1 = i then s.2 else 0) l := by
  unfold cntF sumF
  congr 1
  funext a s
  by_cases h : s.1 = i
  · simp [h]
  · simp [h]
/-- What Spend answers. -/
def SpendL (l : List (Nat × Int)) (i : Nat) (m : Int) : List (Nat × Int) := if SpendE l i m = 0 then (spF i l m).1 else l
theorem SpendE_ok (h : SpendE l i m = 0) : rgt l = true ∧ 1 ≤ m ∧ m ≤ cntL i l := by
  unfold SpendE at h
  split at h
  · simp at h
  · rename_i h1
    split at h
    · simp at h
    · rename_i h2
      split at h
      · simp at h
      · rename_i h3
        refine ⟨?_, by omega, by omega⟩
        cases hr : rgt l with
        | true => rfl
        | false => exact absurd hr h1
/-- All that was to be spent was spent. -/
theorem SpendL_rest (h : SpendE l i m = 0) : (spF i l m).2 = 0 ∧ i ≠ 0 := by
  obtain ⟨hr, h1, h2⟩ := SpendE_ok h
  have h3 := spF_rest (i := i) (l := l) (m := m) (by omega) (fun s hs => (pos_of hr hs).2.1)
  rw [← cntF_sum] at h3
  unfold cntL at h2
  split at h2
  · omega
  · rename_i e
    exact ⟨by omega, e⟩
theorem SpendL_len : (SpendL l i m).length = l.length := by
  unfold SpendL
  split
  · exact spF_len i l m
  · rfl
theorem SpendL_by (hb : By l) : By (SpendL l i m) := by
  unfold SpendL
  split
  · rename_i h
    obtain ⟨hr, h1, _⟩ := SpendE_ok h
    exact spF_by hb (by omega) (fun s hs => (pos_of hr hs).2.1)
  · exact hb
theorem SpendL_rgt (hr : rgt l = true) : rgt (SpendL l i m) = true := by
  unfold SpendL
  split
  · rename_i h
    exact spF_rgt hr (by have := (SpendE_ok h).2.1; omega)
  · exact hr
/-- Of each item there is what there was, less what was spent. -/
theorem SpendL_cnt (hr : rgt l = true) (k : Nat) : cntL k (SpendL l i m) = cntL k l - if k = i ∧ SpendE l i m = 0 then m else 0 := by
  unfold SpendL
  by_cases h : SpendE l i m = 0
  · rw [if_pos h]
    obtain ⟨_, h1, h2⟩ := SpendE_ok h
    obtain ⟨h3, h4⟩ := SpendL_rest h
    unfold cntL
    by_cases hk0 : k = 0
    · rw [if_pos hk0, if_pos hk0, if_neg (fun (e : k = i ∧ SpendE l i m = 0) => h4 (e.1 ▸ hk0))]
      rfl
    · rw [if_neg hk0, if_neg hk0, cntF_sum, cntF_sum, spF_sum _ (if k = i then 1 else 0) ?_ (by omega) (fun s hs => (pos_of hr hs).2.1), h3]
      · by_cases e : k = i
        · rw [if_pos e, if_pos ⟨e, h⟩]; omega
        · rw [if_neg e, if_neg (fun x => e x.1)]; omega
      · rintro ⟨a, b⟩ hs e q _ hq
        dsimp only at e hq ⊢
        subst e
        unfold lessS
        by_cases e : k = a
        · subst e
          by_cases hbq : b = q
          · subst hbq
            rw [if_pos rfl, if_pos rfl, if_pos rfl]
            dsimp only
            rw [if_neg (fun x => hk0 x.symm)]
            omega
          · rw [if_neg hbq, if_pos rfl, if_pos rfl, if_pos rfl]
            omega
        · have hak : ¬ a = k := fun x => e x.symm
          have h0k : ¬ 0 = k := fun x => hk0 x.symm
          by_cases hbq : b = q
          · simp [hbq, hak, h0k, e]
          · simp [hbq, hak, e]
  · rw [if_neg h, if_neg (fun x => h x.2)]
    omega
end
section
variable {w : World} {A : Option Addr} {n c : Nat} {l : List (Nat × Int)}
set_option maxRecDepth 100000 in
set_option maxHeartbeats 1600000 in
/-- Spend. -/
theorem Spend_any (ht : ItT w) (hx : RdS w A n l) (hby : By l) (c : Nat) {i : Nat} (hn : n ≤ 100000) {m : Int} (hm : m ≤ 9223372036854775807) :
    Calls Tryd.prog 33 #[.slice A n c, .int .u8 (i : Int), .int .i64 m] w fun e w' => ∃ A' c', e = .returned (.tuple #[.slice A' n c', .int .i64 (SpendE l i m)]) ∧ OwS w.heap.size w' (.slice A' n c') (SpendL l i m) ∧ Fr No w w' := by
  by_cases he : SpendE l i m = 0
  · obtain ⟨hr, h1, h2⟩ := SpendE_ok he
    have HE := Lib.hid he
    have HLL := Lib.hid (show SpendL l i m = (spF i l m).1 by unfold SpendL; rw [if_pos he])
    have hl := hx.1
    have HO := Lib.hid (own_any hx c hn)
    have HR := Lib.hid (fun W (hW : Fr No w W) => right_any (ht.no hW) (hx.no hW) hby c hn n)
    have HC := Lib.hid (fun W (hW : Fr No w W) => count_any (hx.no hW) hr c (i := i) hn)
    have HS : Hid (∀ W A' c', OwS w.heap.size W (.slice A' n c') l → Calls Tryd.prog 42 #[.slice A' n c', .int .u8 (i : Int), .int .i64 m] W fun e w' => (∃ v, e = .returned v) ∧ OwS w.heap.size w' (.slice A' n c') (spF i l m).1 ∧ Fr (Bk A') W w') := by
      intro W A' c' ho
      rw [← hl] at ho ⊢
      exact spend_row ho (fun s hs => (pos_of hr hs).2) (by omega) ⟨by omega, hm⟩
    have e0 : decide ((n : Int) = (n : Int)) = true := by simp
    rw [hr, e0] at HR
    have hm1 : ¬ (m < 1) := by omega
    have hmc : ¬ (cntL i l < m) := by omega
    obtain ⟨q, hq⟩ : ∃ q, cntL i l = q := ⟨_, rfl⟩
    rw [hq] at HC hmc
    clear ht hx hby hr he hq h1 h2 hl
    go_enter Tryd.func33, Tryd.ntmps33
    go_wp2_with (first
      | (go_at_call 30; refine HO.out.mono ?_; rintro e w1 ⟨A', c', rfl, ho, hf⟩; have HO1 := Lib.hid ho; have HF1 := Lib.hid hf; clear ho hf)
      | (go_at_call 14; refine (HR.out _ HF1.out).mono ?_; rintro e w2 ⟨rfl, hf⟩; have HF2 := Lib.hid hf; clear hf)
      | (go_at_call 13; refine (HC.out _ (HF1.out.no_trans HF2.out)).mono ?_; rintro e w3 ⟨rfl, hf⟩; have HF3 := Lib.hid hf; clear hf)
      | (go_at_call 42; refine (HS.out _ _ _ ((HO1.out.no HF2.out).no HF3.out)).mono ?_; rintro e w4 ⟨⟨v, rfl⟩, ho, hf⟩; have HO4 := Lib.hid ho; have HF4 := Lib.hid hf; clear ho hf))
    refine bodyPost_ret (results_tmp2 rfl _ _ _) rfl ?_
    refine ⟨A', c', by rw [HE.out]; rfl, by rw [HLL.out]; exact HO4.out, ((HF1.out.no_trans HF2.out).no_trans HF3.out).then_new HF4.out ?_⟩
    rintro b ⟨a, rfl, rfl⟩
    exact (HO1.out.lt a.block (by simp [Value.ownBlock])).1
  · have HLL := Lib.hid (show SpendL l i m = l by unfold SpendL; rw [if_neg he])
    rw [HLL.out]
    exact spend_no ht hx hby c hn he
end
end Go.Proofs.YtmallcjhccbgdaaDoor

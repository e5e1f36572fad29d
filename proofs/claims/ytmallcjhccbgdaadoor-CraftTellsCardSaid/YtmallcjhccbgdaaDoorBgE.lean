/-
  Bags: what putting leaves (mathematics); put, Put. No statement of the seat is proved here.
-/
import Derived.Test.YtmallcjhccbgdaaDoorBgD
namespace Go.Proofs.YtmallcjhccbgdaaDoor
open Go.RowKit Go.Deep

theorem stI_le (i : Nat) : 0 ≤ stI i ∧ stI i ≤ 16 := by
  by_cases h : i < 13
  · have : ∀ j : Fin 13, 0 ≤ stI j.val ∧ stI j.val ≤ 16 := by decide
    exact this ⟨i, h⟩
  · unfold stI
    rw [List.getD_eq_getElem?_getD, List.getElem?_eq_none (by simp; omega)]
    decide
theorem wrg_iff (a : Nat) (b : Int) : wrg (a, b) = false ↔ (a = 0 ∧ b = 0) ∨ (1 ≤ b ∧ b ≤ stI a) := by
  unfold wrg
  simp only [Bool.and_eq_false_iff, Bool.not_eq_false', Bool.and_eq_true, beq_iff_eq, Bool.or_eq_false_iff, decide_eq_false_iff_not, Int.not_lt]
theorem rgt_iff (l : List (Nat × Int)) : rgt l = true ↔ ∀ s ∈ l, wrg s = false := by
  unfold rgt
  simp [List.all_eq_true]
theorem rgt_at {l : List (Nat × Int)} (h : rgt l = true) {s : Nat × Int} (hs : s ∈ l) : (s.1 = 0 ∧ s.2 = 0) ∨ (1 ≤ s.2 ∧ s.2 ≤ stI s.1) := (wrg_iff s.1 s.2).1 ((rgt_iff l).1 h s hs)
section
variable {p : Nat → Bool} {i : Nat} {st n : Int} {l : List (Nat × Int)}
theorem foldl_none (l : List (Nat × Int)) (r : List (Nat × Int) × Int) (h : r.2 ≤ 0) : l.foldl (fillS p i st) r = (r.1 ++ l, r.2) := by
  induction l generalizing r with
  | nil => simp
  | cons s l ih =>
    have e : fillS p i st r s = (r.1 ++ [s], r.2) := by
      unfold fillS
      rw [if_neg (fun h2 => by omega)]
    rw [List.foldl_cons, e, ih (r.1 ++ [s], r.2) h]
    simp
theorem fillL_none (h : n ≤ 0) : fillL p i st l n = (l, n) := by
  unfold fillL
  rw [foldl_none l ([], n) h]
  rfl
/-- What holds of the old slots, and of those that are filled, holds of all. -/
theorem fillL_all {Q : Nat × Int → Prop} (hl : ∀ s ∈ l, Q s) (hq : ∀ s ∈ l, p s.1 = true → ∀ m : Int, 0 < m → Q (i, s.2 + min m (st - s.2))) : ∀ s ∈ (fillL p i st l n).1, Q s := by
  unfold fillL
  suffices h : ∀ (l : List (Nat × Int)) (r : List (Nat × Int) × Int), (∀ s ∈ l, Q s) → (∀ s ∈ l, p s.1 = true → ∀ m : Int, 0 < m → Q (i, s.2 + min m (st - s.2))) → (∀ s ∈ r.1, Q s) → ∀ s ∈ (l.foldl (fillS p i st) r).1, Q s from h l ([], n) hl hq (fun s hs => by cases hs)
  intro l
  induction l with
  | nil => intro r _ _ h; exact h
  | cons s l ih =>
    intro r h1 h2 h3
    rw [List.foldl_cons]
    refine ih _ (fun t ht => h1 t (List.mem_cons_of_mem _ ht)) (fun t ht => h2 t (List.mem_cons_of_mem _ ht)) ?_
    intro t ht
    unfold fillS at ht
    split at ht
    · rename_i h
      rcases List.mem_append.1 ht with ht | ht
      · exact h3 t ht
      · rw [List.mem_singleton.1 ht]
        exact h2 s List.mem_cons_self h.2 _ h.1
    · rcases List.mem_append.1 ht with ht | ht
      · exact h3 t ht
      · rw [List.mem_singleton.1 ht]
        exact h1 s List.mem_cons_self
theorem fillL_by (hi : i < 256) (hb : By l) : By (fillL p i st l n).1 := fillL_all (Q := fun s => s.1 < 256) hb (fun _ _ _ _ _ => hi)
theorem fillL_rgt (hst : stI i = st) (h : 0 < st ∨ n ≤ 0) (hr : rgt l = true) (hp : ∀ s ∈ l, p s.1 = true → 0 ≤ s.2 ∧ s.2 ≤ st) : rgt (fillL p i st l n).1 = true := by
  rcases h with h | h
  · rw [rgt_iff]
    refine fillL_all ((rgt_iff l).1 hr) (fun s hs hps m hm => ?_)
    have := hp s hs hps
    have h2 := rgt_at hr hs
    rw [wrg_iff]
    rw [hst]
    exact .inr (by omega)
  · rw [fillL_none h]
    exact hr
end
/-- What putting n of i leaves: the slots, and how much there was no room for. -/
def putL (i : Nat) (st : Int) (l : List (Nat × Int)) (n : Int) : List (Nat × Int) × Int :=
  fillL (fun a => a == 0) i st (fillL (fun a => a == i) i st l n).1 (fillL (fun a => a == i) i st l n).2
section
variable {i : Nat} {st n : Int} {l : List (Nat × Int)}
theorem p1_ok (hst : stI i = st) (hr : rgt l = true) : ∀ s ∈ l, (fun a => a == i) s.1 = true → 0 ≤ s.2 ∧ s.2 ≤ st := fun s hs h => by
  have e : s.1 = i := by simpa using h
  have h1 := rgt_at hr hs
  have h2 := stI_le i
  rw [e, hst] at h1
  rw [hst] at h2
  omega
theorem p2_ok (hst : stI i = st) (hr : rgt l = true) : ∀ s ∈ l, (fun a => a == 0) s.1 = true → 0 ≤ s.2 ∧ s.2 ≤ st := fun s hs h => by
  have e : s.1 = 0 := by simpa using h
  have h1 := rgt_at hr hs
  have h2 := stI_le i
  rw [e] at h1
  rw [hst] at h2
  have : stI 0 = 0 := rfl
  omega
theorem fill1_rgt (hst : stI i = st) (h : 0 < st ∨ n ≤ 0) (hr : rgt l = true) : rgt (fillL (fun a => a == i) i st l n).1 = true := fillL_rgt hst h hr (p1_ok hst hr)
theorem putL_rgt (hst : stI i = st) (h : 0 < st ∨ n = 0) (hr : rgt l = true) : rgt (putL i st l n).1 = true := by
  have h' : 0 < st ∨ n ≤ 0 := by omega
  have h1 := fill1_rgt hst h' hr
  refine fillL_rgt hst ?_ h1 (p2_ok hst h1)
  rcases h' with h' | h'
  · exact .inl h'
  · right
    rw [fillL_none h']
    exact h'
theorem putL_by (hi : i < 256) (hb : By l) : By (putL i st l n).1 := fillL_by hi (fillL_by hi hb)
theorem putL_len : (putL i st l n).1.length = l.length := by unfold putL; rw [fillL_len, fillL_len]
theorem putL_left (hst : stI i = st) (h : 0 < st ∨ n = 0) (h0 : 0 ≤ n) (hr : rgt l = true) : 0 ≤ (putL i st l n).2 ∧ (putL i st l n).2 ≤ n := by
  have h1 := fillL_left (p := fun a => a == i) (i := i) (st := st) (l := l) h0 (p1_ok hst hr)
  have h2 := fillL_left (p := fun a => a == 0) (i := i) (st := st) (l := (fillL (fun a => a == i) i st l n).1) h1.1 (p2_ok hst (fill1_rgt hst (by omega) hr))
  unfold putL
  omega
end
section
variable {w : World} {A : Option Addr} {n c lo : Nat} {l : List (Nat × Int)}
set_option maxRecDepth 100000 in
set_option maxHeartbeats 1600000 in
theorem put_any (ht : ItT w) (hg : 0 < lo) (ho : OwS lo w (.slice A n c) l) (hr : rgt l = true) (hby : By l) {i : Nat} (hi : i < 256) {st : Int} (hst : stI i = st) (hn : n ≤ 100000) {m : Int} (h0 : 0 ≤ m) (hm : m ≤ 9223372036854775807) (hpos : 0 < st ∨ m = 0) :
    Calls Tryd.prog 32 #[.slice A n c, .int .u8 (i : Int), .int .i64 m] w fun e w' => e = .returned (.int .i64 (putL i st l m).2) ∧ OwS lo w' (.slice A n c) (putL i st l m).1 ∧ Fr (Bk A) w w' := by
  have hf := Fr.alloc No w (.cells #[.int .u8 (i : Int)] 32)
  have hA : ∀ b, A = some b → 0 ≠ b.block := fun b hb e => by
    have := (ho.lt b.block (by rw [hb]; rfl)).1
    omega
  have hPA : ¬ Bk A w.heap.size := fun ⟨b, hb, e⟩ => by
    have := (ho.lt b.block (by rw [hb]; rfl)).2
    omega
  have hs := stI_le i
  rw [hst] at hs
  have hr1 := fill1_rgt (n := m) hst (by omega) hr
  have hl1 := fillL_left (p := fun a => a == i) (i := i) (st := st) (l := l) h0 (p1_ok hst hr)
  have H1 := Lib.hid (fill1_any (ht.no hf) hA (ho.no hf) hi hst hs.2 hby (p1_ok hst hr) hn h0 hm (heap_alloc_new w _) hPA)
  have H2 := Lib.hid (fun W (hW : Fr (Bk A) (w.alloc (.cells #[.int .u8 (i : Int)] 32)) W) (hO : OwS lo W (.slice A n c) (fillL (fun a => a == i) i st l m).1) => fill2_any (w := W) (fun j hj => by
    have e : ∀ k, W.cell? ⟨0, k, none⟩ = (w.alloc (.cells #[.int .u8 (i : Int)] 32)).cell? ⟨0, k, none⟩ := fun k => hW.cell (ht.no hf).pos (fun ⟨b, hb, e⟩ => hA b hb e.symm)
    rw [e, e, e, e]
    exact (ht.no hf) j hj) hA hO hi hst hs.2 (fillL_by hi hby) (p2_ok hst hr1) hn hl1.1 (by omega))
  have HPB := Lib.hid (And.intro (heap_alloc_new w (.cells #[.int .u8 (i : Int)] 32)) hPA)
  clear ht hg ho hr hby hst h0 hm hpos hf hA hPA hs hr1 hl1
  go_enter Tryd.func32, Tryd.ntmps32
  go_wp2_with fail
  refine H1.out.mono ?_
  rintro e w1 ⟨rfl, ho, hf⟩
  have HO := Lib.hid ho
  have HF := Lib.hid hf
  have cp := blk_cell ((hf.block _ (Array.getElem?_eq_some_iff.1 HPB.out.1).1 HPB.out.2).trans HPB.out.1) 0
  simp at cp
  clear ho hf
  go_wp2_with fail
  refine (H2.out _ HF.out HO.out).mono ?_
  rintro e w2 ⟨rfl, ho, hf⟩
  have HO2 := Lib.hid ho
  have HF2 := Lib.hid hf
  clear ho hf
  go_wp2_with fail
  go_ret
  exact ⟨rfl, HO2.out, (Fr.alloc (Bk A) w _).trans (HF.out.trans HF2.out (fun _ _ e => e)) (fun _ _ e => e)⟩
/-- What Put leaves, of any slots. -/
def PutL (i : Nat) (l : List (Nat × Int)) (m : Int) : List (Nat × Int) × Int :=
  if m < 1 then (l, 0) else if rgt l = false ∨ stI i = 0 then (l, m) else putL i (stI i) l m
set_option maxRecDepth 100000 in
set_option maxHeartbeats 1600000 in
theorem Put_any (ht : ItT w) (hx : RdS w A n l) (hby : By l) (c : Nat) {i : Nat} (hi : i < 256) (hn : n ≤ 100000) {m : Int} (hm : m ≤ 9223372036854775807) :
    Calls Tryd.prog 17 #[.slice A n c, .int .u8 (i : Int), .int .i64 m] w fun e w' => ∃ A' c', e = .returned (.tuple #[.slice A' n c', .int .i64 (PutL i l m).2]) ∧ OwS w.heap.size w' (.slice A' n c') (PutL i l m).1 ∧ Fr No w w' := by
  have HO := Lib.hid (own_any hx c hn)
  have HR := Lib.hid (fun W (hW : Fr No w W) => right_any (ht.no hW) (hx.no hW) hby c hn n)
  obtain ⟨st, hst⟩ : ∃ s, stI i = s := ⟨_, rfl⟩
  have HS := Lib.hid (stack_w ht hi hst)
  have HT := Lib.hid ht
  have HB := Lib.hid hby
  have hs := stI_le i
  rw [hst] at hs
  clear ht hx hby
  by_cases h1 : m < 1
  · have HE := Lib.hid (show PutL i l m = (l, 0) by unfold PutL; rw [if_pos h1])
    go_enter Tryd.func17, Tryd.ntmps17
    go_wp2_with (go_at_call 30; refine HO.out.mono ?_; rintro e w1 ⟨A', c', rfl, ho, hf⟩; have HO1 := Lib.hid ho; have HF1 := Lib.hid hf; clear ho hf)
    refine bodyPost_ret (results_tmp2 rfl _ _ _) rfl ?_
    exact ⟨A', c', by rw [HE.out]; rfl, by rw [HE.out]; exact HO1.out, HF1.out⟩
  · cases hr : rgt l with
    | false =>
      have HE := Lib.hid (show PutL i l m = (l, m) by unfold PutL; rw [if_neg h1, if_pos (.inl hr)])
      rw [hr] at HR
      have e1 : (decide ((n : Int) = (n : Int)) && false) = false := by simp
      rw [e1] at HR
      clear hr
      go_enter Tryd.func17, Tryd.ntmps17
      go_wp2_with (first
        | (go_at_call 30; refine HO.out.mono ?_; rintro e w1 ⟨A', c', rfl, ho, hf⟩; have HO1 := Lib.hid ho; have HF1 := Lib.hid hf; clear ho hf)
        | (go_at_call 14; refine (HR.out _ HF1.out).mono ?_; rintro e w2 ⟨rfl, hf⟩; have HF2 := Lib.hid hf; clear hf))
      refine bodyPost_ret (results_tmp2 rfl _ _ _) rfl ?_
      exact ⟨A', c', by rw [HE.out]; rfl, by rw [HE.out]; exact HO1.out.no HF2.out, HF1.out.no_trans HF2.out⟩
    | true =>
      rw [hr] at HR
      have e1 : (decide ((n : Int) = (n : Int)) && true) = true := by simp
      rw [e1] at HR
      by_cases h0 : st = 0
      · have HE := Lib.hid (show PutL i l m = (l, m) by unfold PutL; rw [if_neg h1, if_pos (.inr (hst.trans h0))])
        have e2 : (st == 0) = true := by simp [h0]
        clear hr h0
        go_enter Tryd.func17, Tryd.ntmps17
        go_wp2_with (first
          | (go_at_call 30; refine HO.out.mono ?_; rintro e w1 ⟨A', c', rfl, ho, hf⟩; have HO1 := Lib.hid ho; have HF1 := Lib.hid hf; clear ho hf)
          | (go_at_call 14; refine (HR.out _ HF1.out).mono ?_; rintro e w2 ⟨rfl, hf⟩; have HF2 := Lib.hid hf; clear hf)
          | (go_at_call 31; refine (HS.out _ (HF1.out.no_trans HF2.out)).mono ?_; rintro e w3 ⟨rfl, _, hf⟩; have HF3 := Lib.hid hf; clear hf))
        refine bodyPost_ret (results_tmp2 rfl _ _ _) rfl ?_
        exact ⟨A', c', by rw [HE.out]; rfl, by rw [HE.out]; exact (HO1.out.no HF2.out).no HF3.out, (HF1.out.no_trans HF2.out).no_trans HF3.out⟩
      · have HE := Lib.hid (show PutL i l m = putL i st l m by unfold PutL; rw [if_neg h1, if_neg (by rw [hr, hst]; simp; exact h0), hst])
        have e2 : (st == 0) = false := by rw [beq_eq_false_iff_ne]; exact h0
        have HP : Hid (∀ W A' c', Fr No w W → OwS w.heap.size W (.slice A' n c') l → Calls Tryd.prog 32 #[.slice A' n c', .int .u8 (i : Int), .int .i64 m] W fun e w' => e = .returned (.int .i64 (putL i st l m).2) ∧ OwS w.heap.size w' (.slice A' n c') (putL i st l m).1 ∧ Fr (Bk A') W w') :=
          fun W A' c' hW hO => put_any (HT.out.no hW) HT.out.pos hO hr HB.out hi hst hn (by omega) hm (.inl (by omega))
        clear hr h0 hm
        go_enter Tryd.func17, Tryd.ntmps17
        go_wp2_with (first
          | (go_at_call 30; refine HO.out.mono ?_; rintro e w1 ⟨A', c', rfl, ho, hf⟩; have HO1 := Lib.hid ho; have HF1 := Lib.hid hf; clear ho hf)
          | (go_at_call 14; refine (HR.out _ HF1.out).mono ?_; rintro e w2 ⟨rfl, hf⟩; have HF2 := Lib.hid hf; clear hf)
          | (go_at_call 31; refine (HS.out _ (HF1.out.no_trans HF2.out)).mono ?_; rintro e w3 ⟨rfl, _, hf⟩; have HF3 := Lib.hid hf; clear hf)
          | (go_at_call 32; refine (HP.out _ _ _ ((HF1.out.no_trans HF2.out).no_trans HF3.out) ((HO1.out.no HF2.out).no HF3.out)).mono ?_; rintro e w4 ⟨rfl, ho, hf⟩; have HO4 := Lib.hid ho; have HF4 := Lib.hid hf; clear ho hf))
        refine bodyPost_ret (results_tmp2 rfl _ _ _) rfl ?_
        exact ⟨A', c', by rw [HE.out]; rfl, by rw [HE.out]; exact HO4.out, ((HF1.out.no_trans HF2.out).no_trans HF3.out).then_new HF4.out (fun i ⟨b, hb, e⟩ => by
          have := (HO1.out.lt b.block (by rw [hb]; rfl)).1
          omega)⟩
end
end Go.Proofs.YtmallcjhccbgdaaDoor

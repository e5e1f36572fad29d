/-
  Craft: empty slots behind a bag stay; the bags on the way to a pick; the walk of CraftChains. No statement of the seat is proved here.
-/
import Derived.Test.YtloimopcecbkbaaDoorCrG
namespace Go.Proofs.YtloimopcecbkbaaDoor
open Go.RowKit Go.Deep

/-- Empty slots. -/
def rep (k : Nat) : List (Nat × Int) := List.replicate k (0, 0)
theorem rgt_rep (k : Nat) : rgt (rep k) = true := by unfold rgt rep; rw [List.all_replicate]; split <;> decide +kernel
theorem rep_mem {k : Nat} {s : Nat × Int} (h : s ∈ rep k) : s = (0, 0) := (List.mem_replicate.1 h).2
theorem cntL_rep (i k : Nat) : cntL i (rep k) = 0 := by
  induction k with
  | zero => unfold cntL; split <;> rfl
  | succ k ih =>
    have e : rep (k + 1) = [(0, 0)] ++ rep k := rfl
    rw [e, cntL_append, ih, cntL_empty]
    rfl
theorem spS_foldr (i : Nat) (l t : List (Nat × Int)) (n : Int) : l.foldr (spS i) (t, n) = ((l.foldr (spS i) ([], n)).1 ++ t, (l.foldr (spS i) ([], n)).2) := by
  induction l with
  | nil => rfl
  | cons s l ih =>
    rw [List.foldr_cons, List.foldr_cons, ih]
    unfold spS
    dsimp only
    split <;> rfl
theorem spS_rep {i : Nat} (hi : i ≠ 0) (k : Nat) (n : Int) : (rep k).foldr (spS i) ([], n) = (rep k, n) := by
  induction k with
  | zero => rfl
  | succ k ih =>
    have e : rep (k + 1) = (0, 0) :: rep k := rfl
    rw [e, List.foldr_cons, ih]
    unfold spS
    rw [if_neg (fun e => hi e.symm)]
theorem spF_rep {i : Nat} (hi : i ≠ 0) (l : List (Nat × Int)) (k : Nat) (n : Int) : spF i (l ++ rep k) n = ((spF i l n).1 ++ rep k, (spF i l n).2) := by
  unfold spF
  rw [List.foldr_append, spS_rep hi, spS_foldr]
theorem SpendL_rep {l : List (Nat × Int)} (hr : rgt l = true) {i : Nat} (hi : i ≠ 0) (m : Int) (k : Nat) : SpendL (l ++ rep k) i m = SpendL l i m ++ rep k := by
  have hE : SpendE (l ++ rep k) i m = SpendE l i m := by
    unfold SpendE
    rw [rgt_append, hr, rgt_rep, cntL_append, cntL_rep, Int.add_zero]
    rfl
  unfold SpendL
  rw [hE]
  split
  · rw [spF_rep hi]
  · rfl
theorem spentL_rep {of : List (Nat × Int)} (k : Nat) : ∀ {l : List (Nat × Int)}, rgt l = true → (∀ s ∈ of, s.1 ≠ 0) → spentL (l ++ rep k) of = spentL l of ++ rep k := by
  induction of with
  | nil => intro l _ _; rfl
  | cons s of ih =>
    intro l hr h
    have e : ∀ l, spentL l (s :: of) = spentL (SpendL l s.1 s.2) of := fun _ => rfl
    rw [e, e, SpendL_rep hr (h s List.mem_cons_self), ih (SpendL_rgt hr) (fun t ht => h t (List.mem_cons_of_mem _ ht))]
theorem fillL_nothing (p : Nat → Bool) (i : Nat) (st : Int) (l t : List (Nat × Int)) (n : Int) (h : ∀ s ∈ l, n ≤ 0 ∨ p s.1 = false) : l.foldl (fillS p i st) (t, n) = (t ++ l, n) := by
  induction l generalizing t with
  | nil => simp
  | cons s l ih =>
    have e : fillS p i st (t, n) s = (t ++ [s], n) := by
      unfold fillS
      rw [if_neg (fun x => by rcases h s List.mem_cons_self with e | e; have := x.1; dsimp only at this; omega; rw [e] at x; exact absurd x.2 Bool.false_ne_true)]
    rw [List.foldl_cons, e, ih _ (fun u hu => h u (List.mem_cons_of_mem _ hu)), List.append_assoc]
    rfl
theorem fillL_rep (p : Nat → Bool) (i : Nat) (st : Int) (l : List (Nat × Int)) (n : Int) (k : Nat) (h : (fillL p i st l n).2 ≤ 0 ∨ p 0 = false) : fillL p i st (l ++ rep k) n = ((fillL p i st l n).1 ++ rep k, (fillL p i st l n).2) := by
  unfold fillL at h ⊢
  rw [List.foldl_append]
  generalize l.foldl (fillS p i st) ([], n) = r at *
  obtain ⟨r1, r2⟩ := r
  exact fillL_nothing p i st (rep k) r1 r2 (fun s hs => by rw [rep_mem hs]; exact h)
theorem PutL_rep {i : Nat} {l : List (Nat × Int)} (hr : rgt l = true) (hi : stI i ≠ 0) {n : Int} (hn : 1 ≤ n) (k : Nat) (h : (PutL i l n).2 = 0) : PutL i (l ++ rep k) n = ((PutL i l n).1 ++ rep k, 0) := by
  have hi0 : i ≠ 0 := fun e => by rw [e] at hi; exact hi rfl
  have e : ∀ L, rgt L = true → PutL i L n = putL i (stI i) L n := fun L hL => by
    unfold PutL
    rw [if_neg (by omega), if_neg (by rw [hL]; simp; exact hi)]
  rw [e _ (by rw [rgt_append, hr, rgt_rep]; rfl), e l hr]
  rw [e l hr] at h
  unfold putL at h ⊢
  have h1 := fillL_rep (fun a => a == i) i (stI i) l n k (.inr (by simpa using fun e => hi0 e.symm))
  rw [h1]
  dsimp only
  rw [fillL_rep _ _ _ _ _ _ (.inl (by omega)), h]
/-- Empty slots behind a bag stay, where something is made of it. -/
theorem Make_rep {l : List (Nat × Int)} {m : Int} (h : MakeE l m = 0) (k : Nat) : MakeE (l ++ rep k) m = 0 ∧ MakeL (l ++ rep k) m = MakeL l m ++ rep k := by
  obtain ⟨hr, hm, ha, hp⟩ := MakeE_ok h
  obtain ⟨_, h1, h2, _⟩ := ofM_more hm
  have hof := fun s hs => (ofM_cases m).1 s hs
  have hsp := spentL_rep (of := ofM m) k hr (fun s hs => by have := hof s hs; omega)
  have hpu := PutL_rep (spentL_rgt hr (ofM m)) h2 h1 k hp
  have e : madeP (l ++ rep k) m = ((madeP l m).1 ++ rep k, 0) := by
    unfold madeP
    rw [hsp, hpu]
  have hE : MakeE (l ++ rep k) m = 0 := by
    refine (MakeE_all _ m).2.2.2.2 (by rw [rgt_append, hr, rgt_rep]; rfl) hm ?_ (by rw [e]; simp)
    rw [List.any_eq_false] at ha ⊢
    intro s hs
    have := ha s hs
    unfold lackS at this ⊢
    rw [cntL_append, cntL_rep, Int.add_zero]
    exact this
  refine ⟨hE, ?_⟩
  rw [MakeL_yes hE, MakeL_yes h, e]
/-- The bags on the way, of nine slots. -/
def chainS (w o : Nat) : Nat → List (Nat × Int)
  | 0 => [(3, ((8 + w : Nat) : Int)), (7, ((4 + o : Nat) : Int)), (0, 0), (0, 0), (0, 0), (0, 0), (0, 0), (0, 0), (0, 0)]
  | 1 => [(3, ((7 + w : Nat) : Int)), (7, ((4 + o : Nat) : Int)), (5, 4), (0, 0), (0, 0), (0, 0), (0, 0), (0, 0), (0, 0)]
  | 2 => [(3, ((7 + w : Nat) : Int)), (7, ((4 + o : Nat) : Int)), (5, 2), (6, 4), (0, 0), (0, 0), (0, 0), (0, 0), (0, 0)]
  | 3 => [(3, ((6 + w : Nat) : Int)), (7, ((3 + o : Nat) : Int)), (5, 2), (6, 4), (8, 1), (0, 0), (0, 0), (0, 0), (0, 0)]
  | 4 => [(3, ((5 + w : Nat) : Int)), (7, ((2 + o : Nat) : Int)), (5, 2), (6, 4), (8, 2), (0, 0), (0, 0), (0, 0), (0, 0)]
  | 5 => [(3, ((4 + w : Nat) : Int)), (7, ((1 + o : Nat) : Int)), (5, 2), (6, 4), (8, 3), (0, 0), (0, 0), (0, 0), (0, 0)]
  | _ => [(3, ((4 + w : Nat) : Int)), (7, ((1 + o : Nat) : Int)), (5, 2), (6, 2), (12, 1), (0, 0), (0, 0), (0, 0), (0, 0)]
def chainM (j : Nat) : Int := ([0, 1, 4, 4, 4, 5] : List Int).getD j 0
theorem chain_step (w o j : Nat) (hw : w < 8) (ho : o < 12) (hj : j < 6) : MakeE (chainS w o j) (chainM j) = 0 ∧ MakeL (chainS w o j) (chainM j) = chainS w o (j + 1) := by
  have : ∀ (w : Fin 8) (o : Fin 12) (j : Fin 6), MakeE (chainS w.val o.val j.val) (chainM j.val) = 0 ∧ MakeL (chainS w.val o.val j.val) (chainM j.val) = chainS w.val o.val (j.val + 1) := by decide +kernel
  exact this ⟨w, hw⟩ ⟨o, ho⟩ ⟨j, hj⟩
theorem chain_put1 (w : Nat) (hw : w < 8) : PutL 3 (rep 9) ((8 + w : Nat) : Int) = ([(3, ((8 + w : Nat) : Int)), (0, 0), (0, 0), (0, 0), (0, 0), (0, 0), (0, 0), (0, 0), (0, 0)], 0) := by
  have : ∀ (w : Fin 8), PutL 3 (rep 9) ((8 + w.val : Nat) : Int) = ([(3, ((8 + w.val : Nat) : Int)), (0, 0), (0, 0), (0, 0), (0, 0), (0, 0), (0, 0), (0, 0), (0, 0)], 0) := by decide +kernel
  exact this ⟨w, hw⟩
theorem chain_put2 (w o : Nat) (hw : w < 8) (ho : o < 12) : PutL 7 [(3, ((8 + w : Nat) : Int)), (0, 0), (0, 0), (0, 0), (0, 0), (0, 0), (0, 0), (0, 0), (0, 0)] ((4 + o : Nat) : Int) = (chainS w o 0, 0) := by
  have : ∀ (w : Fin 8) (o : Fin 12), PutL 7 [(3, ((8 + w.val : Nat) : Int)), (0, 0), (0, 0), (0, 0), (0, 0), (0, 0), (0, 0), (0, 0), (0, 0)] ((4 + o.val : Nat) : Int) = (chainS w.val o.val 0, 0) := by decide +kernel
  exact this ⟨w, hw⟩ ⟨o, ho⟩
theorem chain_end (w o : Nat) (hw : w < 8) (ho : o < 12) : cntL 12 (chainS w o 6) = 1 ∧ cntL 8 (chainS w o 6) = 0 ∧ cntL 3 (chainS w o 6) = ((4 + w : Nat) : Int) ∧ cntL 7 (chainS w o 6) = ((1 + o : Nat) : Int) ∧ rgt (chainS w o 6) = true := by
  have : ∀ (w : Fin 8) (o : Fin 12), cntL 12 (chainS w.val o.val 6) = 1 ∧ cntL 8 (chainS w.val o.val 6) = 0 ∧ cntL 3 (chainS w.val o.val 6) = ((4 + w.val : Nat) : Int) ∧ cntL 7 (chainS w.val o.val 6) = ((1 + o.val : Nat) : Int) ∧ rgt (chainS w.val o.val 6) = true := by decide +kernel
  exact this ⟨w, hw⟩ ⟨o, ho⟩
theorem chain_by (w o j : Nat) : By (chainS w o j) := By.dec (by unfold chainS; split <;> rfl)
section
variable {w : World} {A : Option Addr} {n c lo : Nat} {l : List (Nat × Int)}
set_option maxRecDepth 100000 in
set_option maxHeartbeats 1600000 in
theorem newn_any (m : Nat) (hm : m ≤ 64) (hm1 : 1 ≤ m) : Calls Tryd.prog 18 #[.int .i64 (m : Int)] w fun e w' => ∃ b, e = .returned (.slice (some ⟨b, 0, none⟩) m m) ∧ RdS w' (some ⟨b, 0, none⟩) m (rep m) ∧ Fr No w w' := by
  have hmk : ∀ W : World, (Instr.makeSlice 22 (.int .i64 (m : Int)) (.int .i64 (m : Int))).run Tryd.prog W = .ok (.slice (some ⟨W.heap.size, 0, none⟩) m m) (W.alloc (.cells (madeCells #[.int .u8 0, .int .i64 0] (m * 2)) 31)) := fun W => (make_sl m (by omega) W).1
  have HR : Hid (RdS (w.alloc (.cells (madeCells #[.int .u8 0, .int .i64 0] (m * 2)) 31)) (some ⟨w.heap.size, 0, none⟩) m (rep m)) := (make_sl m (by omega) w).2
  have h64 : ¬ (64 : Int) < (m : Int) := by omega
  have h0 : ¬ (m : Int) < 0 := by omega
  have h65 : (m : Int) ≤ 64 := by omega
  have hmin : min (m : Int) 64 = (m : Int) := by omega
  have hmax : max (0 : Int) (m : Int) = (m : Int) := by omega
  generalize madeCells #[.int .u8 0, .int .i64 0] (m * 2) = cs at *
  go_enter Tryd.func18, Tryd.ntmps18
  go_wp2_with fail
  go_ret
  exact ⟨_, rfl, HR.out, Fr.alloc _ _ _⟩
set_option maxRecDepth 100000 in
set_option maxHeartbeats 1600000 in
theorem chains_walk (ht : ItT w) (a0 b0 s0 : Nat) (ha : a0 < 256) (hb : b0 < 256) (hs : s0 < 256) : Calls Tryd.prog 7 #[.int .u8 (a0 : Int), .int .u8 (b0 : Int), .int .u8 (s0 : Int)] w fun e w' => e = .returned (.bool true) ∧ Below w.heap.size w w' := by
  have HA := Lib.hid (cawake_w ht)
  obtain ⟨wd, hwd, hwd2⟩ : ∃ q, a0 % 8 = q ∧ q < 8 := ⟨_, rfl, Nat.mod_lt _ (by omega)⟩
  obtain ⟨od, hod, hod2⟩ : ∃ q, b0 % 12 = q ∧ q < 12 := ⟨_, rfl, Nat.mod_lt _ (by omega)⟩
  obtain ⟨sd, hsd, hsd2⟩ : ∃ q, s0 % 12 = q ∧ q < 12 := ⟨_, rfl, Nat.mod_lt _ (by omega)⟩
  have t1 : (a0 : Int).tmod 8 = (wd : Int) := by rw [Int.tmod_eq_emod_of_nonneg (by omega)]; omega
  have t2 : (b0 : Int).tmod 12 = (od : Int) := by rw [Int.tmod_eq_emod_of_nonneg (by omega)]; omega
  have t3 : (s0 : Int).tmod 12 = (sd : Int) := by rw [Int.tmod_eq_emod_of_nonneg (by omega)]; omega
  clear hwd hod hsd
  obtain ⟨N, hN⟩ : ∃ N, 9 + sd = N := ⟨_, rfl⟩
  have hN64 : N ≤ 64 := by omega
  have C0 : Hid (Calls Tryd.prog 18 #[.int .i64 (9 + (sd : Int))] w fun e w' => ∃ b, e = .returned (.slice (some ⟨b, 0, none⟩) N N) ∧ RdS w' (some ⟨b, 0, none⟩) N (rep 9 ++ rep sd) ∧ Fr No w w') := Lib.hid (by
    have := newn_any (w := w) N (by omega) (by omega)
    rw [show (9 + (sd : Int)) = ((N : Nat) : Int) by omega, show rep 9 ++ rep sd = rep N by rw [← hN]; unfold rep; rw [List.replicate_append_replicate]]
    exact this)
  have C1 : Hid (∀ W A c, Fr No w W → RdS W A N (rep 9 ++ rep sd) → Calls Tryd.prog 15 #[.slice A N c, .int .u8 3, .int .i64 (8 + (wd : Int))] W fun e w' => ∃ A' c', e = .returned (.tuple #[.slice A' N c', .int .i64 0]) ∧ RdS w' A' N ([(3, ((8 + wd : Nat) : Int)), (0, 0), (0, 0), (0, 0), (0, 0), (0, 0), (0, 0), (0, 0), (0, 0)] ++ rep sd) ∧ Fr No W w') := Lib.hid fun W A c hW hx => by
    have hp := chain_put1 wd hwd2
    have hq := PutL_rep (i := 3) (l := rep 9) (rgt_rep 9) (by decide) (n := ((8 + wd : Nat) : Int)) (by omega) sd (by rw [hp])
    rw [hp] at hq
    have := Put_any (ht.no hW) hx (By.dec (by unfold rep; rw [List.all_append, List.all_replicate, List.all_replicate]; simp)) c (i := 3) (by decide) (n := N) (by omega) (m := ((8 + wd : Nat) : Int)) (by omega)
    rw [hq] at this
    rw [show (8 + (wd : Int)) = ((8 + wd : Nat) : Int) by omega]
    exact this.mono (fun _ _ ⟨A', c', h1, h2, h3⟩ => ⟨A', c', h1, h2.rd, h3⟩)
  have C2 : Hid (∀ W A c, Fr No w W → RdS W A N ([(3, ((8 + wd : Nat) : Int)), (0, 0), (0, 0), (0, 0), (0, 0), (0, 0), (0, 0), (0, 0), (0, 0)] ++ rep sd) → Calls Tryd.prog 15 #[.slice A N c, .int .u8 7, .int .i64 (4 + (od : Int))] W fun e w' => ∃ A' c', e = .returned (.tuple #[.slice A' N c', .int .i64 0]) ∧ RdS w' A' N (chainS wd od 0 ++ rep sd) ∧ Fr No W w') := Lib.hid fun W A c hW hx => by
    have hp := chain_put2 wd od hwd2 hod2
    have hr : rgt [(3, ((8 + wd : Nat) : Int)), (0, 0), (0, 0), (0, 0), (0, 0), (0, 0), (0, 0), (0, 0), (0, 0)] = true := by
      have : ∀ wd : Fin 8, rgt [(3, ((8 + wd.val : Nat) : Int)), (0, 0), (0, 0), (0, 0), (0, 0), (0, 0), (0, 0), (0, 0), (0, 0)] = true := by decide +kernel
      exact this ⟨wd, hwd2⟩
    have hq := PutL_rep (i := 7) hr (by decide) (n := ((4 + od : Nat) : Int)) (by omega) sd (by rw [hp])
    rw [hp] at hq
    have := Put_any (ht.no hW) hx (By.dec (by unfold rep; rw [List.all_append, List.all_replicate]; simp)) c (i := 7) (by decide) (n := N) (by omega) (m := ((4 + od : Nat) : Int)) (by omega)
    rw [hq] at this
    rw [show (4 + (od : Int)) = ((4 + od : Nat) : Int) by omega]
    exact this.mono (fun _ _ ⟨A', c', h1, h2, h3⟩ => ⟨A', c', h1, h2.rd, h3⟩)
  have hbyr : ∀ j, By (chainS wd od j ++ rep sd) := fun j s hs => by
    rcases List.mem_append.1 hs with h | h
    · exact chain_by wd od j s h
    · rw [rep_mem h]; decide
  have C3 : Hid (∀ W A c (j : Nat), j < 6 → Fr No w W → RdS W A N (chainS wd od j ++ rep sd) → Calls Tryd.prog 10 #[.slice A N c, .int .i64 (chainM j)] W fun e w' => ∃ A' c', e = .returned (.tuple #[.slice A' N c', .int .i64 0]) ∧ RdS w' A' N (chainS wd od (j + 1) ++ rep sd) ∧ Fr No W w') := Lib.hid fun W A c j hj hW hx => by
    obtain ⟨h1, h2⟩ := chain_step wd od j hwd2 hod2 hj
    obtain ⟨h3, h4⟩ := Make_rep h1 sd
    have := Make_any (ht.no hW) hx (hbyr j) c (by omega) (chainM j)
    rw [h3, h4, h2] at this
    exact this.mono (fun _ _ ⟨A', c', h1, h2, h3⟩ => ⟨A', c', h1, h2.rd, h3⟩)
  obtain ⟨n1, n2, n3, n4, n5⟩ := chain_end wd od hwd2 hod2
  have hrr : rgt (chainS wd od 6 ++ rep sd) = true := by rw [rgt_append, n5, rgt_rep]; rfl
  have C4 : Hid (∀ W A c (i : Nat), RdS W A N (chainS wd od 6 ++ rep sd) → Calls Tryd.prog 13 #[.slice A N c, .int .u8 (i : Int)] W fun e w' => e = .returned (.int .i64 (cntL i (chainS wd od 6))) ∧ Fr No W w') := Lib.hid fun W A c i hx => by
    have := count_any hx hrr c (i := i) (by omega)
    rw [cntL_append, cntL_rep, Int.add_zero] at this
    exact this
  have C12 : Hid (∀ W A c, RdS W A N (chainS wd od 6 ++ rep sd) → Calls Tryd.prog 13 #[.slice A N c, .int .u8 12] W fun e w' => e = .returned (.int .i64 1) ∧ Fr No W w') := Lib.hid fun W A c hx => by
    have := C4.out W A c 12 hx
    rw [n1] at this
    exact this
  have C8 : Hid (∀ W A c, RdS W A N (chainS wd od 6 ++ rep sd) → Calls Tryd.prog 13 #[.slice A N c, .int .u8 8] W fun e w' => e = .returned (.int .i64 0) ∧ Fr No W w') := Lib.hid fun W A c hx => by
    have := C4.out W A c 8 hx
    rw [n2] at this
    exact this
  have CW : Hid (∀ W A c, RdS W A N (chainS wd od 6 ++ rep sd) → Calls Tryd.prog 13 #[.slice A N c, .int .u8 3] W fun e w' => e = .returned (.int .i64 (4 + (wd : Int))) ∧ Fr No W w') := Lib.hid fun W A c hx => by
    have := C4.out W A c 3 hx
    rw [n3] at this
    rw [show (4 + (wd : Int)) = ((4 + wd : Nat) : Int) by omega]
    exact this
  have CO : Hid (∀ W A c, RdS W A N (chainS wd od 6 ++ rep sd) → Calls Tryd.prog 13 #[.slice A N c, .int .u8 7] W fun e w' => e = .returned (.int .i64 (1 + (od : Int))) ∧ Fr No W w') := Lib.hid fun W A c hx => by
    have := C4.out W A c 7 hx
    rw [n4] at this
    rw [show (1 + (od : Int)) = ((1 + od : Nat) : Int) by omega]
    exact this
  have HNN := Lib.hid hN64
  clear C4 hbyr n1 n2 n3 n4 n5 hrr ht hN hN64
  go_enter Tryd.func7, Tryd.ntmps7
  go_wp2_with fail
  refine C0.out.mono ?_
  rintro e w1 ⟨b1, rfl, hr, hf⟩
  have HF1 := Lib.hid hf
  have HR1 := Lib.hid hr
  clear hf hr C0
  go_wp2_with fail
  refine (C1.out _ _ _ HF1.out HR1.out).mono ?_
  rintro e w2 ⟨A2, c2, rfl, hr, hf⟩
  have HF2 := Lib.hid (HF1.out.no_trans hf)
  have HR2 := Lib.hid hr
  clear hf hr C1 HR1 HF1
  go_wp2_with fail
  refine (C2.out _ _ _ HF2.out HR2.out).mono ?_
  rintro e w3 ⟨A3, c3, rfl, hr, hf⟩
  have HF3 := Lib.hid (HF2.out.no_trans hf)
  have HR3 := Lib.hid hr
  clear hf hr C2 HR2 HF2
  go_wp2_with fail
  go_loopw [7, 42] (fun v7 v42 wr => ∃ (j : Nat) (A' : Option Addr) (c' : Nat), j ≤ 6 ∧ v42 = .int .i64 (j : Int) ∧ v7 = .slice A' N c' ∧ RdS wr A' N (chainS wd od j ++ rep sd) ∧ Fr No w wr) (fun _ v42 _ => 6 - (intOf v42).toNat)
  case atStart => exact ⟨0, _, _, by omega, rfl, rfl, HR3.out, HF3.out⟩
  case round =>
    obtain ⟨j, A', c', hj, rfl, rfl, hr, hf⟩ := hrel
    have HF := Lib.hid hf
    have HR := Lib.hid hr
    clear hf hr
    by_cases hlt : j < 6
    · have hwj : IntKind.i64.wrap ((j : Int) + 1) = ((j + 1 : Nat) : Int) := by
        rw [show ((j : Int) + 1) = ((j + 1 : Nat) : Int) by omega]
        exact IntWalk.i64_in _ (by omega)
      have hix : ∀ W, (Instr.index 43 (.agg #[.int .i64 0, .int .i64 1, .int .i64 4, .int .i64 4, .int .i64 4, .int .i64 5]) (.int .i64 (j : Int))).run Tryd.prog W = .ok (.int .i64 (chainM j)) W := by
        have : j = 0 ∨ j = 1 ∨ j = 2 ∨ j = 3 ∨ j = 4 ∨ j = 5 := by omega
        rcases this with rfl | rfl | rfl | rfl | rfl | rfl <;> exact fun _ => rfl
      have C := Lib.hid (C3.out _ _ c' j hlt HF.out HR.out)
      obtain ⟨q, hq⟩ : ∃ q, chainM j = q := ⟨_, rfl⟩
      rw [hq] at hix C
      clear hq
      go_wp2_with fail
      refine C.out.mono ?_
      rintro e w4 ⟨A4, c4, rfl, hr, hf⟩
      have HF4 := Lib.hid (HF.out.no_trans hf)
      have HR4 := Lib.hid hr
      clear hf hr C
      go_wp2_with fail
      go_roundw
      case rel => exact ⟨j + 1, A4, c4, by omega, by go_num, rfl, HR4.out, HF4.out⟩
      case measure => simp [intOf]; omega
    · have hj6 : j = 6 := by omega
      subst hj6
      clear C3
      go_wp2_with fail
      refine (C12.out _ _ _ HR.out).mono ?_
      rintro e w4 ⟨rfl, hf⟩
      have HF4 := Lib.hid (HF.out.no_trans hf)
      have HR4 := Lib.hid (HR.out.no hf)
      clear hf C12 HR HF
      go_wp2_with fail
      refine (C8.out _ _ _ HR4.out).mono ?_
      rintro e w5 ⟨rfl, hf⟩
      have HF5 := Lib.hid (HF4.out.no_trans hf)
      have HR5 := Lib.hid (HR4.out.no hf)
      clear hf C8 HR4 HF4
      go_wp2_with fail
      refine (CW.out _ _ _ HR5.out).mono ?_
      rintro e w6 ⟨rfl, hf⟩
      have HF6 := Lib.hid (HF5.out.no_trans hf)
      have HR6 := Lib.hid (HR5.out.no hf)
      clear hf CW HR5 HF5
      go_wp2_with fail
      refine (CO.out _ _ _ HR6.out).mono ?_
      rintro e w7 ⟨rfl, hf⟩
      have HF7 := Lib.hid (HF6.out.no_trans hf)
      clear hf CO HR6 HF6
      have hsz : (w7.alloc (.cells #[.int .i64 (4 + (wd : Int)), .int .i64 (1 + (od : Int))] 3)).heap.size = w7.heap.size + 1 := World.size_alloc _ _
      have l2 := lit_i (w7.alloc (.cells #[.int .i64 (4 + (wd : Int)), .int .i64 (1 + (od : Int))] 3)) [4 + (wd : Int), 1 + (od : Int)] #[.int .i64 (4 + (wd : Int)), .int .i64 (1 + (od : Int))] rfl
      rw [hsz] at l2
      have L2 := Lib.hid l2
      clear hsz l2
      have L1 := Lib.hid (lit_i w7 [4 + (wd : Int), 1 + (od : Int)] #[.int .i64 (4 + (wd : Int)), .int .i64 (1 + (od : Int))] rfl)
      go_wp2_with fail
      refine (same_ints (L1.out.no (Fr.alloc No _ _)) L2.out 2 2 (by simp)).mono ?_
      rintro e w8 ⟨rfl, hf⟩
      have HF8 := Lib.hid (HF7.out.no_trans (((Fr.alloc No w7 _).no_trans (Fr.alloc No _ _)).no_trans hf))
      clear hf L1 L2 HF7
      go_wp2_with fail
      refine (HA.out _ HF8.out).mono ?_
      rintro e w9 ⟨rfl, hf⟩
      go_wp2_with fail
      go_ret
      exact ⟨rfl, hf.noBelow⟩
end
end Go.Proofs.YtloimopcecbkbaaDoor

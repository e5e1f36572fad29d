/-
  Craft: with an empty slot there is room; the walk of CraftMore. No statement of the seat is proved here.
-/
import Derived.Test.YtloimopcecbkbaaDoorCrF
import Derived.Test.YtloimopcecbkbaaDoorBgU
import Derived.Deep.AppendLies
namespace Go.Proofs.YtloimopcecbkbaaDoor
open Go.RowKit Go.Deep

theorem rgt_append (a b : List (Nat × Int)) : rgt (a ++ b) = (rgt a && rgt b) := by unfold rgt; rw [List.all_append]
theorem sumF_append (f : Nat × Int → Int) (a b : List (Nat × Int)) : sumF f (a ++ b) = sumF f a + sumF f b := by
  induction a with
  | nil => simp [sumF]
  | cons s a ih => rw [List.cons_append, sumF_cons, sumF_cons, ih]; omega
theorem cntL_append (k : Nat) (a b : List (Nat × Int)) : cntL k (a ++ b) = cntL k a + cntL k b := by
  by_cases h : k = 0
  · subst h; rfl
  · rw [cntL_sum h, cntL_sum h, cntL_sum h, sumF_append]
theorem spF_kept {i : Nat} (hi : i ≠ 0) (l : List (Nat × Int)) (n : Int) (h : ((0, 0) : Nat × Int) ∈ l) : ((0, 0) : Nat × Int) ∈ (spF i l n).1 := by
  unfold spF
  induction l with
  | nil => cases h
  | cons s l ih =>
    rw [List.foldr_cons]
    generalize l.foldr (spS i) ([], n) = r at *
    unfold spS
    rcases List.mem_cons.1 h with e | h
    · subst e
      rw [if_neg (fun e => hi e.symm)]
      exact List.mem_cons_self
    · have := ih h
      split
      · exact List.mem_cons_of_mem _ this
      · exact List.mem_cons_of_mem _ this
theorem spentL_kept {of : List (Nat × Int)} : ∀ {l : List (Nat × Int)}, (∀ s ∈ of, s.1 ≠ 0) → ((0, 0) : Nat × Int) ∈ l → ((0, 0) : Nat × Int) ∈ spentL l of := by
  induction of with
  | nil => intro l _ h; exact h
  | cons s of ih =>
    intro l h h0
    have e : spentL l (s :: of) = spentL (SpendL l s.1 s.2) of := rfl
    rw [e]
    refine ih (fun t ht => h t (List.mem_cons_of_mem _ ht)) ?_
    unfold SpendL
    split
    · exact spF_kept (h s List.mem_cons_self) l s.2 h0
    · exact h0
theorem mkM_fits {m : Int} (h : 0 ≤ m ∧ m < 7) : (mkM m).2 ≤ stI (mkM m).1 := by
  unfold mkM
  rw [if_pos h]
  have : ∀ j : Fin 7, (mkR j.val).2 ≤ stI (mkR j.val).1 := by decide
  exact this ⟨m.toNat, by omega⟩
/-- With an empty slot there is room for what is made. -/
theorem MakeE_empty {l : List (Nat × Int)} {m : Int} (hr : rgt l = true) (hm : 0 ≤ m ∧ m < 7) (ha : (ofM m).any (lackS l) = false) (h0 : ((0, 0) : Nat × Int) ∈ l) : MakeE l m = 0 := by
  obtain ⟨_, h1, h2, _⟩ := ofM_more hm
  have hfit := mkM_fits hm
  have hsl := stI_le (mkM m).1
  have hrs := spentL_rgt hr (ofM m)
  have hk := spentL_kept (of := ofM m) (fun s hs => by have := (ofM_cases m).1 s hs; omega) h0
  refine (MakeE_all l m).2.2.2.2 hr hm ha ?_
  have e : madeP l m = putL (mkM m).1 (stI (mkM m).1) (spentL l (ofM m)) (mkM m).2 := by
    unfold madeP PutL
    rw [if_neg (by omega), if_neg (by rw [hrs]; simp; exact h2)]
  rw [e, (put_room (n := (mkM m).2) (rfl : stI (mkM m).1 = stI (mkM m).1) (by omega) (by omega) hrs).1]
  have hge := sumF_ge (roomS (mkM m).1 (stI (mkM m).1)) (l := spentL l (ofM m)) (fun s hs => by
    have h3 := rgt_at hrs hs
    unfold roomS
    split
    · omega
    · split
      · rename_i h4 h5
        rw [h5] at h3
        omega
      · omega) hk
  have e2 : roomS (mkM m).1 (stI (mkM m).1) (0, 0) = stI (mkM m).1 := by unfold roomS; rw [if_pos rfl]
  rw [e2] at hge
  unfold roomL
  omega
theorem rgt_empty : rgt [((0, 0) : Nat × Int)] = true := by decide +kernel
theorem cntL_empty (k : Nat) : cntL k [((0, 0) : Nat × Int)] = 0 := by
  unfold cntL cntF
  split
  · rfl
  · simp
theorem ofM_rgt (m : Int) : rgt (ofM m) = true := by
  unfold ofM
  split
  · rename_i h
    have : ∀ j : Fin 7, rgt (ofR j.val) = true := by decide +kernel
    exact this ⟨m.toNat, by omega⟩
  · rfl
theorem ofM_by (m : Int) : By (ofM m) := fun s hs => by have := (ofM_cases m).1 s hs; omega
theorem ofM_no {m : Int} (h : ¬ (0 ≤ m ∧ m < 7)) : ofM m = [] := by unfold ofM; rw [if_neg h]
/-- An empty slot more. -/
theorem MakeE_more1 {l : List (Nat × Int)} {m : Int} (h : MakeE l m = 0) : MakeE (l ++ [(0, 0)]) m = 0 := by
  obtain ⟨hr, hm, ha, _⟩ := MakeE_ok h
  refine MakeE_empty (by rw [rgt_append, hr, rgt_empty]; rfl) hm ?_ (by simp)
  rw [List.any_eq_false] at ha ⊢
  intro s hs
  have := ha s hs
  unfold lackS at this ⊢
  rw [cntL_append, cntL_empty, Int.add_zero]
  exact this
/-- All that it is of, and an empty slot more. -/
theorem MakeE_more2 {l : List (Nat × Int)} (hr : rgt l = true) (m : Int) : MakeE (l ++ [(0, 0)] ++ ofM m) m = 0 ↔ 0 ≤ m ∧ m < 7 := by
  constructor
  · intro h
    exact (MakeE_ok h).2.1
  · intro hm
    refine MakeE_empty (by rw [rgt_append, rgt_append, hr, rgt_empty, ofM_rgt]; rfl) hm ?_ (by simp)
    rw [List.any_eq_false]
    intro s hs
    have hso := (ofM_cases m).1 s hs
    have h1 := sumF_ge (cnS s.1) (l := ofM m) (fun t ht => by
      have := (ofM_cases m).1 t ht
      unfold cnS
      split <;> omega) hs
    rw [show cnS s.1 s = s.2 from if_pos rfl] at h1
    unfold lackS
    rw [cntL_append, cntL_append, cntL_empty, Int.add_zero, cntL_sum (by omega : s.1 ≠ 0) (l := ofM m)]
    have := (cntL_le (k := s.1) hr).1
    simp
    omega
section
variable {w w' : World} {A : Option Addr} {n c lo : Nat} {l : List (Nat × Int)}
theorem rds_fr {F : Nat → Prop} (h : RdS w A n l) (hf : Fr F w w') (hF : ∀ b, A = some b → ¬ F b.block) : RdS w' A n l := by
  refine ⟨h.1, fun hn => ?_⟩
  obtain ⟨b, o, e, hb, hc⟩ := h.2 hn
  refine ⟨b, o, e, by have := hf.size; omega, fun j hj => ?_⟩
  have hFb := hF _ e
  obtain ⟨h1, h2⟩ := hc j hj
  exact ⟨(hf.cell (p := ⟨b, o + j * 2, none⟩) hb hFb).trans h1, (hf.cell (p := ⟨b, o + j * 2 + 1, none⟩) hb hFb).trans h2⟩
/-- Recipe, of any number: what it is of lies in new memory. -/
theorem recipe_new (m : Int) : Calls Tryd.prog 12 #[.int .i64 m] w fun e w' => ∃ O k, e = .returned (.tuple #[.slice O k k, .agg #[.int .u8 ((mkM m).1 : Int), .int .i64 (mkM m).2], .bool (decide (0 ≤ m ∧ m < 7))]) ∧ RdS w' O k (ofM m) ∧ Fr No w w' ∧ ∀ a, O = some a → w.heap.size ≤ a.block := by
  by_cases h : 0 ≤ m ∧ m < 7
  · obtain ⟨j, rfl⟩ : ∃ j : Nat, m = (j : Int) := ⟨m.toNat, by omega⟩
    refine (recipe_yes (k := j) (by omega)).mono ?_
    rintro e w' ⟨b, rfl, hlo, hb, hf⟩
    refine ⟨some ⟨b, 0, none⟩, (ofR j).length, ?_, ?_, hf, ?_⟩
    · rw [decide_eq_true h]; unfold mkM; rw [if_pos h]; rfl
    · unfold ofM; rw [if_pos h]; exact RdS.blk hb
    · intro a ha
      injection ha with ha
      rw [← ha]
      exact hlo
  · refine (recipe_no (n := m) (by omega)).mono ?_
    rintro e w' ⟨rfl, hf⟩
    refine ⟨none, 0, ?_, ?_, hf, ?_⟩
    · rw [decide_eq_false h]; unfold mkM; rw [if_neg h]; rfl
    · unfold ofM; rw [if_neg h]; exact RdS.nil _ _
    · intro a ha; cases ha
set_option maxRecDepth 100000 in
/-- A slot appended to a row of the call's own; where the row is then. -/
theorem wpList_append_s1 (wr : World) {ops : Array Oper} {rest : List Oper} {o : Oper} {a : Act} {Q : Exit → Act → World → Prop} (hgd : o.guard = none) (s x : Operand)
    (ho : o.op = .call { callee := .builtin .append, args := #[s, x], argTypes := #[22, 22] })
    {lo : Nat} {v : Value} {es : List (Nat × Int)} (hs : a.eval s = v) (hown : OwS lo wr v es) (y : Nat) (z : Int) {G : Nat} (hG : wr.heap.size = G) (hx : a.eval x = .slice (some ⟨G, 0, none⟩) 1 1) (hlen : es.length ≤ 100000) (hbase : lo ≤ wr.heap.size)
    (h : ∀ v' w', OwS lo w' v' (es ++ [(y, z)]) → Fr (fun k => v.ownBlock = some k) wr w' → (∀ g, v'.ownBlock = some g → v.ownBlock = some g ∨ wr.heap.size ≤ g) → wpList Tryd.prog ops Q rest (a.put o.dst v') w') :
    wpList Tryd.prog ops Q (o :: rest) a (wr.alloc (.cells #[.int .u8 (y : Int), .int .i64 z] 31)) := by
  subst hG
  obtain ⟨i0, hi, hz0, hz1, hz2⟩ := info_parts info_sl
  have hA : OwS lo (wr.alloc (.cells #[.int .u8 (y : Int), .int .i64 z] 31)) v es := hown.no (Fr.alloc No _ _)
  refine wpList_append_lies _ hgd s x 22 ho lo 31 i0 _ 2 16 Tryd.underlying22 hi hz0 hz1 hz2 rfl (by omega) v es.length (slC es) hs hA ⟨wr.heap.size, 0, none⟩ 1 1 [.int .u8 (y : Int), .int .i64 z] hx rfl (fun j u hu => by
    rw [Addr.add_lit, Nat.zero_add, World.cell?_alloc_mark, List.getElem?_toArray]
    exact hu) (fun u hu => by simp at hu; rcases hu with rfl | rfl <;> rfl) (by omega) (by unfold maxLen; omega) (by omega) (by rw [World.size_alloc]; omega) _ rfl ?_
  intro g cap w' ho' hg hat _
  refine h _ w' ?_ ?_ ?_
  · have e : slC (es ++ [(y, z)]) = slC es ++ [.int .u8 (y : Int), .int .i64 z] := by rw [slC_append]; rfl
    unfold OwS
    rw [e, List.length_append]
    exact ho'
  · exact (Fr.alloc (fun k => v.ownBlock = some k) wr _).trans (Fr.grown hg (fun k hk => hk)) (fun _ _ e => e)
  · intro g' hg'
    injection hg' with hg'
    subst hg'
    rcases hat with e | e
    · exact .inl e
    · right
      exact Nat.le_trans (Fr.alloc No wr _).size (Nat.le_of_eq e.symm)
end
section
variable {w : World} {A : Option Addr} {n c lo : Nat} {l : List (Nat × Int)}
set_option maxRecDepth 100000 in
set_option maxHeartbeats 1600000 in
theorem cmore_walk (ht : ItT w) (hx : RdS w A n l) (hb : By l) (c : Nat) (m : Int) : Calls Tryd.prog 5 #[.slice A n c, .int .i64 m] w fun e w' => e = .returned (.bool true) ∧ Below w.heap.size w w' := by
  have HA := Lib.hid (cawake_w ht)
  by_cases hn : 300 < n
  · have h3 : (300 : Int) < (n : Int) := by omega
    clear ht hx hb
    go_enter Tryd.func5, Tryd.ntmps5
    go_wp2_with fail
    refine (HA.out _ (Fr.refl No w)).mono ?_
    rintro e w1 ⟨rfl, hf⟩
    go_wp2_with fail
    go_ret
    exact ⟨rfl, hf.noBelow⟩
  have h3 : ¬ (300 : Int) < (n : Int) := by omega
  have e0 : decide ((n : Int) = (n : Int)) = true := by simp
  have HR := Lib.hid (right_any ht hx hb c (by omega) n)
  rw [e0] at HR
  cases hr : rgt l with
  | false =>
    rw [hr] at HR
    clear ht hx hb hr
    go_enter Tryd.func5, Tryd.ntmps5
    go_wp2_with fail
    refine HR.out.mono ?_
    rintro e w1 ⟨rfl, hf⟩
    have HF1 := Lib.hid hf
    clear hf
    go_wp2_with fail
    refine (HA.out _ HF1.out).mono ?_
    rintro e w2 ⟨rfl, hf⟩
    go_wp2_with fail
    go_ret
    exact ⟨rfl, hf.noBelow⟩
  | true =>
  rw [hr] at HR
  have hol := (ofM_cases m).2.1
  have hm1 : MakeE l m = 0 → MakeE (l ++ [(0, 0)]) m = 0 := fun h => MakeE_more1 h
  have hm2 := MakeE_more2 hr m
  have hb1 : By (l ++ [(0, 0)]) := fun s hs => by
    rcases List.mem_append.1 hs with h | h
    · exact hb s h
    · simp at h; subst h; decide
  have hb2 : By (l ++ [(0, 0)] ++ ofM m) := fun s hs => by
    rcases List.mem_append.1 hs with h | h
    · exact hb1 s h
    · exact ofM_by m s h
  have HM0 := Lib.hid (fun W (hW : Fr No w W) => Make_any (ht.no hW) (hx.no hW) hb c (by omega) m)
  have HM1 := Lib.hid (fun W (hW : Fr No w W) A' n' c' (hx' : RdS W A' n' (l ++ [(0, 0)])) (hn' : n' ≤ 100000) => Make_any (ht.no hW) hx' hb1 c' hn' m)
  have HM2 := Lib.hid (fun W (hW : Fr No w W) A' n' c' (hx' : RdS W A' n' (l ++ [(0, 0)] ++ ofM m)) (hn' : n' ≤ 100000) => Make_any (ht.no hW) hx' hb2 c' hn' m)
  have HRC := Lib.hid (fun W => recipe_new (w := W) m)
  obtain ⟨E0, hE0⟩ : ∃ E, MakeE l m = E := ⟨_, rfl⟩
  obtain ⟨E1, hE1⟩ : ∃ E, MakeE (l ++ [(0, 0)]) m = E := ⟨_, rfl⟩
  obtain ⟨E2, hE2⟩ : ∃ E, MakeE (l ++ [(0, 0)] ++ ofM m) m = E := ⟨_, rfl⟩
  rw [hE0] at HM0 hm1
  rw [hE1] at HM1 hm1
  rw [hE2] at HM2 hm2
  obtain ⟨tb, htb⟩ : ∃ tb : Bool, decide (0 ≤ m ∧ m < 7) = tb := ⟨_, rfl⟩
  rw [htb] at HRC
  have hE2b : (E2 == 0) = tb := by
    rw [← htb]
    by_cases h : E2 = 0
    · rw [decide_eq_true (hm2.1 h)]; simp [h]
    · rw [decide_eq_false (fun x => h (hm2.2 x))]; simp [h]
  obtain ⟨mk, hmk⟩ : ∃ mk, mkM m = mk := ⟨_, rfl⟩
  rw [hmk] at HRC
  obtain ⟨x, y⟩ := mk
  obtain ⟨of, hoff⟩ : ∃ of, ofM m = of := ⟨_, rfl⟩
  rw [hoff] at HRC HM2 hol
  have HLN := Lib.hid hx.1
  have HX := Lib.hid (fun W (hW : Fr No w W) => hx.no hW)
  have HN := Lib.hid hn
  have HOL := Lib.hid hol
  have HE2 := Lib.hid hE2b
  dsimp only at HRC
  clear ht hx hb hr hm2 hb1 hb2 hE0 hE1 hE2 htb hmk hoff hol hn hE2b
  have HE1 := Lib.hid hm1
  clear hm1
  go_enter Tryd.func5, Tryd.ntmps5
  go_wp2_with fail
  refine HR.out.mono ?_
  rintro e w1 ⟨rfl, hf⟩
  have HF1 := Lib.hid hf
  clear hf HR
  have HSZ1 := Lib.hid HF1.out.size
  go_wp2_with (first
    | (at_builtin; refine wpList_append_sl _ rfl (.tmp 28) (.tmp 29) rfl (lo := w.heap.size) (l := []) rfl (OwS.mono HF1.out.size (OwS.made w1 _ rfl)) A n c l rfl (HX.out _ (HF1.out.no_trans (Fr.alloc No _ _))) (by have := HN.out; simp; omega) (by have := HF1.out.size; rw [World.size_alloc]; omega) ?_; intro v5 w5 ho hg; have HO5 := Lib.hid ho; have HF5 := Lib.hid ((HF1.out.no_trans (Fr.alloc No w1 (.cells #[] 31))).then_new (Fr.grown (F := fun i => w.heap.size ≤ i) hg (fun k hk => ((OwS.mono HF1.out.size (OwS.made w1 _ rfl)).lt k hk).1)) (fun i h => h)); clear ho hg)
    | (at_builtin; refine wpList_append_sl _ rfl (.tmp 30) (.tmp 32) rfl (lo := w.heap.size) (l := [] ++ l) rfl (HO5.out.no (Fr.alloc No w5 (.cells #[.int .u8 0, .int .i64 0] 31))) (some ⟨w5.heap.size, 0, none⟩) 1 1 [(0, 0)] rfl (RdS.blk (l := [(0, 0)]) (heap_alloc_new w5 (.cells #[.int .u8 0, .int .i64 0] 31))) (by have := HLN.out; have := HN.out; simp; omega) (by have := HF5.out.size; rw [World.size_alloc]; omega) ?_; intro v6 w6 ho hg; have HO6 := Lib.hid ho; have HF6 := Lib.hid ((HF5.out.no_trans (Fr.alloc No w5 (.cells #[.int .u8 0, .int .i64 0] 31))).then_new (Fr.grown (F := fun i => w.heap.size ≤ i) hg (fun k hk => ((HO5.out.no (Fr.alloc No w5 (.cells #[.int .u8 0, .int .i64 0] 31))).lt k hk).1)) (fun i h => h)); clear ho hg))
  obtain ⟨A6, c6, hv⟩ : ∃ A6 c6, v6 = .slice A6 (n + 1) c6 := by
    obtain ⟨a, b, h, _⟩ := HO6.out.sl
    exact ⟨a, b, by rw [h, List.nil_append, List.length_append, HLN.out]; rfl⟩
  subst hv
  rw [List.nil_append] at HO6
  refine (HM0.out _ HF6.out).mono ?_
  rintro e w7 ⟨A7, c7, rfl, _, hf⟩
  have HF7 := Lib.hid (HF6.out.no_trans hf)
  have HO7 := Lib.hid (HO6.out.no hf)
  clear hf HM0 HO6 HF6 HF5 HO5
  go_wp2_with fail
  refine (HM1.out _ HF7.out _ _ c6 HO7.out.rd (by have := HN.out; omega)).mono ?_
  rintro e w8 ⟨A8, c8, rfl, _, hf⟩
  have HF8 := Lib.hid (HF7.out.no_trans hf)
  have HO8 := Lib.hid (HO7.out.no hf)
  clear hf HM1 HO7 HF7
  go_upto_region 6 with fail
  go_cut [51] from 46 to 51 (fun v51 wx => v51 = .bool false ∧ wx = w8)
  case first =>
    by_cases h0 : E0 = 0
    · have h1 := HE1.out h0
      subst h0 h1
      go_wp2_with fail
      go_meet
      exact ⟨rfl, rfl⟩
    · have e1 : (E0 == 0) = false := by rw [beq_eq_false_iff_ne]; exact h0
      clear HE1
      go_wp2_with fail
      go_meet
      exact ⟨rfl, rfl⟩
  case rest =>
  obtain ⟨rfl, rfl⟩ := hcut
  go_wp2_with fail
  refine (HRC.out _).mono ?_
  rintro e w9 ⟨O, k, rfl, hro, hf, hO⟩
  have HT := Lib.hid (Fr.alloc No w9 (.cells #[.int .u8 (x : Int), .int .i64 y] 31))
  have HF10 := Lib.hid (HF8.out.no_trans (hf.no_trans HT.out))
  have HO10 := Lib.hid (HO8.out.no (hf.no_trans HT.out))
  have HRO := Lib.hid (hro.no HT.out)
  have HOB := Lib.hid hO
  have HLO := Lib.hid hro.1
  have HSZ8 := Lib.hid (And.intro (HO8.out.lt) (hf.no_trans HT.out).size)
  go_upto_region 9 with fail
  generalize w9.alloc (.cells #[.int .u8 (x : Int), .int .i64 y] 31) = wX at *
  clear hf hro hO HT HO8 HRC
  go_wp2_with fail
  go_loopw [5, 60] (fun v5 v60 wr => ∃ (j : Nat), j ≤ k ∧ v60 = .int .i64 (j : Int) ∧ OwS w.heap.size wr v5 (l ++ [(0, 0)] ++ of.take j) ∧ Fr (fun i => w.heap.size ≤ i ∧ ∀ a, O = some a → i ≠ a.block) wX wr ∧ (∀ g, v5.ownBlock = some g → ∀ a, O = some a → g ≠ a.block)) (fun _ v60 _ => k - (intOf v60).toNat)
  case atStart => exact ⟨0, by omega, rfl, by simpa using HO10.out, Fr.refl _ _, fun g hg a ha => by
    have h1 := (HSZ8.out.1 g hg).2
    have h2 := HOB.out a ha
    omega⟩
  case round =>
    obtain ⟨j, hj, rfl, ho, hf, hg⟩ := hrel
    have HO := Lib.hid ho
    have HF := Lib.hid hf
    have HG := Lib.hid hg
    clear ho hf hg
    have hk2 : k ≤ 2 := by rw [← HLO.out]; exact HOL.out
    by_cases hlt : j < k
    · have hkl : j < of.length := by rw [HLO.out]; exact hlt
      have hro := rds_fr HRO.out HF.out (fun a ha h => h.2 a ha rfl)
      obtain ⟨b, o, rfl, hbz, hc⟩ := hro.2 (by omega)
      obtain ⟨x0, x1⟩ := hc j hkl
      have hwj : IntKind.i64.wrap ((j : Int) + 1) = ((j + 1 : Nat) : Int) := by
        rw [show ((j : Int) + 1) = ((j + 1 : Nat) : Int) by omega]
        exact IntWalk.i64_in _ (by omega)
      have HST : Hid (of.take (j + 1) = of.take j ++ [(of[j].1, of[j].2)]) := Lib.hid (by rw [List.take_add_one, List.getElem?_eq_getElem hkl]; rfl)
      have hln : (l ++ [(0, 0)] ++ of.take j).length ≤ 100000 := by
        have := HLN.out
        have := HN.out
        simp
        omega
      have HLE := Lib.hid hln
      have HBZ := Lib.hid hbz
      clear hc hln hbz hro
      generalize of[j].1 = sx at *
      generalize of[j].2 = sy at *
      have hfa := Fr.alloc No wr (.cells #[.int .u8 (sx : Int), .int .i64 sy] 31)
      have HFA := Lib.hid (HF.out.then_no hfa)
      have HOA := Lib.hid (HO.out.no hfa)
      have HSA := Lib.hid hfa.size
      have HSW := Lib.hid (HF10.out.no_trans (Fr.refl No wX)).size
      clear hfa
      go_wp2_with (at_builtin; refine wpList_append_s1 (wr.alloc (.cells #[.int .u8 (sx : Int), .int .i64 sy] 31)) rfl (.tmp 64) (.tmp 66) rfl rfl HOA.out sx sy (World.size_alloc _ _) rfl HLE.out (Nat.le_trans HSW.out HFA.out.size) ?_; intro v' w' ho hg hp; have HO' := Lib.hid ho; have HF' := Lib.hid hg; have HP' := Lib.hid hp; clear ho hg hp)
      go_roundw
      case rel => exact ⟨j + 1, by omega, by go_num, by rw [HST.out, ← List.append_assoc]; exact HO'.out, HFA.out.trans HF'.out (fun i _ h => ⟨(HOA.out.lt i h).1, fun a ha => HG.out i h a ha⟩), fun g hg a ha => by
        rcases HP'.out g hg with h | h
        · exact HG.out g h a ha
        · injection ha with ha
          subst ha
          have h1 := HBZ.out
          have h2 := HSA.out
          show g ≠ b
          omega⟩
      case measure => simp [intOf]; omega
    · have hkn : j = k := by omega
      subst hkn
      have ho := HO.out
      rw [List.take_of_length_le (by rw [HLO.out]; exact Nat.le_refl _)] at ho
      obtain ⟨A9, c9, hv, _⟩ := ho.sl
      subst hv
      have hln : (l ++ [(0, 0)] ++ of).length ≤ 100000 := by
        have := HLN.out
        have := HN.out
        have := HLO.out
        simp
        omega
      obtain ⟨N, hN⟩ : ∃ N, (l ++ [(0, 0)] ++ of).length = N := ⟨_, rfl⟩
      have hrd := ho.rd
      rw [hN] at hrd hln ⊢
      have HF11 := Lib.hid (HF10.out.then_new HF.out (fun i h => h.1))
      have C2 := Lib.hid (HM2.out _ HF11.out _ _ c9 hrd hln)
      clear ho hrd hln HM2 HO HG HF hN
      go_wp2_with fail
      refine C2.out.mono ?_
      rintro e w12 ⟨A12, c12, rfl, _, hf⟩
      have HF12 := Lib.hid (HF11.out.no_trans hf)
      clear hf C2
      have e1 := HE2.out
      have e2 : (tb == tb) = true := by simp
      go_wp2_with fail
      refine (HA.out _ HF12.out).mono ?_
      rintro e w13 ⟨rfl, hf⟩
      go_wp2_with fail
      go_ret
      exact ⟨rfl, hf.noBelow⟩
end
end Go.Proofs.YtloimopcecbkbaaDoor

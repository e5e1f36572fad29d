/-
  Craft: Make, of any slots and any number. No statement of the seat is proved here.
-/
import Derived.Test.YtmallcjhccbgdaaDoorCrA
namespace Go.Proofs.YtmallcjhccbgdaaDoor
open Go.RowKit Go.Deep

/-- What a recipe is of, and what it makes; nothing, if there is none. -/
def ofM (m : Int) : List (Nat × Int) := if 0 ≤ m ∧ m < 7 then ofR m.toNat else []
def mkM (m : Int) : Nat × Int := if 0 ≤ m ∧ m < 7 then mkR m.toNat else (0, 0)
/-- What is put behind spending. -/
def madeP (l : List (Nat × Int)) (m : Int) : List (Nat × Int) × Int := PutL (mkM m).1 (spentL l (ofM m)) (mkM m).2
def MakeE (l : List (Nat × Int)) (m : Int) : Int :=
  if rgt l = false then 103 else if ¬ (0 ≤ m ∧ m < 7) then 112 else if (ofM m).any (lackS l) = true then 105 else if 0 < (madeP l m).2 then 104 else 0
def MakeL (l : List (Nat × Int)) (m : Int) : List (Nat × Int) := if MakeE l m = 0 then (madeP l m).1 else l
theorem ofM_cases (m : Int) : (∀ s ∈ ofM m, 1 ≤ s.2 ∧ s.2 ≤ 8 ∧ 1 ≤ s.1 ∧ s.1 ≤ 12 ∧ s.2 ≤ stI s.1) ∧ (ofM m).length ≤ 2 ∧ (mkM m).1 < 256 ∧ 0 ≤ (mkM m).2 ∧ (mkM m).2 ≤ 4 := by
  unfold ofM mkM
  split
  · rename_i h
    have : ∀ j : Fin 7, (∀ s ∈ ofR j.val, 1 ≤ s.2 ∧ s.2 ≤ 8 ∧ 1 ≤ s.1 ∧ s.1 ≤ 12 ∧ s.2 ≤ stI s.1) ∧ (ofR j.val).length ≤ 2 ∧ (mkR j.val).1 < 256 ∧ 0 ≤ (mkR j.val).2 ∧ (mkR j.val).2 ≤ 4 := by decide
    exact this ⟨m.toNat, by omega⟩
  · simp
section
variable {w w' : World} {A : Option Addr} {n c lo : Nat} {l : List (Nat × Int)}
/-- Recipe, of any number. -/
theorem recipe_any (m : Int) : Calls Tryd.prog 11 #[.int .i64 m] w fun e w' => ∃ O k, e = .returned (.tuple #[.slice O k k, .agg #[.int .u8 ((mkM m).1 : Int), .int .i64 (mkM m).2], .bool (decide (0 ≤ m ∧ m < 7))]) ∧ RdS w' O k (ofM m) ∧ Fr No w w' := by
  by_cases h : 0 ≤ m ∧ m < 7
  · obtain ⟨j, rfl⟩ : ∃ j : Nat, m = (j : Int) := ⟨m.toNat, by omega⟩
    refine (recipe_yes (k := j) (by omega)).mono ?_
    rintro e w' ⟨b, rfl, _, hb, hf⟩
    refine ⟨some ⟨b, 0, none⟩, (ofR j).length, ?_, ?_, hf⟩
    · rw [decide_eq_true h]; unfold mkM; rw [if_pos h]; rfl
    · unfold ofM; rw [if_pos h]; exact RdS.blk hb
  · refine (recipe_no (n := m) (by omega)).mono ?_
    rintro e w' ⟨rfl, hf⟩
    refine ⟨none, 0, ?_, ?_, hf⟩
    · rw [decide_eq_false h]; unfold mkM; rw [if_neg h]; rfl
    · unfold ofM; rw [if_neg h]; exact RdS.nil _ _
set_option maxRecDepth 100000 in
set_option maxHeartbeats 1600000 in
theorem Make_any (ht : ItT w) (hx : RdS w A n l) (hb : By l) (c : Nat) (hn : n ≤ 100000) (m : Int) :
    Calls Tryd.prog 5 #[.slice A n c, .int .i64 m] w fun e w' => ∃ A' c', e = .returned (.tuple #[.slice A' n c', .int .i64 (MakeE l m)]) ∧ OwS w.heap.size w' (.slice A' n c') (MakeL l m) ∧ Fr No w w' := by
  have hfb := Fr.alloc No w (.cells #[.slice A n c] 22)
  have hD := heap_alloc_new w (.cells #[.slice A n c] 22)
  have hsz : w.heap.size ≤ (w.alloc (.cells #[.slice A n c] 22)).heap.size := hfb.size
  obtain ⟨hof, hol, hm1, hm2, hm3⟩ := ofM_cases m
  have e0 : decide ((n : Int) = (n : Int)) = true := by simp
  have HOWN := Lib.hid (fun W (hW : Fr No w W) => cown_any (hx.no hW) c hn)
  have HR := Lib.hid (fun W (hW : Fr No w W) => right_any (ht.no hW) (hx.no hW) hb c hn n)
  rw [e0] at HR
  have HW : Hid (rgt l = true → ∀ W, Fr No w W → ∀ O k k', RdS W O k (ofM m) → ∀ D, W.heap[D]? = some (.cells #[.slice A n c] 22 (0, 0)) → Calls Tryd.prog 16 #[.slice O k k', .func (.func 12) #[] #[.pointer (some ⟨D, 0, none⟩)]] W fun e w' => e = .returned (.bool ((ofM m).any (lackS l))) ∧ Fr No W w') :=
    Lib.hid fun hr W hW O k k' ho D hD => wants_any (hx.no hW) hr hn hD ho (by have := ho.1; omega)
  have HSP : Hid (∀ W, Fr No w W → ∀ O k k', RdS W O k (ofM m) → Calls Tryd.prog 18 #[.slice A n c, .slice O k k'] W fun e w' => ∃ A' c', e = .returned (.slice A' n c') ∧ RdS w' A' n (spentL l (ofM m)) ∧ Fr No W w') :=
    Lib.hid fun W hW O k k' ho => spent_any (ht.no hW) (hx.no hW) hb c hn ho k' (by have := ho.1; omega) (fun s hs => by have := hof s hs; omega)
  have HPU : Hid (∀ W, Fr No w W → ∀ A' c', RdS W A' n (spentL l (ofM m)) → Calls Tryd.prog 17 #[.slice A' n c', .int .u8 ((mkM m).1 : Int), .int .i64 (mkM m).2] W fun e w' => ∃ A'' c'', e = .returned (.tuple #[.slice A'' n c'', .int .i64 (madeP l m).2]) ∧ OwS W.heap.size w' (.slice A'' n c'') (madeP l m).1 ∧ Fr No W w') :=
    Lib.hid fun W hW A' c' hx' => Put_any (ht.no hW) hx' (spentL_by hb _) c' hm1 hn (by omega)
  have HC0 := Lib.hid (fun W => recipe_any (w := W) m)
  have HE : Hid ((rgt l = false → MakeE l m = 103) ∧ (rgt l = true → ¬ (0 ≤ m ∧ m < 7) → MakeE l m = 112) ∧ (rgt l = true → (0 ≤ m ∧ m < 7) → (ofM m).any (lackS l) = true → MakeE l m = 105) ∧ (rgt l = true → (0 ≤ m ∧ m < 7) → (ofM m).any (lackS l) = false → 0 < (madeP l m).2 → MakeE l m = 104) ∧ (rgt l = true → (0 ≤ m ∧ m < 7) → (ofM m).any (lackS l) = false → ¬ 0 < (madeP l m).2 → MakeE l m = 0)) := Lib.hid (by
    refine ⟨fun h => ?_, fun h1 h2 => ?_, fun h1 h2 h3 => ?_, fun h1 h2 h3 h4 => ?_, fun h1 h2 h3 h4 => ?_⟩
    · unfold MakeE; rw [if_pos h]
    · unfold MakeE; rw [if_neg (by rw [h1]; simp), if_pos h2]
    · unfold MakeE; rw [if_neg (by rw [h1]; simp), if_neg (fun h => h h2), if_pos h3]
    · unfold MakeE; rw [if_neg (by rw [h1]; simp), if_neg (fun h => h h2), if_neg (by rw [h3]; simp), if_pos h4]
    · unfold MakeE; rw [if_neg (by rw [h1]; simp), if_neg (fun h => h h2), if_neg (by rw [h3]; simp), if_neg h4])
  have HL : Hid ((MakeE l m ≠ 0 → MakeL l m = l) ∧ (MakeE l m = 0 → MakeL l m = (madeP l m).1)) := Lib.hid ⟨fun h => by unfold MakeL; rw [if_neg h], fun h => by unfold MakeL; rw [if_pos h]⟩
  have HFB := Lib.hid hfb
  have HSZ := Lib.hid hsz
  clear ht hx hb hfb hof hol hm1 hm2 hm3 hsz
  obtain ⟨E, hE⟩ : ∃ E, MakeE l m = E := ⟨_, rfl⟩
  obtain ⟨L, hL⟩ : ∃ L, MakeL l m = L := ⟨_, rfl⟩
  rw [hE, hL] at HL ⊢
  rw [hE] at HE
  clear hE hL
  go_enter Tryd.func5, Tryd.ntmps5
  go_wp2_with fail
  obtain ⟨D, hDD⟩ : ∃ D, w.heap.size = D := ⟨_, rfl⟩
  rw [hDD] at hD HSZ ⊢
  clear hDD
  generalize w.alloc (.cells #[.slice A n c] 22) = wb at *
  refine (HC0.out _).mono ?_
  rintro e w1 ⟨O, k, rfl, hro, hf⟩
  have hD1 := blk_no hf hD
  obtain ⟨P, hP⟩ : ∃ P, madeP l m = P := ⟨_, rfl⟩
  rw [hP] at HPU HE HL
  obtain ⟨P1, P2⟩ := P
  obtain ⟨mk, hmk⟩ : ∃ mk, mkM m = mk := ⟨_, rfl⟩
  rw [hmk] at HPU ⊢
  obtain ⟨x, y⟩ := mk
  dsimp only at HPU HE HL ⊢
  obtain ⟨of, hof⟩ : ∃ of, ofM m = of := ⟨_, rfl⟩
  rw [hof] at HW HSP HPU HE hro
  obtain ⟨sp, hsp⟩ : ∃ sp, spentL l of = sp := ⟨_, rfl⟩
  rw [hsp] at HSP HPU
  obtain ⟨wn, hwn⟩ : ∃ q, of.any (lackS l) = q := ⟨_, rfl⟩
  rw [hwn] at HW HE
  have hfa := Fr.alloc No w1 (.cells #[.int .u8 (x : Int), .int .i64 y] 34)
  have hT := heap_alloc_new w1 (.cells #[.int .u8 (x : Int), .int .i64 y] 34)
  have hD2 := blk_no hfa hD1
  have HF2 := Lib.hid (HFB.out.no_trans (hf.no_trans hfa))
  have HG2 := Lib.hid (hf.no_trans hfa)
  have HRO := Lib.hid (hro.no hfa)
  clear hf hfa hD hD1 hP hmk hof hsp hwn hro HC0 HFB
  obtain ⟨r, hr⟩ : ∃ r, rgt l = r := ⟨_, rfl⟩
  obtain ⟨tb, htb⟩ : ∃ tb : Bool, decide (0 ≤ m ∧ m < 7) = tb := ⟨_, rfl⟩
  have HTB := Lib.hid htb
  rw [hr] at HR HE HW
  rw [htb]
  clear hr htb
  go_upto_region 3 with fail
  obtain ⟨T, hTT⟩ : ∃ T, w1.heap.size = T := ⟨_, rfl⟩
  rw [hTT] at hT ⊢
  clear hTT
  generalize w1.alloc (.cells #[.int .u8 (x : Int), .int .i64 y] 34) = w2 at *
  have HALL : Hid (∀ W, Fr No w2 W → W.cell? ⟨T, 0, none⟩ = some (.int .u8 (x : Int)) ∧ W.cell? ⟨T, 1, none⟩ = some (.int .i64 y) ∧ W.cell? ⟨D, 0, none⟩ = some (.slice A n c)) := Lib.hid fun W hW =>
    ⟨(blk_cell (blk_no hW hT) 0).trans (by simp), (blk_cell (blk_no hW hT) 1).trans (by simp), (blk_cell (blk_no hW hD2) 0).trans (by simp)⟩
  have HDB : Hid (∀ W, Fr No w2 W → W.heap[D]? = some (.cells #[.slice A n c] 22 (0, 0))) := Lib.hid fun W hW => blk_no hW hD2
  clear hT hD2
  have d0 := (HALL.out w2 (Fr.refl No w2)).2.2
  go_wp2_with fail
  refine (HR.out _ HF2.out).mono ?_
  rintro e w3 ⟨rfl, hf⟩
  have HG3 := Lib.hid hf
  have d3 := (HALL.out w3 hf).2.2
  clear hf d0 HR
  have fin : ∀ {W W' : World} {A' : Option Addr} {c' : Nat}, Fr No w W → OwS W.heap.size W' (.slice A' n c') L → Fr No W W' → ∀ er : Int, E = er →
      ∃ A'' c'', Ending.returned (.tuple #[.slice A' n c', .int .i64 er]) = .returned (.tuple #[.slice A'' n c'', .int .i64 E]) ∧ OwS w.heap.size W' (.slice A'' n c'') L ∧ Fr No w W' := by
    rintro W W' A' c' hW ho hf er rfl
    exact ⟨A', c', rfl, OwS.mono hW.size ho, hW.no_trans hf⟩
  have FIN := Lib.hid (fun (W W' : World) A' c' => @fin W W' A' c')
  clear fin
  cases r with
  | false =>
    have hE := HE.out.1 rfl
    have HLL := HL.out.1 (by omega)
    subst HLL
    have HEE := Lib.hid hE
    clear hE HE HL
    go_wp2_with fail
    refine (HOWN.out _ (HF2.out.no_trans HG3.out)).mono ?_
    rintro e w4 ⟨A', c', rfl, ho, hf⟩
    have HO := Lib.hid ho
    have HF := Lib.hid hf
    clear ho hf
    go_wp2_with fail
    go_ret2
    exact FIN.out _ _ A' c' (HF2.out.no_trans HG3.out) HO.out HF.out 103 HEE.out
  | true =>
  cases tb with
  | false =>
    have hE := HE.out.2.1 rfl (of_decide_eq_false HTB.out)
    have HLL := HL.out.1 (by omega)
    subst HLL
    have HEE := Lib.hid hE
    clear hE HE HL
    go_wp2_with fail
    refine (HOWN.out _ (HF2.out.no_trans HG3.out)).mono ?_
    rintro e w4 ⟨A', c', rfl, ho, hf⟩
    have HO := Lib.hid ho
    have HF := Lib.hid hf
    clear ho hf
    go_wp2_with fail
    go_ret2
    exact FIN.out _ _ A' c' (HF2.out.no_trans HG3.out) HO.out HF.out 112 HEE.out
  | true =>
  have HEE := Lib.hid (And.intro (HE.out.2.2.1 rfl (of_decide_eq_true HTB.out)) (And.intro (HE.out.2.2.2.1 rfl (of_decide_eq_true HTB.out)) (HE.out.2.2.2.2 rfl (of_decide_eq_true HTB.out))))
  clear HE HTB
  go_wp2_with fail
  refine (HW.out (by first | rfl | trivial) _ (HF2.out.no_trans HG3.out) _ _ _ (HRO.out.no HG3.out) _ (HDB.out _ HG3.out)).mono ?_
  rintro e w4 ⟨rfl, hf⟩
  have HG4 := Lib.hid (HG3.out.no_trans hf)
  have d4 := (HALL.out w4 HG4.out).2.2
  clear hf d3 HW HDB HG3
  cases wn with
  | true =>
    have hE := HEE.out.1 rfl
    have HLL := HL.out.1 (by omega)
    subst HLL
    have HE3 := Lib.hid hE
    clear hE HEE HL
    go_wp2_with fail
    refine (HOWN.out _ (HF2.out.no_trans HG4.out)).mono ?_
    rintro e w5 ⟨A', c', rfl, ho, hf⟩
    have HO := Lib.hid ho
    have HF := Lib.hid hf
    clear ho hf
    go_wp2_with fail
    go_ret2
    exact FIN.out _ _ A' c' (HF2.out.no_trans HG4.out) HO.out HF.out 105 HE3.out
  | false =>
  have HE2 := Lib.hid (And.intro (HEE.out.2.1 rfl) (HEE.out.2.2 rfl))
  clear HEE
  go_upto_region 9 with fail
  have da := HALL.out w4 HG4.out
  have dd := HALL.out w4.drew (HG4.out.no_trans (Fr.drew No w4))
  clear d4
  go_region_held3 (fun W => W.cell? ⟨T, 0, none⟩ = some (.int .u8 (x : Int)) ∧ W.cell? ⟨T, 1, none⟩ = some (.int .i64 y) ∧ W.cell? ⟨D, 0, none⟩ = some (.slice A n c))
    (first | exact d6 | exact d5 | exact dd | exact da)
    (first
      | (go_at_call 18; refine (HSP.out _ (HF2.out.no_trans (HG4.out.no_trans (Fr.drew No w4))) _ _ _ (HRO.out.no (HG4.out.no_trans (Fr.drew No w4)))).mono ?_; rintro e w5 ⟨A5, c5, rfl, ho, hf⟩; have HG5 := Lib.hid ((HG4.out.no_trans (Fr.drew No w4)).no_trans hf); have HO5 := Lib.hid ho; have d5 := HALL.out w5 HG5.out; clear hf ho)
      | (go_at_call 17; refine (HPU.out _ (HF2.out.no_trans HG5.out) _ _ HO5.out).mono ?_; rintro e w6 ⟨A6, c6, rfl, ho, hf⟩; have HO6 := Lib.hid ho; have HF6 := Lib.hid hf; have HG6 := Lib.hid (HG5.out.no_trans hf); have d6 := HALL.out w6 HG6.out; clear hf ho))
  clear da dd d5
  have d6 := d6.2.2
  by_cases hp : 0 < P2
  · have hE := HE2.out.1 hp
    have HLL := HL.out.1 (by omega)
    subst HLL
    have HE3 := Lib.hid hE
    clear hE HE2 HL
    go_wp2_with fail
    refine (HOWN.out _ (HF2.out.no_trans HG6.out)).mono ?_
    rintro e w7 ⟨A', c', rfl, ho, hf⟩
    have HO := Lib.hid ho
    have HF := Lib.hid hf
    clear ho hf
    go_wp2_with fail
    go_ret2
    exact FIN.out _ _ A' c' (HF2.out.no_trans HG6.out) HO.out HF.out 104 HE3.out
  · have hE := HE2.out.2 (by omega)
    have HLL := HL.out.2 hE
    subst HLL
    have HE3 := Lib.hid hE
    clear hE HE2 HL
    go_wp2_with fail
    go_ret2
    exact FIN.out _ _ _ _ (HF2.out.no_trans HG5.out) HO6.out HF6.out 0 HE3.out
end
end Go.Proofs.YtmallcjhccbgdaaDoor

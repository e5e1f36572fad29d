/-
  The document's disk as the plain state that the program's disk has: step, Remove. No statement of the seat is proved here.
-/
import Derived.Test.YtnkgcafebmacjaaDtI
namespace Go.Proofs.Ytnkgcafebmacjaa
open Go.RowKit Go.Maps

section
variable {F : Nat → Prop} {w w' : World} {S : Ab}
set_option maxRecDepth 100000 in
/-- step: the power fails, or the files are these. -/
theorem rv_step {A A2 : Option Addr} {c c2 : Nat} {fs fs2 : List Fl} {L : List Af} (hb : S.lf ≤ 9223372036854775807) (hk : Rk w A fs.length fs) (hm : fs.map Fl.ab = S.fs) (hr : Ris S.fs) (hl : fs.length ≤ 200)
    (hk2 : Rk w A2 fs2.length fs2) (hm2 : fs2.map Fl.ab = L) (hr2 : Ris L) (hl2 : fs2.length ≤ 200) (ho : Off F A fs) (ho2 : Off F A2 fs2) :
    Calls Try.prog 41 #[.agg #[.int .i64 (S.mo : Int), .slice A fs.length c, .int .i64 (if S.bd then (S.lf : Int) else -1), .bool S.fl], .agg #[.int .i64 (S.mo : Int), .slice A2 fs2.length c2, .int .i64 (if S.bd then (S.lf : Int) else -1), .bool S.fl]] w fun e w' =>
      ∃ v, e = .returned (.tuple #[v, .int .i64 (if S.fails then 15 else 0)]) ∧ Rv F w' v (if S.fails then S.step else { S.step with fs := L }) ∧ Fr No w w' := by
  cases hbd : S.bd with
  | false =>
    have h1 : S.fails = false := by unfold Ab.fails; rw [hbd]; rfl
    have h2 : S.step = S := by unfold Ab.step; rw [hbd]; rfl
    rw [h1, h2]
    refine (rstep_free w (S.mo : Int) A fs.length c (if false = true then (S.lf : Int) else -1) S.fl (S.mo : Int) A2 fs2.length c2 (if false = true then (S.lf : Int) else -1) S.fl (by simp)).mono ?_
    rintro e w1 ⟨rfl, hf⟩
    refine ⟨_, rfl, ⟨A2, c2, fs2, ?_, hk2.no hf, hm2, hr2, hl2, ho2⟩, hf⟩
    simp [hbd]
  | true =>
    by_cases h0 : S.lf = 0
    · have h1 : S.fails = true := by unfold Ab.fails; rw [hbd, h0]; rfl
      have h2 : S.step = { S with fl := true, bd := false, lf := 0 } := by unfold Ab.step; rw [hbd, h0]; rfl
      rw [h1, h2]
      have e0 : (if true = true then (S.lf : Int) else -1) = 0 := by rw [h0]; rfl
      rw [e0]
      refine (rstep_fails w (S.mo : Int) A fs.length c S.fl (S.mo : Int) A2 fs2.length c2 0 S.fl).mono ?_
      rintro e w1 ⟨rfl, hf⟩
      exact ⟨_, rfl, ⟨A, c, fs, rfl, hk.no hf, hm, hr, hl, ho⟩, hf⟩
    · have h1 : S.fails = false := by
        unfold Ab.fails
        rw [hbd]
        simp [h0]
      have h2 : S.step = { S with lf := S.lf - 1 } := by unfold Ab.step; rw [hbd, if_pos rfl, if_neg h0]
      rw [h1, h2]
      have e0 : (if true = true then (S.lf : Int) else -1) = (S.lf : Int) := rfl
      rw [e0]
      refine (rstep_bound w (S.mo : Int) A fs.length c (S.lf : Int) S.fl (S.mo : Int) A2 fs2.length c2 (S.lf : Int) S.fl (by omega) (by omega)).mono ?_
      rintro e w1 ⟨rfl, hf⟩
      refine ⟨_, rfl, ⟨A2, c2, fs2, ?_, hk2.no hf, hm2, hr2, hl2, ho2⟩, hf⟩
      have e1 : ((S.lf - 1 : Nat) : Int) = (S.lf : Int) - 1 := by omega
      simp [hbd, e1]
end
/-- What asking for a file tells, of the plain state. -/
theorem ask_ab {fs : List Fl} {S : Ab} (hm : fs.map Fl.ab = S.fs) (hr : Ris S.fs) {nm : List UInt8} {z : Int} (h : Fnd fs nm z) :
    (z = -1 ∧ afnd nm S.fs = none) ∨ (∃ (i : Nat) (f : Fl), fs[i]? = some f ∧ f.nm = nm ∧ z = (i : Int) ∧ afnd nm S.fs = some f.ab ∧ aold nm S.fs = f.ab) := by
  rcases h with ⟨rfl, hno⟩ | ⟨i, f, hi, hn, rfl⟩
  · exact .inl ⟨rfl, afnd_no (fun g hg => by
      rw [← hm] at hg
      obtain ⟨y, hy, rfl⟩ := List.mem_map.1 hg
      exact hno y hy)⟩
  · refine .inr ⟨i, f, hi, hn, rfl, ?_⟩
    have hfm : f.ab ∈ S.fs := by rw [← hm]; exact List.mem_map.2 ⟨f, List.mem_of_getElem? hi, rfl⟩
    obtain ⟨g, hg⟩ : ∃ g, afnd nm S.fs = some g := by
      cases hq : afnd nm S.fs with
      | some g => exact ⟨g, rfl⟩
      | none =>
        unfold afnd at hq
        rw [List.find?_eq_none] at hq
        exact absurd (by show (f.nm == nm) = true; rw [hn]; simp) (hq f.ab hfm)
    have hgf : g = f.ab := by
      obtain ⟨h1, h2⟩ := afnd_some hg
      have hne : ∀ a ∈ S.fs, ∀ b ∈ S.fs, a.nm = b.nm → a = b := by
        intro a ha b hb e
        obtain ⟨p, hp, rfl⟩ := List.getElem_of_mem ha
        obtain ⟨q, hq, rfl⟩ := List.getElem_of_mem hb
        rcases Nat.lt_trichotomy p q with h | h | h
        · have := List.pairwise_iff_getElem.1 hr p q hp hq h
          rw [e, WideAt.bytes_irrefl] at this
          cases this
        · subst h; rfl
        · have := List.pairwise_iff_getElem.1 hr q p hq hp h
          rw [e, WideAt.bytes_irrefl] at this
          cases this
      exact hne g h1 f.ab hfm (h2.trans hn.symm)
    refine ⟨by rw [hg, hgf], ?_⟩
    unfold aold
    rw [hg, hgf]
    rfl
set_option maxRecDepth 100000 in
/-- A result's four cells, written one behind the other. -/
theorem four_set {w : World} {R : Nat} {a b c d : Value} {T : TypeId} (h : w.heap[R]? = some (.cells #[a, b, c, d] T (0, 0))) (x y z u : Value) :
    ((((w.setCell ⟨R, 0, none⟩ x).setCell ⟨R, 1, none⟩ y).setCell ⟨R, 2, none⟩ z).setCell ⟨R, 3, none⟩ u).heap[R]? = some (.cells #[x, y, z, u] T (0, 0)) ∧ Fr (fun k => k = R) w ((((w.setCell ⟨R, 0, none⟩ x).setCell ⟨R, 1, none⟩ y).setCell ⟨R, 2, none⟩ z).setCell ⟨R, 3, none⟩ u) := by
  refine ⟨?_, (((Fr.setCell w ⟨R, 0, none⟩ _ (F := fun k => k = R) rfl).trans (Fr.setCell _ ⟨R, 1, none⟩ _ (F := fun k => k = R) rfl) (fun _ _ e => e)).trans (Fr.setCell _ ⟨R, 2, none⟩ _ (F := fun k => k = R) rfl) (fun _ _ e => e)).trans (Fr.setCell _ ⟨R, 3, none⟩ _ (F := fun k => k = R) rfl) (fun _ _ e => e)⟩
  have := heap_cells_set _ R 3 _ _ u (heap_cells_set _ R 2 _ _ z (heap_cells_set _ R 1 _ _ y (heap_cells_set _ R 0 _ _ x h)))
  rw [this]
  rfl
section
variable {F : Nat → Prop} {w w' : World} {R : Nat}
/-- A result's row that is still to be written. -/
def Blank (w : World) (R : Nat) : Prop := w.heap[R]? = some (.cells #[.int .i64 0, .slice none 0 0, .int .i64 0, .bool false] 29 (0, 0))
set_option maxRecDepth 100000 in
theorem Blank.not (h : Blank w R) (o : Nat) {v : Value} (hv : w.cell? ⟨R, o, none⟩ = some v) : v = .int .i64 0 ∨ v = .slice none 0 0 ∨ v = .bool false := by
  unfold Blank at h
  unfold World.cell? at hv
  rw [h] at hv
  rcases o with _ | _ | _ | _ | o <;> simp at hv <;> simp [← hv]
set_option maxRecDepth 100000 in
theorem Blank.rd (h : Blank w R) (hf : Fr (fun k => k = R) w w') {A : Option Addr} {n : Nat} {l : List UInt8} (hr : Rd w w.heap.size A n l) : Rd w' w'.heap.size A n l := by
  refine ⟨hr.1, fun hn => ?_⟩
  obtain ⟨b, o, e, hb, hc⟩ := hr.2 hn
  refine ⟨b, o, e, Nat.lt_of_lt_of_le hb hf.size, fun i hi => hf.cell (hc i hi) (fun e2 => ?_)⟩
  have e2 : b = R := e2
  have h1 := hc i hi
  rw [e2] at h1
  rcases h.not _ h1 with e | e | e <;> cases e
set_option maxRecDepth 100000 in
theorem Rv.blank {v : Value} {S : Ab} (h : Rv F w v S) (hB : Blank w R) (hf : Fr (fun k => k = R) w w') : Rv F w' v S := by
  obtain ⟨A, c, fs, hv, hk, r⟩ := h
  refine ⟨A, c, fs, hv, ⟨hk.len, fun hn => ?_, fun f hm => hB.rd hf (hk.rd f hm)⟩, r⟩
  obtain ⟨b, o, e, hb, hc⟩ := hk.at_ hn
  have hbR : b ≠ R := by
    intro e2
    obtain ⟨c0, _⟩ := hc 0 fs[0] (List.getElem?_eq_getElem hn)
    rw [e2] at c0
    rcases hB.not _ c0 with e | e | e <;> cases e
  refine ⟨b, o, e, Nat.lt_of_lt_of_le hb hf.size, fun j f hj => ?_⟩
  obtain ⟨c0, c1, c2⟩ := hc j f hj
  exact ⟨hf.cell c0 hbR, hf.cell c1 hbR, hf.cell c2 hbR⟩
end
set_option maxRecDepth 100000 in
/-- Remove, as the plain state has it. -/
theorem rv_remove {F : Nat → Prop} {w : World} (hF : ∀ k, F k → k < w.heap.size) {v : Value} {S : Ab} (hb : S.lf ≤ 9223372036854775807) (h : Rv F w v S) (nm : ByteArray) :
    Calls Try.prog 15 #[v, .string nm] w fun e w' =>
      ∃ v', e = .returned (.tuple #[v', .int .i64 (S.remove nm.data.toList).1]) ∧ Rv F w' v' (S.remove nm.data.toList).2 ∧ Fr No w w' := by
  obtain ⟨A, c, fs, rfl, hk, hm, hr, hl, ho⟩ := h
  have HOO := Lib.hid ho
  have HNF := Lib.hid hF
  clear ho hF
  have HM := Lib.hid hm
  have HR := Lib.hid hr
  have HL := Lib.hid hl
  have HB := Lib.hid hb
  obtain ⟨lf, HLF⟩ : ∃ lf : Int, Hid ((if S.bd then (S.lf : Int) else -1) = lf) := ⟨_, rfl⟩
  have HV0 := Lib.hid (show Rv F w (.agg #[.int .i64 (S.mo : Int), .slice A fs.length c, .int .i64 lf, .bool S.fl]) S from by rw [← HLF.out]; exact ⟨A, c, fs, rfl, hk, hm, hr, hl, HOO.out⟩)
  rw [HLF.out]
  have hf0 : Fr No w ((w.alloc (.cells #[.int .i64 (S.mo : Int), .slice A fs.length c, .int .i64 lf, .bool S.fl] 29)).alloc (.cells #[.int .i64 0, .slice none 0 0, .int .i64 0, .bool false] 29)) := (Fr.alloc No w _).no_trans (Fr.alloc No _ _)
  have HAS := Lib.hid (rask_any (c := c) (hk.no hf0) (by omega) (S.mo : Int) lf S.fl nm)
  have HF0 := Lib.hid hf0
  have HK := Lib.hid hk
  clear hk hm hr hl hb hf0
  go_enter Try.func15, Try.ntmps15
  go_wp2_with fail
  refine HAS.out.mono ?_
  rintro e w1 ⟨z, rfl, hf, hz⟩
  obtain ⟨P, HP⟩ : ∃ P, Hid (w.heap.size = P) := ⟨_, rfl⟩
  have hD : w1.heap[P]? = some (.cells #[.int .i64 (S.mo : Int), .slice A fs.length c, .int .i64 lf, .bool S.fl] 29 (0, 0)) := by
    rw [← HP.out]
    exact (hf.block _ (by simp; omega) (fun e => e)).trans ((Below.heap_alloc _ _ _ (by simp)).trans (heap_alloc_new w _))
  have hR2 : w1.heap[P + 1]? = some (.cells #[.int .i64 0, .slice none 0 0, .int .i64 0, .bool false] 29 (0, 0)) := by
    rw [← HP.out]
    exact (hf.block _ (by simp) (fun e => e)).trans (heap2' w _ _)
  have HF := Lib.hid (HF0.out.no_trans hf)
  have HK1 := Lib.hid (HK.out.no HF.out)
  have HZ := Lib.hid (ask_ab HM.out HR.out hz)
  clear hz hf HAS HF0
  rw [HP.out]
  have d0 : w1.cell? ⟨P, 0, none⟩ = some (.int .i64 (S.mo : Int)) := by unfold World.cell?; rw [hD]; rfl
  have d1 : w1.cell? ⟨P, 1, none⟩ = some (.slice A fs.length c) := by unfold World.cell?; rw [hD]; rfl
  have d2 : w1.cell? ⟨P, 2, none⟩ = some (.int .i64 lf) := by unfold World.cell?; rw [hD]; rfl
  have d3 : w1.cell? ⟨P, 3, none⟩ = some (.bool S.fl) := by unfold World.cell?; rw [hD]; rfl
  have r0 : w1.cell? ⟨P + 1, 0, none⟩ = some (.int .i64 0) := by unfold World.cell?; rw [hR2]; rfl
  have z0 : w1.frozen? ⟨P + 1, 0, none⟩ = false := by unfold World.frozen?; rw [hR2]; rfl
  have r1 : w1.cell? ⟨P + 1, 1, none⟩ = some (.slice none 0 0) := by unfold World.cell?; rw [hR2]; rfl
  have z1 : w1.frozen? ⟨P + 1, 1, none⟩ = false := by unfold World.frozen?; rw [hR2]; rfl
  have r2 : w1.cell? ⟨P + 1, 2, none⟩ = some (.int .i64 0) := by unfold World.cell?; rw [hR2]; rfl
  have z2 : w1.frozen? ⟨P + 1, 2, none⟩ = false := by unfold World.frozen?; rw [hR2]; rfl
  have r3 : w1.cell? ⟨P + 1, 3, none⟩ = some (.bool false) := by unfold World.cell?; rw [hR2]; rfl
  have z3 : w1.frozen? ⟨P + 1, 3, none⟩ = false := by unfold World.frozen?; rw [hR2]; rfl
  cases hfl : S.fl with
  | true =>
    have he : S.remove nm.data.toList = (15, S) := by unfold Ab.remove Ab.err; rw [hfl]; rfl
    rw [hfl] at hD d3
    go_wp2_with fail
    refine bodyPost_ret (results_cell_tmp_row (p := 4) rfl _ _ (P + 1) 29 #[.int .i64 (S.mo : Int), .slice A fs.length c, .int .i64 lf, .bool true] (0, 0) _ rfl (four_set hR2 _ _ _ _).1 Try.underlying29 rfl (by kernel_rfl)) rfl ?_
    have hfr := HF.out.trans (four_set hR2 (.int .i64 (S.mo : Int)) (.slice A fs.length c) (.int .i64 lf) (.bool true)).2 (fun k hk e => by have := HP.out; omega)
    have hv := HV0.out.no hfr
    rw [hfl] at hv
    exact ⟨.agg #[.int .i64 (S.mo : Int), .slice A fs.length c, .int .i64 lf, .bool true], by rw [he]; rfl, by rw [he]; exact hv, hfr⟩
  | false =>
    rcases HZ.out with ⟨rfl, hno⟩ | ⟨i, f, hi, hfn, rfl, haf, hao⟩
    · have he : S.remove nm.data.toList = (13, S) := by unfold Ab.remove Ab.err; rw [hfl, hno]; rfl
      rw [hfl] at hD d3
      have hd : (if false = true then (15 : Int) else if (-1 : Int) < 0 then 13 else 0) = 13 := rfl
      rw [hd]
      go_wp2_with fail
      refine bodyPost_ret (results_cell_tmp_row (p := 4) rfl _ _ (P + 1) 29 #[.int .i64 (S.mo : Int), .slice A fs.length c, .int .i64 lf, .bool false] (0, 0) _ rfl (four_set hR2 _ _ _ _).1 Try.underlying29 rfl (by kernel_rfl)) rfl ?_
      have hfr := HF.out.trans (four_set hR2 (.int .i64 (S.mo : Int)) (.slice A fs.length c) (.int .i64 lf) (.bool false)).2 (fun k hk e => by have := HP.out; omega)
      have hv := HV0.out.no hfr
      rw [hfl] at hv
      exact ⟨.agg #[.int .i64 (S.mo : Int), .slice A fs.length c, .int .i64 lf, .bool false], by rw [he]; rfl, by rw [he]; exact hv, hfr⟩
    · have he : S.err nm.data.toList = 0 := by unfold Ab.err; rw [hfl, haf]; rfl
      have hd : (if false = true then (15 : Int) else if ((i : Nat) : Int) < 0 then 13 else 0) = 0 := by
        rw [if_neg (by simp), if_neg (by omega)]
      rw [hd]
      have hin : i < fs.length := (List.getElem?_eq_some_iff.1 hi).1
      obtain ⟨b, o, rfl, hb, hc⟩ := HK.out.at_ (by omega)
      obtain ⟨c0, c1, c2⟩ := hc i f hi
      have hbP : b ≠ P + 1 := by have := HP.out; omega
      have c0 := HF.out.cell c0 (fun e => e)
      have c1 := HF.out.cell c1 (fun e => e)
      have c2 := HF.out.cell c2 (fun e => e)
      have hi1 : (i : Int) < (fs.length : Int) := by omega
      have her : S.remove nm.data.toList = (if S.fails then 15 else 0, if S.fails then S.step else { S.step with fs := adel nm.data.toList S.fs }) := by
        unfold Ab.remove
        rw [he, if_neg (by simp)]
        cases S.fails <;> rfl
      obtain ⟨x, HX⟩ : ∃ x : Int, Hid ((if S.fails then 15 else 0) = x) := ⟨_, rfl⟩
      obtain ⟨S', HS'⟩ : ∃ S', Hid ((if S.fails then S.step else { S.step with fs := adel nm.data.toList S.fs }) = S') := ⟨_, rfl⟩
      rw [HX.out, HS'.out] at her
      have HE := Lib.hid her
      obtain ⟨L2, HL2⟩ : ∃ L2, Hid (losF f.nm fs ++ (if true then [] else [f]) ++ hisF f.nm fs = L2) := ⟨_, rfl⟩
      have hm2 : L2.map Fl.ab = adel nm.data.toList S.fs := by
        rw [← HL2.out, List.map_append, List.map_append, los_ab, his_ab, HM.out, if_pos rfl, List.map_nil, List.append_nil, rdrop_ab HR.out, hfn]
      have hl2 : L2.length ≤ 200 := by
        have h1 : (L2.map Fl.ab).length = (adel nm.data.toList S.fs).length := by rw [hm2]
        have h2 : (adel nm.data.toList S.fs).length ≤ S.fs.length := List.length_filter_le _ _
        have h3 : (fs.map Fl.ab).length = S.fs.length := by rw [HM.out]
        rw [List.length_map] at h1 h3
        have := HL.out
        omega
      have hpu : ∀ W, Fr No w1 W → Calls Try.prog 42 #[.agg #[.int .i64 (S.mo : Int), .slice (some ⟨b, o, none⟩) fs.length c, .int .i64 lf, .bool false], .agg #[.string ⟨f.nm.toArray⟩, .slice f.A f.bs.length f.c, .int .i64 (f.fm : Int)], .bool true] W (PutN F W (S.mo : Int) lf false L2) := fun W hW => by
        rw [← HL2.out]
        exact rput_n HNF.out (Nat.le_trans HF.out.size hW.size) (HK1.out.no hW) (by have := HL.out; omega) (S.mo : Int) lf false f ((hW.rd (Nat.le_refl _) (HK1.out.rd f (List.mem_of_getElem? hi))).more hW.size) true
      have hst : ∀ W (A2 : Option Addr) (c2 : Nat), Fr No w1 W → Rk W A2 L2.length L2 → Nf F A2 → Calls Try.prog 41 #[.agg #[.int .i64 (S.mo : Int), .slice (some ⟨b, o, none⟩) fs.length c, .int .i64 lf, .bool false], .agg #[.int .i64 (S.mo : Int), .slice A2 L2.length c2, .int .i64 lf, .bool false]] W fun e w' =>
          ∃ v, e = .returned (.tuple #[v, .int .i64 x]) ∧ Rv F w' v S' ∧ Fr No W w' := fun W A2 c2 hW hk2 hn2 => by
        have := rv_step (c := c) (c2 := c2) HB.out (HK1.out.no hW) HM.out HR.out HL.out hk2 hm2 (ris_del HR.out) hl2 HOO.out ⟨fun _ => hn2, by rw [← HL2.out]; exact off_put HOO.out.2 f.nm (fun g hg => by cases hg)⟩
        rw [hfl, HLF.out, HX.out, HS'.out] at this
        exact this
      have HPU := Lib.hid hpu
      have HST := Lib.hid hst
      rw [hfl] at hD d3
      clear hpu hst her hm2 hl2 hD HZ hc haf hao he hd hi hfn
      have hs1 : ∀ W, Fr No w1 W → W.cell? ⟨P, 0, none⟩ = some (.int .i64 (S.mo : Int)) ∧ W.cell? ⟨P, 1, none⟩ = some (.slice (some ⟨b, o, none⟩) fs.length c) ∧ W.cell? ⟨P, 2, none⟩ = some (.int .i64 lf) ∧ W.cell? ⟨P, 3, none⟩ = some (.bool false) ∧ W.cell? ⟨b, o + i * 3, none⟩ = some (.string ⟨f.nm.toArray⟩) ∧ W.cell? ⟨b, o + i * 3 + 1, none⟩ = some (.slice f.A f.bs.length f.c) ∧ W.cell? ⟨b, o + i * 3 + 2, none⟩ = some (.int .i64 (f.fm : Int)) := fun W hW =>
        ⟨hW.cell d0 (fun e => e), hW.cell d1 (fun e => e), hW.cell d2 (fun e => e), hW.cell d3 (fun e => e), hW.cell c0 (fun e => e), hW.cell c1 (fun e => e), hW.cell c2 (fun e => e)⟩
      have hs2 : ∀ W, Fr No w1 W → W.cell? ⟨P + 1, 0, none⟩ = some (.int .i64 0) ∧ W.cell? ⟨P + 1, 1, none⟩ = some (.slice none 0 0) ∧ W.cell? ⟨P + 1, 2, none⟩ = some (.int .i64 0) ∧ W.cell? ⟨P + 1, 3, none⟩ = some (.bool false) := fun W hW =>
        ⟨hW.cell r0 (fun e => e), hW.cell r1 (fun e => e), hW.cell r2 (fun e => e), hW.cell r3 (fun e => e)⟩
      have hs3 : ∀ W, Fr No w1 W → W.heap[P + 1]? = some (.cells #[.int .i64 0, .slice none 0 0, .int .i64 0, .bool false] 29 (0, 0)) := fun W hW => (hW.block _ (Array.getElem?_eq_some_iff.1 hR2).1 (fun e => e)).trans hR2
      have HS1 := Lib.hid hs1
      have HS2 := Lib.hid hs2
      have HS3 := Lib.hid hs3
      clear hs1 hs2 hs3 d0 d1 d2 d3 c0 c1 c2 r0 r1 r2 r3 z0 z1 z2 z3
      go_wp2_with fail
      obtain ⟨u0, HU0⟩ : ∃ u, Hid (w1.drew = u) := ⟨_, rfl⟩
      have HFU := Lib.hid (show Fr No w1 u0 from by rw [← HU0.out]; exact Fr.drew No w1)
      have hq0 := HS1.out u0 HFU.out
      have HQ := Lib.hid (show ∀ W, Fr (fun k => k = P + 1) u0 W → W.cell? ⟨P, 0, none⟩ = some (.int .i64 (S.mo : Int)) ∧ W.cell? ⟨P, 1, none⟩ = some (.slice (some ⟨b, o, none⟩) fs.length c) ∧ W.cell? ⟨P, 2, none⟩ = some (.int .i64 lf) ∧ W.cell? ⟨P, 3, none⟩ = some (.bool false) ∧ W.cell? ⟨b, o + i * 3, none⟩ = some (.string ⟨f.nm.toArray⟩) ∧ W.cell? ⟨b, o + i * 3 + 1, none⟩ = some (.slice f.A f.bs.length f.c) ∧ W.cell? ⟨b, o + i * 3 + 2, none⟩ = some (.int .i64 (f.fm : Int)) from fun W hW => by
        obtain ⟨d0, d1, d2, d3, c0, c1, c2⟩ := hq0
        have hP : P ≠ P + 1 := by omega
        exact ⟨hW.cell d0 hP, hW.cell d1 hP, hW.cell d2 hP, hW.cell d3 hP, hW.cell c0 hbP, hW.cell c1 hbP, hW.cell c2 hbP⟩)
      clear hq0
      refine wp_region_held_drew (S := fun W => Fr (fun k => k = P + 1) u0 W) (by kernel_rfl) (by rw [HU0.out]; exact Fr.refl _ _) (fun hHeld => ?_)
      rw [HU0.out] at hHeld ⊢
      refine wpAnyH_take (i := 0) (oi := _) (v := .agg #[.int .i64 (S.mo : Int), .slice (some ⟨b, o, none⟩) fs.length c, .int .i64 lf, .bool false]) rfl (by kernel_rfl) (by kernel_rfl) (by kernel_rfl) (fun _ _ _ h => h) (Or.inl ⟨by rfl, fun W hS => by obtain ⟨q0, q1, q2, q3, q4, q5, q6⟩ := HQ.out W hS; go_simp⟩) hHeld ?_
      try simp only [Act.put, List.getElem_toArray, List.getElem_cons_zero, List.setIfInBounds_toArray, List.set_cons_zero, List.set_cons_succ]
      refine wpAnyH_take (i := 1) (oi := _) (v := .agg #[.int .i64 (S.mo : Int), .slice (some ⟨b, o, none⟩) fs.length c, .int .i64 lf, .bool false]) rfl (by kernel_rfl) (by kernel_rfl) (by kernel_rfl) (fun _ _ _ h => h) (Or.inl ⟨by rfl, fun W hS => by obtain ⟨q0, q1, q2, q3, q4, q5, q6⟩ := HQ.out W hS; go_simp⟩) hHeld ?_
      try simp only [Act.put, List.getElem_toArray, List.getElem_cons_zero, List.getElem_cons_succ, List.setIfInBounds_toArray, List.set_cons_zero, List.set_cons_succ]
      refine wpAnyH_take (i := 2) (oi := _) (v := .pointer (some ⟨P, 1, none⟩)) rfl (by kernel_rfl) (by kernel_rfl) (by kernel_rfl) (fun _ _ _ h => h) (Or.inl ⟨by rfl, fun W hS => by rfl⟩) hHeld ?_
      try simp only [Act.put, List.getElem_toArray, List.getElem_cons_zero, List.getElem_cons_succ, List.setIfInBounds_toArray, List.set_cons_zero, List.set_cons_succ]
      refine wpAnyH_take (i := 3) (oi := _) (v := .slice (some ⟨b, o, none⟩) fs.length c) rfl (by kernel_rfl) (by kernel_rfl) (by kernel_rfl) (fun _ _ _ h => h) (Or.inl ⟨by rfl, fun W hS => by obtain ⟨q0, q1, q2, q3, q4, q5, q6⟩ := HQ.out W hS; go_simp⟩) hHeld ?_
      try simp only [Act.put, List.getElem_toArray, List.getElem_cons_zero, List.getElem_cons_succ, List.setIfInBounds_toArray, List.set_cons_zero, List.set_cons_succ]
      refine wpAnyH_take (i := 4) (oi := _) (v := .int .i64 (i : Int)) rfl (by kernel_rfl) (by kernel_rfl) (by kernel_rfl) (fun _ _ _ h => h) (Or.inl ⟨by rfl, fun W hS => by rfl⟩) hHeld ?_
      try simp only [Act.put, List.getElem_toArray, List.getElem_cons_zero, List.getElem_cons_succ, List.setIfInBounds_toArray, List.set_cons_zero, List.set_cons_succ]
      refine wpAnyH_take (i := 5) (oi := _) (v := .pointer (some ⟨b, o + i * 3, none⟩)) rfl (by kernel_rfl) (by kernel_rfl) (by kernel_rfl) (fun _ _ _ h => h) (Or.inl ⟨by rfl, fun W hS => by go_simp⟩) hHeld ?_
      try simp only [Act.put, List.getElem_toArray, List.getElem_cons_zero, List.getElem_cons_succ, List.setIfInBounds_toArray, List.set_cons_zero, List.set_cons_succ]
      refine wpAnyH_take (i := 6) (oi := _) (v := .agg #[.string ⟨f.nm.toArray⟩, .slice f.A f.bs.length f.c, .int .i64 (f.fm : Int)]) rfl (by kernel_rfl) (by kernel_rfl) (by kernel_rfl) (fun _ _ _ h => h) (Or.inl ⟨by rfl, fun W hS => by obtain ⟨q0, q1, q2, q3, q4, q5, q6⟩ := HQ.out W hS; go_simp⟩) hHeld ?_
      try simp only [Act.put, List.getElem_toArray, List.getElem_cons_zero, List.getElem_cons_succ, List.setIfInBounds_toArray, List.set_cons_zero, List.set_cons_succ]
      refine wpAnyH_ready (rs := [7]) (by kernel_rfl) (by simp) ?_
      refine AllReadyH.cons (o := _) rfl (fun K hK => ?_) AllReadyH.nil
      rw [if_pos (by rfl)]
      go_wp2_with fail
      refine (HPU.out _ HFU.out).mono ?_
      rintro e w2 ⟨A2, c2', rfl, hk2, hf2, hn2⟩
      have HN2 := Lib.hid hn2
      clear hn2
      have HK2 := Lib.hid hk2
      have HF2 := Lib.hid (HFU.out.no_trans hf2)
      refine hK.out _ _ (hHeld.trans hf2 (fun _ _ e => e.elim)) (fun hHeld => ?_)
      clear hK K hk2 hf2
      try simp only [Act.put, List.getElem_toArray, List.getElem_cons_zero, List.getElem_cons_succ, List.setIfInBounds_toArray, List.set_cons_zero, List.set_cons_succ]
      refine wpAnyH_ready (rs := [8]) (by kernel_rfl) (by simp) ?_
      refine AllReadyH.cons (o := _) rfl (fun K hK => ?_) AllReadyH.nil
      rw [if_pos (by rfl)]
      go_wp2_with fail
      refine (HST.out _ _ _ HF2.out HK2.out HN2.out).mono ?_
      rintro e w3 ⟨v3, rfl, hv3, hf3⟩
      have HV3 := Lib.hid hv3
      have HF3 := Lib.hid (HF2.out.no_trans hf3)
      refine hK.out _ _ (hHeld.trans hf3 (fun _ _ e => e.elim)) (fun hHeld => ?_)
      obtain ⟨A3, c3, fs3, rfl, _, _, _, _⟩ := hv3
      clear hK K hf3
      try simp only [Act.put, List.getElem_toArray, List.getElem_cons_zero, List.getElem_cons_succ, List.setIfInBounds_toArray, List.set_cons_zero, List.set_cons_succ]
      refine wpAnyH_take (i := 9) (oi := _) (v := .agg #[.int .i64 (S'.mo : Int), .slice A3 fs3.length c3, .int .i64 (if S'.bd then (S'.lf : Int) else -1), .bool S'.fl]) rfl (by kernel_rfl) (by kernel_rfl) (by kernel_rfl) (fun _ _ _ h => h) (Or.inl ⟨by rfl, fun W hS => by rfl⟩) hHeld ?_
      try simp only [Act.put, List.getElem_toArray, List.getElem_cons_zero, List.getElem_cons_succ, List.setIfInBounds_toArray, List.set_cons_zero, List.set_cons_succ]
      refine wpAnyH_take (i := 10) (oi := _) (v := .int .i64 x) rfl (by kernel_rfl) (by kernel_rfl) (by kernel_rfl) (fun _ _ _ h => h) (Or.inl ⟨by rfl, fun W hS => by rfl⟩) hHeld ?_
      try simp only [Act.put, List.getElem_toArray, List.getElem_cons_zero, List.getElem_cons_succ, List.setIfInBounds_toArray, List.set_cons_zero, List.set_cons_succ]
      have hR3 := HS3.out _ HF3.out
      have r0 : w3.cell? ⟨P + 1, 0, none⟩ = some (.int .i64 0) := by unfold World.cell?; rw [hR3]; rfl
      have r1 : w3.cell? ⟨P + 1, 1, none⟩ = some (.slice none 0 0) := by unfold World.cell?; rw [hR3]; rfl
      have r2 : w3.cell? ⟨P + 1, 2, none⟩ = some (.int .i64 0) := by unfold World.cell?; rw [hR3]; rfl
      have r3 : w3.cell? ⟨P + 1, 3, none⟩ = some (.bool false) := by unfold World.cell?; rw [hR3]; rfl
      have z0 : w3.frozen? ⟨P + 1, 0, none⟩ = false := by unfold World.frozen?; rw [hR3]; rfl
      have z1 : w3.frozen? ⟨P + 1, 1, none⟩ = false := by unfold World.frozen?; rw [hR3]; rfl
      have z2 : w3.frozen? ⟨P + 1, 2, none⟩ = false := by unfold World.frozen?; rw [hR3]; rfl
      have z3 : w3.frozen? ⟨P + 1, 3, none⟩ = false := by unfold World.frozen?; rw [hR3]; rfl
      obtain ⟨l3, hl3⟩ : ∃ l3 : Int, (if S'.bd then (S'.lf : Int) else -1) = l3 := ⟨_, rfl⟩
      rw [hl3] at HV3 ⊢
      clear hl3
      refine wpAnyH_ready (rs := [11]) (by kernel_rfl) (by simp) ?_
      refine AllReadyH.cons (o := _) rfl (fun K hK => ?_) AllReadyH.nil
      rw [if_pos (by rfl)]
      go_wp2_with fail
      have h4 := four_set hR3 (.int .i64 (S'.mo : Int)) (.slice A3 fs3.length c3) (.int .i64 l3) (.bool S'.fl)
      have H4 := Lib.hid h4
      refine hK.out _ _ (hHeld.trans h4.2 (fun _ _ e => e)) (fun hHeld => ?_)
      clear hK K
      try simp only [Act.put, List.getElem_toArray, List.getElem_cons_zero, List.getElem_cons_succ, List.setIfInBounds_toArray, List.set_cons_zero, List.set_cons_succ]
      obtain ⟨w4, hw4⟩ : ∃ w4, (((w3.setCell ⟨P + 1, 0, none⟩ (.int .i64 (S'.mo : Int))).setCell ⟨P + 1, 1, none⟩ (.slice A3 fs3.length c3)).setCell ⟨P + 1, 2, none⟩ (.int .i64 l3)).setCell ⟨P + 1, 3, none⟩ (.bool S'.fl) = w4 := ⟨_, rfl⟩
      rw [hw4] at H4 hHeld ⊢
      clear hw4 h4
      refine wpAnyH_take (i := 12) (oi := _) (v := .int .i64 x) rfl (by kernel_rfl) (by kernel_rfl) (by kernel_rfl) (fun _ _ _ h => h) (Or.inl ⟨by rfl, fun W hS => by rfl⟩) hHeld ?_
      try simp only [Act.put, List.getElem_toArray, List.getElem_cons_zero, List.getElem_cons_succ, List.setIfInBounds_toArray, List.set_cons_zero, List.set_cons_succ]
      refine wpAnyH_done (by kernel_rfl) ?_ _
      clear hHeld
      go_wp2_with fail
      refine bodyPost_ret (results_cell_tmp_row (p := 4) rfl _ _ (P + 1) 29 #[.int .i64 (S'.mo : Int), .slice A3 fs3.length c3, .int .i64 l3, .bool S'.fl] (0, 0) _ rfl H4.out.1 Try.underlying29 rfl (by kernel_rfl)) rfl ?_
      have hfr := (HF.out.no_trans HF3.out).trans H4.out.2 (fun k hk e => by have := HP.out; omega)
      have her := HE.out
      refine ⟨.agg #[.int .i64 (S'.mo : Int), .slice A3 fs3.length c3, .int .i64 l3, .bool S'.fl], by rw [her]; rfl, ?_, hfr⟩
      rw [her]
      exact HV3.out.blank hR3 H4.out.2
end Go.Proofs.Ytnkgcafebmacjaa

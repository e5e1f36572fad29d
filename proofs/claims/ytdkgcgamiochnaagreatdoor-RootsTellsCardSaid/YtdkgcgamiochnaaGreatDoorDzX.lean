/-
  Several texts in one: DkU, DkV, DkW, DkX. No statement of the seat is proved here.
-/
import Derived.Test.YtdkgcgamiochnaaGreatDoorDkT
import Derived.Test.YtdkgcgamiochnaaGreatDoorLayIt
import Derived.TacticsInMore
import Derived.OwnWalkIn
namespace Go.Proofs.YtdkgcgamiochnaaGreatDoor
open Go.RowKit Go.Maps Go.Sort

set_option maxRecDepth 100000 in
theorem before_le : ∀ {a b : List UInt8}, bytesBefore a b = true → a ≤ b
  | [], [], h => by cases h
  | [], b :: s, _ => List.nil_le _
  | a :: r, [], h => by cases h
  | a :: r, b :: s, h => by
    simp only [bytesBefore, Bool.or_eq_true, decide_eq_true_eq, Bool.and_eq_true, beq_iff_eq] at h
    rw [List.cons_le_cons_iff]
    rcases h with h | ⟨h, h2⟩
    · exact .inl h
    · exact .inr ⟨h, before_le h2⟩
set_option maxRecDepth 100000 in
theorem sorted_names {w : World} {D M : Nat} {s : St} (h : Dsk w D M s) {ss : List (List UInt8)} (hp : ss.Perm (s.fs.map (·.nm))) : ss.mergeSort (fun x y => decide (x ≤ y)) = s.fs.map (·.nm) := by
  have e := mergeSort_of_perm hp
  have e2 : (s.fs.map (·.nm)).mergeSort leB = s.fs.map (·.nm) := by
    refine List.mergeSort_of_pairwise ?_
    rw [List.pairwise_map]
    exact h.rising.imp (fun hb => by simpa using before_le hb)
  exact e.trans e2
set_option maxRecDepth 100000 in
theorem list_any {w : World} {D M : Nat} {s : St} (h : Dsk w D M s) :
    Calls Tryz.prog 17 #[.pointer (some ⟨D, 0, none⟩)] w fun e w' =>
      ∃ v, e = .returned v ∧ w'.ownsRow w.heap.size 9 1 v s.fs.length ((s.fs.map (·.nm)).map Proofs.encStr) ∧ Fr No w w' := by
  have HM := Lib.hid (made_any D w h.c3)
  have c5 := h.c5
  have H := Lib.hid h
  have hmax : Maps.size (dat s.fs) ≤ maxLen := by rw [dat_size]; have := h.few; unfold maxLen; omega
  have hbytes : Maps.size (dat s.fs) * 16 ≤ 140737488355328 := by rw [dat_size]; have := h.few; omega
  clear h
  refine (callsIn_wide (n := 6)).1 ?_
  have hfK : Fence.wide.fn 37 := trivial
  have hfS : Fence.wide.fn 36 := trivial
  have hfM : Fence.wide.fn 35 := trivial
  refine callsIn_of_wp Tryz.func17 rfl trivial ?_ rfl
  simp only [Tryz.ntmps17, List.size_toArray, List.length_cons, List.length_nil, Nat.reduceAdd, Nat.reduceSub, Array.replicate_succ, Array.replicate_zero, List.push_toArray, List.append_toArray, List.nil_append, List.cons_append]
  gi_wp2_with (first
    | (gi_at_call 35; refine ((callsIn_wide (n := 5)).2 HM.out).mono ?_; rintro e w' ⟨rfl, rfl⟩)
    | (gi_at_call 37; refine (Tryz.maps_Keys_37 _ _).mono ?_; rintro e w' ⟨rfl, rfl⟩)
    | (gi_at_call 36; refine (Tryz.slices_Sorted_keys_36_37 M s.fs.length (dat s.fs) flR w H.out.map hmax hbytes).mono ?_; rintro e w' ⟨v, ss, rfl, hS, hrow, hnil, hb⟩))
  go_ret
  rw [dat_keys] at hS
  have hl := hS.length_eq
  rw [List.length_map] at hl
  rw [sorted_names H.out hS, hl] at hrow
  refine ⟨v, rfl, own_base hrow (by simp), (Fr.alloc No w _).no_trans (Fr.of_below hb)⟩
end Go.Proofs.YtdkgcgamiochnaaGreatDoor
namespace Go.Proofs.YtdkgcgamiochnaaGreatDoor
open Go.RowKit Go.Maps Go.Sort

set_option maxRecDepth 100000 in
theorem before_asymm : ∀ {a b : List UInt8}, bytesBefore a b = true → bytesBefore b a = false
  | [], [], h => by cases h
  | [], b :: s, _ => rfl
  | a :: r, [], h => by cases h
  | a :: r, b :: s, h => by
    simp only [bytesBefore, Bool.or_eq_true, decide_eq_true_eq, Bool.and_eq_true, beq_iff_eq] at h
    simp only [bytesBefore, Bool.or_eq_false_iff, decide_eq_false_iff_not, Bool.and_eq_false_iff, beq_eq_false_iff_ne]
    rcases h with h | ⟨rfl, h2⟩
    · refine ⟨fun h' => ?_, .inl (fun e => ?_)⟩
      · rw [UInt8.lt_iff_toNat_lt] at h h'
        omega
      · rw [e, UInt8.lt_iff_toNat_lt] at h
        omega
    · refine ⟨fun h' => ?_, .inr (before_asymm h2)⟩
      rw [UInt8.lt_iff_toNat_lt] at h'
      omega
set_option maxRecDepth 100000 in
/-- A file stored under a name that is there: in its place. -/
theorem put_set {f g : Fl} : ∀ {fs : List Fl} {j : Nat}, fs.Pairwise (fun a b => bytesBefore a.nm b.nm = true) → fs[j]? = some f → g.nm = f.nm → put g fs = fs.set j g
  | [], j, _, h, _ => by simp at h
  | a :: r, 0, hp, h, hn => by
    obtain ⟨h1, h2⟩ := List.pairwise_cons.1 hp
    simp at h
    subst h
    have hd : del g.nm (a :: r) = r := by
      rw [del, List.filter_cons_of_neg (by simp [hn]), List.filter_eq_self]
      intro x hx
      have hb := h1 x hx
      simp only [Bool.not_eq_eq_eq_not, Bool.not_true, beq_eq_false_iff_ne, ne_eq]
      intro e
      rw [e, hn] at hb
      have := before_asymm hb
      rw [hb] at this
      cases this
    show ins g (del g.nm (a :: r)) = g :: r
    rw [hd]
    cases r with
    | nil => rfl
    | cons x r =>
      have hb := h1 x (by simp)
      rw [← hn] at hb
      simp [ins, hb]
  | a :: r, j + 1, hp, h, hn => by
    obtain ⟨h1, h2⟩ := List.pairwise_cons.1 hp
    simp at h
    have hb := h1 f (List.mem_of_getElem? h)
    have hne : a.nm ≠ g.nm := by
      rw [hn]
      intro e
      rw [e] at hb
      have := before_asymm hb
      rw [hb] at this
      cases this
    have hd : del g.nm (a :: r) = a :: del g.nm r := by rw [del, List.filter_cons_of_pos (by simpa using hne)]; rfl
    have hbf : bytesBefore g.nm a.nm = false := by rw [hn]; exact before_asymm hb
    show ins g (del g.nm (a :: r)) = a :: r.set j g
    rw [hd]
    have ih := put_set h2 h hn
    unfold put at ih
    simp [ins, hbf, ih]

/-- Whole numbers in a slice whose block F has not. -/
def RdI (w : World) (F : Nat → Prop) (A : Option Addr) (n : Nat) (ks : List Int) : Prop :=
  ks.length = n ∧ (0 < n → ∃ b o, A = some ⟨b, o, none⟩ ∧ b < w.heap.size ∧ ¬ F b ∧ ∀ j (h : j < ks.length), w.cell? ⟨b, o + j, none⟩ = some (.int .i64 ks[j]))
set_option maxRecDepth 100000 in
theorem RdI.keep {w w' : World} {F : Nat → Prop} {A : Option Addr} {n : Nat} {ks : List Int} (h : RdI w F A n ks) (hf : Fr F w w') : RdI w' F A n ks :=
  ⟨h.1, fun hn => by
    obtain ⟨b, o, e, hb, hF, hc⟩ := h.2 hn
    exact ⟨b, o, e, Nat.lt_of_lt_of_le hb hf.size, hF, fun j hj => (World.cell?_of_block (w := w) (hf.block b hb hF)).trans (hc j hj)⟩⟩
def kAt (ks : List Int) (j : Nat) : Int := ks.getD j 0
/-- The files once those ahead of i have been crashed. -/
def CrR (ks : List Int) (fs0 : List Fl) (i : Nat) (fs : List Fl) : Prop :=
  fs.length = fs0.length ∧ ∀ j f, fs0[j]? = some f → ∃ g, fs[j]? = some g ∧ g.nm = f.nm ∧
    (j < i → g.bs = f.bs.take (kp f (kAt ks j)) ∧ g.fm = kp f (kAt ks j)) ∧ (i ≤ j → g.bs = f.bs ∧ g.fm = f.fm)
set_option maxRecDepth 100000 in
theorem CrR.start (ks : List Int) (fs : List Fl) : CrR ks fs 0 fs := ⟨rfl, fun j f h => ⟨f, h, rfl, fun h => by omega, fun _ => ⟨rfl, rfl⟩⟩⟩
set_option maxRecDepth 100000 in
theorem CrR.step {ks : List Int} {fs0 fs : List Fl} {i : Nat} (h : CrR ks fs0 i fs) {f : Fl} (hf : fs0[i]? = some f) {g : Fl} (hn : g.nm = f.nm) (hb : g.bs = f.bs.take (kp f (kAt ks i))) (hm : g.fm = kp f (kAt ks i)) :
    CrR ks fs0 (i + 1) (fs.set i g) := by
  refine ⟨by rw [List.length_set]; exact h.1, fun j x hx => ?_⟩
  have hi : i < fs.length := by
    have := (List.getElem?_eq_some_iff.1 hf).1
    rw [h.1]
    exact this
  by_cases hj : j = i
  · subst hj
    rw [hf] at hx
    cases hx
    exact ⟨g, by simp [hi], hn, fun _ => ⟨hb, hm⟩, fun h => by omega⟩
  · obtain ⟨y, hy, h1, h2, h3⟩ := h.2 j x hx
    exact ⟨y, by rw [List.getElem?_set_ne (fun e => hj e.symm)]; exact hy, h1, fun hlt => h2 (by omega), fun hle => h3 (by omega)⟩
end Go.Proofs.YtdkgcgamiochnaaGreatDoor
namespace Go.Proofs.YtdkgcgamiochnaaGreatDoor
open Go.RowKit Go.Maps Go.Sort

set_option maxRecDepth 100000 in
theorem crash_end {w1 wr w3 w4 : World} {D M : Nat} {s : St} {fs : List Fl} {ks : List Int} {i : Nat} (hN : Nx D M w1 s wr { s with fs := fs }) (hC : CrR ks s.fs i fs) {f g : Fl} (hf : s.fs[i]? = some f) (hg : fs[i]? = some g)
    (hgn : g.nm = f.nm) (hgb : g.bs = f.bs) (hgm : g.fm = f.fm) {A3 : Option Addr} {c3 : Nat} (h3 : Fr No wr w3) (h4 : Fr (fun k => k = M) w3 w4)
    (hrow : w3.ownsRow 0 5 1 (.slice A3 (kp g (kAt ks i)) c3) (kp g (kAt ks i)) (bvs (g.bs.take (kp g (kAt ks i)))))
    (hat : (Value.slice A3 (kp g (kAt ks i)) c3 = g.row) ∨ ∀ k, (Value.slice A3 (kp g (kAt ks i)) c3).ownBlock = some k → wr.heap.size ≤ k)
    (hm : w4.ownsMap Tryz.prog 9 flR M (put ⟨g.nm, A3, c3, g.bs.take (kp g (kAt ks i)), kp g (kAt ks i)⟩ fs).length (dat (put ⟨g.nm, A3, c3, g.bs.take (kp g (kAt ks i)), kp g (kAt ks i)⟩ fs))) :
    ∃ fs', CrR ks s.fs (i + 1) fs' ∧ Nx D M w1 s w4 { s with fs := fs' } := by
  have hmem : g ∈ fs := List.mem_of_getElem? hg
  have hle : kp g (kAt ks i) ≤ g.bs.length := by
    have := hN.1.firm g hmem
    unfold kp
    omega
  have hn := stored_first hN.1 g hmem _ hle A3 c3 h3 h4 hrow hat hm
  have hkp : kp g (kAt ks i) = kp f (kAt ks i) := by unfold kp; rw [hgb, hgm]
  have hris : fs.Pairwise (fun a b => bytesBefore a.nm b.nm = true) := hN.1.rising
  refine ⟨_, ?_, hN.trans hn⟩
  show CrR ks s.fs (i + 1) (put ⟨g.nm, A3, c3, g.bs.take (kp g (kAt ks i)), kp g (kAt ks i)⟩ fs)
  rw [put_set (g := ⟨g.nm, A3, c3, g.bs.take (kp g (kAt ks i)), kp g (kAt ks i)⟩) hris hg rfl]
  refine hC.step hf hgn ?_ hkp
  show g.bs.take _ = _
  rw [hkp, hgb]
end Go.Proofs.YtdkgcgamiochnaaGreatDoor
namespace Go.Proofs.YtdkgcgamiochnaaGreatDoor
open Go.RowKit Go.Maps Go.Sort

set_option maxRecDepth 100000 in
theorem new_dsk (n : Nat) (w : World) (h : n ≤ 16777216) :
    Calls Tryz.prog 13 #[.int .i64 (n : Int)] w fun e w' => e = .returned (.tuple #[.pointer (some ⟨w.heap.size + 1, 0, none⟩), .int .i64 0]) ∧
      Dsk w' (w.heap.size + 1) w.heap.size ⟨false, false, 0, n, []⟩ ∧ Below w.heap.size w w' := by
  refine (new_any (n : Int) w (by omega) (by omega)).mono ?_
  rintro e w' ⟨rfl, rfl⟩
  refine ⟨rfl, ⟨?_, ?_, ?_, ?_, ?_, ?_, ?_, h, by simp, by simp⟩, ((Below.refl _ w).alloc (Nat.le_refl _) _).alloc (by simp) _⟩
  · exact heap2 w _ _
  · exact (World.ownsMap_made w Tryz.prog 9 flR).alloc _
  all_goals first
    | (intro f hf; cases hf)
    | exact Nat.zero_le _
end Go.Proofs.YtdkgcgamiochnaaGreatDoor

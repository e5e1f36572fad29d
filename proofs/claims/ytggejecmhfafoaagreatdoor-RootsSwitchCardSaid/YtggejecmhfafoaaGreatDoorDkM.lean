/-
  How many bytes all files of a disk have. No statement of the seat is proved here.
-/
import Derived.Test.YtggejecmhfafoaaGreatDoorDkL
namespace Go.Proofs.YtggejecmhfafoaaGreatDoor
open Go.RowKit Go.Maps

/-- What all files have that have come already. -/
def usedL (left : Lit → Bool) (fs : List Fl) : Nat := ((fs.filter fun f => !left (.string f.nm)).map fun f => f.bs.length).sum
set_option maxRecDepth 100000 in
theorem usedL_cons (left : Lit → Bool) (f : Fl) (fs : List Fl) : usedL left (f :: fs) = (if left (.string f.nm) then 0 else f.bs.length) + usedL left fs := by
  unfold usedL
  cases h : left (.string f.nm) <;> simp [h]
set_option maxRecDepth 100000 in
theorem used_cons (f : Fl) (fs : List Fl) : used (f :: fs) = f.bs.length + used fs := by simp [used]
set_option maxRecDepth 100000 in
theorem usedL_none {left : Lit → Bool} : ∀ {fs : List Fl}, (∀ f ∈ fs, left (.string f.nm) = true) → usedL left fs = 0
  | [], _ => rfl
  | f :: r, h => by
    rw [usedL_cons, h f (by simp), usedL_none (fun g hg => h g (by simp [hg]))]
    rfl
set_option maxRecDepth 100000 in
theorem usedL_all {left : Lit → Bool} (h : ∀ kl, left kl = false) : ∀ fs : List Fl, usedL left fs = used fs
  | [] => rfl
  | f :: r => by
    rw [usedL_cons, used_cons, h, usedL_all h r]
    rfl
set_option maxRecDepth 100000 in
theorem usedL_le (left : Lit → Bool) : ∀ fs : List Fl, usedL left fs ≤ used fs
  | [] => Nat.le_refl _
  | f :: r => by
    have := usedL_le left r
    rw [usedL_cons, used_cons]
    split <;> omega
set_option maxRecDepth 100000 in
theorem usedL_same {left left' : Lit → Bool} : ∀ {fs : List Fl}, (∀ f ∈ fs, left (.string f.nm) = left' (.string f.nm)) → usedL left fs = usedL left' fs
  | [], _ => rfl
  | f :: r, h => by
    rw [usedL_cons, usedL_cons, h f (by simp), usedL_same (fun g hg => h g (by simp [hg]))]
set_option maxRecDepth 100000 in
theorem usedL_step {left : Lit → Bool} {f : Fl} : ∀ {fs : List Fl}, Apart fs → f ∈ fs → left (.string f.nm) = true → usedL (fun z => left z && !z.sameKey (.string f.nm)) fs = usedL left fs + f.bs.length
  | g :: r, hA, hf, hl => by
    obtain ⟨h1, h2⟩ := List.pairwise_cons.1 hA
    rw [usedL_cons, usedL_cons]
    rcases List.mem_cons.1 hf with rfl | hf
    · have e : usedL (fun z => left z && !z.sameKey (.string f.nm)) r = usedL left r := usedL_same fun g hg => by
        have := h1 g hg
        have e : (Lit.string g.nm).sameKey (.string f.nm) = false := by
          show (g.nm == f.nm) = false
          rw [beq_eq_false_iff_ne]
          exact this.symm
        rw [e]
        simp
      have e2 : (Lit.string f.nm).sameKey (.string f.nm) = true := by
        show (f.nm == f.nm) = true
        simp
      rw [e, e2, hl]
      simp
      omega
    · have := h1 f hf
      have e : (Lit.string g.nm).sameKey (.string f.nm) = false := by
        show (g.nm == f.nm) = false
        rw [beq_eq_false_iff_ne]
        exact this
      rw [usedL_step h2 hf hl, e]
      simp
      omega
set_option maxRecDepth 100000 in
/-- An entry that has come is a file. -/
theorem dat_came {fs : List Fl} {x : List UInt8} {v : Value} {y : DataW Value × List MemPlace} (hv : flR v = some y) (hat : ∀ zd, (dat fs).atKey (.string x) zd = y.1) : ∃ f ∈ fs, f.nm = x ∧ v = f.val := by
  obtain ⟨_, e⟩ := flR_inv hv
  cases hf : fnd x fs with
  | none =>
    have := hat .nil
    rw [dat_at, hf, e] at this
    cases this
  | some f =>
    have := hat .nil
    rw [dat_at, hf, e] at this
    simp only [DataW.held.injEq] at this
    exact ⟨f, (fnd_mem hf).1, (fnd_mem hf).2, this.symm⟩
def mkF (p : Option Addr × Nat × Nat × Int) : Value := .agg #[.slice p.1 p.2.1 p.2.2.1, .int .i64 p.2.2.2]
set_option maxRecDepth 100000 in
theorem used_any {w : World} {D M : Nat} {s : St} (h : Dsk w D M s) :
    Calls Tryz.prog 67 #[.pointer (some ⟨D, 0, none⟩)] w fun e w' =>
      e = .returned (.int .i64 (used s.fs : Int)) ∧ Fr No w w' := by
  have HM := Lib.hid (made_any D w h.c3)
  have c5 := h.c5
  have H := Lib.hid h
  clear h
  go_enter Tryz.func67, Tryz.ntmps67
  go_wp2_with fail
  refine HM.out.mono ?_
  rintro e w' ⟨rfl, rfl⟩
  go_wp2_with (at_range; refine wpList_range_own _ rfl _ 46 rfl 9 60 kS Tryz.underlying46 flR M s.fs.length (dat s.fs) rfl H.out.map ?_; intro w0 hrg0 hg0 hs0)
  go_frame
  go_loopw [3] (fun u wr => ∃ (left : Lit → Bool) (cnt : Nat), wr.ranges Tryz.prog 9 flR M w.heap.size s.fs.length (dat s.fs) left cnt ∧ u = .int .i64 (usedL left s.fs : Int) ∧ Fr No w wr)
    (fun _ wr => wr.rangeLeft M w.heap.size)
  case atStart =>
    refine ⟨_, _, hrg0, ?_, Fr.grown hg0 (fun k e => by cases e)⟩
    rw [usedL_none]
    · rfl
    · intro f hf
      rw [dat_has, fnd_apart H.out.apart hf]
      rfl
  case round =>
    obtain ⟨left, cnt, hrg, rfl, hfr⟩ := hrel
    have HF := Lib.hid hfr
    clear hfr hs0 hg0 hrg0
    go_wp2_with (at_next; refine wpList_next_ranges _ rfl _ rfl 9 kS flR Proofs.encStr mkF (fun key kl hk => by obtain ⟨x, hx, _⟩ := Maps.keyOf_str Tryz.underlying9 hk; exact ⟨x, hx⟩) (fun v _ hv => (flR_inv hv).1) M w.heap.size s.fs.length _ _ _ rfl hrg ?_ ?_)
    · intro hc0 hl0
      go_wp2_with fail
      go_ret
      refine ⟨?_, HF.out⟩
      rw [usedL_all hl0]
      rfl
    · intro x A n c fm kl y1 y2 w2 cnt2 hkey hlk hv hat hrg2 hlt hg2 hs2 hen
      obtain ⟨x', ex, rfl, _⟩ := Maps.keyOf_str Tryz.underlying9 hkey
      obtain ⟨f, hfm, hfn, hfv⟩ := dat_came hv hat
      have hfA : A = f.A := by injection hfv with e; injection e with e; injection e with e1 e2; injection e1
      have hfl : n = f.bs.length := by injection hfv with e; injection e with e; injection e with e1 e2; injection e1
      have hfc : c = f.c := by injection hfv with e; injection e with e; injection e with e1 e2; injection e1
      subst hfA hfl hfc
      subst hfn
      have HS := Lib.hid (usedL_step H.out.apart hfm hlk)
      have hle := usedL_le (fun z => left z && !z.sameKey (.string f.nm)) s.fs
      have hwr : IntKind.i64.wrap ((usedL left s.fs : Int) + (f.bs.length : Int)) = ((usedL left s.fs + f.bs.length : Nat) : Int) := by
        rw [HS.out] at hle
        have := H.out.room
        have := H.out.most
        rw [← Int.natCast_add]
        exact IntWalk.i64_in _ (by omega)
      have HG := Lib.hid hg2
      have HL := Lib.hid hlt
      have HR := Lib.hid hrg2
      clear hle hkey hlk hv hat hlt hg2 hfv hrg2 hs2
      simp only [mkF] at hen ⊢
      go_wp2_with fail
      refine ⟨⟨_, cnt2, HR.out.alloc _, ?_, ?_⟩, ?_⟩
      · rw [HS.out, Int.natCast_add]
      · exact (HF.out.trans (G := fun k => k = w.heap.size) (Fr.grown HG.out (fun k e => by injection e with e; exact e.symm)) (fun i hi e => by omega)).no_trans (Fr.alloc _ _ _)
      · rw [(HR.out.alloc _).left_eq, hrg.left_eq]
        exact HL.out
end Go.Proofs.YtggejecmhfafoaaGreatDoor

/-
  DiskFails: the walk. No statement of the seat is proved here.
-/
import Derived.Test.YtpffgkflebbejaaDmY
import Derived.Test.YtpffgkflebbejaaDmC
import Derived.Deep.RegionHeld3
import Derived.Deep.CutBlock
import Derived.Deep.DeepCutAuto
namespace Go.Proofs.Ytpffgkflebbejaa
open Go.RowKit Go.Maps

set_option maxRecDepth 100000 in
theorem Wa.other {w w' : World} {D M D2 M2 Z : Nat} {s s' : St} {gs : List Fl} {v1 v2 v3 : Value} {L : List Af} (h : Wa w D2 M2 Z gs v1 v2 v3 L) (k : Wa w D M Z s.fs v1 v2 v3 L) (hN : Nx D M w s w' s') : Wa w' D2 M2 Z gs v1 v2 v3 L :=
  ⟨(k.next hN).blk, h.off, (k.next hN).sho, h.far⟩
set_option maxRecDepth 100000 in
theorem ClAt.alle {W : World} {b o : Nat} {x : Cl} (h : ClAt W ⟨b, o, none⟩ x) :
    W.cell? ⟨b, o, none⟩ = some (.int .u8 (x.wh : Int)) ∧ W.cell? ⟨b, o + 1, none⟩ = some (.string x.nm) ∧ W.cell? ⟨b, o + 2, none⟩ = some (.string x.to) ∧ W.cell? ⟨b, o + 3, none⟩ = some (.slice x.B.A x.B.n x.B.c) ∧
      W.cell? ⟨b, o + 4, none⟩ = some (.int .i64 x.n) ∧ W.cell? ⟨b, o + 5, none⟩ = some (.slice x.K x.kn x.kc) := by
  obtain ⟨h0, h1, h2, h3, h4, h5, _⟩ := h
  simp only [Addr.add_lit] at h1 h2 h3 h4 h5
  exact ⟨h0, h1, h2, h3, h4, h5⟩
/-- Two disks in step: the one bound to fail behind l steps, the other not. -/
structure Step2 (m l : Nat) (s t : St) : Prop where
  mo : s.mo = m
  mo2 : t.mo = m
  fl2 : t.fl = false
  bd2 : t.bd = false
  way : s.fl = true ∨ (s.fl = false ∧ s.bd = true ∧ s.lf = l ∧ s.ab.fs = t.ab.fs)
set_option maxRecDepth 100000 in
/-- What a call upon both does, as long as the power of the one is there. -/
theorem Step2.call {m l : Nat} {s t : St} (h : Step2 m l s t) (hfl : s.fl = false) (c : Cl) :
    ∃ x : Int, (∀ s' t' : St, s'.ab = (s.ab.does c).2 → t'.ab = (t.ab.does c).2 →
      (x ≠ 0 ∧ (t.ab.does c).1 = x ∧ (s.ab.does c).1 = x ∧ Step2 m l s' t' ∧ s'.fl = false ∧ s'.ab.fs = t'.ab.fs) ∨
      (x = 0 ∧ 0 < l ∧ (t.ab.does c).1 = 0 ∧ (s.ab.does c).1 = 0 ∧ Step2 m (l - 1) s' t' ∧ s'.fl = false ∧ s'.ab.fs = t'.ab.fs) ∨
      (x = 0 ∧ l = 0 ∧ (t.ab.does c).1 = 0 ∧ (s.ab.does c).1 = 15 ∧ Step2 m l s' t' ∧ s'.fl = true ∧ s'.ab.fs = t.ab.fs)) := by
  obtain ⟨hm, hm2, hf2, hb2, hw⟩ := h
  obtain ⟨h1, h2, h3, h4⟩ := hw.resolve_left (by rw [hfl]; simp)
  have ea : s.ab.does c = s.ab.hits (aim m t.ab.fs c) := by
    rw [does_aim s.ab c hfl, show s.ab.mo = m from hm, h4]
  have eb : t.ab.does c = t.ab.hits (aim m t.ab.fs c) := by
    rw [does_aim t.ab c hf2, show t.ab.mo = m from hm2]
  have hta : t.ab.fails = false := by unfold Ab.fails; rw [show t.ab.bd = false from hb2]; rfl
  have hts : t.ab.step = t.ab := by unfold Ab.step; rw [show t.ab.bd = false from hb2]; rfl
  obtain ⟨⟨x, fs⟩, hx⟩ : ∃ r, aim m t.ab.fs c = r := ⟨_, rfl⟩
  rw [hx] at ea eb
  refine ⟨x, fun s' t' hs ht => ?_⟩
  rw [ea] at hs
  rw [eb] at ht
  rw [ea, eb]
  by_cases h0 : x = 0
  · subst h0
    rw [hits_ok, hta, if_neg (by simp), hts] at ht
    rw [hits_ok] at hs
    rw [hits_ok, hits_ok, hta, if_neg (by simp), hts]
    have t1 : t'.ab.fl = false := by rw [ht]; exact hf2
    have t2 : t'.ab.bd = false := by rw [ht]; exact hb2
    have t3 : t'.ab.mo = m := by rw [ht]; exact hm2
    have t4 : t'.ab.fs = fs := by rw [ht]
    by_cases hl : l = 0
    · have hf : s.ab.fails = true := by unfold Ab.fails; rw [show s.ab.bd = true from h2, show s.ab.lf = 0 from h3.trans hl]; rfl
      rw [hf, if_pos rfl] at hs ⊢
      have s1 : s'.ab.fl = true := by rw [hs, Ab.step_fl, hf]; simp
      have s2 : s'.ab.fs = t.ab.fs := by rw [hs, Ab.step_fs]; exact h4
      have s3 : s'.ab.mo = m := by
        rw [hs]
        unfold Ab.step
        split <;> (try split) <;> exact hm
      exact .inr (.inr ⟨rfl, hl, rfl, rfl, ⟨s3, t3, t1, t2, .inl s1⟩, s1, s2⟩)
    · have hf : s.ab.fails = false := by unfold Ab.fails; rw [show s.ab.bd = true from h2, show s.ab.lf = l from h3]; simp; exact hl
      have hst : s.ab.step = { s.ab with lf := l - 1 } := by
        unfold Ab.step
        rw [if_pos (show s.ab.bd = true from h2), if_neg (by rw [show s.ab.lf = l from h3]; exact hl), show s.ab.lf = l from h3]
      rw [hf, if_neg (by simp), hst] at hs ⊢
      have s1 : s'.ab.fl = false := by rw [hs]; exact h1
      have s2 : s'.ab.bd = true := by rw [hs]; exact h2
      have s3 : s'.ab.mo = m := by rw [hs]; exact hm
      have s4 : s'.ab.lf = l - 1 := by rw [hs]
      have s5 : s'.ab.fs = fs := by rw [hs]
      exact .inr (.inl ⟨rfl, by omega, rfl, rfl, ⟨s3, t3, t1, t2, .inr ⟨s1, s2, s4, by rw [s5, t4]⟩⟩, s1, by rw [s5, t4]⟩)
  · rw [hits_not _ _ h0] at hs ht ⊢
    rw [hits_not _ _ h0]
    have s1 : s'.ab.fl = false := by rw [hs]; exact h1
    have s2 : s'.ab.bd = true := by rw [hs]; exact h2
    have s3 : s'.ab.mo = m := by rw [hs]; exact hm
    have s4 : s'.ab.lf = l := by rw [hs]; exact h3
    have t1 : t'.ab.fl = false := by rw [ht]; exact hf2
    have t2 : t'.ab.bd = false := by rw [ht]; exact hb2
    have t3 : t'.ab.mo = m := by rw [ht]; exact hm2
    have st : s'.ab.fs = t'.ab.fs := by rw [hs, ht]; exact h4
    exact .inl ⟨h0, rfl, rfl, ⟨s3, t3, t1, t2, .inr ⟨s1, s2, s4, st⟩⟩, s1, st⟩
end Go.Proofs.Ytpffgkflebbejaa

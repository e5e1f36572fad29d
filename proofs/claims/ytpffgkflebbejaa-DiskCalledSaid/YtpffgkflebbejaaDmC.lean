/-
  A disk whose power is bound to nothing: what the calls come to; a list of calls in memory. No statement of the seat is proved here.
-/
import Derived.Test.YtpffgkflebbejaaDmB
namespace Go.Proofs.Ytpffgkflebbejaa
open Go.RowKit Go.Maps

/-- Power that is there and bound to nothing, room for m bytes, at most k files. -/
def Calm (s : Ab) (m k : Nat) : Prop := s.fl = false ∧ s.bd = false ∧ s.lf = 0 ∧ s.mo = m ∧ s.fs.length ≤ k
set_option maxRecDepth 100000 in
theorem alen_ins (f : Af) : ∀ fs : List Af, (ains f fs).length = fs.length + 1
  | [] => rfl
  | g :: r => by
    unfold ains
    split
    · rfl
    · simp [alen_ins f r]
set_option maxRecDepth 100000 in
theorem alen_del (nm : List UInt8) (fs : List Af) : (adel nm fs).length ≤ fs.length := List.length_filter_le _ _
set_option maxRecDepth 100000 in
theorem alen_put (f : Af) (fs : List Af) : (aput f fs).length ≤ fs.length + 1 := by
  unfold aput
  rw [alen_ins]
  have := alen_del f.nm fs
  omega
section
variable {s : Ab} {m k : Nat}
set_option maxRecDepth 100000 in
theorem Calm.fails (h : Calm s m k) : s.fails = false := by unfold Ab.fails; rw [h.2.1]; rfl
set_option maxRecDepth 100000 in
theorem Calm.step (h : Calm s m k) : s.step = s := by unfold Ab.step; rw [h.2.1]; rfl
set_option maxRecDepth 100000 in
theorem Calm.more (h : Calm s m k) : Calm s m (k + 1) := ⟨h.1, h.2.1, h.2.2.1, h.2.2.2.1, by have := h.2.2.2.2; omega⟩
set_option maxRecDepth 100000 in
theorem Calm.with (h : Calm s m k) (fs : List Af) (hl : fs.length ≤ k + 1) : Calm { s.step with fs := fs } m (k + 1) := by
  rw [h.step]
  exact ⟨h.1, h.2.1, h.2.2.1, h.2.2.2.1, hl⟩
set_option maxRecDepth 100000 in
theorem calm_append (h : Calm s m k) (nm l : List UInt8) (hk : k < 200) :
    Calm (s.append nm l).2 m (k + 1) ∧ ((isNm nm = false ∧ (s.append nm l).1 = 13) ∨ (isNm nm = true ∧ m < aused s.fs + l.length ∧ (s.append nm l).1 = 5) ∨ (isNm nm = true ∧ aused s.fs + l.length ≤ m ∧ (s.append nm l).1 = 0)) := by
  cases hn : isNm nm with
  | false =>
    have e : s.append nm l = (13, s) := by unfold Ab.append; rw [h.1, hn]; simp
    rw [e]
    exact ⟨h.more, .inl ⟨rfl, rfl⟩⟩
  | true =>
    have h5 := h.2.2.2.2
    by_cases hf : aused s.fs + l.length ≤ m
    · have hft : s.fits nm l.length = true := by
        unfold Ab.fits
        rw [h.2.2.2.1]
        simp only [Bool.and_eq_true, Bool.or_eq_true, decide_eq_true_eq]
        exact ⟨hf, .inr (by omega)⟩
      have e : s.append nm l = (0, { s.step with fs := aput ⟨nm, (aold nm s.fs).bs ++ l, (aold nm s.fs).fm⟩ s.fs }) := by
        unfold Ab.append; rw [h.1, hn, hft, h.fails]; simp
      rw [e]
      exact ⟨h.with _ (Nat.le_trans (alen_put _ _) (by omega)), .inr (.inr ⟨rfl, hf, rfl⟩)⟩
    · have hft : s.fits nm l.length = false := by
        unfold Ab.fits
        rw [h.2.2.2.1]
        simp only [Bool.and_eq_false_iff, decide_eq_false_iff_not]
        exact .inl hf
      have e : s.append nm l = (5, s) := by unfold Ab.append; rw [h.1, hn, hft]; simp
      rw [e]
      exact ⟨h.more, .inr (.inl ⟨rfl, by omega, rfl⟩)⟩
set_option maxRecDepth 100000 in
theorem calm_err (h : Calm s m k) (nm : List UInt8) : s.err nm = 0 ∨ s.err nm = 13 := by
  unfold Ab.err
  rw [h.1]
  cases afnd nm s.fs <;> simp
set_option maxRecDepth 100000 in
theorem calm_does (h : Calm s m k) (c : Cl) (hk : k < 200) : Calm (s.does c).2 m (k + 1) ∧ (1 < c.wh → (s.does c).1 ≠ 5) := by
  have h5 := h.2.2.2.2
  unfold Ab.does
  split
  · rename_i q
    exact ⟨(calm_append h _ _ hk).1, fun h => by omega⟩
  split
  · unfold Ab.sync
    split
    · rename_i q
      refine ⟨h.more, fun _ => ?_⟩
      rcases calm_err h c.nm.data.toList with e | e <;> rw [e] <;> simp
    · rw [h.fails]
      exact ⟨h.with _ (Nat.le_trans (alen_put _ _) (by omega)), fun _ => by simp⟩
  split
  · unfold Ab.rename
    split
    · refine ⟨h.more, fun _ => ?_⟩
      rcases calm_err h c.nm.data.toList with e | e <;> rw [e] <;> simp
    split
    · exact ⟨h.more, fun _ => by simp⟩
    · rw [h.fails]
      refine ⟨h.with _ (Nat.le_trans (alen_put _ _) ?_), fun _ => by simp⟩
      have := alen_del c.nm.data.toList s.fs
      omega
  split
  · unfold Ab.remove
    split
    · refine ⟨h.more, fun _ => ?_⟩
      rcases calm_err h c.nm.data.toList with e | e <;> rw [e] <;> simp
    · rw [h.fails]
      refine ⟨h.with _ ?_, fun _ => by simp⟩
      have := alen_del c.nm.data.toList s.fs
      omega
  split
  · unfold Ab.cut
    split
    · refine ⟨h.more, fun _ => ?_⟩
      rcases calm_err h c.nm.data.toList with e | e <;> rw [e] <;> simp
    split
    · exact ⟨h.more, fun _ => by simp⟩
    · rw [h.fails]
      exact ⟨h.with _ (Nat.le_trans (alen_put _ _) (by omega)), fun _ => by simp⟩
  · exact ⟨h.more, fun _ => by simp⟩
end
/-- What six cells say of a call. -/
def ClAt (W : World) (a : Addr) (x : Cl) : Prop :=
  W.cell? a = some (.int .u8 (x.wh : Int)) ∧ W.cell? (a.add 1) = some (.string x.nm) ∧ W.cell? (a.add 2) = some (.string x.to) ∧ W.cell? (a.add 3) = some (.slice x.B.A x.B.n x.B.c) ∧
    W.cell? (a.add 4) = some (.int .i64 x.n) ∧ W.cell? (a.add 5) = some (.slice x.K x.kn x.kc) ∧ x.wh < 256 ∧ x.nm.size ≤ maxLen ∧ x.to.size ≤ maxLen ∧ Rd W W.heap.size x.B.A x.B.n x.B.l
set_option maxRecDepth 100000 in
theorem ClAt.below {W W' : World} {B : Nat} {b o : Nat} {x : Cl} (h : ClAt W ⟨b, o, none⟩ x) (hB : W.heap.size = B) (hb : b < B) (hw : Below B W W') : ClAt W' ⟨b, o, none⟩ x := by
  obtain ⟨h0, h1, h2, h3, h4, h5, h6, h7, h8, h9⟩ := h
  have hc : ∀ k, W'.cell? ((⟨b, o, none⟩ : Addr).add k) = W.cell? ((⟨b, o, none⟩ : Addr).add k) := fun k => by
    rw [Addr.add_lit]
    exact hw.cell (p := ⟨b, o + k, none⟩) hb
  exact ⟨(hw.cell (p := ⟨b, o, none⟩) hb).trans h0, (hc 1).trans h1, (hc 2).trans h2, (hc 3).trans h3, (hc 4).trans h4, (hc 5).trans h5, h6, h7, h8, ((h9.more (Nat.le_of_eq hB)).below hw).more (by rw [← hB]; exact hw.size)⟩
end Go.Proofs.Ytpffgkflebbejaa

/-
  Lives of a disk: mathematics, and a shot that is kept beside a disk. No statement of the seat is proved here.
-/
import Derived.Test.YtpffgkflebbejaaDmB
import Derived.Test.YtpffgkflebbejaaDmV
namespace Go.Proofs.Ytpffgkflebbejaa
open Go.RowKit Go.Maps

set_option maxRecDepth 100000 in
theorem Ab.step_fs (s : Ab) : s.step.fs = s.fs := by
  unfold Ab.step
  split <;> (try split) <;> rfl
set_option maxRecDepth 100000 in
theorem Ab.step_fl (s : Ab) : s.step.fl = (s.fl || s.fails) := by
  unfold Ab.step Ab.fails
  cases hb : s.bd with
  | false => simp
  | true =>
    by_cases hl : s.lf = 0
    · simp [hl]
    · simp [hl]
/-- A call that takes a step tells ErrDown just when the power is gone behind it; and then nothing was done. -/
def Fel (s : Ab) (r : Int × Ab) : Prop := r.2.fl = decide (r.1 = 15) ∧ (r.2.fl = true → r.2.fs = s.fs)
set_option maxRecDepth 100000 in
theorem Fel.stay {s : Ab} (h : s.fl = false) (c : Int) (hc : c ≠ 15) : Fel s (c, s) := ⟨by show s.fl = decide (c = 15); rw [h]; simp [hc], fun _ => rfl⟩
set_option maxRecDepth 100000 in
theorem Fel.down {s : Ab} (hx : s.fails = true) : Fel s (15, s.step) := ⟨by show s.step.fl = _; rw [s.step_fl, hx]; simp, fun _ => s.step_fs⟩
set_option maxRecDepth 100000 in
theorem Fel.done {s : Ab} (h : s.fl = false) (hx : s.fails = false) (fs : List Af) : Fel s (0, { s.step with fs := fs }) :=
  ⟨by show s.step.fl = _; rw [s.step_fl, hx, h]; rfl, fun e => by have e2 : s.step.fl = true := e; rw [s.step_fl, hx, h] at e2; cases e2⟩
set_option maxRecDepth 100000 in
theorem err_not {s : Ab} (h : s.fl = false) (nm : List UInt8) : s.err nm ≠ 15 := by
  unfold Ab.err
  rw [h]
  cases afnd nm s.fs <;> simp
set_option maxRecDepth 100000 in
theorem does_fel (s : Ab) (c : Cl) (h : s.fl = false) : Fel s (s.does c) := by
  have e : ∀ nm, s.err nm ≠ 15 := err_not h
  cases hx : s.fails with
  | false =>
    unfold Ab.does
    split
    · unfold Ab.append
      rw [if_neg (by rw [h]; simp)]
      split
      · exact Fel.stay h 13 (by decide)
      split
      · exact Fel.stay h 5 (by decide)
      rw [if_neg (by rw [hx]; simp)]
      exact Fel.done h hx _
    split
    · unfold Ab.sync
      split
      · exact Fel.stay h _ (e _)
      rw [if_neg (by rw [hx]; simp)]
      exact Fel.done h hx _
    split
    · unfold Ab.rename
      split
      · exact Fel.stay h _ (e _)
      split
      · exact Fel.stay h 13 (by decide)
      rw [if_neg (by rw [hx]; simp)]
      exact Fel.done h hx _
    split
    · unfold Ab.remove
      split
      · exact Fel.stay h _ (e _)
      rw [if_neg (by rw [hx]; simp)]
      exact Fel.done h hx _
    split
    · unfold Ab.cut
      split
      · exact Fel.stay h _ (e _)
      split
      · exact Fel.stay h 2 (by decide)
      rw [if_neg (by rw [hx]; simp)]
      exact Fel.done h hx _
    · exact Fel.stay h 2 (by decide)
  | true =>
    unfold Ab.does
    split
    · unfold Ab.append
      rw [if_neg (by rw [h]; simp)]
      split
      · exact Fel.stay h 13 (by decide)
      split
      · exact Fel.stay h 5 (by decide)
      exact Fel.down hx
    split
    · unfold Ab.sync
      split
      · exact Fel.stay h _ (e _)
      exact Fel.down hx
    split
    · unfold Ab.rename
      split
      · exact Fel.stay h _ (e _)
      split
      · exact Fel.stay h 13 (by decide)
      exact Fel.down hx
    split
    · unfold Ab.remove
      split
      · exact Fel.stay h _ (e _)
      exact Fel.down hx
    split
    · unfold Ab.cut
      split
      · exact Fel.stay h _ (e _)
      split
      · exact Fel.stay h 2 (by decide)
      exact Fel.down hx
    · exact Fel.stay h 2 (by decide)

set_option maxRecDepth 100000 in
/-- What a crash leaves, as lists. -/
theorem crr_lists {ks : List Int} {fs0 fs : List Fl} (h : CrR ks fs0 fs0.length fs) :
    fs.map (·.nm) = fs0.map (·.nm) ∧ fs.map (·.bs) = keptB ks (fs0.map (·.bs)) (fs0.map (·.fm)) fs0.length ∧ fs.map (·.fm) = keptE ks (fs0.map (·.bs)) (fs0.map (·.fm)) fs0.length := by
  have hl := h.1
  have hq : ∀ j (f : Fl), fs0[j]? = some f → kqAt ks (fs0.map (·.bs)) (fs0.map (·.fm)) j = kp f (kAt ks j) := fun j f hf => by
    unfold kqAt kq kp
    rw [List.getD_eq_getElem?_getD, List.getD_eq_getElem?_getD, List.getElem?_map, List.getElem?_map, hf]
    rfl
  refine ⟨?_, ?_, ?_⟩
  · apply List.ext_getElem?
    intro j
    rw [List.getElem?_map, List.getElem?_map]
    cases hf : fs0[j]? with
    | none => rw [List.getElem?_eq_none (by rw [hl]; exact List.getElem?_eq_none_iff.1 hf)]
    | some f =>
      obtain ⟨g, hg, hn, _⟩ := h.2 j f hf
      rw [hg]
      simp [hn]
  · apply List.ext_getElem?
    intro j
    unfold keptB
    rw [List.getElem?_map, List.getElem?_map]
    cases hf : fs0[j]? with
    | none =>
      have := List.getElem?_eq_none_iff.1 hf
      rw [List.getElem?_eq_none (by rw [hl]; exact this), List.getElem?_eq_none (by rw [List.length_range]; exact this)]
      rfl
    | some f =>
      have hj := (List.getElem?_eq_some_iff.1 hf).1
      obtain ⟨g, hg, hn, hb, _⟩ := h.2 j f hf
      rw [hg, List.getElem?_range hj]
      show some g.bs = some ((((fs0.map (·.bs)).getD j []).take (kqAt ks (fs0.map (·.bs)) (fs0.map (·.fm)) j)))
      rw [(hb hj).1, hq j f hf, List.getD_eq_getElem?_getD, List.getElem?_map, hf]
      rfl
  · apply List.ext_getElem?
    intro j
    unfold keptE
    rw [List.getElem?_map, List.getElem?_map]
    cases hf : fs0[j]? with
    | none =>
      have := List.getElem?_eq_none_iff.1 hf
      rw [List.getElem?_eq_none (by rw [hl]; exact this), List.getElem?_eq_none (by rw [List.length_range]; exact this)]
      rfl
    | some f =>
      have hj := (List.getElem?_eq_some_iff.1 hf).1
      obtain ⟨g, hg, hn, hb, _⟩ := h.2 j f hf
      rw [hg, List.getElem?_range hj]
      show some g.fm = some (kqAt ks (fs0.map (·.bs)) (fs0.map (·.fm)) j)
      rw [(hb hj).2, hq j f hf]

/-- A shot of L in the cells of Z, none of its blocks the disk's. -/
structure Wa (w : World) (D M Z : Nat) (fs : List Fl) (v1 v2 v3 : Value) (L : List Af) : Prop where
  blk : w.heap[Z]? = some (.cells #[v1, v2, v3] 33 (0, 0))
  off : ¬ foot D M fs Z
  sho : Sho 0 0 w v1 v2 v3 L.length (L.map (·.nm)) (L.map (·.bs)) (L.map (·.fm))
  far : ∀ k, (v1.ownBlock = some k ∨ v2.ownBlock = some k ∨ v3.ownBlock = some k) → ¬ foot D M fs k
section
variable {w w' : World} {D M Z : Nat} {s s' : St} {v1 v2 v3 : Value} {L : List Af}
set_option maxRecDepth 100000 in
theorem Wa.next (h : Wa w D M Z s.fs v1 v2 v3 L) (hN : Nx D M w s w' s') : Wa w' D M Z s'.fs v1 v2 v3 L := by
  have hk : ∀ k, k < w.heap.size → ¬ foot D M s.fs k → ¬ foot D M s'.fs k := fun k hk hf hf' => by
    rcases hN.2.2 k hf' with e | e
    · exact hf e
    · omega
  have hz := (Array.getElem?_eq_some_iff.1 h.blk).1
  have g1 : ∀ k, v1.ownBlock = some k → k < w.heap.size := fun k e => (h.sho.o1.lt k e).2
  have g2 : ∀ k, v2.ownBlock = some k → k < w.heap.size := fun k e => (h.sho.o2.lt k e).2
  have g3 : ∀ k, v3.ownBlock = some k → k < w.heap.size := fun k e => (h.sho.o3.lt k e).2
  refine ⟨(hN.2.1.block Z hz h.off).trans h.blk, hk Z hz h.off, ⟨?_, ?_, ?_⟩, fun k e => ?_⟩
  · exact own_keep h.sho.o1 (fun k e => hN.2.1.block k (g1 k e) (h.far k (.inl e)))
  · exact own_keep h.sho.o2 (fun k e => hN.2.1.block k (g2 k e) (h.far k (.inr (.inl e))))
  · exact own_keep h.sho.o3 (fun k e => hN.2.1.block k (g3 k e) (h.far k (.inr (.inr e))))
  · refine hk k ?_ (h.far k e)
    rcases e with e | e | e
    · exact g1 k e
    · exact g2 k e
    · exact g3 k e
set_option maxRecDepth 100000 in
theorem Wa.no (h : Wa w D M Z s.fs v1 v2 v3 L) (hd : Dsk w D M s) (hf : Fr No w w') : Wa w' D M Z s.fs v1 v2 v3 L := h.next (Nx.no hd hf)
set_option maxRecDepth 100000 in
theorem Nx.set {w0 : World} {s0 : St} (h : Nx D M w0 s0 w s) (hf : Fr (fun k => k = Z) w w') (hz : w0.heap.size ≤ Z) (hoff : ¬ foot D M s.fs Z) : Nx D M w0 s0 w' s :=
  ⟨h.1.keep hf (fun k hk e => hoff (e ▸ hk)), h.2.1.trans hf (fun i hi e => by omega), h.2.2⟩
set_option maxRecDepth 100000 in
theorem Wa.take {w1 w2 : World} (hD : Dsk w D M s) (hS : Sho w.heap.size w.heap.size w1 v1 v2 v3 s.fs.length (s.fs.map (·.nm)) (s.fs.map (·.bs)) (s.fs.map (·.fm))) (hf2 : Fr (fun k => k = Z) w1 w2)
    (hz : w2.heap[Z]? = some (.cells #[v1, v2, v3] 33 (0, 0))) (hoff : ¬ foot D M s.fs Z) (hne : w1.heap.size ≤ Z ∨ ∃ cs fr, w1.heap[Z]? = some (.cells cs 33 fr)) : Wa w2 D M Z s.fs v1 v2 v3 s.ab.fs := by
  have e1 : s.ab.fs.map (·.nm) = s.fs.map (·.nm) := by show (s.fs.map Fl.ab).map _ = _; rw [List.map_map]; rfl
  have e2 : s.ab.fs.map (·.bs) = s.fs.map (·.bs) := by show (s.fs.map Fl.ab).map _ = _; rw [List.map_map]; rfl
  have e3 : s.ab.fs.map (·.fm) = s.fs.map (·.fm) := by show (s.fs.map Fl.ab).map _ = _; rw [List.map_map]; rfl
  have e4 : s.ab.fs.length = s.fs.length := by show (s.fs.map Fl.ab).length = _; simp
  have hkz : ∀ {base n size e v xs}, w1.ownsRow base e size v n xs → 33 ≠ e → ∀ k, v.ownBlock = some k → k ≠ Z := fun h he k hk => by
    rcases hne with hq | ⟨cs, fr, hq⟩
    · have := (h.lt k hk).2
      omega
    · exact own_ne h hq he k hk
  have h1 := hkz hS.o1 (by decide)
  have h2 := hkz hS.o2 (by decide)
  have h3 := hkz hS.o3 (by decide)
  refine ⟨hz, hoff, ⟨?_, ?_, ?_⟩, fun k e hk => ?_⟩
  · rw [e1, e4]
    exact own_keep (own_base hS.o1 (Nat.zero_le _)) (fun k hk => hf2.block k (hS.o1.lt k hk).2 (h1 k hk))
  · rw [e2, e4]
    exact own_keep (own_base hS.o2 (Nat.zero_le _)) (fun k hk => hf2.block k (hS.o2.lt k hk).2 (h2 k hk))
  · rw [e3, e4]
    exact own_keep (own_base hS.o3 (Nat.zero_le _)) (fun k hk => hf2.block k (hS.o3.lt k hk).2 (h3 k hk))
  · have hlt := hD.foot_lt hk
    rcases e with e | e | e
    · have := (hS.o1.lt k e).1
      omega
    · have := (hS.o2.lt k e).1
      omega
    · have := (hS.o3.lt k e).1
      omega
end
end Go.Proofs.Ytpffgkflebbejaa

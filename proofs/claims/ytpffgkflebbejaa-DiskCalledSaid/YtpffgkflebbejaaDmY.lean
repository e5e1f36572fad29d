/-
  Two disks beside each other; what a call aims at. No statement of the seat is proved here.
-/
import Derived.Test.YtpffgkflebbejaaDmW
namespace Go.Proofs.Ytpffgkflebbejaa
open Go.RowKit Go.Maps

/-- What a call aims at, on a disk whose power is there: its error, or 0 and the files behind it. -/
def aim (mo : Nat) (fs : List Af) (c : Cl) : Int × List Af :=
  if c.wh ≤ 1 then
    if isNm c.nm.data.toList = false then (13, fs) else if (decide (aused fs + c.B.l.length ≤ mo) && ((afnd c.nm.data.toList fs).isSome || decide (fs.length < 200))) = false then (5, fs)
    else (0, aput ⟨c.nm.data.toList, (aold c.nm.data.toList fs).bs ++ c.B.l, (aold c.nm.data.toList fs).fm⟩ fs)
  else if c.wh = 2 then
    if (afnd c.nm.data.toList fs).isNone then (13, fs) else (0, aput ⟨c.nm.data.toList, (aold c.nm.data.toList fs).bs, (aold c.nm.data.toList fs).bs.length⟩ fs)
  else if c.wh = 3 then
    if (afnd c.nm.data.toList fs).isNone then (13, fs) else if isNm c.to.data.toList = false then (13, fs)
    else (0, aput ⟨c.to.data.toList, (aold c.nm.data.toList fs).bs, (aold c.nm.data.toList fs).fm⟩ (adel c.nm.data.toList fs))
  else if c.wh = 4 then
    if (afnd c.nm.data.toList fs).isNone then (13, fs) else (0, adel c.nm.data.toList fs)
  else if c.wh = 5 then
    if (afnd c.nm.data.toList fs).isNone then (13, fs) else if c.n < 0 ∨ ((aold c.nm.data.toList fs).bs.length : Int) < c.n then (2, fs)
    else (0, aput ⟨c.nm.data.toList, (aold c.nm.data.toList fs).bs.take c.n.toNat, c.n.toNat⟩ fs)
  else (2, fs)
/-- What a call does that aims at this. -/
def Ab.hits (s : Ab) (r : Int × List Af) : Int × Ab := if r.1 ≠ 0 then (r.1, s) else if s.fails then (15, s.step) else (0, { s.step with fs := r.2 })
set_option maxRecDepth 100000 in
theorem err_none {s : Ab} (h : s.fl = false) (nm : List UInt8) : s.err nm = if (afnd nm s.fs).isNone then 13 else 0 := by
  unfold Ab.err
  rw [h]
  cases afnd nm s.fs <;> simp
set_option maxRecDepth 100000 in
theorem hits_not (s : Ab) (c : Int) (hc : c ≠ 0) (fs : List Af) : s.hits (c, fs) = (c, s) := by
  unfold Ab.hits
  rw [if_pos hc]
set_option maxRecDepth 100000 in
theorem hits_ok (s : Ab) (fs : List Af) : s.hits (0, fs) = if s.fails then (15, s.step) else (0, { s.step with fs := fs }) := by
  unfold Ab.hits
  rw [if_neg (by simp)]
set_option maxRecDepth 100000 in
theorem does_aim (s : Ab) (c : Cl) (h : s.fl = false) : s.does c = s.hits (aim s.mo s.fs c) := by
  unfold Ab.does aim
  by_cases h1 : c.wh ≤ 1
  · rw [if_pos h1, if_pos h1]
    unfold Ab.append
    rw [if_neg (by rw [h]; simp)]
    by_cases h2 : isNm c.nm.data.toList = false
    · rw [if_pos h2, if_pos h2, hits_not _ _ (by decide)]
    · rw [if_neg h2, if_neg h2]
      unfold Ab.fits
      by_cases h3 : (decide (aused s.fs + c.B.l.length ≤ s.mo) && ((afnd c.nm.data.toList s.fs).isSome || decide (s.fs.length < 200))) = false
      · rw [if_pos h3, if_pos h3, hits_not _ _ (by decide)]
      · rw [if_neg h3, if_neg h3, hits_ok]
  rw [if_neg h1, if_neg h1]
  by_cases h2 : c.wh = 2
  · rw [if_pos h2, if_pos h2]
    unfold Ab.sync
    rw [err_none h]
    by_cases h3 : (afnd c.nm.data.toList s.fs).isNone
    · rw [if_pos h3, if_pos h3, hits_not _ _ (by decide), if_pos (by decide)]
    · rw [if_neg h3, if_neg h3, hits_ok, if_neg (by decide)]
  rw [if_neg h2, if_neg h2]
  by_cases h4 : c.wh = 3
  · rw [if_pos h4, if_pos h4]
    unfold Ab.rename
    rw [err_none h]
    by_cases h3 : (afnd c.nm.data.toList s.fs).isNone
    · rw [if_pos h3, if_pos h3, hits_not _ _ (by decide), if_pos (by decide)]
    · rw [if_neg h3, if_neg h3, if_neg (by decide)]
      by_cases h5 : isNm c.to.data.toList = false
      · rw [if_pos h5, if_pos h5, hits_not _ _ (by decide)]
      · rw [if_neg h5, if_neg h5, hits_ok]
  rw [if_neg h4, if_neg h4]
  by_cases h5 : c.wh = 4
  · rw [if_pos h5, if_pos h5]
    unfold Ab.remove
    rw [err_none h]
    by_cases h3 : (afnd c.nm.data.toList s.fs).isNone
    · rw [if_pos h3, if_pos h3, hits_not _ _ (by decide), if_pos (by decide)]
    · rw [if_neg h3, if_neg h3, hits_ok, if_neg (by decide)]
  rw [if_neg h5, if_neg h5]
  by_cases h6 : c.wh = 5
  · rw [if_pos h6, if_pos h6]
    unfold Ab.cut
    rw [err_none h]
    by_cases h3 : (afnd c.nm.data.toList s.fs).isNone
    · rw [if_pos h3, if_pos h3, hits_not _ _ (by decide), if_pos (by decide)]
    · rw [if_neg h3, if_neg h3, if_neg (by decide)]
      by_cases h7 : c.n < 0 ∨ ((aold c.nm.data.toList s.fs).bs.length : Int) < c.n
      · rw [if_pos h7, if_pos h7, hits_not _ _ (by decide)]
      · rw [if_neg h7, if_neg h7, hits_ok]
  rw [if_neg h6, if_neg h6, hits_not _ _ (by decide)]
set_option maxRecDepth 100000 in
/-- Where the power is gone, all that takes a step tells so. -/
theorem does_down (s : Ab) (c : Cl) (h : s.fl = true) (hw : c.wh ≤ 5) : s.does c = (15, s) := by
  have he : ∀ nm, s.err nm = 15 := fun nm => by unfold Ab.err; rw [h]; rfl
  unfold Ab.does
  split
  · unfold Ab.append
    rw [if_pos h]
  split
  · unfold Ab.sync
    rw [he]
    rfl
  split
  · unfold Ab.rename
    rw [he]
    rfl
  split
  · unfold Ab.remove
    rw [he]
    rfl
  split
  · unfold Ab.cut
    rw [he]
    rfl
  · omega

/-- Two disks in a world, none of whose blocks is the other's; nothing older than B has turned. -/
structure Two (B : Nat) (w0 w : World) (D M D2 M2 : Nat) (s t : St) : Prop where
  a : Dsk w D M s
  b : Dsk w D2 M2 t
  ap : ∀ k, foot D M s.fs k → ¬ foot D2 M2 t.fs k
  fa : ∀ k, foot D M s.fs k → B ≤ k
  fb : ∀ k, foot D2 M2 t.fs k → B ≤ k
  bel : Below B w0 w
section
variable {B D M D2 M2 : Nat} {w0 w w' : World} {s s' t t' : St}
set_option maxRecDepth 100000 in
theorem Two.left (h : Two B w0 w D M D2 M2 s t) (hB : B ≤ w.heap.size) (hN : Nx D M w s w' s') : Two B w0 w' D M D2 M2 s' t := by
  refine ⟨hN.1, h.b.keep hN.2.1 (fun k hk hf => h.ap k hf hk), fun k hk hk2 => ?_, fun k hk => ?_, h.fb, h.bel.trans (hN.2.1.below hB h.fa)⟩
  · rcases hN.2.2 k hk with e | e
    · exact h.ap k e hk2
    · have := h.b.foot_lt hk2
      omega
  · rcases hN.2.2 k hk with e | e
    · exact h.fa k e
    · omega
set_option maxRecDepth 100000 in
theorem Two.swap (h : Two B w0 w D M D2 M2 s t) : Two B w0 w D2 M2 D M t s := ⟨h.b, h.a, fun k h2 h1 => h.ap k h1 h2, h.fb, h.fa, h.bel⟩
set_option maxRecDepth 100000 in
theorem Two.right (h : Two B w0 w D M D2 M2 s t) (hB : B ≤ w.heap.size) (hN : Nx D2 M2 w t w' t') : Two B w0 w' D M D2 M2 s t' := (h.swap.left hB hN).swap
set_option maxRecDepth 100000 in
theorem Two.no (h : Two B w0 w D M D2 M2 s t) (hB : B ≤ w.heap.size) (hf : Fr No w w') : Two B w0 w' D M D2 M2 s t := h.left hB (Nx.no h.a hf)
end
end Go.Proofs.Ytpffgkflebbejaa

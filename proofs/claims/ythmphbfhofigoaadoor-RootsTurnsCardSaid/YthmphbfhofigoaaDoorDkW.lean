/-
  A crash: the walk. No statement of the seat is proved here.
-/
import Derived.Test.YthmphbfhofigoaaDoorDkV
namespace Go.Proofs.YthmphbfhofigoaaDoor
open Go.RowKit Go.Maps Go.Sort

set_option maxRecDepth 100000 in
theorem crash_end {w1 wr w3 w4 : World} {D M : Nat} {s : St} {fs : List Fl} {ks : List Int} {i : Nat} (hN : Nx D M w1 s wr { s with fs := fs }) (hC : CrR ks s.fs i fs) {f g : Fl} (hf : s.fs[i]? = some f) (hg : fs[i]? = some g)
    (hgn : g.nm = f.nm) (hgb : g.bs = f.bs) (hgm : g.fm = f.fm) {A3 : Option Addr} {c3 : Nat} (h3 : Fr No wr w3) (h4 : Fr (fun k => k = M) w3 w4)
    (hrow : w3.ownsRow 0 5 1 (.slice A3 (kp g (kAt ks i)) c3) (kp g (kAt ks i)) (bvs (g.bs.take (kp g (kAt ks i)))))
    (hat : (Value.slice A3 (kp g (kAt ks i)) c3 = g.row) ∨ ∀ k, (Value.slice A3 (kp g (kAt ks i)) c3).ownBlock = some k → wr.heap.size ≤ k)
    (hm : w4.ownsMap Tryd.prog 9 flR M (put ⟨g.nm, A3, c3, g.bs.take (kp g (kAt ks i)), kp g (kAt ks i)⟩ fs).length (dat (put ⟨g.nm, A3, c3, g.bs.take (kp g (kAt ks i)), kp g (kAt ks i)⟩ fs))) :
    ∃ fs', CrR ks s.fs (i + 1) fs' ∧ Nx D M w1 s w4 { s with fs := fs' } := by
  have hmem : g ∈ fs := List.mem_of_getElem? hg
  have hle : kp g (kAt ks i) ≤ g.bs.length := by
    have := hN.1.firm g hmem
    unfold kp
    omega
  have hn := stored_first hN.1 g hmem _ hle A3 c3 h3 h4 hrow hat hm
  have hkp : kp g (kAt ks i) = kp f (kAt ks i) := by unfold kp; rw [hgb, hgm]
  have hris : fs.Pairwise (fun a b => bytesBefore a.nm b.nm = true) := hN.1.rising
  refine ⟨_, ?_, hN.trans hn⟩
  show CrR ks s.fs (i + 1) (put ⟨g.nm, A3, c3, g.bs.take (kp g (kAt ks i)), kp g (kAt ks i)⟩ fs)
  rw [put_set (g := ⟨g.nm, A3, c3, g.bs.take (kp g (kAt ks i)), kp g (kAt ks i)⟩) hris hg rfl]
  refine hC.step hf hgn ?_ hkp
  show g.bs.take _ = _
  rw [hkp, hgb]
end Go.Proofs.YthmphbfhofigoaaDoor

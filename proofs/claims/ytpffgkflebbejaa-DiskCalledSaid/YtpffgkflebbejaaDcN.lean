/-
  DiskCalled: a map of the law's own beside a disk. No statement of the seat is proved here.
-/
import Derived.Test.YtpffgkflebbejaaDcM
import Derived.Maps.OwnOps
namespace Go.Proofs.Ytpffgkflebbejaa
open Go.RowKit Go.Maps

/-- How a number of the map reads. -/
def inR : Value → Option (DataW Value × List MemPlace)
  | .int .i64 a => some (.lit (.int .i64 a), [])
  | _ => none
theorem inR_inv {v : Value} {y : DataW Value × List MemPlace} (h : inR v = some y) : ∃ c : Int, v = .int .i64 c ∧ y = (.lit (.int .i64 c), []) := by
  unfold inR at h
  split at h
  · injection h with h
    exact ⟨_, rfl, h.symm⟩
  · cases h
set_option maxRecDepth 100000 in
theorem own_sizeI {w : World} {X n : Nat} {fs : List Af} (hm : w.ownsMap Try.prog 9 inR X n (datI fs)) : w.ownsMap Try.prog 9 inR X fs.length (datI fs) := by
  obtain ⟨es, clock, hb, F, hs, hD⟩ := hm
  refine ⟨es, clock, hb, F, ?_, hD⟩
  have e := congrArg Maps.size hD
  rw [datI_size] at e
  have e2 : Maps.size (DataW.map ((es.toList.map (WideElems.rg Try.prog 9 inR)).foldr DataW.insert [])) = es.size := by simp [Maps.size, length_sorted]
  omega
/-- A disk, and beside it the law's own map: which file each name is of. -/
structure Amp (B : Nat) (w0 w : World) (D M X : Nat) (s : St) (fs ms : List Af) : Prop where
  d : Dsk w D M s
  m : w.ownsMap Try.prog 9 inR X ms.length (datI ms)
  off : ¬ foot D M s.fs X
  fd : ∀ k, foot D M s.fs k → B ≤ k
  fx : B ≤ X
  ab : s.ab = Hun fs
  bel : Below B w0 w
section
variable {B D M X : Nat} {w0 w w' : World} {s s' : St} {fs fs' ms ms' : List Af}
theorem map_keep {n : Nat} {D : DataW Value} (h : w.ownsMap Try.prog 9 inR X n D) (e : w'.heap[X]? = w.heap[X]?) : w'.ownsMap Try.prog 9 inR X n D := by
  obtain ⟨es, clock, hm, r⟩ := h
  exact ⟨es, clock, e.trans hm, r⟩
set_option maxRecDepth 100000 in
/-- A call upon the disk. -/
theorem Amp.call (h : Amp B w0 w D M X s fs ms) (hB : B ≤ w.heap.size) (hN : Nx D M w s w' s') (hab : s'.ab = Hun fs') : Amp B w0 w' D M X s' fs' ms := by
  have hX := h.m.lt
  refine ⟨hN.1, map_keep h.m (hN.2.1.block X hX h.off), fun hf => ?_, fun k hk => ?_, h.fx, hab, h.bel.trans (hN.2.1.below hB h.fd)⟩
  · rcases hN.2.2 X hf with e | e
    · exact h.off e
    · omega
  · rcases hN.2.2 k hk with e | e
    · exact h.fd k e
    · omega
set_option maxRecDepth 100000 in
theorem Amp.no (h : Amp B w0 w D M X s fs ms) (hB : B ≤ w.heap.size) (hf : Fr No w w') : Amp B w0 w' D M X s fs ms := h.call hB (Nx.no h.d hf) h.ab
set_option maxRecDepth 100000 in
/-- The map turned. -/
theorem Amp.turn (h : Amp B w0 w D M X s fs ms) (hB : B ≤ w.heap.size) {n : Nat} (hm : w'.ownsMap Try.prog 9 inR X n (datI ms')) (hf : Fr (fun k => k = X) w w') : Amp B w0 w' D M X s fs ms' :=
  ⟨h.d.keep hf (fun _ hk e => h.off (e ▸ hk)), own_sizeI hm, h.off, h.fd, h.fx, h.ab, h.bel.trans (hf.below hB (fun _ e => e ▸ h.fx))⟩
set_option maxRecDepth 100000 in
theorem Amp.size (h : Amp B w0 w D M X s fs ms) (hB : B = w0.heap.size) : B ≤ w.heap.size := by rw [hB]; exact h.bel.size
theorem Amp.len (h : Amp B w0 w D M X s fs ms) : s.fs.length = fs.length := by
  have e : s.ab.fs.length = fs.length := by rw [h.ab]; rfl
  have e2 : s.ab.fs.length = s.fs.length := by show (s.fs.map Fl.ab).length = _; simp
  omega
theorem Amp.up (h : Amp B w0 w D M X s fs ms) : s.fl = false := by
  have e : s.ab.fl = false := by rw [h.ab]; rfl
  exact e
set_option maxRecDepth 100000 in
theorem Amp.file (h : Amp B w0 w D M X s fs ms) {nm : List UInt8} {f : Af} (hf : afnd nm fs = some f) : ∃ g : Fl, fnd nm s.fs = some g ∧ g.bs = f.bs ∧ g.fm = f.fm := by
  have e : s.fs.map Fl.ab = fs := by
    have e : s.ab.fs = fs := by rw [h.ab]; rfl
    exact e
  rw [← e, fnd_ab] at hf
  cases hg : fnd nm s.fs with
  | none => rw [hg] at hf; cases hf
  | some g =>
    rw [hg] at hf
    injection hf with hf
    exact ⟨g, rfl, by rw [← hf]; rfl, by rw [← hf]; rfl⟩
end
section
variable {B D M X : Nat} {w0 w w' : World} {s s' : St} {fs ms : List Af}
set_option maxRecDepth 100000 in
/-- Another block of the law's own turned. -/
theorem Amp.other (h : Amp B w0 w D M X s fs ms) (hB : B ≤ w.heap.size) {I : Nat} (hf : Fr (fun k => k = I) w w') (hI : ¬ foot D M s.fs I) (hX : I ≠ X) (hBI : B ≤ I) : Amp B w0 w' D M X s fs ms :=
  ⟨h.d.keep hf (fun _ hk e => hI (e ▸ hk)), map_keep h.m (hf.block X h.m.lt (fun e => hX e.symm)), h.off, h.fd, h.fx, h.ab, h.bel.trans (hf.below hB (fun _ e => e ▸ hBI))⟩
set_option maxRecDepth 100000 in
/-- A block that is none of the disk's stays. -/
theorem hold {k : Nat} (hN : Nx D M w s w' s') (hk : k < w.heap.size) (h : ¬ foot D M s.fs k) : w'.heap[k]? = w.heap[k]? ∧ ¬ foot D M s'.fs k ∧ k < w'.heap.size := by
  refine ⟨hN.2.1.block k hk h, fun hf => ?_, Nat.lt_of_lt_of_le hk hN.2.1.size⟩
  rcases hN.2.2 k hf with e | e
  · exact h e
  · omega
theorem far (h : Dsk w D M s) {k : Nat} (hk : w.heap.size ≤ k) : ¬ foot D M s.fs k := fun hf => by
  have := h.foot_lt hf
  omega
end
/-- The three bytes of a file. -/
def b3 (i : Nat) : List UInt8 := [UInt8.ofNat i, UInt8.ofNat (10 * i), 7]
set_option maxRecDepth 100000 in
theorem rd3 {W : World} {G i : Nat} (hi : i < 6) {t : TypeId} {fr : Nat × Nat} (h : W.heap[G]? = some (.cells #[.int .u8 (i : Int), .int .u8 ((10 * i : Nat) : Int), .int .u8 7] t fr)) (o m : Nat) (hm : o + m ≤ 3) : Rd W W.heap.size (some ⟨G, o, none⟩) m (((b3 i).drop o).take m) := by
  have e1 : (UInt8.ofNat i).toNat = i := by rw [UInt8.toNat_ofNat']; omega
  have e2 : (UInt8.ofNat (10 * i)).toNat = 10 * i := by rw [UInt8.toNat_ofNat']; omega
  have hc : ∀ r, r < 3 → W.cell? ⟨G, r, none⟩ = some (.int .u8 (((b3 i).getD r 0).toNat : Int)) := fun r hr => by
    unfold World.cell?
    rw [h]
    have : r = 0 ∨ r = 1 ∨ r = 2 := by omega
    rcases this with rfl | rfl | rfl
    · show some (Value.int .u8 (i : Int)) = some (.int .u8 ((UInt8.ofNat i).toNat : Int))
      rw [e1]
    · show some (Value.int .u8 ((10 * i : Nat) : Int)) = some (.int .u8 ((UInt8.ofNat (10 * i)).toNat : Int))
      rw [e2]
    · rfl
  refine ⟨by simp [b3]; omega, fun hn => ⟨G, o, rfl, (Array.getElem?_eq_some_iff.1 h).1, fun j hj => ?_⟩⟩
  have hj2 : j < m := by simp [b3] at hj; omega
  rw [hc (o + j) (by omega)]
  rw [List.getElem_take, List.getElem_drop, List.getD_eq_getElem?_getD, List.getElem?_eq_getElem (by simp [b3]; omega)]
  rfl
set_option maxRecDepth 100000 in
/-- An entry that has come is a file. -/
theorem datI_came {fs : List Af} {x : List UInt8} {c : Int} {y : DataW Value × List MemPlace} (hv : inR (.int .i64 c) = some y) (hat : ∀ zd, (datI fs).atKey (.string x) zd = y.1) : ∃ f, afnd x fs = some f ∧ c = (f.hd : Int) := by
  obtain ⟨c', e1, rfl⟩ := inR_inv hv
  injection e1 with _ e1
  subst e1
  have h1 := hat .nil
  rw [datI_at] at h1
  cases hf : afnd x fs with
  | none => rw [hf] at h1; cases h1
  | some f =>
    rw [hf] at h1
    simp only [DataW.lit.injEq, Lit.int.injEq, true_and] at h1
    exact ⟨f, rfl, h1.symm⟩
section
variable {w : World} {X n : Nat} {fs : List Af} {ops : Array Oper} {rest : List Oper} {o : Oper} {a : Act} {Q : Exit → Act → World → Prop}
set_option maxRecDepth 100000 in
/-- 'k, there := at[s]'. -/
theorem wpList_lookI (hg : o.guard = none) (m x : Operand) (hop : o.op = Op.lookup 55 m x true) (hown : w.ownsMap Try.prog 9 inR X n (datI fs)) (nm : ByteArray) (hs : nm.size ≤ maxLen)
    (hm : a.eval m = .map (some X)) (hx : a.eval x = .string nm)
    (hK : wpList Try.prog ops Q rest (a.put o.dst (match afnd nm.data.toList fs with | some f => .tuple #[.int .i64 (f.hd : Int), .bool true] | none => .tuple #[.int .i64 0, .bool false])) w) : wpList Try.prog ops Q (o :: rest) a w := by
  refine wpList_lookup_own_ok w hg m x 55 hop 9 3 kS Try.underlying55 inR (Try.zeroValue3 w) (.lit (.int .i64 0)) [] rfl X n (datI fs) hm hown (.string nm) (.string nm.data.toList) hx (WideMaps.keyOf_string_mk Try.underlying9 hs) ?_
  intro v ps hv
  obtain ⟨c, rfl, hc⟩ := inR_inv hv
  rw [datI_at] at hc
  rw [datI_has]
  cases hf : afnd nm.data.toList fs with
  | none =>
    rw [hf] at hc hK
    have e : c = 0 := by injection hc with h1 h2; injection h1 with h1; injection h1 with h1 h3; exact h3.symm
    rw [e]
    exact hK
  | some f =>
    rw [hf] at hc hK
    have e : c = (f.hd : Int) := by injection hc with h1 h2; injection h1 with h1; injection h1 with h1 h3; exact h3.symm
    rw [e]
    exact hK
end
end Go.Proofs.Ytpffgkflebbejaa

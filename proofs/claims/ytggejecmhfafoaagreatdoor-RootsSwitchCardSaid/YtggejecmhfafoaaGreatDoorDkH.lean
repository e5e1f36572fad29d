/-
  What a disk is in a world: its block, its map, a row for each file; the files as a list, by rising names. No statement of the seat is proved here.
-/
import Derived.Test.YtggejecmhfafoaaGreatDoorDkG
import Derived.Maps.RangeWalk
import Derived.Maps.OwnSet
import Derived.Sort.KeysCollected
namespace Go.Proofs.YtggejecmhfafoaaGreatDoor
open Go.RowKit Go.Maps

/-- A file: its name, where its bytes lie, how much room is there, its bytes, how many are firm. -/
structure Fl where
  nm : List UInt8
  A : Option Addr
  c : Nat
  bs : List UInt8
  fm : Nat
def Fl.row (f : Fl) : Value := .slice f.A f.bs.length f.c
def Fl.val (f : Fl) : Value := .agg #[.slice f.A f.bs.length f.c, .int .i64 (f.fm : Int)]
def Fl.ent (f : Fl) : Lit × DataW Value := (.string f.nm, .held f.val)
/-- How a value of the map reads: as itself, if it looks like a file. -/
def flR : Value → Option (DataW Value × List MemPlace)
  | .agg cs => match cs.toList with
    | [.slice _ _ _, .int .i64 _] => some (.held (.agg cs), [])
    | _ => none
  | _ => none
theorem flR_inv {v : Value} {y : DataW Value × List MemPlace} (h : flR v = some y) : (∃ p : Option Addr × Nat × Nat × Int, v = .agg #[.slice p.1 p.2.1 p.2.2.1, .int .i64 p.2.2.2]) ∧ y = (.held v, []) := by
  cases v <;> try (cases h)
  rename_i cs
  simp only [flR] at h
  split at h
  · rename_i A n c x e
    cases h
    refine ⟨⟨(A, n, c, x), ?_⟩, rfl⟩
    congr 1
    apply Array.toList_inj.1
    rw [e]
  · cases h
theorem flR_val (f : Fl) : flR f.val = some (.held f.val, []) := rfl

/-! ### the files as a list -/
def fnd (nm : List UInt8) (fs : List Fl) : Option Fl := fs.find? fun f => f.nm == nm
def ins (f : Fl) : List Fl → List Fl
  | [] => [f]
  | g :: r => if bytesBefore f.nm g.nm then f :: g :: r else g :: ins f r
def del (nm : List UInt8) (fs : List Fl) : List Fl := fs.filter fun f => !(f.nm == nm)
def put (f : Fl) (fs : List Fl) : List Fl := ins f (del f.nm fs)
def used (fs : List Fl) : Nat := (fs.map fun f => f.bs.length).sum
def dat (fs : List Fl) : DataW Value := .map (fs.map Fl.ent)

theorem fnd_map (nm : List UInt8) (fs : List Fl) : (fs.map Fl.ent).find? (fun p => p.1.sameKey (.string nm)) = (fnd nm fs).map Fl.ent := by
  unfold fnd
  rw [List.find?_map]
  rfl
theorem dat_at (nm : List UInt8) (fs : List Fl) (z : DataW Value) : (dat fs).atKey (.string nm) z = match fnd nm fs with | some f => .held f.val | none => z := by
  simp only [dat, DataW.atKey]
  rw [fnd_map]
  cases fnd nm fs <;> rfl
theorem dat_has (nm : List UInt8) (fs : List Fl) : Maps.has (dat fs) (.string nm) = (fnd nm fs).isSome := by
  show (fs.map Fl.ent).any (fun p => p.1.sameKey (.string nm)) = _
  rw [← List.isSome_find?, fnd_map]
  cases fnd nm fs <;> rfl
theorem dat_size (fs : List Fl) : Maps.size (dat fs) = fs.length := by
  show (fs.map Fl.ent).length = _
  simp
theorem dat_keys (fs : List Fl) : strKeys (dat fs) = fs.map (·.nm) := by
  show (fs.map Fl.ent).map (fun p => strOf p.1) = _
  rw [List.map_map]
  rfl
theorem dat_del (nm : List UInt8) (fs : List Fl) : (dat fs).del (.string nm) = dat (del nm fs) := by
  show DataW.map ((fs.map Fl.ent).filter fun p => !p.1.sameKey (.string nm)) = .map ((del nm fs).map Fl.ent)
  rw [del, List.filter_map]
  rfl
theorem ins_ent (f : Fl) (fs : List Fl) : DataW.insert f.ent (fs.map Fl.ent) = (ins f fs).map Fl.ent := by
  induction fs with
  | nil => rfl
  | cons g r ih =>
    show DataW.insert f.ent (g.ent :: r.map Fl.ent) = (if bytesBefore f.nm g.nm then f :: g :: r else g :: ins f r).map Fl.ent
    unfold DataW.insert
    have e : f.ent.1.before g.ent.1 = bytesBefore f.nm g.nm := rfl
    rw [e, ih]
    split <;> rfl
theorem dat_put (f : Fl) (fs : List Fl) : (dat fs).put (.string f.nm) (.held f.val) = dat (put f fs) := by
  show DataW.map (DataW.insert (.string f.nm, .held f.val) ((fs.map Fl.ent).filter fun p => !p.1.sameKey (.string f.nm))) = .map ((put f fs).map Fl.ent)
  rw [List.filter_map, put, ← ins_ent]
  rfl

theorem mem_ins {f g : Fl} : ∀ {fs : List Fl}, g ∈ ins f fs ↔ g = f ∨ g ∈ fs
  | [] => by simp [ins]
  | h :: r => by
    unfold ins
    split
    · simp
    · rw [List.mem_cons, mem_ins, List.mem_cons]
      constructor
      · rintro (h | h | h) <;> simp [h]
      · rintro (h | h | h) <;> simp [h]
theorem mem_del {nm : List UInt8} {g : Fl} {fs : List Fl} : g ∈ del nm fs ↔ g ∈ fs ∧ g.nm ≠ nm := by
  simp [del]
theorem mem_put {f g : Fl} {fs : List Fl} : g ∈ put f fs ↔ g = f ∨ (g ∈ fs ∧ g.nm ≠ f.nm) := by rw [put, mem_ins, mem_del]
theorem used_ins (f : Fl) : ∀ fs : List Fl, used (ins f fs) = f.bs.length + used fs
  | [] => by simp [ins, used]
  | h :: r => by
    unfold ins
    split
    · simp [used]
    · have e := used_ins f r
      simp only [used, List.map_cons, List.sum_cons] at e ⊢
      omega
theorem length_ins (f : Fl) : ∀ fs : List Fl, (ins f fs).length = fs.length + 1
  | [] => rfl
  | h :: r => by
    unfold ins
    split
    · rfl
    · simp [length_ins f r]
/-- No two files have one name. -/
def Apart (fs : List Fl) : Prop := fs.Pairwise fun f g => f.nm ≠ g.nm
theorem del_none {nm : List UInt8} {fs : List Fl} (h : fnd nm fs = none) : del nm fs = fs := by
  rw [fnd, List.find?_eq_none] at h
  rw [del, List.filter_eq_self]
  intro a ha
  have := h a ha
  simpa using this
theorem fnd_mem {nm : List UInt8} {fs : List Fl} {f : Fl} (h : fnd nm fs = some f) : f ∈ fs ∧ f.nm = nm :=
  ⟨List.mem_of_find?_eq_some h, by simpa using List.find?_some h⟩
theorem del_some {nm : List UInt8} : ∀ {fs : List Fl} {f : Fl}, Apart fs → fnd nm fs = some f → used (del nm fs) + f.bs.length = used fs ∧ (del nm fs).length + 1 = fs.length
  | [], f, _, h => by cases h
  | g :: r, f, hA, h => by
    obtain ⟨h1, h2⟩ := List.pairwise_cons.1 hA
    by_cases hg : g.nm = nm
    · have e : fnd nm (g :: r) = some g := by simp [fnd, hg]
      rw [e] at h
      cases h
      have e2 : del nm (g :: r) = r := by
        rw [del, List.filter_cons_of_neg (by simp [hg]), List.filter_eq_self]
        intro a ha
        have := h1 a ha
        simp only [Bool.not_eq_eq_eq_not, Bool.not_true, beq_eq_false_iff_ne, ne_eq]
        rw [← hg]
        exact fun e => this e.symm
      rw [e2]
      refine ⟨?_, rfl⟩
      simp only [used, List.map_cons, List.sum_cons]
      omega
    · have e : fnd nm (g :: r) = fnd nm r := by
        rw [fnd, List.find?_cons_of_neg (by simpa using hg)]
        rfl
      rw [e] at h
      have ih := del_some h2 h
      have e2 : del nm (g :: r) = g :: del nm r := by rw [del, List.filter_cons_of_pos (by simpa using hg)]; rfl
      rw [e2]
      simp only [used, List.map_cons, List.sum_cons, List.length_cons] at ih ⊢
      omega
theorem fnd_apart {fs : List Fl} (hA : Apart fs) {f : Fl} (hf : f ∈ fs) : fnd f.nm fs = some f := by
  induction fs with
  | nil => cases hf
  | cons g r ih =>
    obtain ⟨h1, h2⟩ := List.pairwise_cons.1 hA
    rcases List.mem_cons.1 hf with rfl | hf
    · simp [fnd]
    · have := h1 f hf
      rw [fnd, List.find?_cons_of_neg (by simpa using this)]
      exact ih h2 hf
theorem fnd_none_iff {nm : List UInt8} {fs : List Fl} : fnd nm fs = none ↔ ∀ f ∈ fs, f.nm ≠ nm := by
  rw [fnd, List.find?_eq_none]
  simp
theorem fnd_put_same {f : Fl} {fs : List Fl} (hA : Apart (put f fs)) : fnd f.nm (put f fs) = some f := fnd_apart hA (mem_put.2 (.inl rfl))
theorem fnd_put_other {f : Fl} {fs : List Fl} {nm : List UInt8} (hA : Apart (put f fs)) (hn : nm ≠ f.nm) : fnd nm (put f fs) = fnd nm fs := by
  cases h : fnd nm fs with
  | none =>
    rw [fnd_none_iff] at h ⊢
    intro g hg
    rcases mem_put.1 hg with rfl | ⟨hg, _⟩
    · exact hn.symm
    · exact h g hg
  | some g =>
    obtain ⟨hg, rfl⟩ := fnd_mem h
    exact fnd_apart hA (mem_put.2 (.inr ⟨hg, hn⟩))
end Go.Proofs.YtggejecmhfafoaaGreatDoor

/-
  What putting a chunk into a world, and a player, comes to (mathematics); rows of a world's that lose or gain one. No statement of the seat is proved here.
-/
import Derived.Test.YtjdhbgdpmojobaaDoorWdK
namespace Go.Proofs.YtjdhbgdpmojobaaDoor
open Go.RowKit Go.Deep

/-- What stands behind putting one among those whose keys rise. -/
def putL {α : Type} (key : α → Int) (l : List α) (t : Int) (new : List α) : List α := l.filter (fun x => decide (key x < t)) ++ (new ++ l.filter (fun x => decide (t < key x)))
theorem filt_take {α : Type} {key : α → Int} {l : List α} {t : Int} : ∀ {k : Nat}, (∀ j (h : j < l.length), j < k → key l[j] < t) → (∀ j (h : j < l.length), k ≤ j → t ≤ key l[j]) → l.filter (fun x => decide (key x < t)) = l.take k := by
  induction l with
  | nil => intro k _ _; simp
  | cons x l ih =>
    intro k h1 h2
    cases k with
    | zero =>
      rw [List.take_zero, List.filter_eq_nil_iff]
      intro y hy
      obtain ⟨j, hj, rfl⟩ := List.getElem_of_mem hy
      have := h2 j hj (by omega)
      simp only [decide_eq_true_eq]
      omega
    | succ k =>
      have h0 : key x < t := h1 0 (by simp) (by omega)
      rw [List.filter_cons_of_pos (by simpa using h0), List.take_succ_cons, ih (k := k) (fun j h hj => h1 (j + 1) (by simpa using h) (by omega)) (fun j h hj => h2 (j + 1) (by simpa using h) (by omega))]
theorem filt_drop {α : Type} {key : α → Int} {l : List α} {t : Int} : ∀ {k : Nat}, (∀ j (h : j < l.length), j < k → key l[j] ≤ t) → (∀ j (h : j < l.length), k ≤ j → t < key l[j]) → l.filter (fun x => decide (t < key x)) = l.drop k := by
  induction l with
  | nil => intro k _ _; simp
  | cons x l ih =>
    intro k h1 h2
    cases k with
    | zero =>
      rw [List.drop_zero, List.filter_eq_self]
      intro y hy
      obtain ⟨j, hj, rfl⟩ := List.getElem_of_mem hy
      have := h2 j hj (by omega)
      simpa using this
    | succ k =>
      have h0 : key x ≤ t := h1 0 (by simp) (by omega)
      rw [List.filter_cons_of_neg (by simp only [decide_eq_true_eq]; omega), List.drop_succ_cons, ih (k := k) (fun j h hj => h1 (j + 1) (by simpa using h) (by omega)) (fun j h hj => h2 (j + 1) (by simpa using h) (by omega))]
section
variable {α : Type} {key : α → Int} {l : List α} {t : Int} {k : Nat}
/-- None of that key is there. -/
theorem putL_no (h : AtB (l.map key) t k) (hn : ∀ h : k < l.length, key l[k] ≠ t) (hr : Rise (l.map key)) (new : List α) : putL key l t new = l.take k ++ (new ++ l.drop k) := by
  obtain ⟨hk, h1, h2⟩ := h
  have q1 : ∀ j (h : j < l.length), j < k → key l[j] < t := fun j h hj => by have := h1 j (by simpa using h) hj; rwa [List.getElem_map] at this
  have q2 : ∀ j (h : j < l.length), k ≤ j → t ≤ key l[j] := fun j h hj => by have := h2 j (by simpa using h) hj; rwa [List.getElem_map] at this
  unfold putL
  rw [filt_take q1 q2, filt_drop (k := k) (fun j h hj => Int.le_of_lt (q1 j h hj)) (fun j h hj => by
    rcases Nat.lt_or_ge k j with e | e
    · have a := q2 k (by omega) (Nat.le_refl _)
      have b := hr.lt k j (by simpa using h) e
      rw [List.getElem_map, List.getElem_map] at b
      omega
    · obtain rfl : k = j := by omega
      have a := q2 k h (Nat.le_refl _)
      have b := hn h
      omega)]
/-- One of that key is there. -/
theorem putL_yes (h : AtB (l.map key) t k) (hk : k < l.length) (hy : key l[k] = t) (hr : Rise (l.map key)) (new : List α) : putL key l t new = l.take k ++ (new ++ l.drop (k + 1)) := by
  obtain ⟨_, h1, h2⟩ := h
  have q1 : ∀ j (h : j < l.length), j < k → key l[j] < t := fun j h hj => by have := h1 j (by simpa using h) hj; rwa [List.getElem_map] at this
  have q2 : ∀ j (h : j < l.length), k ≤ j → t ≤ key l[j] := fun j h hj => by have := h2 j (by simpa using h) hj; rwa [List.getElem_map] at this
  unfold putL
  rw [filt_take q1 q2, filt_drop (k := k + 1) (fun j h hj => by
    rcases Nat.lt_or_ge j k with e | e
    · exact Int.le_of_lt (q1 j h e)
    · obtain rfl : j = k := by omega
      omega) (fun j h hj => by
    have b := hr.lt k j (by simpa using h) (by omega)
    rw [List.getElem_map, List.getElem_map] at b
    omega)]
theorem putL_map {β : Type} (f : α → β) (key' : β → Int) (hk : ∀ x, key' (f x) = key x) (new : List α) : (putL key l t new).map f = putL key' (l.map f) t (new.map f) := by
  unfold putL
  rw [List.map_append, List.map_append, List.filter_map, List.filter_map]
  have e1 : ((fun x => decide (key' x < t)) ∘ f) = fun x => decide (key x < t) := funext fun x => by simp [hk]
  have e2 : ((fun x => decide (t < key' x)) ∘ f) = fun x => decide (t < key x) := funext fun x => by simp [hk]
  rw [e1, e2]
end
/-- What Put leaves, tells. -/
def putC (sd : W64) (l : List Ck) (c : Ck) : List Ck := putL plcK l (plcK c) (if firstB sd c = true then [] else [c])
def putE (v : Wv) (c : Ck) : Int := if rgtW v = true then (if rgtCW v.size c = true then 0 else 101) else 113
def putV (v : Wv) (c : Ck) : Wv := if rgtW v = true then (if rgtCW v.size c = true then ⟨v.size, v.sd, v.tick, putC v.sd v.cs c, v.ps⟩ else v) else v
section
variable {w w' : World} {lo : Nat} {d : Wd} {C : Ch}
/-- Nothing of a right world is great. -/
theorem InW.sz (h : InW w d) (r : RgtW d.v) : SzW d := by
  have e3 := h.r3.2.1
  have e4 := h.r4.2.1
  have l3 : d.cs.length ≤ 256 := by
    have := r.cr.le (m := 256) (fun x hx => by
      obtain ⟨c, hc, rfl⟩ := List.mem_map.1 hx
      have := (r.c c hc).1
      have a := this.x0
      have b := this.x1
      have c0 := this.y0
      have c1 := this.y1
      unfold plcK
      omega)
    rw [List.length_map] at this
    have q : d.v.cs.length = d.cs.length := List.length_map _
    omega
  have l4 : d.ps.length ≤ 32 := by
    have := r.pn
    have q : d.v.ps.length = d.ps.length := List.length_map _
    omega
  refine ⟨by omega, by omega, fun C hC => ?_, fun P hP => ?_⟩
  · obtain ⟨s1, s2, s3, s4⟩ := (h.ch C hC).small (r.c C.ck (List.mem_map_of_mem hC)).1
    exact ⟨by omega, by omega, by omega, fun b hb => by have := s4 b hb; omega⟩
  · have hp := r.p P.py (List.mem_map_of_mem hP)
    have hi := h.pl P hP
    have e1 := hi.rd.r1.1
    have e2 := hi.rd.r2.1
    unfold rgtP at hp
    simp only [Bool.and_eq_true] at hp
    obtain ⟨⟨_, hb⟩, hd⟩ := hp
    unfold rgt8 at hb
    rw [Bool.and_eq_true, decide_eq_true_iff] at hb
    have f1 : P.py.bag.length = P.l1.length := rfl
    have f2 : P.py.off.length = P.l2.length := rfl
    refine ⟨by omega, ?_⟩
    unfold dealB at hd
    split at hd
    · rw [Bool.and_eq_true, decide_eq_true_iff] at hd
      omega
    · unfold rgt8 at hd
      simp only [Bool.and_eq_true, decide_eq_true_iff] at hd
      omega
/-- A world's row of chunks is another one. -/
theorem OwW.row {A' : Option Addr} {n' c' : Nat} {l' : List Ch} (h : OwW lo w d) (hf : Fr (fun k => (Value.slice d.A3 d.n3 d.c3).ownBlock = some k) w w') (ho : w'.ownsRow lo 31 5 (.slice A' n' c') n' (chL l')) (hl : l'.length = n') (hc : ∀ C ∈ l', OwC lo w C) : OwW lo w' ⟨d.size, d.sd, d.tick, A', n', c', l', d.A4, d.n4, d.c4, d.ps⟩ := by
  have ap : ∀ {e : TypeId} {size m lo' : Nat} {v : Value} {L : List Value}, e ≠ 31 → w.ownsRow lo' e size v m L → ∀ q, v.ownBlock = some q → ¬ (Value.slice d.A3 d.n3 d.c3).ownBlock = some q := fun hne h' q hq => own_apart h' h.o3 hne q hq
  have cc : ∀ C : Ch, OwC lo w C → OwC lo w' C := fun C hC => ⟨own_fr hC.o1 hf (ap (by decide) hC.o1), own_fr hC.o2 hf (ap (by decide) hC.o2), own_fr hC.o3 hf (ap (by decide) hC.o3), fun b hb => ⟨(hC.o4 b hb).1, own_fr (hC.o4 b hb).2 hf (ap (by decide) (hC.o4 b hb).2)⟩⟩
  exact ⟨hl, h.e4, ho, own_fr h.o4 hf (ap (by decide) h.o4), fun C hC => cc C (hc C hC), fun P hP => ⟨(h.op P hP).e1, (h.op P hP).e2, own_fr (h.op P hP).o1 hf (ap (by decide) (h.op P hP).o1), own_fr (h.op P hP).o2 hf (ap (by decide) (h.op P hP).o2)⟩⟩
/-- A world's row of players is another one. -/
theorem OwW.rowp {A' : Option Addr} {n' c' : Nat} {l' : List Pl} (h : OwW lo w d) (hf : Fr (fun k => (Value.slice d.A4 d.n4 d.c4).ownBlock = some k) w w') (ho : w'.ownsRow lo 35 7 (.slice A' n' c') n' (plL l')) (hl : l'.length = n') (hc : ∀ C ∈ l', OwP lo w C) : OwW lo w' ⟨d.size, d.sd, d.tick, d.A3, d.n3, d.c3, d.cs, A', n', c', l'⟩ := by
  have ap : ∀ {e : TypeId} {size m lo' : Nat} {v : Value} {L : List Value}, e ≠ 35 → w.ownsRow lo' e size v m L → ∀ q, v.ownBlock = some q → ¬ (Value.slice d.A4 d.n4 d.c4).ownBlock = some q := fun hne h' q hq => own_apart h' h.o4 hne q hq
  have cc : ∀ C : Ch, OwC lo w C → OwC lo w' C := fun C hC => ⟨own_fr hC.o1 hf (ap (by decide) hC.o1), own_fr hC.o2 hf (ap (by decide) hC.o2), own_fr hC.o3 hf (ap (by decide) hC.o3), fun b hb => ⟨(hC.o4 b hb).1, own_fr (hC.o4 b hb).2 hf (ap (by decide) (hC.o4 b hb).2)⟩⟩
  exact ⟨h.e3, hl, own_fr h.o3 hf (ap (by decide) h.o3), ho, fun C hC => cc C (h.oc C hC), fun P hP => ⟨(hc P hP).e1, (hc P hP).e2, own_fr (hc P hP).o1 hf (ap (by decide) (hc P hP).o1), own_fr (hc P hP).o2 hf (ap (by decide) (hc P hP).o2)⟩⟩
end
end Go.Proofs.YtjdhbgdpmojobaaDoor

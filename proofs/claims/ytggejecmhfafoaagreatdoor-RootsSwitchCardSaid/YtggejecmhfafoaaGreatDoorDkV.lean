/-
  A crash. No statement of the seat is proved here.
-/
import Derived.Test.YtggejecmhfafoaaGreatDoorDkU
namespace Go.Proofs.YtggejecmhfafoaaGreatDoor
open Go.RowKit Go.Maps Go.Sort

set_option maxRecDepth 100000 in
theorem before_asymm : ∀ {a b : List UInt8}, bytesBefore a b = true → bytesBefore b a = false
  | [], [], h => by cases h
  | [], b :: s, _ => rfl
  | a :: r, [], h => by cases h
  | a :: r, b :: s, h => by
    simp only [bytesBefore, Bool.or_eq_true, decide_eq_true_eq, Bool.and_eq_true, beq_iff_eq] at h
    simp only [bytesBefore, Bool.or_eq_false_iff, decide_eq_false_iff_not, Bool.and_eq_false_iff, beq_eq_false_iff_ne]
    rcases h with h | ⟨rfl, h2⟩
    · refine ⟨fun h' => ?_, .inl (fun e => ?_)⟩
      · rw [UInt8.lt_iff_toNat_lt] at h h'
        omega
      · rw [e, UInt8.lt_iff_toNat_lt] at h
        omega
    · refine ⟨fun h' => ?_, .inr (before_asymm h2)⟩
      rw [UInt8.lt_iff_toNat_lt] at h'
      omega
set_option maxRecDepth 100000 in
/-- A file stored under a name that is there: in its place. -/
theorem put_set {f g : Fl} : ∀ {fs : List Fl} {j : Nat}, fs.Pairwise (fun a b => bytesBefore a.nm b.nm = true) → fs[j]? = some f → g.nm = f.nm → put g fs = fs.set j g
  | [], j, _, h, _ => by simp at h
  | a :: r, 0, hp, h, hn => by
    obtain ⟨h1, h2⟩ := List.pairwise_cons.1 hp
    simp at h
    subst h
    have hd : del g.nm (a :: r) = r := by
      rw [del, List.filter_cons_of_neg (by simp [hn]), List.filter_eq_self]
      intro x hx
      have hb := h1 x hx
      simp only [Bool.not_eq_eq_eq_not, Bool.not_true, beq_eq_false_iff_ne, ne_eq]
      intro e
      rw [e, hn] at hb
      have := before_asymm hb
      rw [hb] at this
      cases this
    show ins g (del g.nm (a :: r)) = g :: r
    rw [hd]
    cases r with
    | nil => rfl
    | cons x r =>
      have hb := h1 x (by simp)
      rw [← hn] at hb
      simp [ins, hb]
  | a :: r, j + 1, hp, h, hn => by
    obtain ⟨h1, h2⟩ := List.pairwise_cons.1 hp
    simp at h
    have hb := h1 f (List.mem_of_getElem? h)
    have hne : a.nm ≠ g.nm := by
      rw [hn]
      intro e
      rw [e] at hb
      have := before_asymm hb
      rw [hb] at this
      cases this
    have hd : del g.nm (a :: r) = a :: del g.nm r := by rw [del, List.filter_cons_of_pos (by simpa using hne)]; rfl
    have hbf : bytesBefore g.nm a.nm = false := by rw [hn]; exact before_asymm hb
    show ins g (del g.nm (a :: r)) = a :: r.set j g
    rw [hd]
    have ih := put_set h2 h hn
    unfold put at ih
    simp [ins, hbf, ih]

/-- Whole numbers in a slice whose block F has not. -/
def RdI (w : World) (F : Nat → Prop) (A : Option Addr) (n : Nat) (ks : List Int) : Prop :=
  ks.length = n ∧ (0 < n → ∃ b o, A = some ⟨b, o, none⟩ ∧ b < w.heap.size ∧ ¬ F b ∧ ∀ j (h : j < ks.length), w.cell? ⟨b, o + j, none⟩ = some (.int .i64 ks[j]))
set_option maxRecDepth 100000 in
theorem RdI.keep {w w' : World} {F : Nat → Prop} {A : Option Addr} {n : Nat} {ks : List Int} (h : RdI w F A n ks) (hf : Fr F w w') : RdI w' F A n ks :=
  ⟨h.1, fun hn => by
    obtain ⟨b, o, e, hb, hF, hc⟩ := h.2 hn
    exact ⟨b, o, e, Nat.lt_of_lt_of_le hb hf.size, hF, fun j hj => (World.cell?_of_block (w := w) (hf.block b hb hF)).trans (hc j hj)⟩⟩
def kAt (ks : List Int) (j : Nat) : Int := ks.getD j 0
/-- The files once those ahead of i have been crashed. -/
def CrR (ks : List Int) (fs0 : List Fl) (i : Nat) (fs : List Fl) : Prop :=
  fs.length = fs0.length ∧ ∀ j f, fs0[j]? = some f → ∃ g, fs[j]? = some g ∧ g.nm = f.nm ∧
    (j < i → g.bs = f.bs.take (kp f (kAt ks j)) ∧ g.fm = kp f (kAt ks j)) ∧ (i ≤ j → g.bs = f.bs ∧ g.fm = f.fm)
set_option maxRecDepth 100000 in
theorem CrR.start (ks : List Int) (fs : List Fl) : CrR ks fs 0 fs := ⟨rfl, fun j f h => ⟨f, h, rfl, fun h => by omega, fun _ => ⟨rfl, rfl⟩⟩⟩
set_option maxRecDepth 100000 in
theorem CrR.step {ks : List Int} {fs0 fs : List Fl} {i : Nat} (h : CrR ks fs0 i fs) {f : Fl} (hf : fs0[i]? = some f) {g : Fl} (hn : g.nm = f.nm) (hb : g.bs = f.bs.take (kp f (kAt ks i))) (hm : g.fm = kp f (kAt ks i)) :
    CrR ks fs0 (i + 1) (fs.set i g) := by
  refine ⟨by rw [List.length_set]; exact h.1, fun j x hx => ?_⟩
  have hi : i < fs.length := by
    have := (List.getElem?_eq_some_iff.1 hf).1
    rw [h.1]
    exact this
  by_cases hj : j = i
  · subst hj
    rw [hf] at hx
    cases hx
    exact ⟨g, by simp [hi], hn, fun _ => ⟨hb, hm⟩, fun h => by omega⟩
  · obtain ⟨y, hy, h1, h2, h3⟩ := h.2 j x hx
    exact ⟨y, by rw [List.getElem?_set_ne (fun e => hj e.symm)]; exact hy, h1, fun hlt => h2 (by omega), fun hle => h3 (by omega)⟩
end Go.Proofs.YtggejecmhfafoaaGreatDoor

/-
  The document's disk as the plain state that the program's disk has: New, Arm, Find, Read. No statement of the seat is proved here.
-/
import Derived.Test.YtnkgcafebmacjaaDtH
namespace Go.Proofs.Ytnkgcafebmacjaa
open Go.RowKit Go.Maps

/-- A document's disk that stands for this state. -/
def Rv (F : Nat → Prop) (w : World) (v : Value) (S : Ab) : Prop :=
  ∃ A c fs, v = .agg #[.int .i64 (S.mo : Int), .slice A fs.length c, .int .i64 (if S.bd then (S.lf : Int) else -1), .bool S.fl] ∧ Rk w A fs.length fs ∧ fs.map Fl.ab = S.fs ∧ Ris S.fs ∧ fs.length ≤ 200 ∧ Off F A fs
section
variable {F : Nat → Prop} {w w' : World} {v : Value} {S : Ab}
theorem Rv.no (h : Rv F w v S) (hf : Fr No w w') : Rv F w' v S := by
  obtain ⟨A, c, fs, hv, hk, r⟩ := h
  exact ⟨A, c, fs, hv, hk.no hf, r⟩
set_option maxRecDepth 100000 in
theorem rv_new (F : Nat → Prop) (w : World) (k : Nat) (h : k ≤ 16777216) :
    Calls Try.prog 5 #[.int .i64 (k : Int)] w fun e w' => ∃ v, e = .returned (.tuple #[v, .int .i64 0]) ∧ Rv F w' v ⟨false, false, 0, k, []⟩ ∧ Fr No w w' := by
  refine (rnew_ok w (k : Int) (by omega) (by omega)).mono ?_
  rintro e w1 ⟨rfl, hf⟩
  exact ⟨_, rfl, ⟨none, 0, [], rfl, Rk.nil w1, rfl, List.Pairwise.nil, by simp, fun _ => nf_none, fun f hf => by cases hf⟩, hf⟩
set_option maxRecDepth 100000 in
theorem rv_arm (h : Rv F w v S) (k : Int) :
    Calls Try.prog 19 #[v, .int .i64 k] w fun e w' => ∃ v', e = .returned v' ∧ Rv F w' v' (if S.fl then S else { S with bd := true, lf := (max k 0).toNat }) ∧ Fr No w w' := by
  obtain ⟨A, c, fs, rfl, hk, hm, hr, hl, ho⟩ := h
  refine (rarm_any w _ A fs.length c _ S.fl k).mono ?_
  rintro e w1 ⟨rfl, hf⟩
  cases hfl : S.fl with
  | true =>
    refine ⟨_, rfl, ⟨A, c, fs, ?_, hk.no hf, hm, hr, hl, ho⟩, hf⟩
    simp [hfl]
  | false =>
    refine ⟨_, rfl, ⟨A, c, fs, ?_, hk.no hf, hm, hr, hl, ho⟩, hf⟩
    have e : (((max k 0).toNat : Nat) : Int) = max k 0 := by omega
    simp [e]
set_option maxRecDepth 100000 in
theorem rv_find (h : Rv F w v S) (nm : ByteArray) :
    Calls Try.prog 25 #[v, .string nm] w fun e w' => ∃ z : Int, e = .returned (.int .i64 z) ∧ Fr No w w' ∧ (z < 0 ↔ afnd nm.data.toList S.fs = none) := by
  obtain ⟨A, c, fs, rfl, hk, hm, hr, hl, ho⟩ := h
  refine (rfind_any hk (by omega) _ _ _ nm).mono ?_
  rintro e w1 ⟨z, rfl, hf, hz⟩
  refine ⟨z, rfl, hf, ?_⟩
  rcases hz with ⟨rfl, hno⟩ | ⟨i, f, hi, hn, rfl⟩
  · refine ⟨fun _ => afnd_no (fun g hg => ?_), fun _ => by omega⟩
    rw [← hm] at hg
    obtain ⟨x, hx, rfl⟩ := List.mem_map.1 hg
    exact hno x hx
  · refine ⟨fun h => by omega, fun h => ?_⟩
    unfold afnd at h
    rw [List.find?_eq_none] at h
    exact absurd (by show (f.nm == nm.data.toList) = true; rw [hn]; simp) (h f.ab (by rw [← hm]; exact List.mem_map.2 ⟨f, List.mem_of_getElem? hi, rfl⟩))
set_option maxRecDepth 100000 in
/-- Read: the file's bytes, or why not. -/
theorem rv_read (h : Rv F w v S) (nm : ByteArray) :
    Calls Try.prog 23 #[v, .string nm] w fun e w' => ∃ A n c l, e = .returned (.tuple #[.slice A n c, .int .i64 (S.err nm.data.toList)]) ∧ Fr No w w' ∧ Rd w' w'.heap.size A n l ∧ l = (if S.err nm.data.toList = 0 then (aold nm.data.toList S.fs).bs else []) := by
  obtain ⟨A, c, fs, rfl, hk, hm, hr, hl, ho⟩ := h
  refine (rread_any hk (by omega) _ _ _ nm).mono ?_
  rintro e w1 ⟨v1, x, rfl, hf, hz⟩
  rcases hz with ⟨hd, rfl, rfl⟩ | ⟨hd, hno, rfl, rfl⟩ | ⟨hd, i, f, hi, hn, rfl, rfl⟩
  · have he : S.err nm.data.toList = 15 := by unfold Ab.err; rw [hd]; rfl
    rw [he]
    exact ⟨none, 0, 0, [], rfl, hf, Rd.nil, by simp⟩
  · have ha : afnd nm.data.toList S.fs = none := afnd_no (fun g hg => by
      rw [← hm] at hg
      obtain ⟨y, hy, rfl⟩ := List.mem_map.1 hg
      exact hno y hy)
    have he : S.err nm.data.toList = 13 := by unfold Ab.err; rw [hd, ha]; rfl
    rw [he]
    exact ⟨none, 0, 0, [], rfl, hf, Rd.nil, by simp⟩
  · obtain ⟨g, hg⟩ : ∃ g, afnd nm.data.toList S.fs = some g := by
      cases hq : afnd nm.data.toList S.fs with
      | some g => exact ⟨g, rfl⟩
      | none =>
        unfold afnd at hq
        rw [List.find?_eq_none] at hq
        exact absurd (by show (f.nm == nm.data.toList) = true; rw [hn]; simp) (hq f.ab (by rw [← hm]; exact List.mem_map.2 ⟨f, List.mem_of_getElem? hi, rfl⟩))
    have he : S.err nm.data.toList = 0 := by unfold Ab.err; rw [hd, hg]; rfl
    have hgf : g = f.ab := by
      obtain ⟨h1, h2⟩ := afnd_some hg
      have hfm : f.ab ∈ S.fs := by rw [← hm]; exact List.mem_map.2 ⟨f, List.mem_of_getElem? hi, rfl⟩
      have hne : ∀ a ∈ S.fs, ∀ b ∈ S.fs, a.nm = b.nm → a = b := by
        intro a ha b hb e
        obtain ⟨p, hp, rfl⟩ := List.getElem_of_mem ha
        obtain ⟨q, hq, rfl⟩ := List.getElem_of_mem hb
        rcases Nat.lt_trichotomy p q with h | h | h
        · have := List.pairwise_iff_getElem.1 hr p q hp hq h
          rw [e, WideAt.bytes_irrefl] at this
          cases this
        · subst h; rfl
        · have := List.pairwise_iff_getElem.1 hr q p hq hp h
          rw [e, WideAt.bytes_irrefl] at this
          cases this
      exact hne g h1 f.ab hfm (h2.trans hn.symm)
    rw [he]
    refine ⟨f.A, f.bs.length, f.c, f.bs, rfl, hf, (hf.rd (Nat.le_refl _) (hk.rd f (List.mem_of_getElem? hi))).more hf.size, ?_⟩
    rw [if_pos rfl]
    unfold aold
    rw [hg, hgf]
    rfl
end
end Go.Proofs.Ytnkgcafebmacjaa

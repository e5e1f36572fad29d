/-
  A disk without its places in memory: what each call answers, and what is there then. No statement of the seat is proved here.
-/
import Derived.Test.YtggejecmhfafoaaGreatDoorDkX
namespace Go.Proofs.YtggejecmhfafoaaGreatDoor
open Go.RowKit Go.Maps

/-- A file: its name, its bytes, how many are firm. -/
structure Af where
  nm : List UInt8
  bs : List UInt8
  fm : Nat
def Fl.ab (f : Fl) : Af := ⟨f.nm, f.bs, f.fm⟩
def afnd (nm : List UInt8) (fs : List Af) : Option Af := fs.find? fun f => f.nm == nm
def ains (f : Af) : List Af → List Af
  | [] => [f]
  | g :: r => if bytesBefore f.nm g.nm then f :: g :: r else g :: ains f r
def adel (nm : List UInt8) (fs : List Af) : List Af := fs.filter fun f => !(f.nm == nm)
def aput (f : Af) (fs : List Af) : List Af := ains f (adel f.nm fs)
def aused (fs : List Af) : Nat := (fs.map fun f => f.bs.length).sum
def aold (nm : List UInt8) (fs : List Af) : Af := (afnd nm fs).getD ⟨nm, [], 0⟩
set_option maxRecDepth 100000 in
theorem fnd_ab (nm : List UInt8) (fs : List Fl) : afnd nm (fs.map Fl.ab) = (fnd nm fs).map Fl.ab := by
  unfold afnd fnd
  rw [List.find?_map]
  rfl
set_option maxRecDepth 100000 in
theorem old_ab (nm : List UInt8) (fs : List Fl) : aold nm (fs.map Fl.ab) = (old nm fs).ab := by
  unfold aold old
  rw [fnd_ab]
  cases fnd nm fs <;> rfl
set_option maxRecDepth 100000 in
theorem del_ab (nm : List UInt8) (fs : List Fl) : (del nm fs).map Fl.ab = adel nm (fs.map Fl.ab) := by
  unfold del adel
  rw [List.filter_map]
  rfl
set_option maxRecDepth 100000 in
theorem ins_ab (f : Fl) (fs : List Fl) : (ins f fs).map Fl.ab = ains f.ab (fs.map Fl.ab) := by
  induction fs with
  | nil => rfl
  | cons g r ih =>
    show (if bytesBefore f.nm g.nm then f :: g :: r else g :: ins f r).map Fl.ab = if bytesBefore f.nm g.nm then f.ab :: g.ab :: r.map Fl.ab else g.ab :: ains f.ab (r.map Fl.ab)
    rw [← ih]
    split <;> rfl
set_option maxRecDepth 100000 in
theorem put_ab (f : Fl) (fs : List Fl) : (put f fs).map Fl.ab = aput f.ab (fs.map Fl.ab) := by
  unfold put aput
  rw [ins_ab, del_ab]
  rfl
set_option maxRecDepth 100000 in
theorem used_ab (fs : List Fl) : aused (fs.map Fl.ab) = used fs := by
  unfold aused used
  rw [List.map_map]
  rfl
structure Ab where
  fl : Bool
  bd : Bool
  lf : Nat
  mo : Nat
  fs : List Af
def St.ab (s : St) : Ab := ⟨s.fl, s.bd, s.lf, s.mo, s.fs.map Fl.ab⟩
def Ab.step (s : Ab) : Ab := if s.bd then (if s.lf = 0 then { s with fl := true, bd := false, lf := 0 } else { s with lf := s.lf - 1 }) else s
def Ab.fails (s : Ab) : Bool := s.bd && s.lf == 0
def Ab.fits (s : Ab) (nm : List UInt8) (n : Nat) : Bool := decide (aused s.fs + n ≤ s.mo) && ((afnd nm s.fs).isSome || decide (s.fs.length < 200))
def Ab.err (s : Ab) (nm : List UInt8) : Int := if s.fl then 15 else match afnd nm s.fs with
  | none => 13
  | some _ => 0
set_option maxRecDepth 100000 in
theorem step_ab (s : St) : s.step.ab = s.ab.step := by
  unfold St.step Ab.step St.ab
  simp only
  split <;> (try split) <;> rfl
set_option maxRecDepth 100000 in
theorem fails_ab (s : St) : s.ab.fails = s.fails := rfl
set_option maxRecDepth 100000 in
theorem fits_ab (s : St) (nm : List UInt8) (n : Nat) : s.ab.fits nm n = s.fits nm n := by
  unfold Ab.fits St.fits St.ab
  simp only
  rw [used_ab, fnd_ab, List.length_map]
  cases fnd nm s.fs <;> rfl
set_option maxRecDepth 100000 in
theorem err_ab (s : St) (nm : List UInt8) : s.ab.err nm = s.err nm := by
  unfold Ab.err St.err St.ab
  simp only
  rw [fnd_ab]
  cases fnd nm s.fs <;> rfl
def Ab.append (s : Ab) (nm l : List UInt8) : Int × Ab :=
  if s.fl then (15, s) else if isNm nm = false then (13, s) else if s.fits nm l.length = false then (5, s) else if s.fails then (15, s.step)
  else (0, { s.step with fs := aput ⟨nm, (aold nm s.fs).bs ++ l, (aold nm s.fs).fm⟩ s.fs })
def Ab.sync (s : Ab) (nm : List UInt8) : Int × Ab :=
  if s.err nm ≠ 0 then (s.err nm, s) else if s.fails then (15, s.step) else (0, { s.step with fs := aput ⟨nm, (aold nm s.fs).bs, (aold nm s.fs).bs.length⟩ s.fs })
def Ab.rename (s : Ab) (nm to : List UInt8) : Int × Ab :=
  if s.err nm ≠ 0 then (s.err nm, s) else if isNm to = false then (13, s) else if s.fails then (15, s.step) else (0, { s.step with fs := aput ⟨to, (aold nm s.fs).bs, (aold nm s.fs).fm⟩ (adel nm s.fs) })
def Ab.remove (s : Ab) (nm : List UInt8) : Int × Ab :=
  if s.err nm ≠ 0 then (s.err nm, s) else if s.fails then (15, s.step) else (0, { s.step with fs := adel nm s.fs })
def Ab.cut (s : Ab) (nm : List UInt8) (n : Int) : Int × Ab :=
  if s.err nm ≠ 0 then (s.err nm, s) else if n < 0 ∨ ((aold nm s.fs).bs.length : Int) < n then (2, s) else if s.fails then (15, s.step)
  else (0, { s.step with fs := aput ⟨nm, (aold nm s.fs).bs.take n.toNat, n.toNat⟩ s.fs })
/-- What a call leaves, without the places. -/
def Abs (D M : Nat) (w : World) (s : St) (r : Int × Ab) (e : Ending) (w' : World) : Prop := ∃ s', e = .returned (.int .i64 r.1) ∧ Nx D M w s w' s' ∧ s'.ab = r.2
set_option maxRecDepth 100000 in
theorem err_some {s : St} {nm : List UInt8} (h : s.err nm = 0) : s.fl = false ∧ ∃ f, fnd nm s.fs = some f ∧ old nm s.fs = f := by
  unfold St.err at h
  cases hfl : s.fl with
  | true => rw [hfl] at h; simp at h
  | false =>
    rw [hfl] at h
    refine ⟨rfl, ?_⟩
    cases hf : fnd nm s.fs with
    | none => rw [hf] at h; simp at h
    | some f => exact ⟨f, rfl, by unfold old; rw [hf]; rfl⟩
section
variable {w : World} {D M : Nat} {s : St}
set_option maxRecDepth 100000 in
theorem append_ab (h : Dsk w D M s) (nm : ByteArray) (hs : nm.size ≤ maxLen) (A : Option Addr) (n c : Nat) (l : List UInt8) (hb : Rd w w.heap.size A n l) :
    Calls Tryz.prog 31 #[.pointer (some ⟨D, 0, none⟩), .string nm, .slice A n c] w (Abs D M w s (s.ab.append nm.data.toList l)) := by
  have hn := hb.1
  cases hfl : s.fl with
  | true =>
    refine (append_down h nm A n c hfl).mono ?_
    rintro e w' ⟨rfl, rfl⟩
    have e1 : s.ab.append nm.data.toList l = (15, s.ab) := by unfold Ab.append; rw [show s.ab.fl = true from hfl]; rfl
    rw [e1]
    exact ⟨s, rfl, Nx.refl h, rfl⟩
  | false =>
    have g1 : s.ab.fl = false := hfl
    cases hnm : isNm nm.data.toList with
    | false =>
      refine (append_name h nm hs A n c hfl hnm).mono ?_
      rintro e w' ⟨rfl, rfl⟩
      have e1 : s.ab.append nm.data.toList l = (13, s.ab) := by unfold Ab.append; rw [g1, hnm]; simp
      rw [e1]
      exact ⟨s, rfl, Nx.refl h, rfl⟩
    | true =>
      cases hr : s.fits nm.data.toList n with
      | false =>
        refine (append_full h nm hs A n c hfl hnm hr).mono ?_
        rintro e w' ⟨rfl, hf⟩
        have e1 : s.ab.append nm.data.toList l = (5, s.ab) := by unfold Ab.append; rw [g1, hnm, fits_ab, hn, hr]; simp
        rw [e1]
        exact ⟨s, rfl, Nx.no h hf, rfl⟩
      | true =>
        cases hx : s.fails with
        | true =>
          refine (append_fails h nm hs A n c hfl hnm hr hx).mono ?_
          rintro e w' ⟨rfl, hN⟩
          have e1 : s.ab.append nm.data.toList l = (15, s.ab.step) := by unfold Ab.append; rw [g1, hnm, fits_ab, hn, hr, fails_ab, hx]; simp
          rw [e1]
          exact ⟨_, rfl, hN, step_ab s⟩
        | false =>
          refine (append_ok h nm hs A n c l hb hfl hnm hr hx).mono ?_
          rintro e w' ⟨rfl, A', c', hN⟩
          have e1 : s.ab.append nm.data.toList l = (0, { s.ab.step with fs := aput ⟨nm.data.toList, (aold nm.data.toList s.ab.fs).bs ++ l, (aold nm.data.toList s.ab.fs).fm⟩ s.ab.fs }) := by
            unfold Ab.append; rw [g1, hnm, fits_ab, hn, hr, fails_ab, hx]; simp
          rw [e1]
          refine ⟨_, rfl, hN, ?_⟩
          show (⟨_, _, _, _, (put _ s.fs).map Fl.ab⟩ : Ab) = ⟨_, _, _, _, aput ⟨_, (aold nm.data.toList (s.fs.map Fl.ab)).bs ++ l, (aold nm.data.toList (s.fs.map Fl.ab)).fm⟩ (s.fs.map Fl.ab)⟩
          rw [put_ab, old_ab, ← step_ab]
          rfl
set_option maxRecDepth 100000 in
theorem sync_ab (h : Dsk w D M s) (nm : ByteArray) (hs : nm.size ≤ maxLen) :
    Calls Tryz.prog 43 #[.pointer (some ⟨D, 0, none⟩), .string nm] w (Abs D M w s (s.ab.sync nm.data.toList)) := by
  by_cases he : s.err nm.data.toList = 0
  · obtain ⟨hfl, f, hf, ho⟩ := err_some he
    have g0 : s.ab.err nm.data.toList = 0 := by rw [err_ab]; exact he
    cases hx : s.fails with
    | true =>
      refine (sync_fails h nm hs hfl f hf hx).mono ?_
      rintro e w' ⟨rfl, hN⟩
      have e1 : s.ab.sync nm.data.toList = (15, s.ab.step) := by unfold Ab.sync; rw [g0, fails_ab, hx]; simp
      rw [e1]
      exact ⟨_, rfl, hN, step_ab s⟩
    | false =>
      refine (sync_ok h nm hs hfl f hf hx).mono ?_
      rintro e w' ⟨rfl, A, c, hN⟩
      have e1 : s.ab.sync nm.data.toList = (0, { s.ab.step with fs := aput ⟨nm.data.toList, (aold nm.data.toList s.ab.fs).bs, (aold nm.data.toList s.ab.fs).bs.length⟩ s.ab.fs }) := by
        unfold Ab.sync; rw [g0, fails_ab, hx]; simp
      rw [e1]
      refine ⟨_, rfl, hN, ?_⟩
      show (⟨_, _, _, _, (put _ s.fs).map Fl.ab⟩ : Ab) = ⟨_, _, _, _, aput ⟨_, (aold nm.data.toList (s.fs.map Fl.ab)).bs, (aold nm.data.toList (s.fs.map Fl.ab)).bs.length⟩ (s.fs.map Fl.ab)⟩
      rw [put_ab, old_ab, ho, ← step_ab, ← (fnd_mem hf).2]
      unfold Fl.ab
      simp only [List.take_length]
      rfl
  · refine (sync_bad h nm hs he).mono ?_
    rintro e w' ⟨rfl, hf⟩
    have e1 : s.ab.sync nm.data.toList = (s.err nm.data.toList, s.ab) := by unfold Ab.sync; rw [err_ab, if_pos he]
    rw [e1]
    exact ⟨s, rfl, Nx.no h hf, rfl⟩
set_option maxRecDepth 100000 in
theorem remove_ab (h : Dsk w D M s) (nm : ByteArray) (hs : nm.size ≤ maxLen) :
    Calls Tryz.prog 14 #[.pointer (some ⟨D, 0, none⟩), .string nm] w (Abs D M w s (s.ab.remove nm.data.toList)) := by
  by_cases he : s.err nm.data.toList = 0
  · obtain ⟨hfl, f, hf, ho⟩ := err_some he
    have g0 : s.ab.err nm.data.toList = 0 := by rw [err_ab]; exact he
    cases hx : s.fails with
    | true =>
      refine (remove_fails h nm hs hfl f hf hx).mono ?_
      rintro e w' ⟨rfl, hN⟩
      have e1 : s.ab.remove nm.data.toList = (15, s.ab.step) := by unfold Ab.remove; rw [g0, fails_ab, hx]; simp
      rw [e1]
      exact ⟨_, rfl, hN, step_ab s⟩
    | false =>
      refine (remove_ok h nm hs hfl f hf hx).mono ?_
      rintro e w' ⟨rfl, hN⟩
      have e1 : s.ab.remove nm.data.toList = (0, { s.ab.step with fs := adel nm.data.toList s.ab.fs }) := by
        unfold Ab.remove; rw [g0, fails_ab, hx]; simp
      rw [e1]
      refine ⟨_, rfl, hN, ?_⟩
      show (⟨_, _, _, _, (del _ s.fs).map Fl.ab⟩ : Ab) = ⟨_, _, _, _, adel _ (s.fs.map Fl.ab)⟩
      rw [del_ab, ← step_ab]
      rfl
  · refine (remove_bad h nm hs he).mono ?_
    rintro e w' ⟨rfl, hf⟩
    have e1 : s.ab.remove nm.data.toList = (s.err nm.data.toList, s.ab) := by unfold Ab.remove; rw [err_ab, if_pos he]
    rw [e1]
    exact ⟨s, rfl, Nx.no h hf, rfl⟩
set_option maxRecDepth 100000 in
theorem rename_ab (h : Dsk w D M s) (nm to : ByteArray) (hs : nm.size ≤ maxLen) (ht : to.size ≤ maxLen) :
    Calls Tryz.prog 45 #[.pointer (some ⟨D, 0, none⟩), .string nm, .string to] w (Abs D M w s (s.ab.rename nm.data.toList to.data.toList)) := by
  by_cases he : s.err nm.data.toList = 0
  · obtain ⟨hfl, f, hf, ho⟩ := err_some he
    have g0 : s.ab.err nm.data.toList = 0 := by rw [err_ab]; exact he
    cases hn : isNm to.data.toList with
    | false =>
      refine (rename_name h nm hs to ht hfl f hf hn).mono ?_
      rintro e w' ⟨rfl, hfr⟩
      have e1 : s.ab.rename nm.data.toList to.data.toList = (13, s.ab) := by unfold Ab.rename; rw [g0, hn]; simp
      rw [e1]
      exact ⟨s, rfl, Nx.no h hfr, rfl⟩
    | true =>
      cases hx : s.fails with
      | true =>
        refine (rename_fails h nm hs to ht hfl f hf hn hx).mono ?_
        rintro e w' ⟨rfl, hN⟩
        have e1 : s.ab.rename nm.data.toList to.data.toList = (15, s.ab.step) := by unfold Ab.rename; rw [g0, hn, fails_ab, hx]; simp
        rw [e1]
        exact ⟨_, rfl, hN, step_ab s⟩
      | false =>
        refine (rename_ok h nm hs to ht hfl f hf hn hx).mono ?_
        rintro e w' ⟨rfl, hN⟩
        have e1 : s.ab.rename nm.data.toList to.data.toList = (0, { s.ab.step with fs := aput ⟨to.data.toList, (aold nm.data.toList s.ab.fs).bs, (aold nm.data.toList s.ab.fs).fm⟩ (adel nm.data.toList s.ab.fs) }) := by
          unfold Ab.rename; rw [g0, hn, fails_ab, hx]; simp
        rw [e1]
        refine ⟨_, rfl, hN, ?_⟩
        show (⟨_, _, _, _, (put _ (del _ s.fs)).map Fl.ab⟩ : Ab) = ⟨_, _, _, _, aput ⟨_, (aold nm.data.toList (s.fs.map Fl.ab)).bs, (aold nm.data.toList (s.fs.map Fl.ab)).fm⟩ (adel _ (s.fs.map Fl.ab))⟩
        rw [put_ab, del_ab, old_ab, ho, ← step_ab]
        rfl
  · refine (rename_bad h nm to hs he).mono ?_
    rintro e w' ⟨rfl, hf⟩
    have e1 : s.ab.rename nm.data.toList to.data.toList = (s.err nm.data.toList, s.ab) := by unfold Ab.rename; rw [err_ab, if_pos he]
    rw [e1]
    exact ⟨s, rfl, Nx.no h hf, rfl⟩
set_option maxRecDepth 100000 in
theorem cut_ab (h : Dsk w D M s) (nm : ByteArray) (hs : nm.size ≤ maxLen) (n : Int) :
    Calls Tryz.prog 15 #[.pointer (some ⟨D, 0, none⟩), .string nm, .int .i64 n] w (Abs D M w s (s.ab.cut nm.data.toList n)) := by
  by_cases he : s.err nm.data.toList = 0
  · obtain ⟨hfl, f, hf, ho⟩ := err_some he
    have g0 : s.ab.err nm.data.toList = 0 := by rw [err_ab]; exact he
    have g1 : (aold nm.data.toList s.ab.fs).bs = f.bs := by
      show (aold nm.data.toList (s.fs.map Fl.ab)).bs = _
      rw [old_ab, ho]
      rfl
    by_cases hn : n < 0 ∨ (f.bs.length : Int) < n
    · refine (cut_arg h nm hs n hfl f hf hn).mono ?_
      rintro e w' ⟨rfl, hfr⟩
      have e1 : s.ab.cut nm.data.toList n = (2, s.ab) := by unfold Ab.cut; rw [g0, g1]; simp [hn]
      rw [e1]
      exact ⟨s, rfl, Nx.no h hfr, rfl⟩
    · obtain ⟨k, rfl⟩ : ∃ k : Nat, n = (k : Int) := ⟨n.toNat, by omega⟩
      have hk : k ≤ f.bs.length := by omega
      cases hx : s.fails with
      | true =>
        refine (cut_fails h nm hs k hfl f hf hk hx).mono ?_
        rintro e w' ⟨rfl, hN⟩
        have e1 : s.ab.cut nm.data.toList (k : Int) = (15, s.ab.step) := by unfold Ab.cut; rw [g0, g1, fails_ab, hx, if_neg (by simp), if_neg hn]; rfl
        rw [e1]
        exact ⟨_, rfl, hN, step_ab s⟩
      | false =>
        refine (cut_ok h nm hs k hfl f hf hk hx).mono ?_
        rintro e w' ⟨rfl, A, c, hN⟩
        have e1 : s.ab.cut nm.data.toList (k : Int) = (0, { s.ab.step with fs := aput ⟨nm.data.toList, f.bs.take k, k⟩ s.ab.fs }) := by
          unfold Ab.cut; rw [g0, g1, fails_ab, hx, if_neg (by simp), if_neg hn]; rfl
        rw [e1]
        refine ⟨_, rfl, hN, ?_⟩
        show (⟨_, _, _, _, (put _ s.fs).map Fl.ab⟩ : Ab) = ⟨_, _, _, _, aput _ (s.fs.map Fl.ab)⟩
        rw [put_ab, ← step_ab, ← (fnd_mem hf).2]
        rfl
  · refine (cut_bad h nm n hs he).mono ?_
    rintro e w' ⟨rfl, hf⟩
    have e1 : s.ab.cut nm.data.toList n = (s.err nm.data.toList, s.ab) := by unfold Ab.cut; rw [err_ab, if_pos he]
    rw [e1]
    exact ⟨s, rfl, Nx.no h hf, rfl⟩
end
end Go.Proofs.YtggejecmhfafoaaGreatDoor

/-
  DiskWoven: mathematics: what lists of calls come to, and how great that can be. No statement of the seat is proved here.
-/
import Derived.Test.YtpffgkflebbejaaDmM
import Derived.Test.YtpffgkflebbejaaDmC
namespace Go.Proofs.Ytpffgkflebbejaa
open Go.RowKit Go.Maps

theorem aused_cons (f : Af) (fs : List Af) : aused (f :: fs) = f.bs.length + aused fs := by simp [aused]
theorem aused_two (a b : List Af) : aused (a ++ b) = aused a + aused b := by simp [aused]
set_option maxRecDepth 100000 in
theorem aused_ins (f : Af) : ∀ fs : List Af, aused (ains f fs) = aused fs + f.bs.length
  | [] => by simp [ains, aused]
  | g :: r => by
    unfold ains
    split
    · rw [aused_cons]; omega
    · rw [aused_cons, aused_cons, aused_ins f r]; omega
set_option maxRecDepth 100000 in
theorem aused_del_le (nm : List UInt8) : ∀ fs : List Af, aused (adel nm fs) ≤ aused fs
  | [] => Nat.le_refl _
  | g :: r => by
    have ih := aused_del_le nm r
    unfold adel at ih ⊢
    rw [List.filter_cons]
    split
    · rw [aused_cons, aused_cons]; omega
    · rw [aused_cons]; omega
set_option maxRecDepth 100000 in
theorem aused_del_old (nm : List UInt8) : ∀ fs : List Af, aused (adel nm fs) + (aold nm fs).bs.length ≤ aused fs
  | [] => by simp [adel, aold, afnd, aused]
  | g :: r => by
    have ih := aused_del_old nm r
    have il := aused_del_le nm r
    by_cases h : g.nm = nm
    · have e1 : adel nm (g :: r) = adel nm r := by unfold adel; rw [List.filter_cons]; simp [h]
      have e2 : aold nm (g :: r) = g := by unfold aold afnd; rw [List.find?_cons]; simp [h]
      rw [e1, e2, aused_cons]; omega
    · have e1 : adel nm (g :: r) = g :: adel nm r := by unfold adel; rw [List.filter_cons]; simp [h]
      have hb : (g.nm == nm) = false := beq_eq_false_iff_ne.2 h
      have e2 : aold nm (g :: r) = aold nm r := by unfold aold afnd; rw [List.find?_cons, hb]
      rw [e1, e2, aused_cons, aused_cons]; omega
theorem aused_put (f : Af) (fs : List Af) : aused (aput f fs) = aused (adel f.nm fs) + f.bs.length := by
  unfold aput
  rw [aused_ins]
set_option maxRecDepth 100000 in
theorem aimU_used (fs : List Af) (c : Cl) : aused (aimU fs c).2 ≤ aused fs + c.B.l.length := by
  have h0 := aused_del_old c.nm.data.toList fs
  have h1 := aused_del_le c.to.data.toList (adel c.nm.data.toList fs)
  unfold aimU
  repeat' split
  all_goals first
    | (show aused fs ≤ _; omega)
    | (show aused (adel _ fs) ≤ _; omega)
    | (show aused (aput _ _) ≤ _; rw [aused_put]; simp only [List.length_append]; omega)
    | (show aused (aput _ _) ≤ _; rw [aused_put]; simp only [List.length_take]; omega)
    | (show aused (aput _ _) ≤ _; rw [aused_put]; dsimp only; omega)
set_option maxRecDepth 100000 in
theorem aimU_len (fs : List Af) (c : Cl) : (aimU fs c).2.length ≤ fs.length + 1 := by
  have h0 := alen_del c.nm.data.toList fs
  have h1 := fun f => alen_put f fs
  have h2 := fun f => alen_put f (adel c.nm.data.toList fs)
  unfold aimU
  repeat' split
  all_goals first
    | (show fs.length ≤ _; omega)
    | (show (adel _ fs).length ≤ _; omega)
    | exact h1 _
    | exact Nat.le_trans (h2 _) (by omega)
set_option maxRecDepth 100000 in
theorem aimU_err (fs : List Af) (c : Cl) : (aimU fs c).1 ≠ 0 → (aimU fs c).2 = fs := by
  unfold aimU
  repeat' split
  all_goals first
    | exact fun _ => rfl
    | exact fun h => absurd rfl h
set_option maxRecDepth 100000 in
theorem does_calm {m : Nat} {fs : List Af} {c : Cl} (h1 : aused fs + c.B.l.length ≤ m) (h2 : fs.length < 200) : Ab.does ⟨false, false, 0, m, fs⟩ c = ((aimU fs c).1, ⟨false, false, 0, m, (aimU fs c).2⟩) := by
  rw [does_aim _ _ rfl]
  show Ab.hits _ (aim m fs c) = _
  rw [aim_free h1 h2]
  have he := aimU_err fs c
  obtain ⟨⟨x, gs⟩, hr⟩ : ∃ r, aimU fs c = r := ⟨_, rfl⟩
  rw [hr] at he ⊢
  simp only at he ⊢
  by_cases h0 : x = 0
  · subst h0
    rw [hits_ok]
    rfl
  · rw [hits_not _ _ h0, he h0]
/-- The files that calls one behind the other leave, where room does not bind. -/
def runs (l : List Cl) : List Af := l.foldl (fun fs c => (aimU fs c).2) []
/-- What the call at a place tells. -/
def cd (L : List Cl) (i : Nat) : Int := match L[i]? with
  | some c => (aimU (runs (L.take i)) c).1
  | none => 0
def cds (L : List Cl) (k : Nat) : List Int := (List.range k).map (cd L)
section
variable {L : List Cl} {i k : Nat} {c : Cl}
theorem runs_succ (h : L[i]? = some c) : runs (L.take (i + 1)) = (aimU (runs (L.take i)) c).2 := by
  rw [List.take_add_one, h]
  unfold runs
  rw [List.foldl_append]
  rfl
theorem runs_end (h : L[i]? = none) : runs (L.take (i + 1)) = runs (L.take i) := by
  rw [List.take_add_one, h]
  simp
theorem cd_at (h : L[i]? = some c) : cd L i = (aimU (runs (L.take i)) c).1 := by
  unfold cd
  rw [h]
theorem cds_succ (L : List Cl) (k : Nat) : cds L (k + 1) = cds L k ++ [cd L k] := by
  unfold cds
  rw [List.range_succ, List.map_append]
  rfl
theorem cds_length (L : List Cl) (k : Nat) : (cds L k).length = k := by simp [cds]
theorem cds_at (L : List Cl) (h : i < k) : (cds L k)[i]? = some (cd L i) := by
  unfold cds
  rw [List.getElem?_map, List.getElem?_range h]
  rfl
end
/-- A call of a list of the law's own: its names begin with this byte. -/
structure Oc (b : UInt8) (W : World) (c : Cl) : Prop where
  nm : Bg b c.nm.data.toList
  to : Bg b c.to.data.toList
  few : c.B.n ≤ 150
  wh : c.wh ≤ 5
  z1 : c.nm.size ≤ maxLen
  z2 : c.to.size ≤ maxLen
  rd : Rd W W.heap.size c.B.A c.B.n c.B.l
section
variable {b : UInt8} {W : World} {L : List Cl}
set_option maxRecDepth 100000 in
theorem runs_kind (h : ∀ c ∈ L, Oc b W c) : ∀ i, ∀ g ∈ runs (L.take i), Bg b g.nm
  | 0 => fun g hg => by simp [runs] at hg
  | i + 1 => by
    have ih := runs_kind h i
    cases hc : L[i]? with
    | none => rw [runs_end hc]; exact ih
    | some c =>
      have ho := h c (List.mem_of_getElem? hc)
      rw [runs_succ hc]
      exact aimU_kind ho.nm ho.to ih
set_option maxRecDepth 100000 in
theorem runs_used (h : ∀ c ∈ L, Oc b W c) : ∀ i, aused (runs (L.take i)) ≤ 150 * i
  | 0 => by simp [runs, aused]
  | i + 1 => by
    have ih := runs_used h i
    cases hc : L[i]? with
    | none => rw [runs_end hc]; omega
    | some c =>
      have ho := h c (List.mem_of_getElem? hc)
      have h1 := aimU_used (runs (L.take i)) c
      have h2 := ho.rd.len
      have h3 := ho.few
      rw [runs_succ hc]
      omega
set_option maxRecDepth 100000 in
theorem runs_len (L : List Cl) : ∀ i, (runs (L.take i)).length ≤ i
  | 0 => by simp [runs]
  | i + 1 => by
    have ih := runs_len L i
    cases hc : L[i]? with
    | none => rw [runs_end hc]; omega
    | some c =>
      have h1 := aimU_len (runs (L.take i)) c
      rw [runs_succ hc]
      omega
end
/-- A disk whose power is there and bound to nothing, with room for 1 << 20 bytes. -/
def Big (fs : List Af) : Ab := ⟨false, false, 0, 1048576, fs⟩
section
variable {W : World} {L R : List Cl} {i k : Nat} {c : Cl}
set_option maxRecDepth 100000 in
theorem does_left (hL : ∀ c ∈ L, Oc 45 W c) (hR : ∀ c ∈ R, Oc 46 W c) (hi : i ≤ 25) (hk : k ≤ 25) (h : L[i]? = some c) :
    (Big (runs (L.take i) ++ runs (R.take k))).does c = (cd L i, Big (runs (L.take (i + 1)) ++ runs (R.take k))) := by
  have ho := hL c (List.mem_of_getElem? h)
  have u1 := runs_used hL i
  have u2 := runs_used hR k
  have n1 := runs_len L i
  have n2 := runs_len R k
  have h2 := ho.rd.len
  have h3 := ho.few
  unfold Big
  rw [does_calm (by rw [aused_two]; omega) (by rw [List.length_append]; omega), aim_left ho.nm ho.to (runs_kind hR k), cd_at h, runs_succ h]
set_option maxRecDepth 100000 in
theorem does_right (hL : ∀ c ∈ L, Oc 45 W c) (hR : ∀ c ∈ R, Oc 46 W c) (hi : i ≤ 25) (hk : k ≤ 25) (h : R[k]? = some c) :
    (Big (runs (L.take i) ++ runs (R.take k))).does c = (cd R k, Big (runs (L.take i) ++ runs (R.take (k + 1)))) := by
  have ho := hR c (List.mem_of_getElem? h)
  have u1 := runs_used hL i
  have u2 := runs_used hR k
  have n1 := runs_len L i
  have n2 := runs_len R k
  have h2 := ho.rd.len
  have h3 := ho.few
  unfold Big
  rw [does_calm (by rw [aused_two]; omega) (by rw [List.length_append]; omega), aim_right ho.nm ho.to (runs_kind hL i), cd_at h, runs_succ h]
end
end Go.Proofs.Ytpffgkflebbejaa

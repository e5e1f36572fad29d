/-
  DiskCalled: mathematics: files whose first byte tells which they are; names given to others. No statement of the seat is proved here.
-/
import Derived.Test.YtnkgcafebmacjaaDmA
namespace Go.Proofs.Ytnkgcafebmacjaa
open Go.RowKit Go.Maps

/-- Which file it is: its first byte. -/
def Af.hd (f : Af) : Nat := (f.bs.headD 0).toNat
def Af.ent (f : Af) : Lit × DataW Value := (.string f.nm, .lit (.int .i64 (f.hd : Int)))
def datI (fs : List Af) : DataW Value := .map (fs.map Af.ent)
set_option maxRecDepth 100000 in
theorem afnd_map (nm : List UInt8) (fs : List Af) : (fs.map Af.ent).find? (fun p => p.1.sameKey (.string nm)) = (afnd nm fs).map Af.ent := by
  unfold afnd
  rw [List.find?_map]
  rfl
set_option maxRecDepth 100000 in
theorem datI_at (nm : List UInt8) (fs : List Af) (z : DataW Value) : (datI fs).atKey (.string nm) z = match afnd nm fs with | some f => .lit (.int .i64 (f.hd : Int)) | none => z := by
  simp only [datI, DataW.atKey]
  rw [afnd_map]
  cases afnd nm fs <;> rfl
set_option maxRecDepth 100000 in
theorem datI_has (nm : List UInt8) (fs : List Af) : Maps.has (datI fs) (.string nm) = (afnd nm fs).isSome := by
  show (fs.map Af.ent).any (fun p => p.1.sameKey (.string nm)) = _
  rw [← List.isSome_find?, afnd_map]
  cases afnd nm fs <;> rfl
theorem datI_size (fs : List Af) : Maps.size (datI fs) = fs.length := by
  show (fs.map Af.ent).length = _
  simp
set_option maxRecDepth 100000 in
theorem datI_del (nm : List UInt8) (fs : List Af) : (datI fs).del (.string nm) = datI (adel nm fs) := by
  show DataW.map ((fs.map Af.ent).filter fun p => !p.1.sameKey (.string nm)) = .map ((adel nm fs).map Af.ent)
  rw [adel, List.filter_map]
  rfl
set_option maxRecDepth 100000 in
theorem ains_ent (f : Af) (fs : List Af) : DataW.insert f.ent (fs.map Af.ent) = (ains f fs).map Af.ent := by
  induction fs with
  | nil => rfl
  | cons g r ih =>
    show DataW.insert f.ent (g.ent :: r.map Af.ent) = (if bytesBefore f.nm g.nm then f :: g :: r else g :: ains f r).map Af.ent
    unfold DataW.insert
    have e : f.ent.1.before g.ent.1 = bytesBefore f.nm g.nm := rfl
    rw [e, ih]
    split <;> rfl
set_option maxRecDepth 100000 in
theorem datI_put (f : Af) (fs : List Af) : (datI fs).put (.string f.nm) (.lit (.int .i64 (f.hd : Int))) = datI (aput f fs) := by
  show DataW.map (DataW.insert (.string f.nm, .lit (.int .i64 (f.hd : Int))) ((fs.map Af.ent).filter fun p => !p.1.sameKey (.string f.nm))) = .map ((aput f fs).map Af.ent)
  rw [List.filter_map, aput, ← ains_ent]
  rfl

/-- A disk whose power is there and bound to nothing, with room for 100 bytes. -/
def Hun (fs : List Af) : Ab := ⟨false, false, 0, 100, fs⟩
/-- One of the six files, under one of the six names. -/
def Gd (F : Nat → Nat) (f : Af) : Prop := ∃ j k : Nat, j < 6 ∧ k < 6 ∧ f.nm = [UInt8.ofNat (97 + j)] ∧ f.bs = [UInt8.ofNat k, UInt8.ofNat (10 * k), 7] ∧ f.fm = F k % 4
theorem Gd.hd {F : Nat → Nat} {f : Af} (h : Gd F f) : f.hd < 6 ∧ f.bs = [UInt8.ofNat f.hd, UInt8.ofNat (10 * f.hd), 7] ∧ f.fm = F f.hd % 4 := by
  obtain ⟨j, k, _, hk, _, hb, hf⟩ := h
  have e : f.hd = k := by
    unfold Af.hd
    rw [hb]
    show (UInt8.ofNat k).toNat = k
    rw [UInt8.toNat_ofNat']
    omega
  rw [e]
  exact ⟨hk, hb, hf⟩
theorem nm6 {j : Nat} (h : j < 6) : isNm [UInt8.ofNat (97 + j)] = true := by
  have : j = 0 ∨ j = 1 ∨ j = 2 ∨ j = 3 ∨ j = 4 ∨ j = 5 := by omega
  rcases this with rfl | rfl | rfl | rfl | rfl | rfl <;> decide +kernel
theorem nm6_ne {i j : Nat} (hi : i < 6) (hj : j < 6) (h : j ≠ i) : ([UInt8.ofNat (97 + j)] : List UInt8) ≠ [UInt8.ofNat (97 + i)] := by
  intro e
  injection e with e
  have := congrArg UInt8.toNat e
  rw [UInt8.toNat_ofNat', UInt8.toNat_ofNat'] at this
  omega
section
variable {fs : List Af} {nm : List UInt8}
set_option maxRecDepth 100000 in
theorem adel_no (h : ∀ g ∈ fs, g.nm ≠ nm) : adel nm fs = fs := by
  unfold adel
  rw [List.filter_eq_self]
  intro g hg
  have := h g hg
  simp [this]
set_option maxRecDepth 100000 in
theorem afnd_no (h : ∀ g ∈ fs, g.nm ≠ nm) : afnd nm fs = none := by
  unfold afnd
  rw [List.find?_eq_none]
  intro g hg e
  exact h g hg (eq_of_beq e)
set_option maxRecDepth 100000 in
theorem afnd_ains {f : Af} (hf : f.nm = nm) : ∀ fs : List Af, (∀ g ∈ fs, g.nm ≠ nm) → afnd nm (ains f fs) = some f
  | [], _ => by simp [ains, afnd, hf]
  | g :: r, h => by
    unfold ains
    split
    · simp [afnd, hf]
    · have hb : (g.nm == nm) = false := beq_eq_false_iff_ne.2 (h g (List.mem_cons_self ..))
      have ih := afnd_ains hf r (fun x hx => h x (List.mem_cons_of_mem _ hx))
      unfold afnd at ih ⊢
      rw [List.find?_cons, hb]
      exact ih
set_option maxRecDepth 100000 in
theorem adel_ains {f : Af} (hf : f.nm = nm) : ∀ fs : List Af, (∀ g ∈ fs, g.nm ≠ nm) → adel nm (ains f fs) = fs
  | [], _ => by simp [ains, adel, hf]
  | g :: r, h => by
    have hg := h g (List.mem_cons_self ..)
    have hr := fun x hx => h x (List.mem_cons_of_mem g hx)
    unfold ains
    split
    · have e := adel_no hr
      unfold adel at e ⊢
      rw [List.filter_cons, List.filter_cons, e]
      simp [hf, hg]
    · have ih := adel_ains hf r hr
      unfold adel at ih ⊢
      rw [List.filter_cons, ih]
      simp [hg]
set_option maxRecDepth 100000 in
theorem aput_ains {f g : Af} (hg : g.nm = f.nm) (h : ∀ x ∈ fs, x.nm ≠ f.nm) : aput f (ains g fs) = ains f fs := by
  unfold aput
  rw [adel_ains hg fs h]
set_option maxRecDepth 100000 in
theorem aput_no {f : Af} (h : ∀ x ∈ fs, x.nm ≠ f.nm) : aput f fs = ains f fs := by
  unfold aput
  rw [adel_no h]
set_option maxRecDepth 100000 in
theorem hun_append {l : List UInt8} (hn : isNm nm = true) (hu : aused fs + l.length ≤ 100) (hl : fs.length < 200) : (Hun fs).append nm l = (0, Hun (aput ⟨nm, (aold nm fs).bs ++ l, (aold nm fs).fm⟩ fs)) := by
  have hft : (Hun fs).fits nm l.length = true := by
    unfold Ab.fits
    simp only [Bool.and_eq_true, Bool.or_eq_true, decide_eq_true_eq]
    exact ⟨hu, .inr hl⟩
  unfold Ab.append
  rw [if_neg (by simp [Hun]), if_neg (by simp [hn]), if_neg (by simp [hft]), if_neg (by simp [Hun, Ab.fails])]
  rfl
set_option maxRecDepth 100000 in
theorem hun_sync {f : Af} (hf : afnd nm fs = some f) : (Hun fs).sync nm = (0, Hun (aput ⟨nm, (aold nm fs).bs, (aold nm fs).bs.length⟩ fs)) := by
  have he : (Hun fs).err nm = 0 := by
    unfold Ab.err
    show (if false = true then (15 : Int) else match afnd nm fs with | none => 13 | some _ => 0) = 0
    rw [hf]
    rfl
  unfold Ab.sync
  rw [he, if_neg (by simp), if_neg (by simp [Hun, Ab.fails])]
  rfl
set_option maxRecDepth 100000 in
theorem hun_rename_ok {f : Af} {to : List UInt8} (hf : afnd nm fs = some f) (ht : isNm to = true) : (Hun fs).rename nm to = (0, Hun (aput ⟨to, f.bs, f.fm⟩ (adel nm fs))) := by
  have he : (Hun fs).err nm = 0 := by
    unfold Ab.err
    show (if false = true then (15 : Int) else match afnd nm fs with | none => 13 | some _ => 0) = 0
    rw [hf]
    rfl
  have ho : aold nm fs = f := by unfold aold; rw [hf]; rfl
  unfold Ab.rename
  rw [he, if_neg (by simp), if_neg (by simp [ht]), if_neg (by simp [Hun, Ab.fails])]
  show (0, Hun (aput ⟨to, (aold nm fs).bs, (aold nm fs).fm⟩ (adel nm fs))) = _
  rw [ho]
set_option maxRecDepth 100000 in
theorem hun_rename_no {to : List UInt8} (hf : afnd nm fs = none) : (Hun fs).rename nm to = (13, Hun fs) := by
  have he : (Hun fs).err nm = 13 := by
    unfold Ab.err
    show (if false = true then (15 : Int) else match afnd nm fs with | none => 13 | some _ => 0) = 13
    rw [hf]
    rfl
  unfold Ab.rename
  rw [he, if_pos (by simp)]
end
section
variable {fs : List Af} {nm l m : List UInt8} {f : Af}
set_option maxRecDepth 100000 in
/-- A new file, in two pieces, a Sync between. -/
theorem new_one (hn : isNm nm = true) (hno : ∀ g ∈ fs, g.nm ≠ nm) (hu : aused fs + l.length + m.length ≤ 100) (hl : fs.length < 199) (hai : ∀ f : Af, aused (ains f fs) = aused fs + f.bs.length) (hln : ∀ f : Af, (ains f fs).length = fs.length + 1) :
    (Hun fs).append nm l = (0, Hun (ains ⟨nm, l, 0⟩ fs)) ∧ (Hun (ains ⟨nm, l, 0⟩ fs)).sync nm = (0, Hun (ains ⟨nm, l, l.length⟩ fs)) ∧
      (Hun (ains ⟨nm, l, l.length⟩ fs)).append nm m = (0, Hun (ains ⟨nm, l ++ m, l.length⟩ fs)) := by
  have o0 : aold nm fs = ⟨nm, [], 0⟩ := by unfold aold; rw [afnd_no hno]; rfl
  have o1 : ∀ k, aold nm (ains ⟨nm, l, k⟩ fs) = ⟨nm, l, k⟩ := fun k => by unfold aold; rw [afnd_ains (f := ⟨nm, l, k⟩) (nm := nm) rfl fs hno]; rfl
  refine ⟨?_, ?_, ?_⟩
  · rw [hun_append hn (by omega) (by omega), o0, aput_no hno]
    rfl
  · rw [hun_sync (afnd_ains (f := ⟨nm, l, 0⟩) (nm := nm) rfl fs hno), o1]
    show (0, Hun (aput ⟨nm, l, l.length⟩ (ains ⟨nm, l, 0⟩ fs))) = _
    rw [aput_ains (f := ⟨nm, l, l.length⟩) (g := ⟨nm, l, 0⟩) rfl hno]
  · rw [hun_append hn (by rw [hai]; exact hu) (by rw [hln]; omega), o1]
    show (0, Hun (aput ⟨nm, l ++ m, l.length⟩ (ains ⟨nm, l, l.length⟩ fs))) = _
    rw [aput_ains (f := ⟨nm, l ++ m, l.length⟩) (g := ⟨nm, l, l.length⟩) rfl hno]
theorem afnd_some (h : afnd nm fs = some f) : f ∈ fs ∧ f.nm = nm := by
  unfold afnd at h
  exact ⟨List.mem_of_find?_eq_some h, eq_of_beq (List.find?_some (p := fun g : Af => g.nm == nm) h)⟩
end
theorem mem_ains' {f g : Af} : ∀ {l : List Af}, g ∈ ains f l → g = f ∨ g ∈ l
  | [], h => by
    have : g = f := by simpa [ains] using h
    exact .inl this
  | x :: r, h => by
    unfold ains at h
    split at h
    · rcases List.mem_cons.1 h with e | e
      · exact .inl e
      · exact .inr e
    · rcases List.mem_cons.1 h with e | e
      · exact .inr (e ▸ List.mem_cons_self ..)
      · rcases mem_ains' e with e | e
        · exact .inl e
        · exact .inr (List.mem_cons_of_mem _ e)
theorem mem_adel' {nm : List UInt8} {l : List Af} {g : Af} (h : g ∈ adel nm l) : g ∈ l := by
  unfold adel at h
  exact (List.mem_filter.1 h).1
theorem mem_aput' {f g : Af} {l : List Af} (h : g ∈ aput f l) : g = f ∨ g ∈ l := by
  unfold aput at h
  rcases mem_ains' h with e | e
  · exact .inl e
  · exact .inr (mem_adel' e)
/-- Under another name a file is what it was. -/
theorem Gd.called {F : Nat → Nat} {f : Af} (h : Gd F f) {j : Nat} (hj : j < 6) : Gd F ⟨[UInt8.ofNat (97 + j)], f.bs, f.fm⟩ := by
  obtain ⟨_, k, _, hk, _, hb, hf⟩ := h
  exact ⟨j, k, hj, hk, rfl, hb, hf⟩
end Go.Proofs.Ytnkgcafebmacjaa

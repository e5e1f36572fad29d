/-
  Files of two kinds of names, the ones ahead of the others. No statement of the seat is proved here.
-/
import Derived.Test.YtpffgkflebbejaaDmY
namespace Go.Proofs.Ytpffgkflebbejaa
open Go.RowKit Go.Maps

/-- Names that begin with this byte. -/
def Bg (b : UInt8) (nm : List UInt8) : Prop := ∃ r, nm = b :: r
set_option maxRecDepth 100000 in
theorem Bg.ne {a b : UInt8} {x y : List UInt8} (hx : Bg a x) (hy : Bg b y) (h : a ≠ b) : x ≠ y := by
  obtain ⟨r, rfl⟩ := hx
  obtain ⟨q, rfl⟩ := hy
  intro e
  injection e with e
  exact h e
set_option maxRecDepth 100000 in
theorem bg_before {x y : List UInt8} (hx : Bg 45 x) (hy : Bg 46 y) : bytesBefore x y = true ∧ bytesBefore y x = false := by
  obtain ⟨r, rfl⟩ := hx
  obtain ⟨q, rfl⟩ := hy
  exact ⟨by simp [bytesBefore], by simp [bytesBefore]⟩
set_option maxRecDepth 100000 in
theorem ains_left {f : Af} (hf : Bg 45 f.nm) {l2 : List Af} (h2 : ∀ g ∈ l2, Bg 46 g.nm) : ∀ l1 : List Af, ains f (l1 ++ l2) = ains f l1 ++ l2
  | [] => by
    cases l2 with
    | nil => rfl
    | cons g r =>
      show ains f (g :: r) = f :: g :: r
      unfold ains
      rw [(bg_before hf (h2 g (List.mem_cons_self ..))).1, if_pos rfl]
  | g :: r => by
    show (if bytesBefore f.nm g.nm then f :: g :: (r ++ l2) else g :: ains f (r ++ l2)) = (if bytesBefore f.nm g.nm then f :: g :: r else g :: ains f r) ++ l2
    split
    · rfl
    · rw [ains_left hf h2 r]
      rfl
set_option maxRecDepth 100000 in
theorem ains_right {f : Af} (hf : Bg 46 f.nm) {l2 : List Af} : ∀ l1 : List Af, (∀ g ∈ l1, Bg 45 g.nm) → ains f (l1 ++ l2) = l1 ++ ains f l2
  | [], _ => rfl
  | g :: r, h => by
    show (if bytesBefore f.nm g.nm then f :: g :: (r ++ l2) else g :: ains f (r ++ l2)) = g :: (r ++ ains f l2)
    rw [(bg_before (h g (List.mem_cons_self ..)) hf).2, if_neg (by simp), ains_right hf r (fun x hx => h x (List.mem_cons_of_mem _ hx))]
set_option maxRecDepth 100000 in
theorem adel_none {nm : List UInt8} : ∀ l : List Af, (∀ g ∈ l, g.nm ≠ nm) → adel nm l = l := fun l h => by
  unfold adel
  rw [List.filter_eq_self]
  intro g hg
  have := h g hg
  simp [this]
set_option maxRecDepth 100000 in
theorem adel_left {nm : List UInt8} (hn : Bg 45 nm) {l1 l2 : List Af} (h2 : ∀ g ∈ l2, Bg 46 g.nm) : adel nm (l1 ++ l2) = adel nm l1 ++ l2 := by
  have e : adel nm (l1 ++ l2) = adel nm l1 ++ adel nm l2 := by unfold adel; rw [List.filter_append]
  rw [e, adel_none l2 (fun g hg => (h2 g hg).ne hn (by decide))]
set_option maxRecDepth 100000 in
theorem adel_right {nm : List UInt8} (hn : Bg 46 nm) {l1 l2 : List Af} (h1 : ∀ g ∈ l1, Bg 45 g.nm) : adel nm (l1 ++ l2) = l1 ++ adel nm l2 := by
  have e : adel nm (l1 ++ l2) = adel nm l1 ++ adel nm l2 := by unfold adel; rw [List.filter_append]
  rw [e, adel_none l1 (fun g hg => (h1 g hg).ne hn (by decide))]
set_option maxRecDepth 100000 in
theorem afnd_left {nm : List UInt8} (hn : Bg 45 nm) {l1 l2 : List Af} (h2 : ∀ g ∈ l2, Bg 46 g.nm) : afnd nm (l1 ++ l2) = afnd nm l1 := by
  unfold afnd
  rw [List.find?_append]
  have : l2.find? (fun f => f.nm == nm) = none := by
    rw [List.find?_eq_none]
    intro g hg e
    exact (h2 g hg).ne hn (by decide) (eq_of_beq e)
  rw [this]
  simp
set_option maxRecDepth 100000 in
theorem afnd_right {nm : List UInt8} (hn : Bg 46 nm) {l1 l2 : List Af} (h1 : ∀ g ∈ l1, Bg 45 g.nm) : afnd nm (l1 ++ l2) = afnd nm l2 := by
  unfold afnd
  rw [List.find?_append]
  have : l1.find? (fun f => f.nm == nm) = none := by
    rw [List.find?_eq_none]
    intro g hg e
    exact (h1 g hg).ne hn (by decide) (eq_of_beq e)
  rw [this]
  simp
/-- What a call aims at, where room does not bind. -/
def aimU (fs : List Af) (c : Cl) : Int × List Af :=
  if c.wh ≤ 1 then
    if isNm c.nm.data.toList = false then (13, fs)
    else (0, aput ⟨c.nm.data.toList, (aold c.nm.data.toList fs).bs ++ c.B.l, (aold c.nm.data.toList fs).fm⟩ fs)
  else if c.wh = 2 then
    if (afnd c.nm.data.toList fs).isNone then (13, fs) else (0, aput ⟨c.nm.data.toList, (aold c.nm.data.toList fs).bs, (aold c.nm.data.toList fs).bs.length⟩ fs)
  else if c.wh = 3 then
    if (afnd c.nm.data.toList fs).isNone then (13, fs) else if isNm c.to.data.toList = false then (13, fs)
    else (0, aput ⟨c.to.data.toList, (aold c.nm.data.toList fs).bs, (aold c.nm.data.toList fs).fm⟩ (adel c.nm.data.toList fs))
  else if c.wh = 4 then
    if (afnd c.nm.data.toList fs).isNone then (13, fs) else (0, adel c.nm.data.toList fs)
  else if c.wh = 5 then
    if (afnd c.nm.data.toList fs).isNone then (13, fs) else if c.n < 0 ∨ ((aold c.nm.data.toList fs).bs.length : Int) < c.n then (2, fs)
    else (0, aput ⟨c.nm.data.toList, (aold c.nm.data.toList fs).bs.take c.n.toNat, c.n.toNat⟩ fs)
  else (2, fs)
set_option maxRecDepth 100000 in
theorem aim_free {mo : Nat} {fs : List Af} {c : Cl} (h1 : aused fs + c.B.l.length ≤ mo) (h2 : fs.length < 200) : aim mo fs c = aimU fs c := by
  unfold aim aimU
  have e : (decide (aused fs + c.B.l.length ≤ mo) && ((afnd c.nm.data.toList fs).isSome || decide (fs.length < 200))) = true := by simp [h1, h2]
  rw [e]
  simp
set_option maxRecDepth 100000 in
theorem aput_left {f : Af} (hf : Bg 45 f.nm) {l1 l2 : List Af} (h2 : ∀ g ∈ l2, Bg 46 g.nm) : aput f (l1 ++ l2) = aput f l1 ++ l2 := by
  unfold aput
  rw [adel_left hf h2, ains_left hf h2]
set_option maxRecDepth 100000 in
theorem adel_mem {nm : List UInt8} {l : List Af} {g : Af} (h : g ∈ adel nm l) : g ∈ l := by
  unfold adel at h
  exact (List.mem_filter.1 h).1
set_option maxRecDepth 100000 in
theorem aput_right {f : Af} (hf : Bg 46 f.nm) {l1 l2 : List Af} (h1 : ∀ g ∈ l1, Bg 45 g.nm) : aput f (l1 ++ l2) = l1 ++ aput f l2 := by
  unfold aput
  rw [adel_right hf h1, ains_right hf l1 h1]
set_option maxRecDepth 100000 in
/-- A call upon names of the first kind acts upon the first part alone. -/
theorem aim_left {c : Cl} (hn : Bg 45 c.nm.data.toList) (ht : Bg 45 c.to.data.toList) {l1 l2 : List Af} (h2 : ∀ g ∈ l2, Bg 46 g.nm) : aimU (l1 ++ l2) c = ((aimU l1 c).1, (aimU l1 c).2 ++ l2) := by
  have eo : aold c.nm.data.toList (l1 ++ l2) = aold c.nm.data.toList l1 := by unfold aold; rw [afnd_left hn h2]
  unfold aimU
  rw [eo, afnd_left hn h2, adel_left hn h2, aput_left (f := ⟨_, _, _⟩) hn h2, aput_left (f := ⟨_, _, _⟩) hn h2, aput_left (f := ⟨_, _, _⟩) ht h2, aput_left (f := ⟨_, _, _⟩) hn h2]
  repeat' split
  all_goals rfl
set_option maxRecDepth 100000 in
theorem aim_right {c : Cl} (hn : Bg 46 c.nm.data.toList) (ht : Bg 46 c.to.data.toList) {l1 l2 : List Af} (h1 : ∀ g ∈ l1, Bg 45 g.nm) : aimU (l1 ++ l2) c = ((aimU l2 c).1, l1 ++ (aimU l2 c).2) := by
  have eo : aold c.nm.data.toList (l1 ++ l2) = aold c.nm.data.toList l2 := by unfold aold; rw [afnd_right hn h1]
  unfold aimU
  rw [eo, afnd_right hn h1, adel_right hn h1, aput_right (f := ⟨_, _, _⟩) hn h1, aput_right (f := ⟨_, _, _⟩) hn h1, aput_right (f := ⟨_, _, _⟩) ht h1, aput_right (f := ⟨_, _, _⟩) hn h1]
  repeat' split
  all_goals rfl
set_option maxRecDepth 100000 in
theorem ains_mem {f g : Af} : ∀ {l : List Af}, g ∈ ains f l → g = f ∨ g ∈ l
  | [], h => by
    have : g = f := by simpa [ains] using h
    exact .inl this
  | x :: r, h => by
    unfold ains at h
    split at h
    · rcases List.mem_cons.1 h with e | e
      · exact .inl e
      · exact .inr e
    · rcases List.mem_cons.1 h with e | e
      · exact .inr (e ▸ List.mem_cons_self ..)
      · rcases ains_mem e with e | e
        · exact .inl e
        · exact .inr (List.mem_cons_of_mem _ e)
set_option maxRecDepth 100000 in
theorem aput_mem {f g : Af} {l : List Af} (h : g ∈ aput f l) : g = f ∨ g ∈ l := by
  unfold aput at h
  rcases ains_mem h with e | e
  · exact .inl e
  · exact .inr (adel_mem e)
set_option maxRecDepth 100000 in
/-- Calls upon names of one kind leave names of that kind. -/
theorem aimU_kind {b : UInt8} {c : Cl} (hn : Bg b c.nm.data.toList) (ht : Bg b c.to.data.toList) {l : List Af} (h : ∀ g ∈ l, Bg b g.nm) : ∀ g ∈ (aimU l c).2, Bg b g.nm := by
  have hp : ∀ (f : Af) (k : List Af), Bg b f.nm → (∀ g ∈ k, Bg b g.nm) → ∀ g ∈ aput f k, Bg b g.nm := fun f k hf hk g hg => by
    rcases aput_mem hg with e | e
    · rw [e]; exact hf
    · exact hk g e
  have hd : ∀ (nm : List UInt8), ∀ g ∈ adel nm l, Bg b g.nm := fun nm g hg => h g (adel_mem hg)
  unfold aimU
  repeat' split
  all_goals first | exact h | exact hd _ | exact hp _ _ hn h | exact hp _ _ ht (hd _)
end Go.Proofs.Ytpffgkflebbejaa

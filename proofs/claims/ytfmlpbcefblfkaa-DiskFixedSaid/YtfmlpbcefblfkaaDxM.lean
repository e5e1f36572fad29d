/-
  DiskFixed: mathematics of the 200 files. No statement of the seat is proved here.
-/
import Derived.Test.YtfmlpbcefblfkaaDcM
import Derived.Test.YtfmlpbcefblfkaaLayRep
namespace Go.Proofs.Ytfmlpbcefblfkaa
open Go.RowKit Go.Maps

/-- Minus signs, and x behind them. -/
def nmX (i : Nat) : List UInt8 := List.replicate (1 + i % 40) 45 ++ List.replicate (i / 40) 120
/-- A nought, and nines behind it. -/
def nmN (i : Nat) : List UInt8 := 48 :: List.replicate i 57
theorem nmX_length (i : Nat) : (nmX i).length = 1 + i % 40 + i / 40 := by simp [nmX]
theorem nmX_inj {i j : Nat} (h : nmX i = nmX j) : i = j := by
  have h1 := congrArg (List.count 45) h
  have h2 := congrArg (List.count 120) h
  unfold nmX at h1 h2
  rw [List.count_append, List.count_append, List.count_replicate, List.count_replicate, List.count_replicate, List.count_replicate] at h1 h2
  simp at h1 h2
  omega
theorem nmN_inj {i j : Nat} (h : nmN i = nmN j) : i = j := by
  have := congrArg List.length h
  simpa [nmN] using this
theorem nmX_nmN (i j : Nat) : nmX i ≠ nmN j := by
  intro h
  have h0 := congrArg List.head? h
  unfold nmX nmN at h0
  rw [show 1 + i % 40 = (i % 40) + 1 by omega, List.replicate_succ] at h0
  simp at h0
set_option maxRecDepth 100000 in
theorem nmX_is {i : Nat} (h : i % 40 + i / 40 < 40) : isNm (nmX i) = true := by
  unfold isNm
  simp only [Bool.and_eq_true, decide_eq_true_eq]
  rw [nmX_length]
  refine ⟨⟨by omega, by omega⟩, ?_⟩
  rw [List.all_eq_true]
  intro x hx
  unfold nmX at hx
  rcases List.mem_append.1 hx with e | e
  · rw [(List.mem_replicate.1 e).2]; decide +kernel
  · rw [(List.mem_replicate.1 e).2]; decide +kernel
set_option maxRecDepth 100000 in
theorem nmX_not {i : Nat} (h : ¬ i % 40 + i / 40 < 40) : isNm (nmX i) = false := by
  cases hn : isNm (nmX i) with
  | false => rfl
  | true =>
    unfold isNm at hn
    simp only [Bool.and_eq_true, decide_eq_true_eq] at hn
    rw [nmX_length] at hn
    omega
set_option maxRecDepth 100000 in
theorem nmN_is {i : Nat} (h : i < 39) : isNm (nmN i) = true := by
  unfold isNm
  simp only [Bool.and_eq_true, decide_eq_true_eq]
  have hl : (nmN i).length = i + 1 := by simp [nmN]
  rw [hl]
  refine ⟨⟨by omega, by omega⟩, ?_⟩
  rw [List.all_eq_true]
  intro x hx
  unfold nmN at hx
  rcases List.mem_cons.1 hx with e | e
  · rw [e]; decide +kernel
  · rw [(List.mem_replicate.1 e).2]; decide +kernel
/-- How many of the first i names may be. -/
def cnt : Nat → Nat
  | 0 => 0
  | i + 1 => cnt i + if i % 40 + i / 40 < 40 then 1 else 0
theorem cnt_succ (i : Nat) : cnt (i + 1) = cnt i + if i % 40 + i / 40 < 40 then 1 else 0 := rfl
theorem cnt_le : ∀ i, cnt i ≤ i
  | 0 => Nat.le_refl _
  | i + 1 => by
    have := cnt_le i
    rw [cnt_succ]
    split <;> omega
theorem cnt_200 : cnt 200 = 190 := by decide +kernel
/-- Files without bytes, of the first i names, and k others. -/
structure Zr (fs : List Af) (i k : Nat) : Prop where
  nil : ∀ f ∈ fs, f.bs = []
  nm : ∀ f ∈ fs, (∃ j, j < i ∧ f.nm = nmX j) ∨ (∃ j, j < k ∧ f.nm = nmN j)
  len : fs.length = cnt i + k
  one : 0 < i → ∃ f ∈ fs, f.nm = nmX 0
theorem aused_nil : ∀ {fs : List Af}, (∀ f ∈ fs, f.bs = []) → aused fs = 0
  | [], _ => rfl
  | f :: r, h => by
    have h1 := h f (List.mem_cons_self ..)
    have h2 := aused_nil (fs := r) (fun g hg => h g (List.mem_cons_of_mem _ hg))
    unfold aused at h2 ⊢
    simp [h1, h2]
theorem ains_len (f : Af) : ∀ fs : List Af, (ains f fs).length = fs.length + 1
  | [] => rfl
  | g :: r => by
    unfold ains
    split
    · rfl
    · simp [ains_len f r]
theorem ains_has {f g : Af} : ∀ {fs : List Af}, g ∈ fs → g ∈ ains f fs
  | x :: r, h => by
    unfold ains
    split
    · exact List.mem_cons_of_mem _ h
    · rcases List.mem_cons.1 h with e | e
      · exact e ▸ List.mem_cons_self ..
      · exact List.mem_cons_of_mem _ (ains_has e)
theorem ains_new {f : Af} : ∀ {fs : List Af}, f ∈ ains f fs
  | [] => by simp [ains]
  | x :: r => by
    unfold ains
    split
    · exact List.mem_cons_self ..
    · exact List.mem_cons_of_mem _ ains_new
def Zer (fs : List Af) : Ab := ⟨false, false, 0, 0, fs⟩
section
variable {fs : List Af} {nm : List UInt8} {i k : Nat}
set_option maxRecDepth 100000 in
theorem zer_new (hn : isNm nm = true) (hb : ∀ f ∈ fs, f.bs = []) (hno : ∀ f ∈ fs, f.nm ≠ nm) (hl : fs.length < 200) : (Zer fs).append nm [] = (0, Zer (ains ⟨nm, [], 0⟩ fs)) := by
  have hft : (Zer fs).fits nm ([] : List UInt8).length = true := by
    unfold Ab.fits
    simp only [Bool.and_eq_true, Bool.or_eq_true, decide_eq_true_eq]
    exact ⟨by show aused fs + 0 ≤ 0; rw [aused_nil hb]; omega, .inr hl⟩
  have o0 : aold nm fs = ⟨nm, [], 0⟩ := by unfold aold; rw [afnd_no hno]; rfl
  unfold Ab.append
  rw [if_neg (by simp [Zer]), if_neg (by simp [hn]), if_neg (by rw [hft]; simp), if_neg (by simp [Zer, Ab.fails])]
  show (0, Zer (aput ⟨nm, (aold nm fs).bs ++ [], (aold nm fs).fm⟩ fs)) = _
  rw [o0, aput_no hno]
  rfl
set_option maxRecDepth 100000 in
theorem zer_bad (hn : isNm nm = false) (l : List UInt8) : (Zer fs).append nm l = (13, Zer fs) := by
  unfold Ab.append
  rw [if_neg (by simp [Zer]), if_pos hn]
theorem Zr.start : Zr [] 0 0 := ⟨(fun f hf => by cases hf), (fun f hf => by cases hf), rfl, (fun h => by omega)⟩
set_option maxRecDepth 100000 in
theorem Zr.put (h : Zr fs i 0) (hv : i % 40 + i / 40 < 40) (hi : i < 200) : (Zer fs).append (nmX i) [] = (0, Zer (ains ⟨nmX i, [], 0⟩ fs)) ∧ Zr (ains ⟨nmX i, [], 0⟩ fs) (i + 1) 0 := by
  have hc := cnt_le i
  refine ⟨zer_new (nmX_is hv) h.nil (fun f hf e => ?_) (by have := h.len; omega), fun f hf => ?_, fun f hf => ?_, ?_, fun _ => ?_⟩
  · rcases h.nm f hf with ⟨j, hj, e2⟩ | ⟨j, hj, _⟩
    · have := nmX_inj (e2.symm.trans e)
      omega
    · omega
  · rcases mem_ains' hf with e | e
    · rw [e]
    · exact h.nil f e
  · rcases mem_ains' hf with e | e
    · exact .inl ⟨i, by omega, by rw [e]⟩
    · rcases h.nm f e with ⟨j, hj, e2⟩ | ⟨j, hj, _⟩
      · exact .inl ⟨j, by omega, e2⟩
      · omega
  · rw [ains_len, h.len]
    rw [cnt_succ, if_pos hv]
  · by_cases h0 : i = 0
    · exact ⟨_, ains_new, by rw [h0]⟩
    · obtain ⟨f, hf, e⟩ := h.one (by omega)
      exact ⟨f, ains_has hf, e⟩
set_option maxRecDepth 100000 in
theorem Zr.skip (h : Zr fs i 0) (hv : ¬ i % 40 + i / 40 < 40) : Zr fs (i + 1) 0 := by
  refine ⟨h.nil, fun f hf => ?_, ?_, fun _ => ?_⟩
  · rcases h.nm f hf with ⟨j, hj, e2⟩ | ⟨j, hj, _⟩
    · exact .inl ⟨j, by omega, e2⟩
    · omega
  · rw [h.len]
    rw [cnt_succ, if_neg hv]
  · by_cases h0 : i = 0
    · rw [h0] at hv; omega
    · exact h.one (by omega)
set_option maxRecDepth 100000 in
theorem Zr.more (h : Zr fs 200 k) (hk : k < 10) : (Zer fs).append (nmN k) [] = (0, Zer (ains ⟨nmN k, [], 0⟩ fs)) ∧ Zr (ains ⟨nmN k, [], 0⟩ fs) 200 (k + 1) := by
  have hc := cnt_200
  refine ⟨zer_new (nmN_is (by omega)) h.nil (fun f hf e => ?_) (by have := h.len; omega), fun f hf => ?_, fun f hf => ?_, ?_, fun h0 => ?_⟩
  · rcases h.nm f hf with ⟨j, hj, e2⟩ | ⟨j, hj, e2⟩
    · exact nmX_nmN _ _ (e2.symm.trans e)
    · have := nmN_inj (e2.symm.trans e)
      omega
  · rcases mem_ains' hf with e | e
    · rw [e]
    · exact h.nil f e
  · rcases mem_ains' hf with e | e
    · exact .inr ⟨k, by omega, by rw [e]⟩
    · rcases h.nm f e with e2 | ⟨j, hj, e2⟩
      · exact .inl e2
      · exact .inr ⟨j, by omega, e2⟩
  · rw [ains_len, h.len]
    omega
  · obtain ⟨f, hf, e⟩ := h.one h0
    exact ⟨f, ains_has hf, e⟩
set_option maxRecDepth 100000 in
theorem adel_len {nm : List UInt8} : ∀ {fs : List Af}, fs.Pairwise (fun f g => f.nm ≠ g.nm) → (∃ f ∈ fs, f.nm = nm) → (adel nm fs).length + 1 = fs.length
  | g :: r, hp, ⟨f, hf, e⟩ => by
    obtain ⟨h1, h2⟩ := List.pairwise_cons.1 hp
    by_cases hg : g.nm = nm
    · have hno : ∀ x ∈ r, x.nm ≠ nm := fun x hx => by rw [← hg]; exact (h1 x hx).symm
      have e1 : adel nm (g :: r) = adel nm r := by unfold adel; rw [List.filter_cons]; simp [hg]
      rw [e1, adel_no hno]
      rfl
    · have hf2 : f ∈ r := by
        rcases List.mem_cons.1 hf with e2 | e2
        · rw [e2] at e; exact absurd e hg
        · exact e2
      have e1 : adel nm (g :: r) = g :: adel nm r := by unfold adel; rw [List.filter_cons]; simp [hg]
      have ih := adel_len h2 ⟨f, hf2, e⟩
      rw [e1, List.length_cons, List.length_cons, ih]
set_option maxRecDepth 100000 in
/-- The last calls upon 200 files without room. -/
theorem Zr.full (h : Zr fs 200 10) (hp : fs.Pairwise (fun f g => f.nm ≠ g.nm)) : fs.length = 200 ∧ (Zer fs).append [113] [] = (5, Zer fs) ∧ (Zer fs).append [45] [113] = (5, Zer fs) ∧ (Zer fs).append [45] [] = (0, Zer (aput ⟨[45], (aold [45] fs).bs, (aold [45] fs).fm⟩ fs)) ∧
    (aput ⟨[45], (aold [45] fs).bs, (aold [45] fs).fm⟩ fs).length = 200 := by
  have hl : fs.length = 200 := by rw [h.len, cnt_200]
  have hu := aused_nil h.nil
  have hq : ∀ f ∈ fs, f.nm ≠ [113] := fun f hf e => by
    rcases h.nm f hf with ⟨j, _, e2⟩ | ⟨j, _, e2⟩
    · have h0 := congrArg List.head? (e2.symm.trans e)
      unfold nmX at h0
      rw [show 1 + j % 40 = (j % 40) + 1 by omega, List.replicate_succ] at h0
      simp at h0
    · have h0 := congrArg List.head? (e2.symm.trans e)
      simp [nmN] at h0
  obtain ⟨f1, hf1, e1⟩ := h.one (by omega)
  have e45 : nmX 0 = [45] := by decide +kernel
  rw [e45] at e1
  have hs : (afnd [45] fs).isSome = true := by
    unfold afnd
    rw [List.find?_isSome]
    exact ⟨f1, hf1, by simp [e1]⟩
  refine ⟨hl, ?_, ?_, ?_, ?_⟩
  · have hft : (Zer fs).fits [113] ([] : List UInt8).length = false := by
      unfold Ab.fits
      rw [show (Zer fs).fs = fs from rfl, afnd_no hq, hl]
      simp
    unfold Ab.append
    rw [if_neg (by simp [Zer]), if_neg (by decide +kernel), if_pos hft]
  · have hft : (Zer fs).fits [45] ([113] : List UInt8).length = false := by
      unfold Ab.fits
      rw [show (Zer fs).fs = fs from rfl, show (Zer fs).mo = 0 from rfl, hu]
      simp
    unfold Ab.append
    rw [if_neg (by simp [Zer]), if_neg (by decide +kernel), if_pos hft]
  · have hft : (Zer fs).fits [45] ([] : List UInt8).length = true := by
      unfold Ab.fits
      rw [show (Zer fs).fs = fs from rfl, show (Zer fs).mo = 0 from rfl, hu, hs]
      simp
    unfold Ab.append
    rw [if_neg (by simp [Zer]), if_neg (by decide +kernel), if_neg (by rw [hft]; simp), if_neg (by simp [Zer, Ab.fails])]
    show (0, Zer (aput ⟨[45], (aold [45] fs).bs ++ [], (aold [45] fs).fm⟩ fs)) = _
    rw [List.append_nil]
  · unfold aput
    rw [ains_len]
    have := adel_len (nm := [45]) hp ⟨f1, hf1, e1⟩
    show (adel [45] fs).length + 1 = 200
    omega
end
theorem rep_one (b : UInt8) : ∀ c : Nat, Lib.repeatL [b] c = List.replicate c b
  | 0 => rfl
  | c + 1 => by
    show [b] ++ Lib.repeatL [b] c = _
    rw [rep_one b c, List.replicate_succ]
    rfl
theorem cat_txt (a b : List UInt8) : (⟨a.toArray⟩ : ByteArray) ++ (⟨b.toArray⟩ : ByteArray) = ⟨(a ++ b).toArray⟩ := by
  apply ByteArray.ext
  simp [ByteArray.data_append]
end Go.Proofs.Ytfmlpbcefblfkaa

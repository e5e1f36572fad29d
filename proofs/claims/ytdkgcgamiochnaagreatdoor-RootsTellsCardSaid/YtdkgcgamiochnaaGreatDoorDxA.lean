/-
  A disk whose files are known, and its calls. No statement of the seat is proved here.
-/
import Derived.Test.YtdkgcgamiochnaaGreatDoorDmA
import Derived.Test.YtdkgcgamiochnaaGreatDoorDkZ
namespace Go.Proofs.YtdkgcgamiochnaaGreatDoor
open Go.RowKit Go.Maps Go.Sort

/-- In this world a disk stands so, made since w0. -/
def Lon (w0 : World) (D M : Nat) (S : Ab) (w : World) : Prop := ∃ s, Dsk w D M s ∧ s.ab = S ∧ (∀ k, foot D M s.fs k → w0.heap.size ≤ k) ∧ Below w0.heap.size w0 w
section
variable {w0 w w' : World} {D M : Nat} {S S' : Ab}
set_option maxRecDepth 100000 in
theorem Lon.no (h : Lon w0 D M S w) (hf : Fr No w w') : Lon w0 D M S w' := by
  obtain ⟨s, hd, ha, hF, hb⟩ := h
  exact ⟨s, hd.no hf, ha, hF, hb.trans (hf.noBelow.mono hb.size)⟩
set_option maxRecDepth 100000 in
theorem Lon.call {s s' : St} (hF : ∀ k, foot D M s.fs k → w0.heap.size ≤ k) (hb : Below w0.heap.size w0 w) (hN : Nx D M w s w' s') (ha : s'.ab = S') : Lon w0 D M S' w' := by
  refine ⟨s', hN.1, ha, fun k hk => ?_, hb.trans (hN.2.1.below hb.size hF)⟩
  rcases hN.2.2 k hk with e | e
  · exact hF k e
  · have := hb.size
    omega
set_option maxRecDepth 100000 in
theorem Lon.bel (h : Lon w0 D M S w) : Below w0.heap.size w0 w := by
  obtain ⟨_, _, _, _, hb⟩ := h
  exact hb
set_option maxRecDepth 100000 in
theorem lon_new (n : Nat) (w : World) (h : n ≤ 16777216) :
    Calls Tryz.prog 13 #[.int .i64 (n : Int)] w fun e w' => e = .returned (.tuple #[.pointer (some ⟨w.heap.size + 1, 0, none⟩), .int .i64 0]) ∧ Lon w (w.heap.size + 1) w.heap.size ⟨false, false, 0, n, []⟩ w' := by
  refine (new_dsk n w h).mono ?_
  rintro e w' ⟨rfl, hd, hb⟩
  refine ⟨rfl, _, hd, rfl, fun k hk => ?_, hb⟩
  rcases hk with e | e | ⟨f, hf, _⟩
  · omega
  · omega
  · cases hf
section
variable {x : Int}
set_option maxRecDepth 100000 in
theorem lon_append (h : Lon w0 D M S w) (nm : ByteArray) (hs : nm.size ≤ maxLen) (A : Option Addr) (n c : Nat) (l : List UInt8) (hr : Rd w w.heap.size A n l) (he : S.append nm.data.toList l = (x, S')) :
    Calls Tryz.prog 18 #[.pointer (some ⟨D, 0, none⟩), .string nm, .slice A n c] w fun e w' => e = .returned (.int .i64 x) ∧ Lon w0 D M S' w' := by
  obtain ⟨s, hd, ha, hF, hb⟩ := h
  have h := append_ab hd nm hs A n c l hr
  rw [ha, he] at h
  refine h.mono ?_
  rintro e w1 ⟨s1, rfl, hN, hab⟩
  exact ⟨rfl, Lon.call hF hb hN hab⟩
set_option maxRecDepth 100000 in
theorem lon_sync (h : Lon w0 D M S w) (nm : ByteArray) (hs : nm.size ≤ maxLen) (he : S.sync nm.data.toList = (x, S')) :
    Calls Tryz.prog 71 #[.pointer (some ⟨D, 0, none⟩), .string nm] w fun e w' => e = .returned (.int .i64 x) ∧ Lon w0 D M S' w' := by
  obtain ⟨s, hd, ha, hF, hb⟩ := h
  have h := sync_ab hd nm hs
  rw [ha, he] at h
  refine h.mono ?_
  rintro e w1 ⟨s1, rfl, hN, hab⟩
  exact ⟨rfl, Lon.call hF hb hN hab⟩
set_option maxRecDepth 100000 in
theorem lon_rename (h : Lon w0 D M S w) (nm to : ByteArray) (hs : nm.size ≤ maxLen) (ht : to.size ≤ maxLen) (he : S.rename nm.data.toList to.data.toList = (x, S')) :
    Calls Tryz.prog 73 #[.pointer (some ⟨D, 0, none⟩), .string nm, .string to] w fun e w' => e = .returned (.int .i64 x) ∧ Lon w0 D M S' w' := by
  obtain ⟨s, hd, ha, hF, hb⟩ := h
  have h := rename_ab hd nm to hs ht
  rw [ha, he] at h
  refine h.mono ?_
  rintro e w1 ⟨s1, rfl, hN, hab⟩
  exact ⟨rfl, Lon.call hF hb hN hab⟩
set_option maxRecDepth 100000 in
theorem lon_remove (h : Lon w0 D M S w) (nm : ByteArray) (hs : nm.size ≤ maxLen) (he : S.remove nm.data.toList = (x, S')) :
    Calls Tryz.prog 81 #[.pointer (some ⟨D, 0, none⟩), .string nm] w fun e w' => e = .returned (.int .i64 x) ∧ Lon w0 D M S' w' := by
  obtain ⟨s, hd, ha, hF, hb⟩ := h
  have h := remove_ab hd nm hs
  rw [ha, he] at h
  refine h.mono ?_
  rintro e w1 ⟨s1, rfl, hN, hab⟩
  exact ⟨rfl, Lon.call hF hb hN hab⟩
end
set_option maxRecDepth 100000 in
theorem lon_used (h : Lon w0 D M S w) {n : Nat} (hu : aused S.fs = n) :
    Calls Tryz.prog 59 #[.pointer (some ⟨D, 0, none⟩)] w fun e w' => e = .returned (.int .i64 (n : Int)) ∧ Lon w0 D M S w' := by
  have hk := fun w' (hf : Fr No w w') => h.no hf
  obtain ⟨s, hd, ha, hF, hb⟩ := h
  refine (used_any hd).mono ?_
  rintro e w1 ⟨rfl, hf⟩
  have e : used s.fs = n := by rw [← hu, ← ha]; exact (used_ab s.fs).symm
  exact ⟨by rw [e], hk w1 hf⟩
set_option maxRecDepth 100000 in
theorem lon_list (h : Lon w0 D M S w) {n : Nat} (hn : S.fs.length = n) :
    Calls Tryz.prog 17 #[.pointer (some ⟨D, 0, none⟩)] w fun e w' => ∃ A c, e = .returned (.slice A n c) ∧ w'.ownsRow w.heap.size 9 1 (.slice A n c) n ((S.fs.map (·.nm)).map Proofs.encStr) ∧ Lon w0 D M S w' := by
  have hk := fun w' (hf : Fr No w w') => h.no hf
  obtain ⟨s, hd, ha, hF, hb⟩ := h
  have e : s.fs.map Fl.ab = S.fs := by
    have e : s.ab.fs = S.fs := by rw [ha]
    exact e
  have e1 : s.fs.length = n := by rw [← hn, ← e]; simp
  have e2 : s.fs.map (·.nm) = S.fs.map (·.nm) := by rw [← e, List.map_map]; rfl
  refine (list_any hd).mono ?_
  rintro e w1 ⟨v, rfl, hv, hf⟩
  rw [e1, e2] at hv
  rcases hv.2 with ⟨rfl, e0⟩ | ⟨g, cap, cur, rfl, _⟩
  · subst e0
    exact ⟨none, 0, rfl, hv, hk w1 hf⟩
  · exact ⟨_, _, rfl, hv, hk w1 hf⟩
/-- What a crash leaves. -/
def crA (ks : List Int) : Nat → List Af → List Af
  | _, [] => []
  | i, f :: r => ⟨f.nm, f.bs.take (f.fm + min (kAt ks i).toNat (f.bs.length - f.fm)), f.fm + min (kAt ks i).toNat (f.bs.length - f.fm)⟩ :: crA ks (i + 1) r
set_option maxRecDepth 100000 in
theorem crA_at (ks : List Int) : ∀ (fs : List Af) (i j : Nat), (crA ks i fs)[j]? = fs[j]?.map fun f => (⟨f.nm, f.bs.take (f.fm + min (kAt ks (i + j)).toNat (f.bs.length - f.fm)), f.fm + min (kAt ks (i + j)).toNat (f.bs.length - f.fm)⟩ : Af)
  | [], i, j => by simp [crA]
  | f :: r, i, 0 => by simp [crA]
  | f :: r, i, j + 1 => by
    have ih := crA_at ks r (i + 1) j
    rw [show i + 1 + j = i + (j + 1) by omega] at ih
    simpa [crA] using ih
set_option maxRecDepth 100000 in
/-- Append, and the bytes that were handed in may be written behind it. -/
theorem lon_append_in {x : Int} (h : Lon w0 D M S w) (nm : ByteArray) (hs : nm.size ≤ maxLen) (l : List UInt8) (cs : Array Value) (hcs : cs.toList = bvs l) (fr : Nat × Nat) (n c : Nat) (hn : l.length = n) (he : S.append nm.data.toList l = (x, S')) :
    Calls Tryz.prog 18 #[.pointer (some ⟨D, 0, none⟩), .string nm, .slice (some ⟨w.heap.size, 0, none⟩) n c] (w.alloc (.cells cs 5 fr)) fun e w' =>
      e = .returned (.int .i64 x) ∧ w'.heap[w.heap.size]? = some (.cells cs 5 fr) ∧ ∀ w'', Fr (fun k => k = w.heap.size) w' w'' → Lon w0 D M S' w'' := by
  subst hn
  have h2 := h.no (Fr.alloc No w (.cells cs 5 fr))
  obtain ⟨s, hd0, ha, hF, hb0⟩ := h
  have hd := hd0.no (Fr.alloc No w (.cells cs 5 fr))
  have hoff : ¬ foot D M s.fs w.heap.size := fun hf => by have := hd0.foot_lt hf; omega
  have h := append_ab hd nm hs (some ⟨w.heap.size, 0, none⟩) l.length c l ((Rd.new w l cs hcs fr).more (by simp))
  rw [ha, he] at h
  refine h.mono ?_
  rintro e w1 ⟨s1, rfl, hN, hab⟩
  have hL := Lon.call hF h2.bel hN hab
  have ho1 : ¬ foot D M s1.fs w.heap.size := fun hf => by
    rcases hN.2.2 _ hf with e | e
    · exact hoff e
    · rw [World.size_alloc] at e; omega
  have hF1 : ∀ k, foot D M s1.fs k → w0.heap.size ≤ k := fun k hk => by
    rcases hN.2.2 k hk with e | e
    · exact hF k e
    · have := h2.bel.size
      omega
  refine ⟨rfl, (hN.2.1.block _ (by simp) hoff).trans (heap_alloc_new w _), fun w2 hf => ⟨s1, hN.1.keep hf (fun k hk e => ho1 (by rw [← show k = w.heap.size from e]; exact hk)), hab, hF1, hL.bel.trans (hf.below hL.bel.size (fun k e => by have := hb0.size; have : k = w.heap.size := e; omega))⟩⟩
set_option maxRecDepth 100000 in
/-- Read, and what it answers may be written. -/
theorem lon_read (h : Lon w0 D M S w) (hfl : S.fl = false) (nm : ByteArray) (hs : nm.size ≤ maxLen) {f : Af} (hf : afnd nm.data.toList S.fs = some f) (l : List UInt8) (hl : f.bs = l) (n : Nat) (hn : l.length = n) (h0 : 0 < n) :
    Calls Tryz.prog 66 #[.pointer (some ⟨D, 0, none⟩), .string nm] w fun e w' => ∃ G c cur, e = .returned (.tuple #[.slice (some ⟨G, 0, none⟩) n c, .int .i64 0]) ∧ w'.heap[G]? = some (.cells cur 5 (0, 0)) ∧
      Rd w' w'.heap.size (some ⟨G, 0, none⟩) n l ∧ ∀ w'', Fr (fun k => k = G) w' w'' → Lon w0 D M S w'' := by
  subst hl hn
  have hk := fun w' (hf : Fr No w w') => h.no hf
  obtain ⟨s, hd, ha, hF, hb⟩ := h
  have h0' : s.fl = false := by have e : s.ab.fl = false := by rw [ha]; exact hfl
                                exact e
  have e : s.fs.map Fl.ab = S.fs := by
    have e : s.ab.fs = S.fs := by rw [ha]
    exact e
  rw [← e, fnd_ab] at hf
  cases hg : fnd nm.data.toList s.fs with
  | none => rw [hg] at hf; cases hf
  | some g =>
    rw [hg] at hf
    injection hf with hf
    have hbs : g.bs = f.bs := by rw [← hf]; rfl
    refine (read_ok hd nm hs h0' g hg).mono ?_
    rintro e w1 ⟨v, rfl, hv, hf1⟩
    rw [hbs] at hv
    rcases hv.2 with ⟨rfl, e0⟩ | ⟨G, cap, cur, rfl, hG, hGc, _⟩
    · omega
    · refine ⟨G, cap, cur, rfl, hGc, Rd.own hv, fun w2 hf2 => ⟨s, (hd.no hf1).keep hf2 (fun k hk e => by have := hd.foot_lt hk; have : k = G := e; omega), ha, hF, ?_⟩⟩
      have hb1 := (hk w1 hf1).bel
      exact hb1.trans (hf2.below hb1.size (fun k e => by have := hb.size; have : k = G := e; omega))
set_option maxRecDepth 100000 in
/-- Append of more than there is room for, whatever the bytes. -/
theorem lon_full (h : Lon w0 D M S w) (nm : ByteArray) (hs : nm.size ≤ maxLen) (A : Option Addr) (n c : Nat) (hfl : S.fl = false) (hn : isNm nm.data.toList = true) (hr : S.fits nm.data.toList n = false) :
    Calls Tryz.prog 18 #[.pointer (some ⟨D, 0, none⟩), .string nm, .slice A n c] w fun e w' => e = .returned (.int .i64 5) ∧ Lon w0 D M S w' := by
  have hk := fun w' (hf : Fr No w w') => h.no hf
  obtain ⟨s, hd, ha, hF, hb⟩ := h
  have h0 : s.fl = false := by have e : s.ab.fl = false := by rw [ha]; exact hfl
                               exact e
  have h1 : s.fits nm.data.toList n = false := by rw [← fits_ab, ha]; exact hr
  refine (append_full hd nm hs A n c h0 hn h1).mono ?_
  rintro e w1 ⟨rfl, hf⟩
  exact ⟨rfl, hk w1 hf⟩
set_option maxRecDepth 100000 in
/-- Append to what is no name. -/
theorem lon_name (h : Lon w0 D M S w) (hfl : S.fl = false) (nm : ByteArray) (hs : nm.size ≤ maxLen) (A : Option Addr) (n c : Nat) (hn : isNm nm.data.toList = false) :
    Calls Tryz.prog 18 #[.pointer (some ⟨D, 0, none⟩), .string nm, .slice A n c] w fun e w' => e = .returned (.int .i64 13) ∧ w = w' := by
  obtain ⟨s, hd, ha, _, _⟩ := h
  have h0 : s.fl = false := by have e : s.ab.fl = false := by rw [ha]; exact hfl
                               exact e
  exact append_name hd nm hs A n c h0 hn
set_option maxRecDepth 100000 in
theorem lon_apart (h : Lon w0 D M S w) : S.fs.Pairwise (fun f g => f.nm ≠ g.nm) := by
  obtain ⟨s, hd, ha, _, _⟩ := h
  have e : s.fs.map Fl.ab = S.fs := by
    have e : s.ab.fs = S.fs := by rw [ha]
    exact e
  rw [← e, List.pairwise_map]
  exact hd.apart
end
end Go.Proofs.YtdkgcgamiochnaaGreatDoor

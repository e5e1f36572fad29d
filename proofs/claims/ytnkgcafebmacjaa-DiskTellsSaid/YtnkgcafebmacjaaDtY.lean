/-
  Several texts in one: DtO, DtP, DtQ. No statement of the seat is proved here.
-/
import Derived.Test.YtnkgcafebmacjaaDtN
import Derived.Test.YtnkgcafebmacjaaDxA
import Derived.Deep.RegionLaw
import Derived.Deep.QuietTactic
import Derived.BigQuiet
import Derived.Test.YtnkgcafebmacjaaDtJ
import Derived.Deep.RegionHeld3
namespace Go.Proofs.Ytnkgcafebmacjaa
open Go.RowKit Go.Maps

theorem crA_len (ks : List Int) : ∀ (fs : List Af) (i : Nat), (crA ks i fs).length = fs.length
  | [], _ => rfl
  | f :: r, i => by show (crA ks (i + 1) r).length + 1 = r.length + 1; rw [crA_len ks r (i + 1)]
/-- How many bytes of a file are kept. -/
def kpA (f : Af) (k : Int) : Nat := f.fm + min k.toNat (f.bs.length - f.fm)
theorem crA_at0 (ks : List Int) {fs : List Af} {i : Nat} {f : Af} (h : fs[i]? = some f) : (crA ks 0 fs)[i]? = some ⟨f.nm, f.bs.take (kpA f (kAt ks i)), kpA f (kAt ks i)⟩ := by
  rw [crA_at, h, Nat.zero_add]
  rfl
theorem blk_noK {w w' : World} {b : Nat} {o : Obj} (hf : Fr No w w') (h : w.heap[b]? = some o) : w'.heap[b]? = some o :=
  (hf.block b (Array.getElem?_eq_some_iff.1 h).1 (fun e => e)).trans h
/-- A disk that is being made, as it lies in a variable: no bytes lie there. -/
theorem rd_tb {w w' : World} {T : Nat} {a b : Int} {A' : Option Addr} {m c : Nat} {d : Bool} (hT : w.heap[T]? = some (.cells #[.int .i64 a, .slice A' m c, .int .i64 b, .bool d] 29 (0, 0))) (hf : Fr (fun k => k = T) w w') {A : Option Addr} {n : Nat} {l : List UInt8} (hr : Rd w w.heap.size A n l) : Rd w' w'.heap.size A n l := by
  have key : ∀ (o : Nat) (v : Value), w.cell? ⟨T, o, none⟩ = some v → v = .int .i64 a ∨ v = .slice A' m c ∨ v = .int .i64 b ∨ v = .bool d := by
    intro o v hv
    unfold World.cell? at hv
    rw [hT] at hv
    rcases o with _ | _ | _ | _ | o <;> simp at hv <;> simp [← hv]
  refine ⟨hr.1, fun hn => ?_⟩
  obtain ⟨b', o, e, hb, hc⟩ := hr.2 hn
  refine ⟨b', o, e, Nat.lt_of_lt_of_le hb hf.size, fun i hi => hf.cell (hc i hi) (fun e2 => ?_)⟩
  have e2 : b' = T := e2
  have h1 := hc i hi
  rw [e2] at h1
  rcases key _ _ h1 with e | e | e | e <;> cases e
theorem rd_off {F : Nat → Prop} {w w' : World} (hf : Fr F w w') {A : Option Addr} {n : Nat} {l : List UInt8} (hr : Rd w w.heap.size A n l) (hA : 0 < n → ∀ a, A = some a → ¬ F a.block) : Rd w' w'.heap.size A n l := by
  refine ⟨hr.1, fun hn => ?_⟩
  obtain ⟨b', o, e, hb, hc⟩ := hr.2 hn
  exact ⟨b', o, e, Nat.lt_of_lt_of_le hb hf.size, fun i hi => hf.cell (hc i hi) (fun hh => (hA hn ⟨b', o, none⟩ e) hh)⟩
theorem rd_low {w w' : World} {T : Nat} (hT : w.heap.size ≤ T) (hf : Fr (fun k => k = T) w w') {A : Option Addr} {n : Nat} {l : List UInt8} (hr : Rd w w.heap.size A n l) : Rd w' w'.heap.size A n l := by
  refine ⟨hr.1, fun hn => ?_⟩
  obtain ⟨b', o, e, hb, hc⟩ := hr.2 hn
  exact ⟨b', o, e, Nat.lt_of_lt_of_le hb hf.size, fun i hi => hf.cell (hc i hi) (fun e2 => by have e2 : b' = T := e2; omega)⟩
theorem kAt_no {ks : List Int} {k : Nat} (h : ¬ (k < ks.length)) : kAt ks k = 0 := by
  unfold kAt
  rw [List.getD_eq_getElem?_getD, List.getElem?_eq_none (by omega)]
  rfl
theorem kAt_yes {ks : List Int} {k : Nat} (h : k < ks.length) : ks[k] = kAt ks k := by
  unfold kAt
  rw [List.getD_eq_getElem?_getD, List.getElem?_eq_getElem h]
  rfl
theorem crA_nm (ks : List Int) : ∀ (fs : List Af) (i : Nat), (crA ks i fs).map Af.nm = fs.map Af.nm
  | [], _ => rfl
  | f :: r, i => by show f.nm :: (crA ks (i + 1) r).map Af.nm = f.nm :: r.map Af.nm; rw [crA_nm ks r (i + 1)]
theorem crA_ris {ks : List Int} {fs : List Af} (h : Ris fs) : Ris (crA ks 0 fs) := by
  unfold Ris at h ⊢
  have h1 := (List.pairwise_map (f := Af.nm) (R := fun a b => bytesBefore a b = true)).2 h
  rw [← crA_nm ks fs 0] at h1
  exact (List.pairwise_map (f := Af.nm) (R := fun a b => bytesBefore a b = true)).1 h1
set_option maxRecDepth 100000 in
theorem crO_end {F : Nat → Prop} {wS wr u0 w7 wA w9 : World} {T k q c2 cX g cap : Nat} {L : List Fl} {A2 X : Option Addr} {f : Fl} {fs : List Af} {mo : Int} {ks : List Int} (hts : T < wS.heap.size)
    (ho : wr.ownsRow wS.heap.size 73 3 (.slice A2 L.length c2) L.length (rfsCells L))
    (hrd : ∀ g ∈ L, Rd wr wr.heap.size g.A g.bs.length g.bs ∧ (0 < g.bs.length → ∀ a, g.A = some a → a.block ≠ T ∧ (Value.slice A2 L.length c2).ownBlock ≠ some a.block) ∧ Nf F g.A) (hnx : Nf F X)
    (hmp : L.map Fl.ab = (crA ks 0 fs).take k) (hfr : Fr (fun j => j = T) wS wr) (hru : Fr No wr u0) (h7 : Fr No u0 w7) (hA : Fr No w7 wA)
    (hxn : ∀ a, X = some a → u0.heap.size ≤ a.block) (hrx : Rd w7 w7.heap.size X q (f.bs.take q)) (hql : (f.bs.take q).length = q) (hq : kpA f.ab (kAt ks k) = q) (hab : fs[k]? = some f.ab)
    (hT9 : w9.heap[T]? = some (.cells #[.int .i64 mo, .slice A2 L.length c2, .int .i64 (-1), .bool false] 29 (0, 0)))
    (hown : w9.ownsRow wS.heap.size 73 3 (.slice (some ⟨g, 0, none⟩) (L.length + 1) cap) (L.length + 1) (rfsCells L ++ rfCells ⟨f.nm, X, cX, f.bs.take q, q⟩))
    (hg : wA.grownBy w9 (Value.slice A2 L.length c2).ownBlock) (hat : (Value.slice A2 L.length c2).ownBlock = some g ∨ g = wA.heap.size) :
    (w9.setCell ⟨T, 1, none⟩ (.slice (some ⟨g, 0, none⟩) (L.length + 1) cap)).heap[T]? = some (.cells #[.int .i64 mo, .slice (some ⟨g, 0, none⟩) (L.length + 1) cap, .int .i64 (-1), .bool false] 29 (0, 0)) ∧
    (w9.setCell ⟨T, 1, none⟩ (.slice (some ⟨g, 0, none⟩) (L.length + 1) cap)).ownsRow wS.heap.size 73 3 (.slice (some ⟨g, 0, none⟩) (L.length + 1) cap) (L ++ [(⟨f.nm, X, cX, f.bs.take q, q⟩ : Fl)]).length (rfsCells (L ++ [(⟨f.nm, X, cX, f.bs.take q, q⟩ : Fl)])) ∧
    (∀ h ∈ L ++ [(⟨f.nm, X, cX, f.bs.take q, q⟩ : Fl)], Rd (w9.setCell ⟨T, 1, none⟩ (.slice (some ⟨g, 0, none⟩) (L.length + 1) cap)) (w9.setCell ⟨T, 1, none⟩ (.slice (some ⟨g, 0, none⟩) (L.length + 1) cap)).heap.size h.A h.bs.length h.bs ∧
      (0 < h.bs.length → ∀ a, h.A = some a → a.block ≠ T ∧ (Value.slice (some ⟨g, 0, none⟩) (L.length + 1) cap).ownBlock ≠ some a.block) ∧ Nf F h.A) ∧
    (L ++ [(⟨f.nm, X, cX, f.bs.take q, q⟩ : Fl)]).map Fl.ab = (crA ks 0 fs).take (k + 1) ∧
    Fr (fun j => j = T) wS (w9.setCell ⟨T, 1, none⟩ (.slice (some ⟨g, 0, none⟩) (L.length + 1) cap)) := by
  have hob : ∀ j, (Value.slice A2 L.length c2).ownBlock = some j → wS.heap.size ≤ j ∧ j < wr.heap.size := fun j e => ho.lt j e
  have hf9 : Fr (fun j => (Value.slice A2 L.length c2).ownBlock = some j) wA w9 := Fr.grown hg (fun k hk => hk)
  have hfs : Fr (fun j => j = T) w9 (w9.setCell ⟨T, 1, none⟩ (.slice (some ⟨g, 0, none⟩) (L.length + 1) cap)) := Fr.setCell w9 ⟨T, 1, none⟩ _ (F := fun j => j = T) rfl
  have s1 := hfr.size
  have s2 := hru.size
  have s3 := h7.size
  have s4 := hA.size
  have hgt : g ≠ T := by
    rcases hat with e | e
    · have := (hob g e).1; omega
    · omega
  have hrA : Fr No wr wA := (hru.no_trans h7).no_trans hA
  refine ⟨?_, ?_, ?_, ?_, ?_⟩
  · exact heap_cells_set w9 T 1 _ _ _ hT9
  · rw [rfsCells_append, List.length_append]
    have e : rfsCells [(⟨f.nm, X, cX, f.bs.take q, q⟩ : Fl)] = rfCells ⟨f.nm, X, cX, f.bs.take q, q⟩ := by simp [rfsCells]
    rw [e]
    refine own_keep hown (fun j hj => ?_)
    have hj : g = j := by injection hj
    subst hj
    exact hfs.block _ (hown.lt g rfl).2 hgt
  · intro h hh
    have key : Rd wA wA.heap.size h.A h.bs.length h.bs ∧ (0 < h.bs.length → ∀ a, h.A = some a → a.block ≠ T ∧ (Value.slice A2 L.length c2).ownBlock ≠ some a.block) ∧ Nf F h.A := by
      rcases List.mem_append.1 hh with hl | hl
      · obtain ⟨r1, r2, r4⟩ := hrd h hl
        exact ⟨rd_off hrA r1 (fun _ _ _ e => e), r2, r4⟩
      · have e : h = ⟨f.nm, X, cX, f.bs.take q, q⟩ := by simpa using hl
        subst e
        refine ⟨?_, fun _ a ha => ?_, hnx⟩
        · show Rd wA wA.heap.size X (f.bs.take q).length (f.bs.take q)
          rw [hql]
          exact rd_off hA hrx (fun _ _ _ e => e)
        · have := hxn a ha
          exact ⟨by omega, fun e => by have := (hob _ e).2; omega⟩
    obtain ⟨r1, r2, r4⟩ := key
    have r3 := rd_off hf9 r1 (fun hn a ha e => (r2 hn a ha).2 e)
    refine ⟨rd_off hfs r3 (fun hn a ha e => (r2 hn a ha).1 e), fun hn a ha => ⟨(r2 hn a ha).1, fun e => ?_⟩, r4⟩
    have e : g = a.block := by injection e
    rcases hat with e2 | e2
    · rw [e] at e2
      exact (r2 hn a ha).2 e2
    · obtain ⟨b, o, e3, hb, _⟩ := r1.2 hn
      rw [e3] at ha
      injection ha with ha
      subst ha
      have : g = b := e
      omega
  · rw [List.map_append, hmp, List.take_add_one, crA_at0 ks hab, hq]
    rfl
  · exact ((hfr.trans hrA (fun _ _ e => e.elim)).trans hf9 (fun i hi e => by have := (hob _ e).1; omega)).trans hfs (fun _ _ e => e)
section
variable {w : World} {S : Ab}
set_option maxHeartbeats 4000000 in
set_option maxRecDepth 100000 in
theorem rv_crash {F : Nat → Prop} {v : Value} (hF : ∀ k, F k → k < w.heap.size) (h : Rv F w v S) (hfm : ∀ f ∈ S.fs, f.fm ≤ f.bs.length) (hu : ∀ f ∈ S.fs, f.bs.length ≤ 16777216) (B : Option Addr) (n cb : Nat) (ks : List Int) (hr : RdI w No B n ks) (hn : n ≤ 1000) :
    Calls Try.prog 21 #[v, .slice B n cb] w fun e w' =>
      ∃ v', e = .returned v' ∧ Rv F w' v' ⟨false, false, 0, S.mo, crA ks 0 S.fs⟩ ∧ Fr No w w' := by
  obtain ⟨A, c, fs, rfl, hk, hm, hri, hl, ho⟩ := h
  have HNF := Lib.hid hF
  clear ho hF
  have HM := Lib.hid hm
  have HR := Lib.hid hri
  have HL := Lib.hid hl
  have HK := Lib.hid hk
  have HB := Lib.hid hr
  have HFM := Lib.hid hfm
  obtain ⟨lf, HLF⟩ : ∃ lf : Int, Hid ((if S.bd then (S.lf : Int) else -1) = lf) := ⟨_, rfl⟩
  rw [HLF.out]
  have hf0 : Fr No w ((w.alloc (.cells #[.int .i64 (S.mo : Int), .slice A fs.length c, .int .i64 lf, .bool S.fl] 29)).alloc (.cells #[.int .i64 0, .slice none 0 0, .int .i64 0, .bool false] 29)) := (Fr.alloc No w _).no_trans (Fr.alloc No _ _)
  have hb0 : ((w.alloc (.cells #[.int .i64 (S.mo : Int), .slice A fs.length c, .int .i64 lf, .bool S.fl] 29)).alloc (.cells #[.int .i64 0, .slice none 0 0, .int .i64 0, .bool false] 29)).heap[w.heap.size]? = some (.cells #[.int .i64 (S.mo : Int), .slice A fs.length c, .int .i64 lf, .bool S.fl] 29 (0, 0)) :=
    (Below.heap_alloc _ _ _ (by simp)).trans (heap_alloc_new w _)
  have hb1 := heap2' w (.cells #[.int .i64 (S.mo : Int), .slice A fs.length c, .int .i64 lf, .bool S.fl] 29) (.cells #[.int .i64 0, .slice none 0 0, .int .i64 0, .bool false] 29)
  clear hk hm hri hl hr
  go_enter Try.func21, Try.ntmps21
  go_upto_region 1 with fail
  obtain ⟨P, hP⟩ : ∃ P, w.heap.size = P := ⟨_, rfl⟩
  have HP := Lib.hid hP
  rw [hP] at hb0 hb1
  try rw [hP]
  clear hP
  obtain ⟨w0, hw0⟩ : ∃ u, (w.alloc (.cells #[.int .i64 (S.mo : Int), .slice A fs.length c, .int .i64 lf, .bool S.fl] 29)).alloc (.cells #[.int .i64 0, .slice none 0 0, .int .i64 0, .bool false] 29) = u := ⟨_, rfl⟩
  rw [hw0] at hf0 hb0 hb1 ⊢
  clear hw0
  have p0 : w0.cell? ⟨P, 0, none⟩ = some (.int .i64 (S.mo : Int)) := by unfold World.cell?; rw [hb0]; rfl
  have HF0 := Lib.hid hf0
  have HB0 := Lib.hid hb0
  have HB1 := Lib.hid hb1
  go_upto_region 2 with fail
  have hfT := Fr.alloc No w0 (.cells #[.int .i64 (S.mo : Int), .slice none 0 0, .int .i64 (-1), .bool false] 29)
  have hT := heap_alloc_new w0 (.cells #[.int .i64 (S.mo : Int), .slice none 0 0, .int .i64 (-1), .bool false] 29)
  have hPT : P + 1 < w0.heap.size := (Array.getElem?_eq_some_iff.1 hb1).1
  obtain ⟨T, hTe⟩ : ∃ T, w0.heap.size = T := ⟨_, rfl⟩
  rw [hTe] at hT hPT
  try rw [hTe]
  clear hTe p0
  obtain ⟨wS, hwS⟩ : ∃ u, w0.alloc (.cells #[.int .i64 (S.mo : Int), .slice none 0 0, .int .i64 (-1), .bool false] 29) = u := ⟨_, rfl⟩
  rw [hwS] at hfT hT ⊢
  clear hwS
  have HFS := Lib.hid (hf0.no_trans hfT)
  have HD := Lib.hid (blk_noK hfT hb0)
  have HRB := Lib.hid (blk_noK hfT hb1)
  have HT := Lib.hid hT
  have HPT := Lib.hid hPT
  have HKS := Lib.hid (HK.out.no HFS.out)
  have HTW := Lib.hid (show w.heap.size ≤ T by have := HP.out; omega)
  have HTS := Lib.hid (show T < wS.heap.size from (Array.getElem?_eq_some_iff.1 hT).1)
  clear hf0 hb0 hb1 hfT hT hPT
  go_wp2_with fail
  go_loopw [6] (fun v6 wr => ∃ (k : Nat) (v2 : Value) (L : List Fl), k ≤ fs.length ∧ v6 = .int .i64 (k : Int) ∧ wr.heap[T]? = some (.cells #[.int .i64 (S.mo : Int), v2, .int .i64 (-1), .bool false] 29 (0, 0)) ∧ wr.ownsRow wS.heap.size 73 3 v2 L.length (rfsCells L) ∧
      (∀ g ∈ L, Rd wr wr.heap.size g.A g.bs.length g.bs ∧ (0 < g.bs.length → ∀ a, g.A = some a → a.block ≠ T ∧ v2.ownBlock ≠ some a.block) ∧ Nf F g.A) ∧ L.map Fl.ab = (crA ks 0 S.fs).take k ∧ Fr (fun j => j = T) wS wr) (fun v6 _ => fs.length - (intOf v6).toNat)
  case atStart => exact ⟨0, .slice none 0 0, [], by omega, rfl, HT.out, World.ownsRow_nil _ _ _ _, (fun g hg => by cases hg), rfl, Fr.refl _ _⟩
  case round =>
    obtain ⟨k, v2, L, hkl, rfl, hTr, hown, hrd, hmap, hfr⟩ := hrel
    have HTR := Lib.hid hTr
    have HOW := Lib.hid hown
    have HRD := Lib.hid hrd
    have HMP := Lib.hid hmap
    have HFR := Lib.hid hfr
    have hDr := (hfr.block _ (Array.getElem?_eq_some_iff.1 HD.out).1 (fun e => by have := HPT.out; omega)).trans HD.out
    have hRr := (hfr.block _ (Array.getElem?_eq_some_iff.1 HRB.out).1 (fun e => by have := HPT.out; omega)).trans HRB.out
    have HDR := Lib.hid hDr
    have HRR := Lib.hid hRr
    have d1 : wr.cell? ⟨P, 1, none⟩ = some (.slice A fs.length c) := by unfold World.cell?; rw [hDr]; rfl
    clear hTr hown hrd hmap hfr hDr hRr
    by_cases hlt : k < fs.length
    · have hltI : (k : Int) < (fs.length : Int) := by omega
      obtain ⟨b, o, hA, hb, hc⟩ := HK.out.at_ (by omega)
      subst hA
      obtain ⟨f, hf⟩ : ∃ f, fs[k]? = some f := ⟨_, List.getElem?_eq_getElem hlt⟩
      obtain ⟨c0, c1, c2⟩ := hc k f hf
      have hfr0 : Fr (fun j => j = T) w wr := (HFS.out.mono (fun _ _ e => e.elim)).trans HFR.out (fun _ _ e => e)
      have hbT : b ≠ T := by have := HTW.out; omega
      have c0 := hfr0.cell c0 hbT
      have c1 := hfr0.cell c1 hbT
      have c2 := hfr0.cell c2 hbT
      have HRF := Lib.hid (rd_low HTW.out hfr0 (HK.out.rd f (List.mem_of_getElem? hf)))
      have hfab : S.fs[k]? = some f.ab := by rw [← HM.out, List.getElem?_map, hf]; rfl
      have HAB := Lib.hid hfab
      have hfl := HFM.out _ (List.mem_of_getElem? hfab)
      have hfl : f.fm ≤ f.bs.length := hfl
      have hful : f.bs.length ≤ 16777216 := hu _ (List.mem_of_getElem? hfab)
      obtain ⟨q, HKP⟩ : ∃ q, Hid (kpA f.ab (kAt ks k) = q) := ⟨_, rfl⟩
      obtain ⟨x, HX⟩ : ∃ x, Hid (kAt ks k = x) := ⟨_, rfl⟩
      obtain ⟨m, hm⟩ : ∃ m, f.bs.length - f.fm = m := ⟨_, rfl⟩
      have hq : q = f.fm + min x.toNat m := by rw [← HKP.out, ← HX.out, ← hm]; rfl
      have HQH := Lib.hid hq
      clear hq
      have hwm : IntKind.i64.wrap ((f.bs.length : Int) - (f.fm : Int)) = (m : Int) := by
        rw [show ((f.bs.length : Int) - (f.fm : Int)) = (m : Int) by omega]
        exact IntWalk.i64_in _ (by omega)
      have hk0 : (0 : Int) ≤ (k : Int) := by omega
      have HKC : Hid (k < n → ∃ bk ok, B = some ⟨bk, ok, none⟩ ∧ ∀ W, Fr (fun j => j = T) w W → W.cell? ⟨bk, ok + k, none⟩ = some (.int .i64 x)) := fun hkn => by
        obtain ⟨bk, ok, e, hbk, _, hck⟩ := HB.out.2 (by omega)
        refine ⟨bk, ok, e, fun W hW => ?_⟩
        have := hW.cell (hck k (by rw [HB.out.1]; exact hkn)) (by have := HTW.out; show bk ≠ T; omega)
        rw [kAt_yes (by rw [HB.out.1]; exact hkn), HX.out] at this
        exact this
      have HKN : Hid (¬ (k < n) → x = 0) := fun hkn => by rw [← HX.out]; exact kAt_no (by rw [HB.out.1]; exact hkn)
      have HFR0 := Lib.hid hfr0
      clear hc hf hfab hfr0 hbT hb
      go_upto_region 6 with fail
      have hfF := Fr.alloc No wr (.cells #[.string ⟨f.nm.toArray⟩, .slice f.A f.bs.length f.c, .int .i64 (f.fm : Int)] 73)
      have hF := heap_alloc_new wr (.cells #[.string ⟨f.nm.toArray⟩, .slice f.A f.bs.length f.c, .int .i64 (f.fm : Int)] 73)
      obtain ⟨FB, hFB⟩ : ∃ u, wr.heap.size = u := ⟨_, rfl⟩
      rw [hFB] at hF
      try rw [hFB]
      have HFB0 := Lib.hid (show wr.heap.size = FB from hFB)
      clear hFB
      obtain ⟨w5, hw5⟩ : ∃ u, wr.alloc (.cells #[.string ⟨f.nm.toArray⟩, .slice f.A f.bs.length f.c, .int .i64 (f.fm : Int)] 73) = u := ⟨_, rfl⟩
      rw [hw5] at hfF hF ⊢
      clear hw5
      have HF5 := Lib.hid hfF
      have HFB := Lib.hid hF
      have f0 : w5.cell? ⟨FB, 0, none⟩ = some (.string ⟨f.nm.toArray⟩) := by unfold World.cell?; rw [hF]; rfl
      have f1 : w5.cell? ⟨FB, 1, none⟩ = some (.slice f.A f.bs.length f.c) := by unfold World.cell?; rw [hF]; rfl
      have f2 : w5.cell? ⟨FB, 2, none⟩ = some (.int .i64 (f.fm : Int)) := by unfold World.cell?; rw [hF]; rfl
      clear hfF hF c0 c1 c2 d1
      go_upto_region 7 with fail
      go_cut [41] from 26 to 40 (fun v41 wx => ∃ g : Bool, v41 = .bool g ∧ Fr No w5 wx ∧ (g = true ↔ (k < n ∧ (m : Int) ≤ x)))
      case first =>
        as_aux_lemma =>
          by_cases hkn : k < n
          · have hknI : (k : Int) < (n : Int) := by omega
            obtain ⟨bk, ok, hB, hck⟩ := HKC.out hkn
            subst hB
            have k0 := hck w5 (HFR0.out.trans HF5.out (fun _ _ e => e.elim))
            clear hck
            by_cases hge : (m : Int) ≤ x
            · go_quiet (fail)
              go_wp2_with fail
              go_meet
              case rel => exact ⟨true, rfl, Fr.drewNn No w5 nq, by simp [hkn, hge]⟩
            · go_quiet (fail)
              go_wp2_with fail
              go_meet
              case rel => exact ⟨false, rfl, Fr.drewNn No w5 nq, by simp [hge]⟩
          · have hknI : ¬ ((k : Int) < (n : Int)) := by omega
            have hknD : decide ((k : Int) < (n : Int)) = false := decide_eq_false hknI
            go_quiet (fail)
            go_wp2_with fail
            go_meet
            case rel => exact ⟨false, rfl, Fr.drewNn No w5 nq, by simp [hkn]⟩
      case rest =>
        obtain ⟨g, rfl, hfc, hg⟩ := hcut
        have HFC := Lib.hid hfc
        have hFc := (hfc.block _ (Array.getElem?_eq_some_iff.1 HFB.out).1 (fun e => e)).trans HFB.out
        have f0 : wc.cell? ⟨FB, 0, none⟩ = some (.string ⟨f.nm.toArray⟩) := by unfold World.cell?; rw [hFc]; rfl
        have f1 : wc.cell? ⟨FB, 1, none⟩ = some (.slice f.A f.bs.length f.c) := by unfold World.cell?; rw [hFc]; rfl
        have f2 : wc.cell? ⟨FB, 2, none⟩ = some (.int .i64 (f.fm : Int)) := by unfold World.cell?; rw [hFc]; rfl
        clear hFc hfc
        go_upto_if 41 with fail
        go_cut [8] from 41 to 61 (fun v8 wx => v8 = .int .i64 (q : Int) ∧ wx = wc)
        case first =>
          as_aux_lemma =>
            cases g with
            | true =>
              obtain ⟨hkn, hge⟩ := hg.1 rfl
              have hqe : q = f.bs.length := by have := HQH.out; omega
              have HQE := Lib.hid hqe
              clear hqe
              go_wp2_with fail
              go_meet
              case rel => exact ⟨by rw [HQE.out], by first | rfl | trivial⟩
            | false =>
              by_cases hkn : k < n
              · have hknI : (k : Int) < (n : Int) := by omega
                obtain ⟨bk, ok, hB, hck⟩ := HKC.out hkn
                subst hB
                have k0 := hck wc ((HFR0.out.trans HF5.out (fun _ _ e => e.elim)).trans HFC.out (fun _ _ e => e.elim))
                have hlt' : ¬ ((m : Int) ≤ x) := fun e => by
                  have := hg.2 ⟨hkn, e⟩
                  cases this
                clear hck
                by_cases hx0 : 0 < x
                · have hqx : (q : Int) = (f.fm : Int) + x := by have := HQH.out; omega
                  have hwq : IntKind.i64.wrap ((f.fm : Int) + x) = (q : Int) := by
                    rw [← hqx]
                    exact IntWalk.i64_in _ (by omega)
                  clear hqx
                  go_wp2_with fail
                  go_meet
                  case rel => exact ⟨rfl, by first | rfl | trivial⟩
                · have hqe : q = f.fm := by have := HQH.out; omega
                  have HQE := Lib.hid hqe
                  clear hqe
                  go_wp2_with fail
                  go_meet
                  case rel => exact ⟨by rw [HQE.out], by first | rfl | trivial⟩
              · have hknI : ¬ ((k : Int) < (n : Int)) := by omega
                have hx0 := HKN.out hkn
                have hqe : q = f.fm := by have := HQH.out; omega
                have HQE := Lib.hid hqe
                clear hqe
                go_wp2_with fail
                go_meet
                case rel => exact ⟨by rw [HQE.out], by first | rfl | trivial⟩
        case rest =>
          obtain ⟨rfl, hwc⟩ := hcut
          try subst hwc
          obtain ⟨A2, c2, hv2⟩ := own_sl HOW.out
          subst hv2
          have hTc := (HFC.out.block _ (Nat.lt_of_lt_of_le (Array.getElem?_eq_some_iff.1 HTR.out).1 HF5.out.size) (fun e => e)).trans ((HF5.out.block _ (Array.getElem?_eq_some_iff.1 HTR.out).1 (fun e => e)).trans HTR.out)
          go_upto_region 11 with fail
          obtain ⟨u0, HU0⟩ : ∃ u, Hid (wc.drew = u) := ⟨_, rfl⟩
          have hxu : Fr No wc u0 := by rw [← HU0.out]; exact Fr.drew No wc
          have HRU := Lib.hid ((HF5.out.no_trans HFC.out).no_trans hxu)
          have hTu := (hxu.block _ (Array.getElem?_eq_some_iff.1 hTc).1 (fun e => e)).trans hTc
          have t1 : u0.cell? ⟨T, 1, none⟩ = some (.slice A2 L.length c2) := by unfold World.cell?; rw [hTu]; rfl
          have HTU := Lib.hid hTu
          have e0 := hxu.cell f0 (fun e => e)
          have e1 := hxu.cell f1 (fun e => e)
          have HQ : Hid (∀ W, Fr (fun j => j = T ∨ (Value.slice A2 L.length c2).ownBlock = some j) u0 W → W.cell? ⟨FB, 0, none⟩ = some (.string ⟨f.nm.toArray⟩) ∧ W.cell? ⟨FB, 1, none⟩ = some (.slice f.A f.bs.length f.c)) := fun W hW => by
            have hne : ¬ (FB = T ∨ (Value.slice A2 L.length c2).ownBlock = some FB) := by
              rintro (e | e)
              · have := (Array.getElem?_eq_some_iff.1 HTR.out).1; have := HFB0.out; omega
              · have := (HOW.out.lt _ e).2; have := HFB0.out; omega
            exact ⟨hW.cell e0 hne, hW.cell e1 hne⟩
          have HFI : Hid (∀ W, Fr No u0 W → Calls Try.prog 43 #[.string ⟨f.nm.toArray⟩, .slice f.A f.bs.length f.c, .int .i64 (q : Int), .int .i64 (q : Int)] W fun e w' => ∃ X c', e = .returned (.agg #[.string ⟨f.nm.toArray⟩, .slice X q c', .int .i64 (q : Int)]) ∧ Rd w' w'.heap.size X q (f.bs.take q) ∧ Fr No W w' ∧ ∀ a, X = some a → W.heap.size ≤ a.block) := fun W hW =>
            rfirst_fr (((HRU.out.no_trans hW).rd (Nat.le_refl _) HRF.out).more (HRU.out.no_trans hW).size) _ q (by have := HQH.out; omega) (by have := HQH.out; omega) (q : Int)
          have HOT : Hid (∀ W, Fr No u0 W → W.ownsRow wS.heap.size 73 3 (.slice A2 L.length c2) L.length (rfsCells L)) := fun W hW => own_keep HOW.out (fun j hj => (HRU.out.no_trans hW).block j (HOW.out.lt j hj).2 (fun e => e))
          have HSW : Hid (∀ W, Fr No u0 W → wS.heap.size ≤ W.heap.size) := fun W hW => Nat.le_trans HFR.out.size (HRU.out.no_trans hW).size
          have HQL := Lib.hid (show (f.bs.take q).length = q by rw [List.length_take]; have := HQH.out; omega)
          have HLB := Lib.hid (show L.length ≤ 200 by
            have := congrArg List.length HMP.out
            rw [List.length_map, List.length_take, crA_len, ← HM.out, List.length_map] at this
            have := HL.out
            omega)
          clear e0 e1 f0 f1 f2 hTc hxu hTu
          refine wp_region_held_drew (S := fun W => Fr (fun j => j = T ∨ (Value.slice A2 L.length c2).ownBlock = some j) u0 W) (by kernel_rfl) (by rw [HU0.out]; exact Fr.refl _ _) (fun hHeld => ?_)
          rw [HU0.out] at hHeld ⊢
          refine wpAnyH_take (i := 0) (oi := _) (v := .pointer (some ⟨T, 1, none⟩)) rfl (by kernel_rfl) (by kernel_rfl) (by kernel_rfl) (fun _ _ _ h => h) (Or.inl ⟨by rfl, fun W hS => by rfl⟩) hHeld ?_
          try simp only [Act.put, List.getElem_toArray, List.getElem_cons_zero, List.setIfInBounds_toArray, List.set_cons_zero, List.set_cons_succ]
          refine wpAnyH_take (i := 2) (oi := _) (v := .pointer (some ⟨FB, 0, none⟩)) rfl (by kernel_rfl) (by kernel_rfl) (by kernel_rfl) (fun _ _ _ h => h) (Or.inl ⟨by rfl, fun W hS => by rfl⟩) hHeld ?_
          try simp only [Act.put, List.getElem_toArray, List.getElem_cons_zero, List.getElem_cons_succ, List.setIfInBounds_toArray, List.set_cons_zero, List.set_cons_succ]
          refine wpAnyH_take (i := 3) (oi := _) (v := .string ⟨f.nm.toArray⟩) rfl (by kernel_rfl) (by kernel_rfl) (by kernel_rfl) (fun _ _ _ h => h) (Or.inl ⟨by rfl, fun W hS => by obtain ⟨q0, q1⟩ := HQ.out W hS; go_simp⟩) hHeld ?_
          try simp only [Act.put, List.getElem_toArray, List.getElem_cons_zero, List.getElem_cons_succ, List.setIfInBounds_toArray, List.set_cons_zero, List.set_cons_succ]
          refine wpAnyH_take (i := 4) (oi := _) (v := .pointer (some ⟨FB, 1, none⟩)) rfl (by kernel_rfl) (by kernel_rfl) (by kernel_rfl) (fun _ _ _ h => h) (Or.inl ⟨by rfl, fun W hS => by rfl⟩) hHeld ?_
          try simp only [Act.put, List.getElem_toArray, List.getElem_cons_zero, List.getElem_cons_succ, List.setIfInBounds_toArray, List.set_cons_zero, List.set_cons_succ]
          refine wpAnyH_take (i := 5) (oi := _) (v := .slice f.A f.bs.length f.c) rfl (by kernel_rfl) (by kernel_rfl) (by kernel_rfl) (fun _ _ _ h => h) (Or.inl ⟨by rfl, fun W hS => by obtain ⟨q0, q1⟩ := HQ.out W hS; go_simp⟩) hHeld ?_
          try simp only [Act.put, List.getElem_toArray, List.getElem_cons_zero, List.getElem_cons_succ, List.setIfInBounds_toArray, List.set_cons_zero, List.set_cons_succ]
          refine wpAnyH_take (i := 6) (oi := _) (v := .int .i64 (q : Int)) rfl (by kernel_rfl) (by kernel_rfl) (by kernel_rfl) (fun _ _ _ h => h) (Or.inl ⟨by rfl, fun W hS => by rfl⟩) hHeld ?_
          try simp only [Act.put, List.getElem_toArray, List.getElem_cons_zero, List.getElem_cons_succ, List.setIfInBounds_toArray, List.set_cons_zero, List.set_cons_succ]
          refine wpAnyH_take (i := 7) (oi := _) (v := .int .i64 (q : Int)) rfl (by kernel_rfl) (by kernel_rfl) (by kernel_rfl) (fun _ _ _ h => h) (Or.inl ⟨by rfl, fun W hS => by rfl⟩) hHeld ?_
          try simp only [Act.put, List.getElem_toArray, List.getElem_cons_zero, List.getElem_cons_succ, List.setIfInBounds_toArray, List.set_cons_zero, List.set_cons_succ]
          refine wpAnyH_ready (rs := [1, 8]) (by kernel_rfl) (by simp) ?_
          refine AllReadyH.cons (o := _) rfl (fun K hK => ?wa) (AllReadyH.cons (o := _) rfl (fun K hK => ?wb) AllReadyH.nil)
          case' wa =>
            rw [if_pos (by rfl)]
            go_wp2_with fail
            refine hK.out _ _ hHeld (fun hHeld => ?_)
            clear hK K
            try simp only [Act.put, List.getElem_toArray, List.getElem_cons_zero, List.getElem_cons_succ, List.setIfInBounds_toArray, List.set_cons_zero, List.set_cons_succ]
            refine wpAnyH_ready (rs := [8]) (by kernel_rfl) (by simp) ?_
            refine AllReadyH.cons (o := _) rfl (fun K hK => ?_) AllReadyH.nil
            rw [if_pos (by rfl)]
            go_wp2_with fail
            refine (HFI.out u0 (Fr.refl _ _)).mono ?_
            rintro e w7 ⟨X, cX, rfl, hrX, hf7, hXn⟩
            have HXN := Lib.hid hXn
            have HRX := Lib.hid hrX
            have HF7 := Lib.hid hf7
            have t1' : w7.cell? ⟨T, 1, none⟩ = some (.slice A2 L.length c2) := hf7.cell t1 (fun e => e)
            refine hK.out _ _ (hHeld.trans hf7 (fun _ _ e => e.elim)) (fun hHeld => ?_)
            clear hK K hrX hf7 hXn
            try simp only [Act.put, List.getElem_toArray, List.getElem_cons_zero, List.getElem_cons_succ, List.setIfInBounds_toArray, List.set_cons_zero, List.set_cons_succ]
            refine wpAnyH_ready (rs := [9]) (by kernel_rfl) (by simp) ?_
            refine AllReadyH.cons (o := _) rfl (fun K hK => ?_) AllReadyH.nil
            rw [if_pos (by rfl)]
            go_wp2_with fail
            refine hK.out _ _ (hHeld.trans (Fr.alloc No w7 _) (fun _ _ e => e.elim)) (fun hHeld => ?_)
            clear hK K
            have t1a : (w7.alloc (.cells #[.string ⟨f.nm.toArray⟩, .slice X q cX, .int .i64 (q : Int)] 73)).cell? ⟨T, 1, none⟩ = some (.slice A2 L.length c2) := (Fr.alloc No w7 _).cell t1' (fun e => e)
            try simp only [Act.put, List.getElem_toArray, List.getElem_cons_zero, List.getElem_cons_succ, List.setIfInBounds_toArray, List.set_cons_zero, List.set_cons_succ]
          case' wb =>
            rw [if_pos (by rfl)]
            go_wp2_with fail
            refine (HFI.out u0 (Fr.refl _ _)).mono ?_
            rintro e w7 ⟨X, cX, rfl, hrX, hf7, hXn⟩
            have HXN := Lib.hid hXn
            have HRX := Lib.hid hrX
            have HF7 := Lib.hid hf7
            have t1' : w7.cell? ⟨T, 1, none⟩ = some (.slice A2 L.length c2) := hf7.cell t1 (fun e => e)
            refine hK.out _ _ (hHeld.trans hf7 (fun _ _ e => e.elim)) (fun hHeld => ?_)
            clear hK K hrX hf7 hXn
            try simp only [Act.put, List.getElem_toArray, List.getElem_cons_zero, List.getElem_cons_succ, List.setIfInBounds_toArray, List.set_cons_zero, List.set_cons_succ]
            refine wpAnyH_ready (rs := [1, 9]) (by kernel_rfl) (by simp) ?_
            refine AllReadyH.cons (o := _) rfl (fun K hK => ?wc) (AllReadyH.cons (o := _) rfl (fun K hK => ?wd) AllReadyH.nil)
          case' wc =>
            rw [if_pos (by rfl)]
            go_wp2_with fail
            refine hK.out _ _ hHeld (fun hHeld => ?_)
            clear hK K
            try simp only [Act.put, List.getElem_toArray, List.getElem_cons_zero, List.getElem_cons_succ, List.setIfInBounds_toArray, List.set_cons_zero, List.set_cons_succ]
            refine wpAnyH_ready (rs := [9]) (by kernel_rfl) (by simp) ?_
            refine AllReadyH.cons (o := _) rfl (fun K hK => ?_) AllReadyH.nil
            rw [if_pos (by rfl)]
            go_wp2_with fail
            refine hK.out _ _ (hHeld.trans (Fr.alloc No w7 _) (fun _ _ e => e.elim)) (fun hHeld => ?_)
            clear hK K
            have t1a : (w7.alloc (.cells #[.string ⟨f.nm.toArray⟩, .slice X q cX, .int .i64 (q : Int)] 73)).cell? ⟨T, 1, none⟩ = some (.slice A2 L.length c2) := (Fr.alloc No w7 _).cell t1' (fun e => e)
            try simp only [Act.put, List.getElem_toArray, List.getElem_cons_zero, List.getElem_cons_succ, List.setIfInBounds_toArray, List.set_cons_zero, List.set_cons_succ]
          case' wd =>
            rw [if_pos (by rfl)]
            go_wp2_with fail
            refine hK.out _ _ (hHeld.trans (Fr.alloc No w7 _) (fun _ _ e => e.elim)) (fun hHeld => ?_)
            clear hK K
            have t1a : (w7.alloc (.cells #[.string ⟨f.nm.toArray⟩, .slice X q cX, .int .i64 (q : Int)] 73)).cell? ⟨T, 1, none⟩ = some (.slice A2 L.length c2) := (Fr.alloc No w7 _).cell t1' (fun e => e)
            try simp only [Act.put, List.getElem_toArray, List.getElem_cons_zero, List.getElem_cons_succ, List.setIfInBounds_toArray, List.set_cons_zero, List.set_cons_succ]
            refine wpAnyH_ready (rs := [1]) (by kernel_rfl) (by simp) ?_
            refine AllReadyH.cons (o := _) rfl (fun K hK => ?_) AllReadyH.nil
            rw [if_pos (by rfl)]
            go_wp2_with fail
            refine hK.out _ _ hHeld (fun hHeld => ?_)
            clear hK K
            try simp only [Act.put, List.getElem_toArray, List.getElem_cons_zero, List.getElem_cons_succ, List.setIfInBounds_toArray, List.set_cons_zero, List.set_cons_succ]
          all_goals
            refine wpAnyH_ready (rs := [10]) (by kernel_rfl) (by simp) ?_
            refine AllReadyH.cons (o := _) rfl (fun K hK => ?_) AllReadyH.nil
            rw [if_pos (by rfl)]
            have hfA := Fr.alloc No w7 (.cells #[.string ⟨f.nm.toArray⟩, .slice X q cX, .int .i64 (q : Int)] 73)
            have hG := heap_alloc_new w7 (.cells #[.string ⟨f.nm.toArray⟩, .slice X q cX, .int .i64 (q : Int)] 73)
            obtain ⟨i0, hi, hz0, hz1, hz2⟩ := info_parts info_rf
            refine wp_append_lies _ (.tmp 63) (.tmp 71) 27 rfl wS.heap.size 73 i0 _ 3 48 Try.underlying27 hi hz0 hz1 hz2 rfl (by omega) (.slice A2 L.length c2) L.length (rfsCells L) rfl (HOT.out _ (HF7.out.no_trans hfA)) ⟨w7.heap.size, 0, none⟩ 1 1 (rfCells ⟨f.nm, X, cX, f.bs.take q, q⟩) (by first | rfl | (rw [HQL.out]; rfl)) rfl ?_ (rfCells_one _) (by omega) (by have := HLB.out; unfold maxLen; omega) (by have := HLB.out; omega) (HSW.out _ (HF7.out.no_trans hfA)) _ rfl ?_
            · intro j u hu
              rw [Addr.add_lit, Nat.zero_add]
              unfold World.cell?
              rw [hG]
              have e : rfCells (⟨f.nm, X, cX, f.bs.take q, q⟩ : Fl) = [.string ⟨f.nm.toArray⟩, .slice X q cX, .int .i64 (q : Int)] := by
                show [Value.string ⟨f.nm.toArray⟩, .slice X (f.bs.take q).length cX, .int .i64 (q : Int)] = _
                rw [HQL.out]
              rw [e] at hu
              rcases j with _ | _ | _ | j <;> simp at hu <;> simp [← hu]
            intro g cap w9 hown9 hg9 hat9 hlt9
            have hf9 := Fr.grown (F := fun j => (Value.slice A2 L.length c2).ownBlock = some j) hg9 (fun k hk => hk)
            refine hK.out _ _ (hHeld.trans hf9 (fun _ _ e => .inr e)) (fun hHeld => ?_)
            clear hK K
            try simp only [Act.put, List.getElem_toArray, List.getElem_cons_zero, List.getElem_cons_succ, List.setIfInBounds_toArray, List.set_cons_zero, List.set_cons_succ]
            refine wpAnyH_take (i := 11) (oi := _) (v := .pointer (some ⟨T, 1, none⟩)) rfl (by kernel_rfl) (by kernel_rfl) (by kernel_rfl) (fun _ _ _ h => h) (Or.inl ⟨by rfl, fun W hS => by rfl⟩) hHeld ?_
            try simp only [Act.put, List.getElem_toArray, List.getElem_cons_zero, List.getElem_cons_succ, List.setIfInBounds_toArray, List.set_cons_zero, List.set_cons_succ]
            refine wpAnyH_ready (rs := [12]) (by kernel_rfl) (by simp) ?_
            refine AllReadyH.cons (o := _) rfl (fun K hK => ?_) AllReadyH.nil
            rw [if_pos (by rfl)]
            have hTA : T < (w7.alloc (.cells #[.string ⟨f.nm.toArray⟩, .slice X q cX, .int .i64 (q : Int)] 73)).heap.size := by
              have := HTS.out
              have := HFR.out.size
              have := HRU.out.size
              have := HF7.out.size
              have := hfA.size
              omega
            have hT7 := (hfA.block _ (Nat.lt_of_lt_of_le (Array.getElem?_eq_some_iff.1 HTU.out).1 HF7.out.size) (fun e => e)).trans ((HF7.out.block _ (Array.getElem?_eq_some_iff.1 HTU.out).1 (fun e => e)).trans HTU.out)
            have hOB : ∀ j, (Value.slice A2 L.length c2).ownBlock = some j → wS.heap.size ≤ j ∧ j < wr.heap.size := fun j e => HOW.out.lt j e
            have hT9 := (hf9.block _ hTA (fun e => by have := (hOB _ e).1; have := HTS.out; omega)).trans hT7
            have t9 : w9.cell? ⟨T, 1, none⟩ = some (.slice A2 L.length c2) := by unfold World.cell?; rw [hT9]; rfl
            have y9 : w9.frozen? ⟨T, 1, none⟩ = false := by unfold World.frozen?; rw [hT9]; rfl
            go_wp2_with fail
            refine hK.out _ _ (hHeld.trans (Fr.setCell w9 ⟨T, 1, none⟩ _ (F := fun j => j = T ∨ (Value.slice A2 L.length c2).ownBlock = some j) (.inl rfl)) (fun _ _ e => e)) (fun hHeld => ?_)
            clear hK K
            refine wpAnyH_done (by kernel_rfl) ?_ _
            have hw1 : IntKind.i64.wrap ((k : Int) + 1) = ((k + 1 : Nat) : Int) := by
              rw [show ((k : Int) + 1) = ((k + 1 : Nat) : Int) by omega]
              exact IntWalk.i64_in _ (by have := HL.out; omega)
            have hfs : Fr (fun j => j = T) w9 (w9.setCell ⟨T, 1, none⟩ (.slice (some ⟨g, 0, none⟩) (L.length + 1) cap)) := Fr.setCell w9 ⟨T, 1, none⟩ _ (F := fun j => j = T) rfl
            have hrel := crO_end HTS.out HOW.out HRD.out (nf_new HNF.out (Nat.le_trans HFR0.out.size HRU.out.size) HXN.out) HMP.out HFR.out HRU.out HF7.out hfA HXN.out HRX.out HQL.out HKP.out HAB.out hT9 hown9 hg9 hat9
            obtain ⟨n1, n2, n3, n4, n5⟩ := hrel
            have N1 := Lib.hid n1
            have N2 := Lib.hid n2
            have N3 := Lib.hid n3
            have N4 := Lib.hid n4
            have N5 := Lib.hid n5
            clear n1 n2 n3 n4 n5 hT9 t9 y9 hT7 hTA hOB hown9 hg9 hat9 hlt9 hf9 hfA hG hHeld
            go_wp2_with fail
            go_roundw
            case rel => exact ⟨k + 1, _, _, by omega, by go_num, N1.out, N2.out, N3.out, N4.out, N5.out⟩
            case measure => simp [intOf]; omega
    · as_aux_lemma =>
        have hke : k = fs.length := by omega
        have hltI : ¬ ((k : Int) < (fs.length : Int)) := by omega
        obtain ⟨A3, c3, rfl, hk3⟩ := own_files HOW.out (fun g hg => (HRD.out g hg).1)
        have HK3 := Lib.hid hk3
        have hTr := HTR.out
        have hRr := HRR.out
        have t0 : wr.cell? ⟨T, 0, none⟩ = some (.int .i64 (S.mo : Int)) := by unfold World.cell?; rw [hTr]; rfl
        have t1 : wr.cell? ⟨T, 1, none⟩ = some (.slice A3 L.length c3) := by unfold World.cell?; rw [hTr]; rfl
        have t2 : wr.cell? ⟨T, 2, none⟩ = some (.int .i64 (-1)) := by unfold World.cell?; rw [hTr]; rfl
        have t3 : wr.cell? ⟨T, 3, none⟩ = some (.bool false) := by unfold World.cell?; rw [hTr]; rfl
        have r0 : wr.cell? ⟨P + 1, 0, none⟩ = some (.int .i64 0) := by unfold World.cell?; rw [hRr]; rfl
        have z0 : wr.frozen? ⟨P + 1, 0, none⟩ = false := by unfold World.frozen?; rw [hRr]; rfl
        have r1 : wr.cell? ⟨P + 1, 1, none⟩ = some (.slice none 0 0) := by unfold World.cell?; rw [hRr]; rfl
        have z1 : wr.frozen? ⟨P + 1, 1, none⟩ = false := by unfold World.frozen?; rw [hRr]; rfl
        have r2 : wr.cell? ⟨P + 1, 2, none⟩ = some (.int .i64 0) := by unfold World.cell?; rw [hRr]; rfl
        have z2 : wr.frozen? ⟨P + 1, 2, none⟩ = false := by unfold World.frozen?; rw [hRr]; rfl
        have r3 : wr.cell? ⟨P + 1, 3, none⟩ = some (.bool false) := by unfold World.cell?; rw [hRr]; rfl
        have z3 : wr.frozen? ⟨P + 1, 3, none⟩ = false := by unfold World.frozen?; rw [hRr]; rfl
        clear hTr
        go_wp2_with fail
        refine bodyPost_ret (results_cell_row (p := 4) rfl _ _ (P + 1) 29 #[.int .i64 (S.mo : Int), .slice A3 L.length c3, .int .i64 (-1), .bool false] (0, 0) _ rfl (four_set hRr _ _ _ _).1 Try.underlying29 rfl (by kernel_rfl)) rfl ?_
        have h4 := four_set hRr (.int .i64 (S.mo : Int)) (.slice A3 L.length c3) (.int .i64 (-1)) (.bool false)
        have hall : Fr No w _ := (HFS.out.trans HFR.out (fun i hi e => by have := HTW.out; omega)).trans h4.2 (fun i hi e => by have := HP.out; omega)
        have hmL : L.map Fl.ab = crA ks 0 S.fs := by
          rw [HMP.out, List.take_of_length_le (by rw [crA_len, ← HM.out, List.length_map]; omega)]
        refine ⟨_, rfl, Rv.blank (R := P + 1) ⟨A3, c3, L, by simp, HK3.out, hmL, crA_ris HR.out, by
          have h1 := congrArg List.length hmL
          rw [List.length_map, crA_len, ← HM.out, List.length_map] at h1
          have := HL.out
          omega, fun _ a ha => by
            subst ha
            have h1 := (HOW.out.lt a.block rfl).1
            have h2 := HFS.out.size
            intro h3
            have := HNF.out _ h3
            omega, fun g hg _ => (HRD.out g hg).2.2⟩ hRr h4.2, hall⟩
end
end Go.Proofs.Ytnkgcafebmacjaa
namespace Go.Proofs.Ytnkgcafebmacjaa
open Go.RowKit Go.Maps

set_option maxRecDepth 100000 in
theorem bytes_same {w : World} {A B : Option Addr} {n m c d : Nat} {l : List UInt8} (h1 : Rd w w.heap.size A n l) (h2 : Rd w w.heap.size B m l) :
    Calls Try.prog 51 #[.slice A n c, .slice B m d] w fun e w' => e = .returned (.bool true) ∧ Fr No w w' := by
  have s1 := str_rule c h1
  have s2 := str_rule d h2
  clear h1 h2
  go_enter Try.func51, Try.ntmps51
  go_wp2_with fail
  go_ret
  exact ⟨by simp, Fr.refl _ _⟩
theorem frm_ab {s : St} {nm : List UInt8} {f : Fl} (h : fnd nm s.fs = some f) : s.frm nm = f.fm ∧ s.len nm = f.bs.length := by
  unfold St.frm St.len
  rw [h]
  exact ⟨rfl, rfl⟩
set_option maxRecDepth 100000 in
theorem read_down {w : World} {D M : Nat} {s : St} (h : Dsk w D M s) (nm : ByteArray) (hs : nm.size ≤ maxLen) (hfl : s.fl = true) :
    Calls Try.prog 22 #[.pointer (some ⟨D, 0, none⟩), .string nm] w fun e w' => e = .returned (.tuple #[.slice none 0 0, .int .i64 15]) ∧ Fr No w w' := by
  have he : s.err nm.data.toList = 15 := by unfold St.err; rw [hfl]; rfl
  have h1 := read_bad h nm hs (by rw [he]; omega)
  rw [he] at h1
  exact h1
theorem nm_size {l : List UInt8} (h : isNm l = true) : (⟨l.toArray⟩ : ByteArray).size ≤ maxLen := by
  have h1 : l.length ≤ 40 := by
    by_cases hl : l.length ≤ 40
    · exact hl
    · rw [isNm_no l (by omega)] at h
      cases h
  have e : (⟨l.toArray⟩ : ByteArray).size = l.length := by show l.toArray.size = _; simp
  unfold maxLen
  omega
theorem own_sl8 {w : World} {base m size : Nat} {v : Value} {e : TypeId} {xs : List Value} (h : w.ownsRow base e size v m xs) : ∃ A c, v = .slice A m c := own_sl h
section
variable {F : Nat → Prop} {w : World} {D M : Nat} {s : St}
set_option maxHeartbeats 4000000 in
set_option maxRecDepth 100000 in
theorem disk_same {v : Value} (h : Dsk w D M s) (hv : Rv F w v s.ab) :
    Calls Try.prog 24 #[.pointer (some ⟨D, 0, none⟩), v] w fun e w' => e = .returned (.bool true) ∧ Fr No w w' := by
  obtain ⟨A, c, fs, rfl, hk, hm, _, hl, _⟩ := hv
  have hlen : s.fs.length = fs.length := by
    have h1 := congrArg List.length hm
    rw [List.length_map] at h1
    have h2 : s.ab.fs = s.fs.map Fl.ab := rfl
    rw [h2, List.length_map] at h1
    omega
  have hus : used s.fs = used fs := by
    have h1 := used_ab s.fs
    have h2 := used_ab fs
    have h3 : s.ab.fs = s.fs.map Fl.ab := rfl
    rw [← h1, ← h2, hm, h3]
  have hup : used fs ≤ 100000000 := by have := h.room; have := h.most; omega
  obtain ⟨lf, hlf⟩ : ∃ lf : Int, (if s.ab.bd then (s.ab.lf : Int) else -1) = lf := ⟨_, rfl⟩
  rw [hlf]
  clear hlf
  obtain ⟨mo, hmo⟩ : ∃ mo : Int, ((s.ab.mo : Nat) : Int) = mo := ⟨_, rfl⟩
  rw [hmo]
  clear hmo
  have hfb : s.ab.fl = s.fl := rfl
  rw [hfb]
  clear hfb
  obtain ⟨fl, HFE⟩ : ∃ fl, Hid (s.fl = fl) := ⟨_, rfl⟩
  rw [HFE.out]
  have H := Lib.hid h
  have HK := Lib.hid hk
  have HM := Lib.hid hm
  have HL := Lib.hid hl
  have HLN := Lib.hid hlen
  have hf0 : Fr No w (w.alloc (.cells #[.int .i64 mo, .slice A fs.length c, .int .i64 lf, .bool fl] 29)) := Fr.alloc No w _
  have hb0 := heap_alloc_new w (.cells #[.int .i64 mo, .slice A fs.length c, .int .i64 lf, .bool fl] 29)
  have HUS := Lib.hid hus
  have HUP := Lib.hid hup
  clear h hk hm hl hlen hus hup
  go_enter Try.func24, Try.ntmps24
  go_upto_region 1 with fail
  obtain ⟨P, HP⟩ : ∃ P, Hid (w.heap.size = P) := ⟨_, rfl⟩
  rw [HP.out] at hb0
  try rw [HP.out]
  obtain ⟨w0, hw0⟩ : ∃ u, w.alloc (.cells #[.int .i64 mo, .slice A fs.length c, .int .i64 lf, .bool fl] 29) = u := ⟨_, rfl⟩
  rw [hw0] at hf0 hb0 ⊢
  clear hw0
  have HF0 := Lib.hid hf0
  have HB0 := Lib.hid hb0
  clear hf0 hb0
  go_wp2_with fail
  refine (list_any (H.out.no HF0.out)).mono ?_
  rintro e w1 ⟨v1, rfl, ho1, hf1⟩
  obtain ⟨LA, lc, rfl⟩ := own_sl ho1
  have HO := Lib.hid ho1
  have HF1 := Lib.hid hf1
  have HFW := Lib.hid (HF0.out.no_trans hf1)
  have HD := Lib.hid ((hf1.block _ (Array.getElem?_eq_some_iff.1 HB0.out).1 (fun e => e)).trans HB0.out)
  clear ho1 hf1
  rw [HLN.out]
  go_upto_region 2 with fail
  obtain ⟨u0, HU0⟩ : ∃ u, Hid (w1.drew = u) := ⟨_, rfl⟩
  have HFU : Hid (Fr No w1 u0) := by rw [← HU0.out]; exact Fr.drew No w1
  have HQ : Hid (∀ W, Fr No u0 W → W.cell? ⟨P, 0, none⟩ = some (.int .i64 mo) ∧ W.cell? ⟨P, 1, none⟩ = some (.slice A fs.length c) ∧ W.cell? ⟨P, 2, none⟩ = some (.int .i64 lf) ∧ W.cell? ⟨P, 3, none⟩ = some (.bool fl) ∧ True ∧ True ∧ True ∧ True) := fun W hW => by
    have hb := ((HFU.out.no_trans hW).block _ (Array.getElem?_eq_some_iff.1 HD.out).1 (fun e => e)).trans HD.out
    exact ⟨by unfold World.cell?; rw [hb]; rfl, by unfold World.cell?; rw [hb]; rfl, by unfold World.cell?; rw [hb]; rfl, by unfold World.cell?; rw [hb]; rfl, trivial, trivial, trivial, trivial⟩
  have HDN : Hid (∀ W, Fr No u0 W → Dsk W D M s) := fun W hW => H.out.no ((HFW.out.no_trans HFU.out).no_trans hW)
  have HUR : Hid (∀ W, Fr No u0 W → Calls Try.prog 40 #[.agg #[.int .i64 mo, .slice A fs.length c, .int .i64 lf, .bool fl]] W fun e w' => e = .returned (.int .i64 (used s.fs : Int)) ∧ Fr No W w') := fun W hW => by
    rw [HUS.out]
    exact rused_any (HK.out.no ((HFW.out.no_trans HFU.out).no_trans hW)) (by have := HL.out; omega) HUP.out mo lf fl
  obtain ⟨U, hU⟩ : ∃ U, used s.fs = U := ⟨_, rfl⟩
  rw [hU] at HUR
  have HUE := Lib.hid hU
  clear hU
  refine wp_region_held_drew (S := fun W => Fr No u0 W) (by kernel_rfl) (by rw [HU0.out]; exact Fr.refl _ _) (fun hHeld => ?_)
  rw [HU0.out] at hHeld ⊢
  refine wpAnyH_take (i := 0) (oi := _) (v := .pointer (some ⟨D, 0, none⟩)) rfl (by kernel_rfl) (by kernel_rfl) (by kernel_rfl) (fun _ _ _ h => h) (Or.inl ⟨by rfl, fun W hS => by rfl⟩) hHeld ?_
  try simp only [Act.put, List.getElem_toArray, List.getElem_cons_zero, List.setIfInBounds_toArray, List.set_cons_zero, List.set_cons_succ]
  refine wpAnyH_take (i := 2) (oi := _) (v := .pointer (some ⟨P, 3, none⟩)) rfl (by kernel_rfl) (by kernel_rfl) (by kernel_rfl) (fun _ _ _ h => h) (Or.inl ⟨by rfl, fun W hS => by rfl⟩) hHeld ?_
  try simp only [Act.put, List.getElem_toArray, List.getElem_cons_zero, List.getElem_cons_succ, List.setIfInBounds_toArray, List.set_cons_zero, List.set_cons_succ]
  refine wpAnyH_take (i := 3) (oi := _) (v := .bool fl) rfl (by kernel_rfl) (by kernel_rfl) (by kernel_rfl) (fun _ _ _ h => h) (Or.inl ⟨by rfl, fun W hS => by obtain ⟨q0, q1, q2, q3, q4, q5, q6, q7⟩ := HQ.out W hS; go_simp⟩) hHeld ?_
  try simp only [Act.put, List.getElem_toArray, List.getElem_cons_zero, List.getElem_cons_succ, List.setIfInBounds_toArray, List.set_cons_zero, List.set_cons_succ]
  refine wpAnyH_ready (rs := [1]) (by kernel_rfl) (by simp) ?_
  refine AllReadyH.cons (o := _) rfl (fun K hK => ?_) AllReadyH.nil
  rw [if_pos (by rfl)]
  go_wp2_with fail
  refine (down_dsk (HDN.out _ hHeld)).mono ?_
  rintro e w2 ⟨rfl, rfl⟩
  rw [HFE.out]
  refine hK.out _ _ hHeld (fun hHeld => ?_)
  clear hK K
  try simp only [Act.put, List.getElem_toArray, List.getElem_cons_zero, List.getElem_cons_succ, List.setIfInBounds_toArray, List.set_cons_zero, List.set_cons_succ]
  refine wpAnyH_take (i := 4) (oi := _) (v := .bool true) rfl (by kernel_rfl) (by kernel_rfl) (by kernel_rfl) (fun _ _ _ h => h) (Or.inl ⟨by rfl, fun W hS => by cases fl <;> go_simp⟩) hHeld ?_
  try simp only [Act.put, List.getElem_toArray, List.getElem_cons_zero, List.getElem_cons_succ, List.setIfInBounds_toArray, List.set_cons_zero, List.set_cons_succ]
  refine wpAnyH_take (i := 5) (oi := _) (v := .bool true) rfl (by kernel_rfl) (by kernel_rfl) (by kernel_rfl) (fun _ _ _ h => h) (Or.inl ⟨by rfl, fun W hS => by rfl⟩) hHeld ?_
  try simp only [Act.put, List.getElem_toArray, List.getElem_cons_zero, List.getElem_cons_succ, List.setIfInBounds_toArray, List.set_cons_zero, List.set_cons_succ]
  refine wpAnyH_take (i := 6) (oi := _) (v := .pointer (some ⟨D, 0, none⟩)) rfl (by kernel_rfl) (by kernel_rfl) (by kernel_rfl) (fun _ _ _ h => h) (Or.inl ⟨by rfl, fun W hS => by rfl⟩) hHeld ?_
  try simp only [Act.put, List.getElem_toArray, List.getElem_cons_zero, List.getElem_cons_succ, List.setIfInBounds_toArray, List.set_cons_zero, List.set_cons_succ]
  refine wpAnyH_take (i := 8) (oi := _) (v := .agg #[.int .i64 mo, .slice A fs.length c, .int .i64 lf, .bool fl]) rfl (by kernel_rfl) (by kernel_rfl) (by kernel_rfl) (fun _ _ _ h => h) (Or.inl ⟨by rfl, fun W hS => by obtain ⟨q0, q1, q2, q3, q4, q5, q6, q7⟩ := HQ.out W hS; go_simp⟩) hHeld ?_
  try simp only [Act.put, List.getElem_toArray, List.getElem_cons_zero, List.getElem_cons_succ, List.setIfInBounds_toArray, List.set_cons_zero, List.set_cons_succ]
  refine wpAnyH_ready (rs := [7]) (by kernel_rfl) (by simp) ?_
  refine AllReadyH.cons (o := _) rfl (fun K hK => ?_) AllReadyH.nil
  rw [if_pos (by rfl)]
  go_wp2_with fail
  refine (used_any (HDN.out _ hHeld)).mono ?_
  rintro e w2 ⟨rfl, hf2⟩
  rw [HUE.out]
  refine hK.out _ _ (hHeld.no_trans hf2) (fun hHeld => ?_)
  clear hK K
  try simp only [Act.put, List.getElem_toArray, List.getElem_cons_zero, List.getElem_cons_succ, List.setIfInBounds_toArray, List.set_cons_zero, List.set_cons_succ]
  refine wpAnyH_ready (rs := [9]) (by kernel_rfl) (by simp) ?_
  refine AllReadyH.cons (o := _) rfl (fun K hK => ?_) AllReadyH.nil
  rw [if_pos (by rfl)]
  go_wp2_with fail
  refine (HUR.out _ hHeld).mono ?_
  rintro e w3 ⟨rfl, hf3⟩
  refine hK.out _ _ (hHeld.no_trans hf3) (fun hHeld => ?_)
  clear hK K hf2 hf3
  try simp only [Act.put, List.getElem_toArray, List.getElem_cons_zero, List.getElem_cons_succ, List.setIfInBounds_toArray, List.set_cons_zero, List.set_cons_succ]
  refine wpAnyH_take (i := 10) (oi := _) (v := .bool true) rfl (by kernel_rfl) (by kernel_rfl) (by kernel_rfl) (fun _ _ _ h => h) (Or.inl ⟨by rfl, fun W hS => by go_simp⟩) hHeld ?_
  try simp only [Act.put, List.getElem_toArray, List.getElem_cons_zero, List.getElem_cons_succ, List.setIfInBounds_toArray, List.set_cons_zero, List.set_cons_succ]
  refine wpAnyH_take (i := 11) (oi := _) (v := .bool true) rfl (by kernel_rfl) (by kernel_rfl) (by kernel_rfl) (fun _ _ _ h => h) (Or.inl ⟨by rfl, fun W hS => by rfl⟩) hHeld ?_
  try simp only [Act.put, List.getElem_toArray, List.getElem_cons_zero, List.getElem_cons_succ, List.setIfInBounds_toArray, List.set_cons_zero, List.set_cons_succ]
  refine wpAnyH_take (i := 12) (oi := _) (v := .bool true) rfl (by kernel_rfl) (by kernel_rfl) (by kernel_rfl) (fun _ _ _ h => h) (Or.inl ⟨by rfl, fun W hS => by rfl⟩) hHeld ?_
  try simp only [Act.put, List.getElem_toArray, List.getElem_cons_zero, List.getElem_cons_succ, List.setIfInBounds_toArray, List.set_cons_zero, List.set_cons_succ]
  refine wpAnyH_take (i := 13) (oi := _) (v := .slice LA fs.length lc) rfl (by kernel_rfl) (by kernel_rfl) (by kernel_rfl) (fun _ _ _ h => h) (Or.inl ⟨by rfl, fun W hS => by rfl⟩) hHeld ?_
  try simp only [Act.put, List.getElem_toArray, List.getElem_cons_zero, List.getElem_cons_succ, List.setIfInBounds_toArray, List.set_cons_zero, List.set_cons_succ]
  refine wpAnyH_take (i := 14) (oi := _) (v := .int .i64 (fs.length : Int)) rfl (by kernel_rfl) (by kernel_rfl) (by kernel_rfl) (fun _ _ _ h => h) (Or.inl ⟨by rfl, fun W hS => by go_simp⟩) hHeld ?_
  try simp only [Act.put, List.getElem_toArray, List.getElem_cons_zero, List.getElem_cons_succ, List.setIfInBounds_toArray, List.set_cons_zero, List.set_cons_succ]
  refine wpAnyH_take (i := 15) (oi := _) (v := .pointer (some ⟨P, 1, none⟩)) rfl (by kernel_rfl) (by kernel_rfl) (by kernel_rfl) (fun _ _ _ h => h) (Or.inl ⟨by rfl, fun W hS => by rfl⟩) hHeld ?_
  try simp only [Act.put, List.getElem_toArray, List.getElem_cons_zero, List.getElem_cons_succ, List.setIfInBounds_toArray, List.set_cons_zero, List.set_cons_succ]
  refine wpAnyH_take (i := 16) (oi := _) (v := .slice A fs.length c) rfl (by kernel_rfl) (by kernel_rfl) (by kernel_rfl) (fun _ _ _ h => h) (Or.inl ⟨by rfl, fun W hS => by obtain ⟨q0, q1, q2, q3, q4, q5, q6, q7⟩ := HQ.out W hS; go_simp⟩) hHeld ?_
  try simp only [Act.put, List.getElem_toArray, List.getElem_cons_zero, List.getElem_cons_succ, List.setIfInBounds_toArray, List.set_cons_zero, List.set_cons_succ]
  refine wpAnyH_take (i := 17) (oi := _) (v := .int .i64 (fs.length : Int)) rfl (by kernel_rfl) (by kernel_rfl) (by kernel_rfl) (fun _ _ _ h => h) (Or.inl ⟨by rfl, fun W hS => by go_simp⟩) hHeld ?_
  try simp only [Act.put, List.getElem_toArray, List.getElem_cons_zero, List.getElem_cons_succ, List.setIfInBounds_toArray, List.set_cons_zero, List.set_cons_succ]
  refine wpAnyH_take (i := 18) (oi := _) (v := .bool true) rfl (by kernel_rfl) (by kernel_rfl) (by kernel_rfl) (fun _ _ _ h => h) (Or.inl ⟨by rfl, fun W hS => by go_simp⟩) hHeld ?_
  try simp only [Act.put, List.getElem_toArray, List.getElem_cons_zero, List.getElem_cons_succ, List.setIfInBounds_toArray, List.set_cons_zero, List.set_cons_succ]
  refine wpAnyH_take (i := 19) (oi := _) (v := .bool true) rfl (by kernel_rfl) (by kernel_rfl) (by kernel_rfl) (fun _ _ _ h => h) (Or.inl ⟨by rfl, fun W hS => by rfl⟩) hHeld ?_
  try simp only [Act.put, List.getElem_toArray, List.getElem_cons_zero, List.getElem_cons_succ, List.setIfInBounds_toArray, List.set_cons_zero, List.set_cons_succ]
  refine wpAnyH_take (i := 20) (oi := _) (v := .bool true) rfl (by kernel_rfl) (by kernel_rfl) (by kernel_rfl) (fun _ _ _ h => h) (Or.inl ⟨by rfl, fun W hS => by rfl⟩) hHeld ?_
  try simp only [Act.put, List.getElem_toArray, List.getElem_cons_zero, List.getElem_cons_succ, List.setIfInBounds_toArray, List.set_cons_zero, List.set_cons_succ]
  refine wpAnyH_done (by kernel_rfl) ?_ _
  have HF3 := Lib.hid (HFU.out.no_trans hHeld)
  clear hHeld
  go_wp2_with fail
  go_loopw [6, 7] (fun v6 v7 wr => ∃ k : Nat, k ≤ fs.length ∧ v6 = .bool true ∧ v7 = .int .i64 (k : Int) ∧ Fr No w1 wr) (fun _ v7 _ => fs.length - (intOf v7).toNat)
  case atStart => exact ⟨0, by omega, rfl, rfl, HF3.out⟩
  case round =>
    obtain ⟨k, hkl, rfl, rfl, hfr⟩ := hrel
    have HR := Lib.hid hfr
    clear hfr
    by_cases hlt : k < fs.length
    · have hltI : (k : Int) < (fs.length : Int) := by omega
      have hk0 : (0 : Int) ≤ (k : Int) := by omega
      obtain ⟨b, o, hA, hb, hc⟩ := HK.out.at_ (by omega)
      subst hA
      obtain ⟨f, hf⟩ : ∃ f, fs[k]? = some f := ⟨_, List.getElem?_eq_getElem hlt⟩
      obtain ⟨c0, c1, c2⟩ := hc k f hf
      have HFR := Lib.hid (HFW.out.no_trans HR.out)
      have c0 := HFR.out.cell c0 (fun e => e)
      have c1 := HFR.out.cell c1 (fun e => e)
      have c2 := HFR.out.cell c2 (fun e => e)
      have hab : (s.fs.map Fl.ab)[k]? = some f.ab := by
        have h1 : s.ab.fs = s.fs.map Fl.ab := rfl
        rw [← h1, ← HM.out, List.getElem?_map, hf]
        rfl
      rw [List.getElem?_map] at hab
      obtain ⟨g, hg, hgf⟩ := Option.map_eq_some_iff.1 hab
      have hgm := List.mem_of_getElem? hg
      have hgn : g.nm = f.nm := congrArg Af.nm hgf
      have hgb : g.bs = f.bs := congrArg Af.bs hgf
      have hge : g.fm = f.fm := congrArg Af.fm hgf
      have HFD := Lib.hid (show fnd f.nm s.fs = some g by rw [← hgn]; exact fnd_apart H.out.apart hgm)
      have HNM := Lib.hid (show (⟨f.nm.toArray⟩ : ByteArray).size ≤ maxLen by
        rw [← hgn]
        exact nm_size (H.out.nms g hgm))
      obtain ⟨G, rfl⟩ : ∃ G, LA = some ⟨G, 0, none⟩ := by
        rcases HO.out.2 with ⟨e, e0⟩ | ⟨G, cap, cur, e, _⟩
        · have := HLN.out; omega
        · injection e with e; exact ⟨G, e⟩
      have n0 := HO.out.cells (g := G) rfl k (.string ⟨f.nm.toArray⟩) (by rw [List.map_map, List.getElem?_map, hg]; show some (Proofs.encStr g.nm) = _; rw [hgn])
      rw [Addr.add_lit, Nat.zero_add] at n0
      have n0 := HR.out.cell n0 (fun e => e)
      have HRF := Lib.hid (HK.out.rd f (List.mem_of_getElem? hf))
      have hD := (HR.out.block _ (Array.getElem?_eq_some_iff.1 HD.out).1 (fun e => e)).trans HD.out
      have d1 : wr.cell? ⟨P, 1, none⟩ = some (.slice (some ⟨b, o, none⟩) fs.length c) := by unfold World.cell?; rw [hD]; rfl
      have HFA := Lib.hid (And.intro hgb hge)
      have hwk : IntKind.i64.wrap ((k : Int) + 1) = ((k + 1 : Nat) : Int) := by
        rw [show ((k : Int) + 1) = ((k + 1 : Nat) : Int) by omega]
        exact IntWalk.i64_in _ (by have := HL.out; omega)
      clear hc hf hab hg hgf hgm hgn hgb hge hb hD
      go_upto_region 6 with fail
      obtain ⟨u6, HU6⟩ : ∃ u, Hid (wr.drew = u) := ⟨_, rfl⟩
      have hxu : Fr No wr u6 := by rw [← HU6.out]; exact Fr.drew No wr
      have HFU6 := Lib.hid hxu
      have HQ : Hid (∀ W, Fr No u6 W → W.cell? ⟨P, 1, none⟩ = some (.slice (some ⟨b, o, none⟩) fs.length c) ∧ W.cell? ⟨b, o + k * 3, none⟩ = some (.string ⟨f.nm.toArray⟩) ∧ W.cell? ⟨b, o + k * 3 + 1, none⟩ = some (.slice f.A f.bs.length f.c) ∧ W.cell? ⟨b, o + k * 3 + 2, none⟩ = some (.int .i64 (f.fm : Int)) ∧ W.cell? ⟨G, k, none⟩ = some (.string ⟨f.nm.toArray⟩) ∧ True ∧ True ∧ True) := fun W hW => by
        have hw := hxu.no_trans hW
        exact ⟨hw.cell d1 (fun e => e), hw.cell c0 (fun e => e), hw.cell c1 (fun e => e), hw.cell c2 (fun e => e), hw.cell n0 (fun e => e), trivial, trivial, trivial⟩
      clear hxu d1 c0 c1 c2 n0
      refine wp_region_held_drew (S := fun W => Fr No u6 W) (by kernel_rfl) (by rw [HU6.out]; exact Fr.refl _ _) (fun hHeld => ?_)
      rw [HU6.out] at hHeld ⊢
      refine wpAnyH_take (i := 0) (oi := _) (v := .pointer (some ⟨P, 1, none⟩)) rfl (by kernel_rfl) (by kernel_rfl) (by kernel_rfl) (fun _ _ _ h => h) (Or.inl ⟨by rfl, fun W hS => by rfl⟩) hHeld ?_
      try simp only [Act.put, List.getElem_toArray, List.getElem_cons_zero, List.setIfInBounds_toArray, List.set_cons_zero, List.set_cons_succ]
      refine wpAnyH_take (i := 1) (oi := _) (v := .slice (some ⟨b, o, none⟩) fs.length c) rfl (by kernel_rfl) (by kernel_rfl) (by kernel_rfl) (fun _ _ _ h => h) (Or.inl ⟨by rfl, fun W hS => by obtain ⟨q0, q1, q2, q3, q4, q5, q6, q7⟩ := HQ.out W hS; go_simp⟩) hHeld ?_
      try simp only [Act.put, List.getElem_toArray, List.getElem_cons_zero, List.getElem_cons_succ, List.setIfInBounds_toArray, List.set_cons_zero, List.set_cons_succ]
      refine wpAnyH_take (i := 2) (oi := _) (v := .int .i64 (k : Int)) rfl (by kernel_rfl) (by kernel_rfl) (by kernel_rfl) (fun _ _ _ h => h) (Or.inl ⟨by rfl, fun W hS => by rfl⟩) hHeld ?_
      try simp only [Act.put, List.getElem_toArray, List.getElem_cons_zero, List.getElem_cons_succ, List.setIfInBounds_toArray, List.set_cons_zero, List.set_cons_succ]
      refine wpAnyH_take (i := 3) (oi := _) (v := .pointer (some ⟨b, o + k * 3, none⟩)) rfl (by kernel_rfl) (by kernel_rfl) (by kernel_rfl) (fun _ _ _ h => h) (Or.inl ⟨by rfl, fun W hS => by go_simp⟩) hHeld ?_
      try simp only [Act.put, List.getElem_toArray, List.getElem_cons_zero, List.getElem_cons_succ, List.setIfInBounds_toArray, List.set_cons_zero, List.set_cons_succ]
      refine wpAnyH_take (i := 4) (oi := _) (v := .agg #[.string ⟨f.nm.toArray⟩, .slice f.A f.bs.length f.c, .int .i64 (f.fm : Int)]) rfl (by kernel_rfl) (by kernel_rfl) (by kernel_rfl) (fun _ _ _ h => h) (Or.inl ⟨by rfl, fun W hS => by obtain ⟨q0, q1, q2, q3, q4, q5, q6, q7⟩ := HQ.out W hS; go_simp⟩) hHeld ?_
      try simp only [Act.put, List.getElem_toArray, List.getElem_cons_zero, List.getElem_cons_succ, List.setIfInBounds_toArray, List.set_cons_zero, List.set_cons_succ]
      refine wpAnyH_take (i := 5) (oi := _) (v := .slice (some ⟨G, 0, none⟩) fs.length lc) rfl (by kernel_rfl) (by kernel_rfl) (by kernel_rfl) (fun _ _ _ h => h) (Or.inl ⟨by rfl, fun W hS => by rfl⟩) hHeld ?_
      try simp only [Act.put, List.getElem_toArray, List.getElem_cons_zero, List.getElem_cons_succ, List.setIfInBounds_toArray, List.set_cons_zero, List.set_cons_succ]
      refine wpAnyH_take (i := 6) (oi := _) (v := .int .i64 (k : Int)) rfl (by kernel_rfl) (by kernel_rfl) (by kernel_rfl) (fun _ _ _ h => h) (Or.inl ⟨by rfl, fun W hS => by rfl⟩) hHeld ?_
      try simp only [Act.put, List.getElem_toArray, List.getElem_cons_zero, List.getElem_cons_succ, List.setIfInBounds_toArray, List.set_cons_zero, List.set_cons_succ]
      refine wpAnyH_take (i := 7) (oi := _) (v := .pointer (some ⟨G, k, none⟩)) rfl (by kernel_rfl) (by kernel_rfl) (by kernel_rfl) (fun _ _ _ h => h) (Or.inl ⟨by rfl, fun W hS => by go_simp⟩) hHeld ?_
      try simp only [Act.put, List.getElem_toArray, List.getElem_cons_zero, List.getElem_cons_succ, List.setIfInBounds_toArray, List.set_cons_zero, List.set_cons_succ]
      refine wpAnyH_take (i := 8) (oi := _) (v := .string ⟨f.nm.toArray⟩) rfl (by kernel_rfl) (by kernel_rfl) (by kernel_rfl) (fun _ _ _ h => h) (Or.inl ⟨by rfl, fun W hS => by obtain ⟨q0, q1, q2, q3, q4, q5, q6, q7⟩ := HQ.out W hS; go_simp⟩) hHeld ?_
      try simp only [Act.put, List.getElem_toArray, List.getElem_cons_zero, List.getElem_cons_succ, List.setIfInBounds_toArray, List.set_cons_zero, List.set_cons_succ]
      refine wpAnyH_ready (rs := [9]) (by kernel_rfl) (by simp) ?_
      refine AllReadyH.cons (o := _) rfl (fun K hK => ?_) AllReadyH.nil
      rw [if_pos (by rfl)]
      go_wp2_with fail
      refine hK.out _ _ (hHeld.no_trans (Fr.alloc No _ _)) (fun hHeld => ?_)
      clear hK K
      try simp only [Act.put, List.getElem_toArray, List.getElem_cons_zero, List.getElem_cons_succ, List.setIfInBounds_toArray, List.set_cons_zero, List.set_cons_succ]
      refine wpAnyH_ready (rs := [10]) (by kernel_rfl) (by simp) ?_
      refine AllReadyH.cons (o := _) rfl (fun K hK => ?_) AllReadyH.nil
      rw [if_pos (by rfl)]
      go_wp2_with fail
      refine hK.out _ _ (Fr.alloc No u6 _) (fun hHeld => ?_)
      clear hK K
      try simp only [Act.put, List.getElem_toArray, List.getElem_cons_zero, List.getElem_cons_succ, List.setIfInBounds_toArray, List.set_cons_zero, List.set_cons_succ]
      refine wpAnyH_take (i := 11) (oi := _) (v := .string ⟨f.nm.toArray⟩) rfl (by kernel_rfl) (by kernel_rfl) (by kernel_rfl) (fun _ _ _ h => h) (Or.inl ⟨by rfl, fun W hS => by rfl⟩) hHeld ?_
      try simp only [Act.put, List.getElem_toArray, List.getElem_cons_zero, List.getElem_cons_succ, List.setIfInBounds_toArray, List.set_cons_zero, List.set_cons_succ]
      refine wpAnyH_done (by kernel_rfl) ?_ _
      have hF5 := heap_alloc_new u6 (.cells #[.string ⟨f.nm.toArray⟩, .slice f.A f.bs.length f.c, .int .i64 (f.fm : Int)] 73)
      obtain ⟨w5, hw5⟩ : ∃ u, u6.alloc (.cells #[.string ⟨f.nm.toArray⟩, .slice f.A f.bs.length f.c, .int .i64 (f.fm : Int)] 73) = u := ⟨_, rfl⟩
      obtain ⟨FB, hFB⟩ : ∃ u, u6.heap.size = u := ⟨_, rfl⟩
      rw [hFB] at hF5 ⊢
      rw [hw5] at hHeld hF5 ⊢
      clear hFB hw5
      have HFZ5 := Lib.hid (HFU6.out.no_trans hHeld)
      have HFB := Lib.hid hF5
      have HDW : Hid (∀ W, Fr No w5 W → Dsk W D M s) := fun W hW => H.out.no (((HFW.out.no_trans HR.out).no_trans HFZ5.out).no_trans hW)
      have HRW : Hid (∀ W, Fr No w5 W → Rd W W.heap.size f.A f.bs.length f.bs) := fun W hW => by
        have h1 := ((HFW.out.no_trans HR.out).no_trans HFZ5.out).no_trans hW
        exact (h1.rd (Nat.le_refl _) HRF.out).more h1.size
      have HPD : Hid (∀ W, Fr No w5 W → W.heap[P]? = some (.cells #[.int .i64 mo, .slice (some ⟨b, o, none⟩) fs.length c, .int .i64 lf, .bool fl] 29 (0, 0))) := fun W hW => (((HR.out.no_trans HFZ5.out).no_trans hW).block _ (Array.getElem?_eq_some_iff.1 HD.out).1 (fun e => e)).trans HD.out
      have HSYN : Hid (∀ W, Fr No w5 W → Calls Try.prog 27 #[.pointer (some ⟨D, 0, none⟩), .string ⟨f.nm.toArray⟩] W fun e w' => e = .returned (.int .i64 (f.fm : Int)) ∧ Fr No W w') := fun W hW => by
        have h1 := synced_any (HDW.out W hW) ⟨f.nm.toArray⟩ HNM.out
        have h2 := (frm_ab HFD.out).1
        have e : s.frm (⟨f.nm.toArray⟩ : ByteArray).data.toList = f.fm := h2.trans HFA.out.2
        rw [e] at h1
        exact h1
      have HSIZ : Hid (∀ W, Fr No w5 W → Calls Try.prog 26 #[.pointer (some ⟨D, 0, none⟩), .string ⟨f.nm.toArray⟩] W fun e w' => e = .returned (.int .i64 (f.bs.length : Int)) ∧ Fr No W w') := fun W hW => by
        have h1 := size_any (HDW.out W hW) ⟨f.nm.toArray⟩ HNM.out
        have h2 := (frm_ab HFD.out).2
        have e : s.len (⟨f.nm.toArray⟩ : ByteArray).data.toList = f.bs.length := h2.trans (congrArg List.length HFA.out.1)
        rw [e] at h1
        exact h1
      clear hHeld hF5
      cases fl with
      | false =>
        go_wp2_with fail
        refine (read_ok (HDW.out _ (Fr.refl _ _)) ⟨f.nm.toArray⟩ HNM.out HFE.out g HFD.out).mono ?_
        rintro e w6 ⟨vR, rfl, hvR, hf6⟩
        rw [HFA.out.1] at hvR
        obtain ⟨RA, rc, rfl⟩ := own_sl8 hvR
        have HRR := Lib.hid (Rd.own hvR)
        clear hvR
        have HFR6 := Lib.hid hf6
        clear hf6
        go_upto_region 9 with fail
        obtain ⟨x9, HX9⟩ : ∃ u, Hid (w6.drew = u) := ⟨_, rfl⟩
        have HF9 : Hid (Fr No w5 x9) := by
          have h1 : Fr No w6 x9 := by rw [← HX9.out]; exact Fr.drew No w6
          exact HFR6.out.no_trans h1
        have HQ : Hid (∀ W, Fr No x9 W → W.cell? ⟨FB, 0, none⟩ = some (.string ⟨f.nm.toArray⟩) ∧ W.cell? ⟨FB, 1, none⟩ = some (.slice f.A f.bs.length f.c) ∧ W.cell? ⟨FB, 2, none⟩ = some (.int .i64 (f.fm : Int)) ∧ W.cell? ⟨P, 3, none⟩ = some (.bool false) ∧ True ∧ True ∧ True ∧ True) := fun W hW => by
          have h1 := HF9.out.no_trans hW
          have hb := (h1.block _ (Array.getElem?_eq_some_iff.1 HFB.out).1 (fun e => e)).trans HFB.out
          have hp := HPD.out W h1
          exact ⟨by unfold World.cell?; rw [hb]; rfl, by unfold World.cell?; rw [hb]; rfl, by unfold World.cell?; rw [hb]; rfl, by unfold World.cell?; rw [hp]; rfl, trivial, trivial, trivial, trivial⟩
        have HSY : Hid (∀ W, Fr No x9 W → Calls Try.prog 27 #[.pointer (some ⟨D, 0, none⟩), .string ⟨f.nm.toArray⟩] W fun e w' => e = .returned (.int .i64 (f.fm : Int)) ∧ Fr No W w') := fun W hW => HSYN.out W (HF9.out.no_trans hW)
        have HSI : Hid (∀ W, Fr No x9 W → Calls Try.prog 26 #[.pointer (some ⟨D, 0, none⟩), .string ⟨f.nm.toArray⟩] W fun e w' => e = .returned (.int .i64 (f.bs.length : Int)) ∧ Fr No W w') := fun W hW => HSIZ.out W (HF9.out.no_trans hW)
        have HFZ := Lib.hid ((HR.out.no_trans HFZ5.out).no_trans HF9.out)
        have HBO : Hid (∀ W, Fr No x9 W → Rd W W.heap.size RA f.bs.length f.bs ∧ Rd W W.heap.size f.A f.bs.length f.bs) := fun W hW => by
          have h1 : Fr No w6 W := by
            have h2 : Fr No w6 x9 := by rw [← HX9.out]; exact Fr.drew No w6
            exact h2.no_trans hW
          exact ⟨(h1.rd (Nat.le_refl _) HRR.out).more h1.size, HRW.out W (HFR6.out.no_trans h1)⟩
        refine wp_region_held_drew (S := fun W => Fr No x9 W) (by kernel_rfl) (by rw [HX9.out]; exact Fr.refl _ _) (fun hHeld => ?_)
        rw [HX9.out] at hHeld ⊢
        refine wpAnyH_take (i := 0) (oi := _) (v := .string ⟨f.nm.toArray⟩) rfl (by kernel_rfl) (by kernel_rfl) (by kernel_rfl) (fun _ _ _ h => h) (Or.inl ⟨by rfl, fun W hS => by rfl⟩) hHeld ?_
        try simp only [Act.put, List.getElem_toArray, List.getElem_cons_zero, List.setIfInBounds_toArray, List.set_cons_zero, List.set_cons_succ]
        refine wpAnyH_take (i := 1) (oi := _) (v := .pointer (some ⟨FB, 0, none⟩)) rfl (by kernel_rfl) (by kernel_rfl) (by kernel_rfl) (fun _ _ _ h => h) (Or.inl ⟨by rfl, fun W hS => by rfl⟩) hHeld ?_
        try simp only [Act.put, List.getElem_toArray, List.getElem_cons_zero, List.getElem_cons_succ, List.setIfInBounds_toArray, List.set_cons_zero, List.set_cons_succ]
        refine wpAnyH_take (i := 2) (oi := _) (v := .string ⟨f.nm.toArray⟩) rfl (by kernel_rfl) (by kernel_rfl) (by kernel_rfl) (fun _ _ _ h => h) (Or.inl ⟨by rfl, fun W hS => by obtain ⟨q0, q1, q2, q3, q4, q5, q6, q7⟩ := HQ.out W hS; go_simp⟩) hHeld ?_
        try simp only [Act.put, List.getElem_toArray, List.getElem_cons_zero, List.getElem_cons_succ, List.setIfInBounds_toArray, List.set_cons_zero, List.set_cons_succ]
        refine wpAnyH_take (i := 3) (oi := _) (v := .bool true) rfl (by kernel_rfl) (by kernel_rfl) (by kernel_rfl) (fun _ _ _ h => h) (Or.inl ⟨by rfl, fun W hS => by go_simp⟩) hHeld ?_
        try simp only [Act.put, List.getElem_toArray, List.getElem_cons_zero, List.getElem_cons_succ, List.setIfInBounds_toArray, List.set_cons_zero, List.set_cons_succ]
        refine wpAnyH_take (i := 4) (oi := _) (v := .bool true) rfl (by kernel_rfl) (by kernel_rfl) (by kernel_rfl) (fun _ _ _ h => h) (Or.inl ⟨by rfl, fun W hS => by rfl⟩) hHeld ?_
        try simp only [Act.put, List.getElem_toArray, List.getElem_cons_zero, List.getElem_cons_succ, List.setIfInBounds_toArray, List.set_cons_zero, List.set_cons_succ]
        refine wpAnyH_take (i := 5) (oi := _) (v := .bool false) rfl (by kernel_rfl) (by kernel_rfl) (by kernel_rfl) (fun _ _ _ h => h) (Or.inl ⟨by rfl, fun W hS => by rfl⟩) hHeld ?_
        try simp only [Act.put, List.getElem_toArray, List.getElem_cons_zero, List.getElem_cons_succ, List.setIfInBounds_toArray, List.set_cons_zero, List.set_cons_succ]
        refine wpAnyH_take (i := 6) (oi := _) (v := .pointer (some ⟨P, 3, none⟩)) rfl (by kernel_rfl) (by kernel_rfl) (by kernel_rfl) (fun _ _ _ h => h) (Or.inl ⟨by rfl, fun W hS => by rfl⟩) hHeld ?_
        try simp only [Act.put, List.getElem_toArray, List.getElem_cons_zero, List.getElem_cons_succ, List.setIfInBounds_toArray, List.set_cons_zero, List.set_cons_succ]
        refine wpAnyH_take (i := 7) (oi := _) (v := .bool false) rfl (by kernel_rfl) (by kernel_rfl) (by kernel_rfl) (fun _ _ _ h => h) (Or.inl ⟨by rfl, fun W hS => by obtain ⟨q0, q1, q2, q3, q4, q5, q6, q7⟩ := HQ.out W hS; go_simp⟩) hHeld ?_
        try simp only [Act.put, List.getElem_toArray, List.getElem_cons_zero, List.getElem_cons_succ, List.setIfInBounds_toArray, List.set_cons_zero, List.set_cons_succ]
        refine wpAnyH_take (i := 8) (oi := _) (v := .bool true) rfl (by kernel_rfl) (by kernel_rfl) (by kernel_rfl) (fun _ _ _ h => h) (Or.inl ⟨by rfl, fun W hS => by go_simp⟩) hHeld ?_
        try simp only [Act.put, List.getElem_toArray, List.getElem_cons_zero, List.getElem_cons_succ, List.setIfInBounds_toArray, List.set_cons_zero, List.set_cons_succ]
        refine wpAnyH_take (i := 9) (oi := _) (v := .bool true) rfl (by kernel_rfl) (by kernel_rfl) (by kernel_rfl) (fun _ _ _ h => h) (Or.inl ⟨by rfl, fun W hS => by rfl⟩) hHeld ?_
        try simp only [Act.put, List.getElem_toArray, List.getElem_cons_zero, List.getElem_cons_succ, List.setIfInBounds_toArray, List.set_cons_zero, List.set_cons_succ]
        refine wpAnyH_take (i := 10) (oi := _) (v := .bool true) rfl (by kernel_rfl) (by kernel_rfl) (by kernel_rfl) (fun _ _ _ h => h) (Or.inl ⟨by rfl, fun W hS => by rfl⟩) hHeld ?_
        try simp only [Act.put, List.getElem_toArray, List.getElem_cons_zero, List.getElem_cons_succ, List.setIfInBounds_toArray, List.set_cons_zero, List.set_cons_succ]
        refine wpAnyH_take (i := 11) (oi := _) (v := .bool false) rfl (by kernel_rfl) (by kernel_rfl) (by kernel_rfl) (fun _ _ _ h => h) (Or.inl ⟨by rfl, fun W hS => by rfl⟩) hHeld ?_
        try simp only [Act.put, List.getElem_toArray, List.getElem_cons_zero, List.getElem_cons_succ, List.setIfInBounds_toArray, List.set_cons_zero, List.set_cons_succ]
        refine wpAnyH_take (i := 12) (oi := _) (v := .bool false) rfl (by kernel_rfl) (by kernel_rfl) (by kernel_rfl) (fun _ _ _ h => h) (Or.inl ⟨by rfl, fun W hS => by rfl⟩) hHeld ?_
        try simp only [Act.put, List.getElem_toArray, List.getElem_cons_zero, List.getElem_cons_succ, List.setIfInBounds_toArray, List.set_cons_zero, List.set_cons_succ]
        refine wpAnyH_take (i := 13) (oi := _) (v := .slice RA f.bs.length rc) rfl (by kernel_rfl) (by kernel_rfl) (by kernel_rfl) (fun _ _ _ h => h) (Or.inl ⟨by rfl, fun W hS => by rfl⟩) hHeld ?_
        try simp only [Act.put, List.getElem_toArray, List.getElem_cons_zero, List.getElem_cons_succ, List.setIfInBounds_toArray, List.set_cons_zero, List.set_cons_succ]
        refine wpAnyH_take (i := 14) (oi := _) (v := .pointer (some ⟨FB, 1, none⟩)) rfl (by kernel_rfl) (by kernel_rfl) (by kernel_rfl) (fun _ _ _ h => h) (Or.inl ⟨by rfl, fun W hS => by rfl⟩) hHeld ?_
        try simp only [Act.put, List.getElem_toArray, List.getElem_cons_zero, List.getElem_cons_succ, List.setIfInBounds_toArray, List.set_cons_zero, List.set_cons_succ]
        refine wpAnyH_take (i := 15) (oi := _) (v := .slice f.A f.bs.length f.c) rfl (by kernel_rfl) (by kernel_rfl) (by kernel_rfl) (fun _ _ _ h => h) (Or.inl ⟨by rfl, fun W hS => by obtain ⟨q0, q1, q2, q3, q4, q5, q6, q7⟩ := HQ.out W hS; go_simp⟩) hHeld ?_
        try simp only [Act.put, List.getElem_toArray, List.getElem_cons_zero, List.getElem_cons_succ, List.setIfInBounds_toArray, List.set_cons_zero, List.set_cons_succ]
        refine wpAnyH_ready (rs := [16]) (by kernel_rfl) (by simp) ?_
        refine AllReadyH.cons (o := _) rfl (fun K hK => ?_) AllReadyH.nil
        rw [if_pos (by rfl)]
        go_wp2_with fail
        refine (bytes_same (HBO.out _ hHeld).1 (HBO.out _ hHeld).2).mono ?_
        rintro e w6 ⟨rfl, hf6⟩
        refine hK.out _ _ (hHeld.no_trans hf6) (fun hHeld => ?_)
        clear hK K hf6
        try simp only [Act.put, List.getElem_toArray, List.getElem_cons_zero, List.getElem_cons_succ, List.setIfInBounds_toArray, List.set_cons_zero, List.set_cons_succ]
        refine wpAnyH_take (i := 17) (oi := _) (v := .bool true) rfl (by kernel_rfl) (by kernel_rfl) (by kernel_rfl) (fun _ _ _ h => h) (Or.inl ⟨by rfl, fun W hS => by rfl⟩) hHeld ?_
        try simp only [Act.put, List.getElem_toArray, List.getElem_cons_zero, List.getElem_cons_succ, List.setIfInBounds_toArray, List.set_cons_zero, List.set_cons_succ]
        refine wpAnyH_take (i := 18) (oi := _) (v := .bool true) rfl (by kernel_rfl) (by kernel_rfl) (by kernel_rfl) (fun _ _ _ h => h) (Or.inl ⟨by rfl, fun W hS => by rfl⟩) hHeld ?_
        try simp only [Act.put, List.getElem_toArray, List.getElem_cons_zero, List.getElem_cons_succ, List.setIfInBounds_toArray, List.set_cons_zero, List.set_cons_succ]
        refine wpAnyH_take (i := 19) (oi := _) (v := .bool true) rfl (by kernel_rfl) (by kernel_rfl) (by kernel_rfl) (fun _ _ _ h => h) (Or.inl ⟨by rfl, fun W hS => by rfl⟩) hHeld ?_
        try simp only [Act.put, List.getElem_toArray, List.getElem_cons_zero, List.getElem_cons_succ, List.setIfInBounds_toArray, List.set_cons_zero, List.set_cons_succ]
        refine wpAnyH_take (i := 20) (oi := _) (v := .pointer (some ⟨D, 0, none⟩)) rfl (by kernel_rfl) (by kernel_rfl) (by kernel_rfl) (fun _ _ _ h => h) (Or.inl ⟨by rfl, fun W hS => by rfl⟩) hHeld ?_
        try simp only [Act.put, List.getElem_toArray, List.getElem_cons_zero, List.getElem_cons_succ, List.setIfInBounds_toArray, List.set_cons_zero, List.set_cons_succ]
        refine wpAnyH_take (i := 21) (oi := _) (v := .string ⟨f.nm.toArray⟩) rfl (by kernel_rfl) (by kernel_rfl) (by kernel_rfl) (fun _ _ _ h => h) (Or.inl ⟨by rfl, fun W hS => by rfl⟩) hHeld ?_
        try simp only [Act.put, List.getElem_toArray, List.getElem_cons_zero, List.getElem_cons_succ, List.setIfInBounds_toArray, List.set_cons_zero, List.set_cons_succ]
        refine wpAnyH_take (i := 23) (oi := _) (v := .pointer (some ⟨FB, 2, none⟩)) rfl (by kernel_rfl) (by kernel_rfl) (by kernel_rfl) (fun _ _ _ h => h) (Or.inl ⟨by rfl, fun W hS => by rfl⟩) hHeld ?_
        try simp only [Act.put, List.getElem_toArray, List.getElem_cons_zero, List.getElem_cons_succ, List.setIfInBounds_toArray, List.set_cons_zero, List.set_cons_succ]
        refine wpAnyH_take (i := 24) (oi := _) (v := .int .i64 (f.fm : Int)) rfl (by kernel_rfl) (by kernel_rfl) (by kernel_rfl) (fun _ _ _ h => h) (Or.inl ⟨by rfl, fun W hS => by obtain ⟨q0, q1, q2, q3, q4, q5, q6, q7⟩ := HQ.out W hS; go_simp⟩) hHeld ?_
        try simp only [Act.put, List.getElem_toArray, List.getElem_cons_zero, List.getElem_cons_succ, List.setIfInBounds_toArray, List.set_cons_zero, List.set_cons_succ]
        refine wpAnyH_ready (rs := [22]) (by kernel_rfl) (by simp) ?_
        refine AllReadyH.cons (o := _) rfl (fun K hK => ?_) AllReadyH.nil
        rw [if_pos (by rfl)]
        go_wp2_with fail
        refine (HSY.out _ hHeld).mono ?_
        rintro e w7 ⟨rfl, hf7⟩
        refine hK.out _ _ (hHeld.no_trans hf7) (fun hHeld => ?_)
        clear hK K hf7
        try simp only [Act.put, List.getElem_toArray, List.getElem_cons_zero, List.getElem_cons_succ, List.setIfInBounds_toArray, List.set_cons_zero, List.set_cons_succ]
        refine wpAnyH_take (i := 25) (oi := _) (v := .bool true) rfl (by kernel_rfl) (by kernel_rfl) (by kernel_rfl) (fun _ _ _ h => h) (Or.inl ⟨by rfl, fun W hS => by go_simp⟩) hHeld ?_
        try simp only [Act.put, List.getElem_toArray, List.getElem_cons_zero, List.getElem_cons_succ, List.setIfInBounds_toArray, List.set_cons_zero, List.set_cons_succ]
        refine wpAnyH_take (i := 26) (oi := _) (v := .bool true) rfl (by kernel_rfl) (by kernel_rfl) (by kernel_rfl) (fun _ _ _ h => h) (Or.inl ⟨by rfl, fun W hS => by rfl⟩) hHeld ?_
        try simp only [Act.put, List.getElem_toArray, List.getElem_cons_zero, List.getElem_cons_succ, List.setIfInBounds_toArray, List.set_cons_zero, List.set_cons_succ]
        refine wpAnyH_take (i := 27) (oi := _) (v := .bool true) rfl (by kernel_rfl) (by kernel_rfl) (by kernel_rfl) (fun _ _ _ h => h) (Or.inl ⟨by rfl, fun W hS => by rfl⟩) hHeld ?_
        try simp only [Act.put, List.getElem_toArray, List.getElem_cons_zero, List.getElem_cons_succ, List.setIfInBounds_toArray, List.set_cons_zero, List.set_cons_succ]
        refine wpAnyH_take (i := 28) (oi := _) (v := .pointer (some ⟨D, 0, none⟩)) rfl (by kernel_rfl) (by kernel_rfl) (by kernel_rfl) (fun _ _ _ h => h) (Or.inl ⟨by rfl, fun W hS => by rfl⟩) hHeld ?_
        try simp only [Act.put, List.getElem_toArray, List.getElem_cons_zero, List.getElem_cons_succ, List.setIfInBounds_toArray, List.set_cons_zero, List.set_cons_succ]
        refine wpAnyH_take (i := 29) (oi := _) (v := .string ⟨f.nm.toArray⟩) rfl (by kernel_rfl) (by kernel_rfl) (by kernel_rfl) (fun _ _ _ h => h) (Or.inl ⟨by rfl, fun W hS => by rfl⟩) hHeld ?_
        try simp only [Act.put, List.getElem_toArray, List.getElem_cons_zero, List.getElem_cons_succ, List.setIfInBounds_toArray, List.set_cons_zero, List.set_cons_succ]
        refine wpAnyH_take (i := 31) (oi := _) (v := .pointer (some ⟨FB, 1, none⟩)) rfl (by kernel_rfl) (by kernel_rfl) (by kernel_rfl) (fun _ _ _ h => h) (Or.inl ⟨by rfl, fun W hS => by rfl⟩) hHeld ?_
        try simp only [Act.put, List.getElem_toArray, List.getElem_cons_zero, List.getElem_cons_succ, List.setIfInBounds_toArray, List.set_cons_zero, List.set_cons_succ]
        refine wpAnyH_take (i := 32) (oi := _) (v := .slice f.A f.bs.length f.c) rfl (by kernel_rfl) (by kernel_rfl) (by kernel_rfl) (fun _ _ _ h => h) (Or.inl ⟨by rfl, fun W hS => by obtain ⟨q0, q1, q2, q3, q4, q5, q6, q7⟩ := HQ.out W hS; go_simp⟩) hHeld ?_
        try simp only [Act.put, List.getElem_toArray, List.getElem_cons_zero, List.getElem_cons_succ, List.setIfInBounds_toArray, List.set_cons_zero, List.set_cons_succ]
        refine wpAnyH_take (i := 33) (oi := _) (v := .int .i64 (f.bs.length : Int)) rfl (by kernel_rfl) (by kernel_rfl) (by kernel_rfl) (fun _ _ _ h => h) (Or.inl ⟨by rfl, fun W hS => by go_simp⟩) hHeld ?_
        try simp only [Act.put, List.getElem_toArray, List.getElem_cons_zero, List.getElem_cons_succ, List.setIfInBounds_toArray, List.set_cons_zero, List.set_cons_succ]
        refine wpAnyH_ready (rs := [30]) (by kernel_rfl) (by simp) ?_
        refine AllReadyH.cons (o := _) rfl (fun K hK => ?_) AllReadyH.nil
        rw [if_pos (by rfl)]
        go_wp2_with fail
        refine (HSI.out _ hHeld).mono ?_
        rintro e w8 ⟨rfl, hf8⟩
        refine hK.out _ _ (hHeld.no_trans hf8) (fun hHeld => ?_)
        clear hK K hf8
        try simp only [Act.put, List.getElem_toArray, List.getElem_cons_zero, List.getElem_cons_succ, List.setIfInBounds_toArray, List.set_cons_zero, List.set_cons_succ]
        refine wpAnyH_take (i := 34) (oi := _) (v := .bool true) rfl (by kernel_rfl) (by kernel_rfl) (by kernel_rfl) (fun _ _ _ h => h) (Or.inl ⟨by rfl, fun W hS => by go_simp⟩) hHeld ?_
        try simp only [Act.put, List.getElem_toArray, List.getElem_cons_zero, List.getElem_cons_succ, List.setIfInBounds_toArray, List.set_cons_zero, List.set_cons_succ]
        refine wpAnyH_take (i := 35) (oi := _) (v := .bool true) rfl (by kernel_rfl) (by kernel_rfl) (by kernel_rfl) (fun _ _ _ h => h) (Or.inl ⟨by rfl, fun W hS => by rfl⟩) hHeld ?_
        try simp only [Act.put, List.getElem_toArray, List.getElem_cons_zero, List.getElem_cons_succ, List.setIfInBounds_toArray, List.set_cons_zero, List.set_cons_succ]
        refine wpAnyH_take (i := 36) (oi := _) (v := .bool true) rfl (by kernel_rfl) (by kernel_rfl) (by kernel_rfl) (fun _ _ _ h => h) (Or.inl ⟨by rfl, fun W hS => by rfl⟩) hHeld ?_
        try simp only [Act.put, List.getElem_toArray, List.getElem_cons_zero, List.getElem_cons_succ, List.setIfInBounds_toArray, List.set_cons_zero, List.set_cons_succ]
        refine wpAnyH_done (by kernel_rfl) ?_ _
        have HF8 := Lib.hid (HFZ.out.no_trans hHeld)
        clear hHeld
        go_wp2_with fail
        go_roundw
        case rel => exact ⟨k + 1, by omega, by first | rfl | trivial, by go_num, HF8.out⟩
        case measure => simp [intOf]; omega
      | true =>
        go_wp2_with fail
        refine (read_down (HDW.out _ (Fr.refl _ _)) ⟨f.nm.toArray⟩ HNM.out HFE.out).mono ?_
        rintro e w6 ⟨rfl, hf6⟩
        have HFR6 := Lib.hid hf6
        clear hf6
        go_upto_region 9 with fail
        obtain ⟨x9, HX9⟩ : ∃ u, Hid (w6.drew = u) := ⟨_, rfl⟩
        have HF9 : Hid (Fr No w5 x9) := by
          have h1 : Fr No w6 x9 := by rw [← HX9.out]; exact Fr.drew No w6
          exact HFR6.out.no_trans h1
        have HQ : Hid (∀ W, Fr No x9 W → W.cell? ⟨FB, 0, none⟩ = some (.string ⟨f.nm.toArray⟩) ∧ W.cell? ⟨FB, 1, none⟩ = some (.slice f.A f.bs.length f.c) ∧ W.cell? ⟨FB, 2, none⟩ = some (.int .i64 (f.fm : Int)) ∧ W.cell? ⟨P, 3, none⟩ = some (.bool true) ∧ True ∧ True ∧ True ∧ True) := fun W hW => by
          have h1 := HF9.out.no_trans hW
          have hb := (h1.block _ (Array.getElem?_eq_some_iff.1 HFB.out).1 (fun e => e)).trans HFB.out
          have hp := HPD.out W h1
          exact ⟨by unfold World.cell?; rw [hb]; rfl, by unfold World.cell?; rw [hb]; rfl, by unfold World.cell?; rw [hb]; rfl, by unfold World.cell?; rw [hp]; rfl, trivial, trivial, trivial, trivial⟩
        have HSY : Hid (∀ W, Fr No x9 W → Calls Try.prog 27 #[.pointer (some ⟨D, 0, none⟩), .string ⟨f.nm.toArray⟩] W fun e w' => e = .returned (.int .i64 (f.fm : Int)) ∧ Fr No W w') := fun W hW => HSYN.out W (HF9.out.no_trans hW)
        have HSI : Hid (∀ W, Fr No x9 W → Calls Try.prog 26 #[.pointer (some ⟨D, 0, none⟩), .string ⟨f.nm.toArray⟩] W fun e w' => e = .returned (.int .i64 (f.bs.length : Int)) ∧ Fr No W w') := fun W hW => HSIZ.out W (HF9.out.no_trans hW)
        have HFZ := Lib.hid ((HR.out.no_trans HFZ5.out).no_trans HF9.out)
        refine wp_region_held_drew (S := fun W => Fr No x9 W) (by kernel_rfl) (by rw [HX9.out]; exact Fr.refl _ _) (fun hHeld => ?_)
        rw [HX9.out] at hHeld ⊢
        refine wpAnyH_take (i := 0) (oi := _) (v := .string ⟨f.nm.toArray⟩) rfl (by kernel_rfl) (by kernel_rfl) (by kernel_rfl) (fun _ _ _ h => h) (Or.inl ⟨by rfl, fun W hS => by rfl⟩) hHeld ?_
        try simp only [Act.put, List.getElem_toArray, List.getElem_cons_zero, List.setIfInBounds_toArray, List.set_cons_zero, List.set_cons_succ]
        refine wpAnyH_take (i := 1) (oi := _) (v := .pointer (some ⟨FB, 0, none⟩)) rfl (by kernel_rfl) (by kernel_rfl) (by kernel_rfl) (fun _ _ _ h => h) (Or.inl ⟨by rfl, fun W hS => by rfl⟩) hHeld ?_
        try simp only [Act.put, List.getElem_toArray, List.getElem_cons_zero, List.getElem_cons_succ, List.setIfInBounds_toArray, List.set_cons_zero, List.set_cons_succ]
        refine wpAnyH_take (i := 2) (oi := _) (v := .string ⟨f.nm.toArray⟩) rfl (by kernel_rfl) (by kernel_rfl) (by kernel_rfl) (fun _ _ _ h => h) (Or.inl ⟨by rfl, fun W hS => by obtain ⟨q0, q1, q2, q3, q4, q5, q6, q7⟩ := HQ.out W hS; go_simp⟩) hHeld ?_
        try simp only [Act.put, List.getElem_toArray, List.getElem_cons_zero, List.getElem_cons_succ, List.setIfInBounds_toArray, List.set_cons_zero, List.set_cons_succ]
        refine wpAnyH_take (i := 3) (oi := _) (v := .bool true) rfl (by kernel_rfl) (by kernel_rfl) (by kernel_rfl) (fun _ _ _ h => h) (Or.inl ⟨by rfl, fun W hS => by go_simp⟩) hHeld ?_
        try simp only [Act.put, List.getElem_toArray, List.getElem_cons_zero, List.getElem_cons_succ, List.setIfInBounds_toArray, List.set_cons_zero, List.set_cons_succ]
        refine wpAnyH_take (i := 4) (oi := _) (v := .bool true) rfl (by kernel_rfl) (by kernel_rfl) (by kernel_rfl) (fun _ _ _ h => h) (Or.inl ⟨by rfl, fun W hS => by rfl⟩) hHeld ?_
        try simp only [Act.put, List.getElem_toArray, List.getElem_cons_zero, List.getElem_cons_succ, List.setIfInBounds_toArray, List.set_cons_zero, List.set_cons_succ]
        refine wpAnyH_take (i := 5) (oi := _) (v := .bool true) rfl (by kernel_rfl) (by kernel_rfl) (by kernel_rfl) (fun _ _ _ h => h) (Or.inl ⟨by rfl, fun W hS => by rfl⟩) hHeld ?_
        try simp only [Act.put, List.getElem_toArray, List.getElem_cons_zero, List.getElem_cons_succ, List.setIfInBounds_toArray, List.set_cons_zero, List.set_cons_succ]
        refine wpAnyH_take (i := 6) (oi := _) (v := .pointer (some ⟨P, 3, none⟩)) rfl (by kernel_rfl) (by kernel_rfl) (by kernel_rfl) (fun _ _ _ h => h) (Or.inl ⟨by rfl, fun W hS => by rfl⟩) hHeld ?_
        try simp only [Act.put, List.getElem_toArray, List.getElem_cons_zero, List.getElem_cons_succ, List.setIfInBounds_toArray, List.set_cons_zero, List.set_cons_succ]
        refine wpAnyH_take (i := 7) (oi := _) (v := .bool true) rfl (by kernel_rfl) (by kernel_rfl) (by kernel_rfl) (fun _ _ _ h => h) (Or.inl ⟨by rfl, fun W hS => by obtain ⟨q0, q1, q2, q3, q4, q5, q6, q7⟩ := HQ.out W hS; go_simp⟩) hHeld ?_
        try simp only [Act.put, List.getElem_toArray, List.getElem_cons_zero, List.getElem_cons_succ, List.setIfInBounds_toArray, List.set_cons_zero, List.set_cons_succ]
        refine wpAnyH_take (i := 8) (oi := _) (v := .bool true) rfl (by kernel_rfl) (by kernel_rfl) (by kernel_rfl) (fun _ _ _ h => h) (Or.inl ⟨by rfl, fun W hS => by go_simp⟩) hHeld ?_
        try simp only [Act.put, List.getElem_toArray, List.getElem_cons_zero, List.getElem_cons_succ, List.setIfInBounds_toArray, List.set_cons_zero, List.set_cons_succ]
        refine wpAnyH_take (i := 9) (oi := _) (v := .bool true) rfl (by kernel_rfl) (by kernel_rfl) (by kernel_rfl) (fun _ _ _ h => h) (Or.inl ⟨by rfl, fun W hS => by rfl⟩) hHeld ?_
        try simp only [Act.put, List.getElem_toArray, List.getElem_cons_zero, List.getElem_cons_succ, List.setIfInBounds_toArray, List.set_cons_zero, List.set_cons_succ]
        refine wpAnyH_take (i := 10) (oi := _) (v := .bool true) rfl (by kernel_rfl) (by kernel_rfl) (by kernel_rfl) (fun _ _ _ h => h) (Or.inl ⟨by rfl, fun W hS => by rfl⟩) hHeld ?_
        try simp only [Act.put, List.getElem_toArray, List.getElem_cons_zero, List.getElem_cons_succ, List.setIfInBounds_toArray, List.set_cons_zero, List.set_cons_succ]
        refine wpAnyH_take (i := 11) (oi := _) (v := .bool true) rfl (by kernel_rfl) (by kernel_rfl) (by kernel_rfl) (fun _ _ _ h => h) (Or.inl ⟨by rfl, fun W hS => by rfl⟩) hHeld ?_
        try simp only [Act.put, List.getElem_toArray, List.getElem_cons_zero, List.getElem_cons_succ, List.setIfInBounds_toArray, List.set_cons_zero, List.set_cons_succ]
        refine wpAnyH_take (i := 12) (oi := _) (v := .bool true) rfl (by kernel_rfl) (by kernel_rfl) (by kernel_rfl) (fun _ _ _ h => h) (Or.inl ⟨by rfl, fun W hS => by rfl⟩) hHeld ?_
        try simp only [Act.put, List.getElem_toArray, List.getElem_cons_zero, List.getElem_cons_succ, List.setIfInBounds_toArray, List.set_cons_zero, List.set_cons_succ]
        refine wpAnyH_take (i := 13) (oi := _) (v := undef) rfl (by kernel_rfl) (by kernel_rfl) (by kernel_rfl) (fun _ _ _ h => h) (Or.inr ⟨by rfl, rfl⟩) hHeld ?_
        try simp only [Act.put, List.getElem_toArray, List.getElem_cons_zero, List.getElem_cons_succ, List.setIfInBounds_toArray, List.set_cons_zero, List.set_cons_succ]
        refine wpAnyH_take (i := 14) (oi := _) (v := undef) rfl (by kernel_rfl) (by kernel_rfl) (by kernel_rfl) (fun _ _ _ h => h) (Or.inr ⟨by rfl, rfl⟩) hHeld ?_
        try simp only [Act.put, List.getElem_toArray, List.getElem_cons_zero, List.getElem_cons_succ, List.setIfInBounds_toArray, List.set_cons_zero, List.set_cons_succ]
        refine wpAnyH_take (i := 15) (oi := _) (v := undef) rfl (by kernel_rfl) (by kernel_rfl) (by kernel_rfl) (fun _ _ _ h => h) (Or.inr ⟨by rfl, rfl⟩) hHeld ?_
        try simp only [Act.put, List.getElem_toArray, List.getElem_cons_zero, List.getElem_cons_succ, List.setIfInBounds_toArray, List.set_cons_zero, List.set_cons_succ]
        refine wpAnyH_take (i := 16) (oi := _) (v := undef) rfl (by kernel_rfl) (by kernel_rfl) (by kernel_rfl) (fun _ _ _ h => h) (Or.inr ⟨by rfl, rfl⟩) hHeld ?_
        try simp only [Act.put, List.getElem_toArray, List.getElem_cons_zero, List.getElem_cons_succ, List.setIfInBounds_toArray, List.set_cons_zero, List.set_cons_succ]
        refine wpAnyH_take (i := 17) (oi := _) (v := .bool true) rfl (by kernel_rfl) (by kernel_rfl) (by kernel_rfl) (fun _ _ _ h => h) (Or.inl ⟨by rfl, fun W hS => by rfl⟩) hHeld ?_
        try simp only [Act.put, List.getElem_toArray, List.getElem_cons_zero, List.getElem_cons_succ, List.setIfInBounds_toArray, List.set_cons_zero, List.set_cons_succ]
        refine wpAnyH_take (i := 18) (oi := _) (v := .bool true) rfl (by kernel_rfl) (by kernel_rfl) (by kernel_rfl) (fun _ _ _ h => h) (Or.inl ⟨by rfl, fun W hS => by rfl⟩) hHeld ?_
        try simp only [Act.put, List.getElem_toArray, List.getElem_cons_zero, List.getElem_cons_succ, List.setIfInBounds_toArray, List.set_cons_zero, List.set_cons_succ]
        refine wpAnyH_take (i := 19) (oi := _) (v := .bool true) rfl (by kernel_rfl) (by kernel_rfl) (by kernel_rfl) (fun _ _ _ h => h) (Or.inl ⟨by rfl, fun W hS => by rfl⟩) hHeld ?_
        try simp only [Act.put, List.getElem_toArray, List.getElem_cons_zero, List.getElem_cons_succ, List.setIfInBounds_toArray, List.set_cons_zero, List.set_cons_succ]
        refine wpAnyH_take (i := 20) (oi := _) (v := .pointer (some ⟨D, 0, none⟩)) rfl (by kernel_rfl) (by kernel_rfl) (by kernel_rfl) (fun _ _ _ h => h) (Or.inl ⟨by rfl, fun W hS => by rfl⟩) hHeld ?_
        try simp only [Act.put, List.getElem_toArray, List.getElem_cons_zero, List.getElem_cons_succ, List.setIfInBounds_toArray, List.set_cons_zero, List.set_cons_succ]
        refine wpAnyH_take (i := 21) (oi := _) (v := .string ⟨f.nm.toArray⟩) rfl (by kernel_rfl) (by kernel_rfl) (by kernel_rfl) (fun _ _ _ h => h) (Or.inl ⟨by rfl, fun W hS => by rfl⟩) hHeld ?_
        try simp only [Act.put, List.getElem_toArray, List.getElem_cons_zero, List.getElem_cons_succ, List.setIfInBounds_toArray, List.set_cons_zero, List.set_cons_succ]
        refine wpAnyH_take (i := 23) (oi := _) (v := .pointer (some ⟨FB, 2, none⟩)) rfl (by kernel_rfl) (by kernel_rfl) (by kernel_rfl) (fun _ _ _ h => h) (Or.inl ⟨by rfl, fun W hS => by rfl⟩) hHeld ?_
        try simp only [Act.put, List.getElem_toArray, List.getElem_cons_zero, List.getElem_cons_succ, List.setIfInBounds_toArray, List.set_cons_zero, List.set_cons_succ]
        refine wpAnyH_take (i := 24) (oi := _) (v := .int .i64 (f.fm : Int)) rfl (by kernel_rfl) (by kernel_rfl) (by kernel_rfl) (fun _ _ _ h => h) (Or.inl ⟨by rfl, fun W hS => by obtain ⟨q0, q1, q2, q3, q4, q5, q6, q7⟩ := HQ.out W hS; go_simp⟩) hHeld ?_
        try simp only [Act.put, List.getElem_toArray, List.getElem_cons_zero, List.getElem_cons_succ, List.setIfInBounds_toArray, List.set_cons_zero, List.set_cons_succ]
        refine wpAnyH_ready (rs := [22]) (by kernel_rfl) (by simp) ?_
        refine AllReadyH.cons (o := _) rfl (fun K hK => ?_) AllReadyH.nil
        rw [if_pos (by rfl)]
        go_wp2_with fail
        refine (HSY.out _ hHeld).mono ?_
        rintro e w7 ⟨rfl, hf7⟩
        refine hK.out _ _ (hHeld.no_trans hf7) (fun hHeld => ?_)
        clear hK K hf7
        try simp only [Act.put, List.getElem_toArray, List.getElem_cons_zero, List.getElem_cons_succ, List.setIfInBounds_toArray, List.set_cons_zero, List.set_cons_succ]
        refine wpAnyH_take (i := 25) (oi := _) (v := .bool true) rfl (by kernel_rfl) (by kernel_rfl) (by kernel_rfl) (fun _ _ _ h => h) (Or.inl ⟨by rfl, fun W hS => by go_simp⟩) hHeld ?_
        try simp only [Act.put, List.getElem_toArray, List.getElem_cons_zero, List.getElem_cons_succ, List.setIfInBounds_toArray, List.set_cons_zero, List.set_cons_succ]
        refine wpAnyH_take (i := 26) (oi := _) (v := .bool true) rfl (by kernel_rfl) (by kernel_rfl) (by kernel_rfl) (fun _ _ _ h => h) (Or.inl ⟨by rfl, fun W hS => by rfl⟩) hHeld ?_
        try simp only [Act.put, List.getElem_toArray, List.getElem_cons_zero, List.getElem_cons_succ, List.setIfInBounds_toArray, List.set_cons_zero, List.set_cons_succ]
        refine wpAnyH_take (i := 27) (oi := _) (v := .bool true) rfl (by kernel_rfl) (by kernel_rfl) (by kernel_rfl) (fun _ _ _ h => h) (Or.inl ⟨by rfl, fun W hS => by rfl⟩) hHeld ?_
        try simp only [Act.put, List.getElem_toArray, List.getElem_cons_zero, List.getElem_cons_succ, List.setIfInBounds_toArray, List.set_cons_zero, List.set_cons_succ]
        refine wpAnyH_take (i := 28) (oi := _) (v := .pointer (some ⟨D, 0, none⟩)) rfl (by kernel_rfl) (by kernel_rfl) (by kernel_rfl) (fun _ _ _ h => h) (Or.inl ⟨by rfl, fun W hS => by rfl⟩) hHeld ?_
        try simp only [Act.put, List.getElem_toArray, List.getElem_cons_zero, List.getElem_cons_succ, List.setIfInBounds_toArray, List.set_cons_zero, List.set_cons_succ]
        refine wpAnyH_take (i := 29) (oi := _) (v := .string ⟨f.nm.toArray⟩) rfl (by kernel_rfl) (by kernel_rfl) (by kernel_rfl) (fun _ _ _ h => h) (Or.inl ⟨by rfl, fun W hS => by rfl⟩) hHeld ?_
        try simp only [Act.put, List.getElem_toArray, List.getElem_cons_zero, List.getElem_cons_succ, List.setIfInBounds_toArray, List.set_cons_zero, List.set_cons_succ]
        refine wpAnyH_take (i := 31) (oi := _) (v := .pointer (some ⟨FB, 1, none⟩)) rfl (by kernel_rfl) (by kernel_rfl) (by kernel_rfl) (fun _ _ _ h => h) (Or.inl ⟨by rfl, fun W hS => by rfl⟩) hHeld ?_
        try simp only [Act.put, List.getElem_toArray, List.getElem_cons_zero, List.getElem_cons_succ, List.setIfInBounds_toArray, List.set_cons_zero, List.set_cons_succ]
        refine wpAnyH_take (i := 32) (oi := _) (v := .slice f.A f.bs.length f.c) rfl (by kernel_rfl) (by kernel_rfl) (by kernel_rfl) (fun _ _ _ h => h) (Or.inl ⟨by rfl, fun W hS => by obtain ⟨q0, q1, q2, q3, q4, q5, q6, q7⟩ := HQ.out W hS; go_simp⟩) hHeld ?_
        try simp only [Act.put, List.getElem_toArray, List.getElem_cons_zero, List.getElem_cons_succ, List.setIfInBounds_toArray, List.set_cons_zero, List.set_cons_succ]
        refine wpAnyH_take (i := 33) (oi := _) (v := .int .i64 (f.bs.length : Int)) rfl (by kernel_rfl) (by kernel_rfl) (by kernel_rfl) (fun _ _ _ h => h) (Or.inl ⟨by rfl, fun W hS => by go_simp⟩) hHeld ?_
        try simp only [Act.put, List.getElem_toArray, List.getElem_cons_zero, List.getElem_cons_succ, List.setIfInBounds_toArray, List.set_cons_zero, List.set_cons_succ]
        refine wpAnyH_ready (rs := [30]) (by kernel_rfl) (by simp) ?_
        refine AllReadyH.cons (o := _) rfl (fun K hK => ?_) AllReadyH.nil
        rw [if_pos (by rfl)]
        go_wp2_with fail
        refine (HSI.out _ hHeld).mono ?_
        rintro e w8 ⟨rfl, hf8⟩
        refine hK.out _ _ (hHeld.no_trans hf8) (fun hHeld => ?_)
        clear hK K hf8
        try simp only [Act.put, List.getElem_toArray, List.getElem_cons_zero, List.getElem_cons_succ, List.setIfInBounds_toArray, List.set_cons_zero, List.set_cons_succ]
        refine wpAnyH_take (i := 34) (oi := _) (v := .bool true) rfl (by kernel_rfl) (by kernel_rfl) (by kernel_rfl) (fun _ _ _ h => h) (Or.inl ⟨by rfl, fun W hS => by go_simp⟩) hHeld ?_
        try simp only [Act.put, List.getElem_toArray, List.getElem_cons_zero, List.getElem_cons_succ, List.setIfInBounds_toArray, List.set_cons_zero, List.set_cons_succ]
        refine wpAnyH_take (i := 35) (oi := _) (v := .bool true) rfl (by kernel_rfl) (by kernel_rfl) (by kernel_rfl) (fun _ _ _ h => h) (Or.inl ⟨by rfl, fun W hS => by rfl⟩) hHeld ?_
        try simp only [Act.put, List.getElem_toArray, List.getElem_cons_zero, List.getElem_cons_succ, List.setIfInBounds_toArray, List.set_cons_zero, List.set_cons_succ]
        refine wpAnyH_take (i := 36) (oi := _) (v := .bool true) rfl (by kernel_rfl) (by kernel_rfl) (by kernel_rfl) (fun _ _ _ h => h) (Or.inl ⟨by rfl, fun W hS => by rfl⟩) hHeld ?_
        try simp only [Act.put, List.getElem_toArray, List.getElem_cons_zero, List.getElem_cons_succ, List.setIfInBounds_toArray, List.set_cons_zero, List.set_cons_succ]
        refine wpAnyH_done (by kernel_rfl) ?_ _
        have HF8 := Lib.hid (HFZ.out.no_trans hHeld)
        clear hHeld
        go_wp2_with fail
        go_roundw
        case rel => exact ⟨k + 1, by omega, by first | rfl | trivial, by go_num, HF8.out⟩
        case measure => simp [intOf]; omega
    · have hke : k = fs.length := by omega
      have hltI : ¬ ((k : Int) < (fs.length : Int)) := by omega
      have HFR := Lib.hid (HFW.out.no_trans HR.out)
      go_wp2_with fail
      go_ret
      exact ⟨rfl, HFR.out⟩
end
end Go.Proofs.Ytnkgcafebmacjaa
namespace Go.Proofs.Ytnkgcafebmacjaa
open Go.RowKit Go.Maps

section
variable {F F' G : Nat → Prop} {w w' : World} {v : Value} {S : Ab}
set_option maxRecDepth 100000 in
/-- What turns blocks of F alone leaves the document's disk as it was. -/
theorem Rv.keep (h : Rv F w v S) (hf : Fr G w w') (hG : ∀ k, G k → F k) (hF : ∀ k, F' k → F k ∨ w.heap.size ≤ k) : Rv F' w' v S := by
  obtain ⟨A, c, fs, hv, hk, hm, hr, hl, ho⟩ := h
  refine ⟨A, c, fs, hv, ⟨hk.len, fun hn => ?_, fun f hf' => ?_⟩, hm, hr, hl, fun hn a ha hfa => ?_, fun f hm' hn a ha hfa => ?_⟩
  · obtain ⟨b, o, e, hb, hc⟩ := hk.at_ hn
    have hbG : ¬ G b := fun g => ho.1 hn ⟨b, o, none⟩ e (hG b g)
    refine ⟨b, o, e, Nat.lt_of_lt_of_le hb hf.size, fun j f hj => ?_⟩
    obtain ⟨c0, c1, c2⟩ := hc j f hj
    exact ⟨hf.cell c0 hbG, hf.cell c1 hbG, hf.cell c2 hbG⟩
  · exact rd_off hf (hk.rd f hf') (fun hn a ha g => ho.2 f hf' hn a ha (hG _ g))
  · obtain ⟨b, o, e, hb, _⟩ := hk.at_ hn
    rw [e] at ha
    injection ha with ha
    subst ha
    rcases hF _ hfa with h1 | h1
    · exact ho.1 hn _ e h1
    · have : w.heap.size ≤ b := h1
      omega
  · obtain ⟨b, o, e, hb, _⟩ := (hk.rd f hm').2 hn
    rw [e] at ha
    injection ha with ha
    subst ha
    rcases hF _ hfa with h1 | h1
    · exact ho.2 f hm' hn _ e h1
    · have : w.heap.size ≤ b := h1
      omega
/-- The document's disk as it lies in a variable. -/
structure Dv where
  mo : Int
  A : Option Addr
  n : Nat
  c : Nat
  lf : Int
  fl : Bool
theorem Rv.form (h : Rv F w v S) : ∃ d : Dv, v = .agg #[.int .i64 d.mo, .slice d.A d.n d.c, .int .i64 d.lf, .bool d.fl] := by
  obtain ⟨A, c, fs, hv, _⟩ := h
  exact ⟨⟨(S.mo : Int), A, fs.length, c, _, S.fl⟩, hv⟩
end
/-- The program's disk, the document's in a variable, and what came in. -/
structure Tl (w0 : World) (D M V : Nat) (w : World) (d : Dv) (s : St) (S : Ab) : Prop where
  dsk : Dsk w D M s
  far : ∀ k, foot D M s.fs k → w0.heap.size ≤ k
  bel : Below w0.heap.size w0 w
  var : w.heap[V]? = some (.cells #[.int .i64 d.mo, .slice d.A d.n d.c, .int .i64 d.lf, .bool d.fl] 29 (0, 0))
  rv : Rv (fun k => foot D M s.fs k ∨ k = V) w (.agg #[.int .i64 d.mo, .slice d.A d.n d.c, .int .i64 d.lf, .bool d.fl]) S
  vf : ¬ foot D M s.fs V
  vw : w0.heap.size ≤ V
section
variable {w0 w w' : World} {D M V : Nat} {d d2 : Dv} {s s' : St} {S S2 : Ab}
theorem Tl.lt (h : Tl w0 D M V w d s S) : ∀ k, foot D M s.fs k ∨ k = V → k < w.heap.size := fun k hk => by
  rcases hk with hk | hk
  · exact h.dsk.foot_lt hk
  · rw [hk]; exact (Array.getElem?_eq_some_iff.1 h.var).1
theorem Tl.no (h : Tl w0 D M V w d s S) (hf : Fr No w w') : Tl w0 D M V w' d s S :=
  ⟨h.dsk.no hf, h.far, h.bel.trans (hf.noBelow.mono h.bel.size), (hf.block V (h.lt V (.inr rfl)) (fun e => e)).trans h.var, h.rv.no hf, h.vf, h.vw⟩
set_option maxRecDepth 100000 in
theorem Tl.left (h : Tl w0 D M V w d s S) (hN : Nx D M w s w' s') : Tl w0 D M V w' d s' S := by
  refine ⟨hN.1, fun k hk => ?_, h.bel.trans (hN.2.1.below h.bel.size h.far), (hN.2.1.block V (h.lt V (.inr rfl)) h.vf).trans h.var, h.rv.keep hN.2.1 (fun k hk => .inl hk) (fun k hk => ?_), fun hk => ?_, h.vw⟩
  · rcases hN.2.2 k hk with e | e
    · exact h.far k e
    · exact Nat.le_trans h.bel.size e
  · rcases hk with hk | hk
    · rcases hN.2.2 k hk with e | e
      · exact .inl (.inl e)
      · exact .inr e
    · exact .inl (.inr hk)
  · rcases hN.2.2 V hk with e | e
    · exact h.vf e
    · have := h.lt V (.inr rfl)
      omega
set_option maxRecDepth 100000 in
theorem Tl.set (h : Tl w0 D M V w d s S) (hv : Rv (fun k => foot D M s.fs k ∨ k = V) w (.agg #[.int .i64 d2.mo, .slice d2.A d2.n d2.c, .int .i64 d2.lf, .bool d2.fl]) S2) :
    Tl w0 D M V ((((w.setCell ⟨V, 0, none⟩ (.int .i64 d2.mo)).setCell ⟨V, 1, none⟩ (.slice d2.A d2.n d2.c)).setCell ⟨V, 2, none⟩ (.int .i64 d2.lf)).setCell ⟨V, 3, none⟩ (.bool d2.fl)) d2 s S2 := by
  have h4 := four_set h.var (.int .i64 d2.mo) (.slice d2.A d2.n d2.c) (.int .i64 d2.lf) (.bool d2.fl)
  exact ⟨h.dsk.keep h4.2 (fun k hk e => h.vf (e ▸ hk)), h.far, h.bel.trans (h4.2.below h.bel.size (fun k e => by rw [e]; exact h.vw)), h4.1, hv.keep h4.2 (fun k hk => .inr hk) (fun k hk => .inl hk), h.vf, h.vw⟩
theorem Tl.cells (h : Tl w0 D M V w d s S) : w.cell? ⟨V, 0, none⟩ = some (.int .i64 d.mo) ∧ w.cell? ⟨V, 1, none⟩ = some (.slice d.A d.n d.c) ∧ w.cell? ⟨V, 2, none⟩ = some (.int .i64 d.lf) ∧ w.cell? ⟨V, 3, none⟩ = some (.bool d.fl) ∧
    w.frozen? ⟨V, 0, none⟩ = false ∧ w.frozen? ⟨V, 1, none⟩ = false ∧ w.frozen? ⟨V, 2, none⟩ = false ∧ w.frozen? ⟨V, 3, none⟩ = false := by
  have hb := h.var
  exact ⟨by unfold World.cell?; rw [hb]; rfl, by unfold World.cell?; rw [hb]; rfl, by unfold World.cell?; rw [hb]; rfl, by unfold World.cell?; rw [hb]; rfl, by unfold World.frozen?; rw [hb]; rfl, by unfold World.frozen?; rw [hb]; rfl, by unfold World.frozen?; rw [hb]; rfl, by unfold World.frozen?; rw [hb]; rfl⟩
end
/-- What a disk's plain state keeps to. -/
structure Okb (S : Ab) : Prop where
  lf : S.lf ≤ 9223372036854775807
  us : aused S.fs ≤ 16777216
  mo : S.mo ≤ 16777216
  fm : ∀ f ∈ S.fs, f.fm ≤ f.bs.length
  ln : ∀ f ∈ S.fs, f.bs.length ≤ 16777216
theorem Dsk.okb {w : World} {D M : Nat} {s : St} (h : Dsk w D M s) : Okb s.ab := by
  have hu : aused s.ab.fs ≤ 16777216 := by
    have h1 := used_ab s.fs
    have h2 : s.ab.fs = s.fs.map Fl.ab := rfl
    rw [h2, h1]
    have := h.room
    have := h.most
    omega
  refine ⟨?_, hu, h.most, fun f hf => ?_, fun f hf => Nat.le_trans (aused_ge hf) hu⟩
  · have := h.left
    show s.lf ≤ _
    omega
  · obtain ⟨g, hg, rfl⟩ := List.mem_map.1 hf
    exact h.firm g hg
set_option maxRecDepth 100000 in
theorem crR_ab {ks : List Int} {s : St} {fs : List Fl} (hC : CrR ks s.fs s.fs.length fs) : fs.map Fl.ab = crA ks 0 s.ab.fs := by
  have e : s.fs.map Fl.ab = s.ab.fs := rfl
  apply List.ext_getElem?
  intro j
  rw [crA_at, ← e, List.getElem?_map, List.getElem?_map]
  cases hf : s.fs[j]? with
  | none => rw [List.getElem?_eq_none (by rw [hC.1]; exact List.getElem?_eq_none_iff.1 hf)]; rfl
  | some f =>
    obtain ⟨g, hg, hn, hq, _⟩ := hC.2 j f hf
    have hj := (List.getElem?_eq_some_iff.1 hf).1
    rw [hg, Nat.zero_add]
    show some g.ab = some (⟨f.nm, f.bs.take (kp f (kAt ks j)), kp f (kAt ks j)⟩ : Af)
    unfold Fl.ab
    rw [hn, (hq hj).1, (hq hj).2]
end Go.Proofs.Ytnkgcafebmacjaa

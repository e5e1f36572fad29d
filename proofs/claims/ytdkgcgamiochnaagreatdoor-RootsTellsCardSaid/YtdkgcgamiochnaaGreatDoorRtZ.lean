/-
  Several texts in one: RtG, Txs, RtH, RtI, RtJ, RtK, RtL. No statement of the seat is proved here.
-/
import Derived.Test.YtdkgcgamiochnaaGreatDoorRtY
import Derived.Test.YtdkgcgamiochnaaGreatDoorDzX
import Derived.Deep.RegionHeld3
import Derived.BigQuiet
import Derived.Test.YtdkgcgamiochnaaGreatDoorDxA
namespace Go.Proofs.YtdkgcgamiochnaaGreatDoor
open Go.RowKit Go.Maps

theorem rfA_top (S : Ab) (d : Nat) : (rfA S d).1.s ≤ top := by
  unfold rfA
  split
  · exact Nat.zero_le _
  · split
    · exact Nat.zero_le _
    · split
      · exact Nat.zero_le _
      · rename_i h
        obtain ⟨r, e, hp⟩ : ∃ r e, prs (aold (nmR d) S.fs).bs = (r, e) := ⟨_, _, rfl⟩
        rw [hp] at h ⊢
        have he : e = 0 := by
          have h2 : ¬ (e ≠ 0 ∨ r.s % 2 ≠ d) := h
          omega
        subst he
        exact ((right_iff r).1 (prs_tells _ r hp).1).2.1
theorem cntR_top (S : Ab) : ∀ k, (cntR S k).s ≤ top
  | 0 => Nat.zero_le _
  | k + 1 => by
    show (pickR (cntR S k) (rfA S k).1).s ≤ top
    unfold pickR
    split
    · exact rfA_top S k
    · exact cntR_top S k
theorem rdA_top (S : Ab) : (rdA S).1.s ≤ top := by
  unfold rdA
  split
  · exact Nat.zero_le _
  · split
    · exact Nat.zero_le _
    · exact cntR_top S 2
/-- What Write does: the root, the error; the disk. -/
def wrA (S : Ab) (t c : Int) (l : List UInt8) : (Rn × Int) × Ab :=
  if (rdA S).2.2 ≠ 0 then ((Rn.zero, (rdA S).2.2), S)
  else if rgt (((rdA S).1.s + 1 : Nat) : Int) t c = false then ((Rn.zero, 2), S)
  else if (wfA (nmR (((rdA S).1.s + 1) % 2)) (Rn.bytes ⟨(rdA S).1.s + 1, t.toNat, c.toNat, l⟩) S 4).1 ≠ 0 then ((Rn.zero, (wfA (nmR (((rdA S).1.s + 1) % 2)) (Rn.bytes ⟨(rdA S).1.s + 1, t.toNat, c.toNat, l⟩) S 4).1), (wfA (nmR (((rdA S).1.s + 1) % 2)) (Rn.bytes ⟨(rdA S).1.s + 1, t.toNat, c.toNat, l⟩) S 4).2)
  else ((⟨(rdA S).1.s + 1, t.toNat, c.toNat, l⟩, 0), (wfA (nmR (((rdA S).1.s + 1) % 2)) (Rn.bytes ⟨(rdA S).1.s + 1, t.toNat, c.toNat, l⟩) S 4).2)
def Wrp (D M : Nat) (w : World) (s : St) (r : (Rn × Int) × Ab) (e : Ending) (w' : World) : Prop :=
  ∃ s' A n c, e = .returned (.tuple #[.agg #[.int .i64 (r.1.1.s : Int), .int .i64 (r.1.1.t : Int), .int .i64 (r.1.1.c : Int), .slice A n c], .int .i64 r.1.2]) ∧ Rd w' w'.heap.size A n r.1.1.l ∧ Nx D M w s w' s' ∧ s'.ab = r.2
theorem wrp_zero {D M : Nat} {w w' : World} {s s' : St} {x : Int} {S : Ab} (hN : Nx D M w s w' s') (ha : s'.ab = S) :
    Wrp D M w s ((Rn.zero, x), S) (.returned (.tuple #[.agg #[.int .i64 0, .int .i64 0, .int .i64 0, .slice none 0 0], .int .i64 x])) w' := ⟨s', none, 0, 0, rfl, Rd.nil, hN, ha⟩
/-- What happens in blocks of the call's own leaves a disk alone. -/
theorem nx_below {D M : Nat} {w w' : World} {s : St} (h : Dsk w D M s) (hb : Below w.heap.size w w') : Nx D M w s w' s := Nx.no h (Fr.of_below hb)
theorem four_setF (w : World) (R : Nat) (x y z u : Value) : Fr (fun k => k = R) w ((((w.setCell ⟨R, 0, none⟩ x).setCell ⟨R, 1, none⟩ y).setCell ⟨R, 2, none⟩ z).setCell ⟨R, 3, none⟩ u) :=
  (((Fr.setCell w ⟨R, 0, none⟩ _ (F := fun k => k = R) rfl).trans (Fr.setCell _ ⟨R, 1, none⟩ _ (F := fun k => k = R) rfl) (fun _ _ e => e)).trans (Fr.setCell _ ⟨R, 2, none⟩ _ (F := fun k => k = R) rfl) (fun _ _ e => e)).trans (Fr.setCell _ ⟨R, 3, none⟩ _ (F := fun k => k = R) rfl) (fun _ _ e => e)
/-- A block of the call's own, turned behind a disk's calls. -/
theorem nx_set {D M : Nat} {w w1 w2 : World} {s s1 : St} {P R : Nat} (hN : Nx D M w s w1 s1) (hP : w.heap.size = P) (hR : P ≤ R) (hF : ¬ foot D M s1.fs R) (hf : Fr (fun k => k = R) w1 w2) : Nx D M w s w2 s1 :=
  ⟨hN.1.keep hf (fun k hk e => hF (e ▸ hk)), hN.2.1.trans hf (fun i hi e => by have e : i = R := e; omega), hN.2.2⟩
set_option maxHeartbeats 8000000 in
set_option maxRecDepth 100000 in
theorem write_any {w : World} {D M : Nat} {s : St} (h : Dsk w D M s) (ht : Tab w) (hl : ∀ f ∈ s.fs, f.bs.length ≤ 20000) (a t c : Int) (A : Option Addr) (n k : Nat) (l : List UInt8) (hr : Rd w w.heap.size A n l) (hn : n ≤ 10000)
    (hA : 0 < n → ∀ a, A = some a → ¬ foot D M s.fs a.block) :
    Calls Tryz.prog 34 #[.pointer (some ⟨D, 0, none⟩), .agg #[.int .i64 a, .int .i64 t, .int .i64 c, .slice A n k]] w (Wrp D M w s (wrA s.ab t c l)) := by
  have hf1 := Fr.alloc No w (.cells #[.int .i64 a, .int .i64 t, .int .i64 c, .slice A n k] 24)
  have hf2 := Fr.alloc No (w.alloc (.cells #[.int .i64 a, .int .i64 t, .int .i64 c, .slice A n k] 24)) (.cells #[.int .i64 0, .int .i64 0, .int .i64 0, .slice none 0 0] 24)
  have hb1 : ((w.alloc (.cells #[.int .i64 a, .int .i64 t, .int .i64 c, .slice A n k] 24)).alloc (.cells #[.int .i64 0, .int .i64 0, .int .i64 0, .slice none 0 0] 24)).heap[w.heap.size]? = some (.cells #[.int .i64 a, .int .i64 t, .int .i64 c, .slice A n k] 24 (0, 0)) :=
    (Below.heap_alloc _ _ _ (by simp)).trans (heap_alloc_new w _)
  have hb2 := heap2R w (.cells #[.int .i64 a, .int .i64 t, .int .i64 c, .slice A n k] 24) (.cells #[.int .i64 0, .int .i64 0, .int .i64 0, .slice none 0 0] 24)
  have H := Lib.hid h
  have HT := Lib.hid ht
  have HL := Lib.hid hl
  have HTP := Lib.hid ht.pos
  have HR := Lib.hid hr
  have HA := Lib.hid hA
  have HN := Lib.hid hn
  have HTOP := Lib.hid (rdA_top s.ab)
  obtain ⟨S, HS⟩ : ∃ S, Hid (s.ab = S) := ⟨_, rfl⟩
  rw [HS.out] at HTOP ⊢
  obtain ⟨Q, HQ⟩ : ∃ Q : Ending → World → Prop, Hid (Wrp D M w s (wrA S t c l) = Q) := ⟨_, rfl⟩
  rw [HQ.out]
  have hf12 := hf1.no_trans hf2
  clear h ht hl hr hA hn hf1 hf2
  go_enter Tryz.func34, Tryz.ntmps34
  go_upto_region 1 with fail
  obtain ⟨w2, hw2⟩ : ∃ u, (w.alloc (.cells #[.int .i64 a, .int .i64 t, .int .i64 c, .slice A n k] 24)).alloc (.cells #[.int .i64 0, .int .i64 0, .int .i64 0, .slice none 0 0] 24) = u := ⟨_, rfl⟩
  rw [hw2] at hf12 hb1 hb2 ⊢
  obtain ⟨P, hP⟩ : ∃ P, w.heap.size = P := ⟨_, rfl⟩
  rw [hP] at hb1 hb2 ⊢
  obtain ⟨R, hRR⟩ : ∃ R, P + 1 = R := ⟨_, rfl⟩
  rw [hRR] at hb2 ⊢
  have HF2 := Lib.hid hf12
  have HB1 := Lib.hid hb1
  have HB2 := Lib.hid hb2
  have HPR := Lib.hid (show w.heap.size = P ∧ P + 1 = R ∧ R < w2.heap.size from ⟨hP, hRR, (Array.getElem?_eq_some_iff.1 hb2).1⟩)
  have hrd := read_any (H.out.no HF2.out) (HT.out.keep HF2.out.noBelow HTP.out) HL.out
  rw [HS.out] at hrd
  obtain ⟨m, ok, er, hm⟩ : ∃ m ok er, rdA S = (m, ok, er) := ⟨_, _, _, rfl⟩
  rw [hm] at hrd HTOP
  have HM := Lib.hid hm
  have HRD := Lib.hid hrd
  clear hw2 hP hRR hf12 hb1 hb2 hrd hm
  go_wp2_with fail
  refine HRD.out.mono ?_
  rintro e w3 ⟨A3, n3, c3, rfl, hr3, hb3⟩
  simp only
  have HF3 := Lib.hid (HF2.out.no_trans (Fr.of_below hb3))
  have hfx := Fr.alloc No w3 (.cells #[.int .i64 (m.s : Int), .int .i64 (m.t : Int), .int .i64 (m.c : Int), .slice A3 n3 c3] 24)
  have hgx := heap_alloc_new w3 (.cells #[.int .i64 (m.s : Int), .int .i64 (m.t : Int), .int .i64 (m.c : Int), .slice A3 n3 c3] 24)
  have HB3 := Lib.hid hb3
  clear hr3 hb3
  go_upto_region 2 with fail
  obtain ⟨G, hG⟩ : ∃ G, w3.heap.size = G := ⟨_, rfl⟩
  obtain ⟨w4, hw4⟩ : ∃ u, w3.alloc (.cells #[.int .i64 (m.s : Int), .int .i64 (m.t : Int), .int .i64 (m.c : Int), .slice A3 n3 c3] 24) = u := ⟨_, rfl⟩
  rw [hw4] at hfx hgx ⊢
  rw [hG] at hgx ⊢
  have HF4 := Lib.hid (HF3.out.no_trans hfx)
  have hP4 := (hfx.block P (by have := HPR.out; have := HB3.out.size; omega) (fun e => e)).trans ((HB3.out.block P (by have := HPR.out; omega)).trans HB1.out)
  have hR4 := (hfx.block R (by have := HPR.out; have := HB3.out.size; omega) (fun e => e)).trans ((HB3.out.block R (by have := HPR.out; omega)).trans HB2.out)
  have HG4 := Lib.hid hgx
  have HP4 := Lib.hid hP4
  have HR4 := Lib.hid hR4
  have HGZ := Lib.hid (show R < G ∧ G < w4.heap.size by have h1 := (Array.getElem?_eq_some_iff.1 hgx).1; have := HPR.out; have := HB3.out.size; omega)
  clear hw4 hG hfx
  by_cases he : er = 0
  · subst he
    have u0 : w4.cell? ⟨G, 0, none⟩ = some (.int .i64 (m.s : Int)) := by unfold World.cell?; rw [hgx]; rfl
    have c0 : w4.cell? ⟨P, 0, none⟩ = some (.int .i64 a) := by unfold World.cell?; rw [hP4]; rfl
    have y0 : w4.frozen? ⟨P, 0, none⟩ = false := by unfold World.frozen?; rw [hP4]; rfl
    have hms : m.s ≤ 9007199254740992 := HTOP.out
    obtain ⟨q, hq⟩ : ∃ q : Nat, m.s + 1 = q := ⟨_, rfl⟩
    have hws : IntKind.i64.wrap ((m.s : Int) + 1) = (q : Int) := by
      rw [show ((m.s : Int) + 1) = (q : Int) by omega]
      exact IntWalk.i64_in _ (by omega)
    have HQM := Lib.hid hq
    clear hms hgx hP4 hR4 hq
    go_upto_region 5 with fail
    have hP5 := heap_cells_set w4 P 0 _ _ (.int .i64 (q : Int)) HP4.out
    have hR5 := (Below.heap_setCell w4 ⟨P, 0, none⟩ (.int .i64 (q : Int)) R (show R ≠ P by have := HPR.out; omega)).trans HR4.out
    have hb5 : Below P w4 (w4.setCell ⟨P, 0, none⟩ (.int .i64 (q : Int))) := (Below.refl P w4).setCell (p := ⟨P, 0, none⟩) (Nat.le_refl _) _
    obtain ⟨w5, hw5⟩ : ∃ u, w4.setCell ⟨P, 0, none⟩ (.int .i64 (q : Int)) = u := ⟨_, rfl⟩
    rw [hw5] at hP5 hR5 hb5 ⊢
    have HB5 := Lib.hid (show Below P w w5 by
      have h1 := HF4.out.noBelow
      rw [HPR.out.1] at h1
      exact h1.trans hb5)
    have HP5 : Hid (w5.heap[P]? = some (.cells #[.int .i64 (q : Int), .int .i64 t, .int .i64 c, .slice A n k] 24 (0, 0))) := hP5
    have HR5 := Lib.hid hR5
    have HRL5 := Lib.hid (show Rd w5 w5.heap.size A n l from (HR.out.below (by rw [HPR.out.1]; exact HB5.out)).more (by have := HB5.out.size; omega))
    have HT5 := Lib.hid (HT.out.keep HB5.out (by rw [← HPR.out.1]; exact HTP.out))
    have HS5 := Lib.hid (show R < w5.heap.size from (Array.getElem?_eq_some_iff.1 hR5).1)
    clear hw5 hP5 hR5 hb5 u0 c0 y0 hws
    have c0 : w5.cell? ⟨P, 0, none⟩ = some (.int .i64 (q : Int)) := by unfold World.cell?; rw [HP5.out]; rfl
    have c1 : w5.cell? ⟨P, 1, none⟩ = some (.int .i64 t) := by unfold World.cell?; rw [HP5.out]; rfl
    have c2 : w5.cell? ⟨P, 2, none⟩ = some (.int .i64 c) := by unfold World.cell?; rw [HP5.out]; rfl
    have c3 : w5.cell? ⟨P, 3, none⟩ = some (.slice A n k) := by unfold World.cell?; rw [HP5.out]; rfl
    cases hg : rgt (q : Int) t c with
    | false =>
      have HBB := Lib.hid (bytes_bad (q : Int) t c A n k w5 hg)
      have HE := Lib.hid (show wrA S t c l = ((Rn.zero, 2), S) by
        unfold wrA
        rw [HM.out]
        simp only
        rw [if_neg (by simp), HQM.out, if_pos hg])
      clear hg
      go_wp2_with fail
      refine HBB.out.mono ?_
      rintro e w6 ⟨rfl, hb6⟩
      have hR6 := (hb6.block R HS5.out).trans HR5.out
      have HB6 := Lib.hid (HB5.out.trans (hb6.mono (by have := HPR.out; have := HS5.out; omega)))
      clear hb6 c0 c1 c2 c3
      have p0 : w6.cell? ⟨R, 0, none⟩ = some (.int .i64 0) := by unfold World.cell?; rw [hR6]; rfl
      have p1 : w6.cell? ⟨R, 1, none⟩ = some (.int .i64 0) := by unfold World.cell?; rw [hR6]; rfl
      have p2 : w6.cell? ⟨R, 2, none⟩ = some (.int .i64 0) := by unfold World.cell?; rw [hR6]; rfl
      have p3 : w6.cell? ⟨R, 3, none⟩ = some (.slice none 0 0) := by unfold World.cell?; rw [hR6]; rfl
      have z0 : w6.frozen? ⟨R, 0, none⟩ = false := by unfold World.frozen?; rw [hR6]; rfl
      have z1 : w6.frozen? ⟨R, 1, none⟩ = false := by unfold World.frozen?; rw [hR6]; rfl
      have z2 : w6.frozen? ⟨R, 2, none⟩ = false := by unfold World.frozen?; rw [hR6]; rfl
      have z3 : w6.frozen? ⟨R, 3, none⟩ = false := by unfold World.frozen?; rw [hR6]; rfl
      go_wp2_with fail
      refine bodyPost_ret (results_cell_tmp_row (p := 4) rfl _ _ R 24 #[.int .i64 0, .int .i64 0, .int .i64 0, .slice none 0 0] (0, 0) _ rfl (four_setR hR6 _ _ _ _).1 Tryz.underlying24 rfl (by kernel_rfl)) rfl ?_
      rw [← HQ.out, HE.out]
      exact wrp_zero (nx_below H.out (by rw [HPR.out.1]; exact HB6.out.trans ((four_setR hR6 _ _ _ _).2.mono (by have := HPR.out; omega)))) HS.out
    | true =>
      have hrg : 1 ≤ (q : Int) ∧ (q : Int) ≤ 9007199254740992 ∧ 0 ≤ t ∧ t ≤ 9007199254740992 ∧ 0 ≤ c ∧ c ≤ 9007199254740992 := by
        unfold rgt at hg
        simp only [Bool.and_eq_true, decide_eq_true_eq] at hg
        omega
      obtain ⟨t', ht'⟩ : ∃ t', t.toNat = t' := ⟨_, rfl⟩
      obtain ⟨c', hc'⟩ : ∃ c', c.toNat = c' := ⟨_, rfl⟩
      have et : t = (t' : Int) := by omega
      have ec : c = (c' : Int) := by omega
      obtain ⟨r, hrr⟩ : ∃ r : Rn, (⟨q, t', c', l⟩ : Rn) = r := ⟨_, rfl⟩
      have hright : r.right = true := by
        rw [← hrr]
        refine (right_iff _).2 ?_
        show 1 ≤ q ∧ q ≤ 9007199254740992 ∧ t' ≤ 9007199254740992 ∧ c' ≤ 9007199254740992
        omega
      have hbo := bytes_ok r hright A n k w5 (by rw [← hrr]; exact HRL5.out) HN.out HT5.out
      have HBO : Hid (Calls Tryz.prog 7 #[.agg #[.int .i64 (q : Int), .int .i64 t, .int .i64 c, .slice A n k]] w5 fun e w' => ∃ v, e = .returned (.tuple #[v, .int .i64 0]) ∧ Put w5.heap.size w5 r.bytes (.returned v) w') := by
        have h1 := hbo
        rw [← hrr] at h1
        rw [et, ec, ← hrr]
        exact h1
      have HWR := Lib.hid (show wrA S t c l = if (wfA (nmR (q % 2)) r.bytes S 4).1 ≠ 0 then ((Rn.zero, (wfA (nmR (q % 2)) r.bytes S 4).1), (wfA (nmR (q % 2)) r.bytes S 4).2) else ((r, 0), (wfA (nmR (q % 2)) r.bytes S 4).2) by
        unfold wrA
        rw [HM.out]
        simp only
        rw [if_neg (by simp), HQM.out, if_neg (by rw [hg]; simp), ht', hc', hrr])
      have HRV := Lib.hid (show r.s = q ∧ (r.t : Int) = t ∧ (r.c : Int) = c ∧ r.l = l by rw [← hrr]; exact ⟨rfl, et.symm, ec.symm, rfl⟩)
      have HFN := Lib.hid (fun W => filename_any q W)
      clear hg hrg ht' hc' et ec hrr hright hbo
      go_wp2_with fail
      refine HBO.out.mono ?_
      rintro e w6 ⟨v6, rfl, v6', hv6, ho6, hb6⟩
      injection hv6 with hv6
      subst hv6
      obtain ⟨LB, HLB⟩ : ∃ L, Hid (r.bytes = L) := ⟨_, rfl⟩
      rw [HLB.out] at ho6 HWR
      obtain ⟨mb, HMB⟩ : ∃ m, Hid (LB.length = m) := ⟨_, rfl⟩
      obtain ⟨A6, c6, hv, hc6, _⟩ := own_shape ho6
      rw [HMB.out] at hv hc6
      subst hv
      have hrd6 : Rd w6 w6.heap.size A6 mb LB := Rd.own (by rw [HMB.out] at ho6; exact ho6)
      have HNB6 := Lib.hid (show 0 < mb → ∀ a, A6 = some a → ¬ foot D M s.fs a.block from fun _ a ha hk => by
        have h1 := H.out.foot_lt hk
        subst ha
        have h2 := (ho6.lt a.block rfl).1
        have := HB5.out.size
        omega)
      have HB6 := Lib.hid (HB5.out.trans (hb6.mono (by have := HPR.out; have := HS5.out; omega)))
      have hP6 := (hb6.block P (by have := HPR.out; have := HS5.out; omega)).trans HP5.out
      have hR6 := (hb6.block R HS5.out).trans HR5.out
      have HP6 := Lib.hid hP6
      have HR6 := Lib.hid hR6
      have HD6 := Lib.hid (H.out.no (Fr.of_below (by rw [HPR.out.1]; exact HB6.out)))
      have hwf := writefile_any HD6.out ⟨(nmR (q % 2)).toArray⟩ (nmR_size _) A6 mb c6 LB hrd6 HNB6.out
      rw [HS.out] at hwf
      have HWF : Hid (Calls Tryz.prog 53 #[.pointer (some ⟨D, 0, none⟩), .string ⟨(nmR (q % 2)).toArray⟩, .slice A6 mb c6] w6 (Abs D M w6 s (wfA (nmR (q % 2)) LB S 4))) := hwf
      obtain ⟨x, S', hx⟩ : ∃ x S', wfA (nmR (q % 2)) LB S 4 = (x, S') := ⟨_, _, rfl⟩
      rw [hx] at HWF HWR
      clear hx ho6 hb6 hrd6 hwf hP6 hR6 c0 c1 c2 c3 hc6
      have c0 : w6.cell? ⟨P, 0, none⟩ = some (.int .i64 (q : Int)) := by unfold World.cell?; rw [HP6.out]; rfl
      go_wp2_with fail
      refine (HFN.out _).mono ?_
      rintro e w7 ⟨rfl, rfl⟩
      go_wp2_with fail
      refine HWF.out.mono ?_
      rintro e w7 ⟨s7, rfl, hN7, hab7⟩
      simp only
      have hFP : ∀ j, P ≤ j → ¬ foot D M s.fs j := fun j hj hk => by have := H.out.foot_lt hk; have := HPR.out; omega
      have hP7 := (hN7.2.1.block P (Array.getElem?_eq_some_iff.1 HP6.out).1 (hFP P (Nat.le_refl _))).trans HP6.out
      have hR7 := (hN7.2.1.block R (Array.getElem?_eq_some_iff.1 HR6.out).1 (hFP R (by have := HPR.out; omega))).trans HR6.out
      have HN7 := Lib.hid (show Nx D M w s w7 s7 from (nx_below H.out (by rw [HPR.out.1]; exact HB6.out)).trans hN7)
      have HA7 := Lib.hid hab7
      have HRF := Lib.hid (show (¬ foot D M s7.fs P) ∧ ¬ foot D M s7.fs R from ⟨fun hk => by
        rcases hN7.2.2 P hk with e | e
        · exact hFP P (Nat.le_refl _) e
        · have := (Array.getElem?_eq_some_iff.1 HP6.out).1; omega, fun hk => by
        rcases hN7.2.2 R hk with e | e
        · exact hFP R (by have := HPR.out; omega) e
        · have := (Array.getElem?_eq_some_iff.1 HR6.out).1; omega⟩)
      have HRL7 := Lib.hid (show Rd w7 w7.heap.size A n l from rd_offR HN7.out.2.1 HR.out (fun h0 a ha => HA.out h0 a ha))
      have HP7 := Lib.hid hP7
      have HR7 := Lib.hid hR7
      clear hN7 hab7 hFP c0
      by_cases h0 : x = 0
      · subst h0
        have HE := Lib.hid (show wrA S t c l = ((r, 0), S') by rw [HWR.out]; simp)
        have c0 : w7.cell? ⟨P, 0, none⟩ = some (.int .i64 (q : Int)) := by unfold World.cell?; rw [hP7]; rfl
        have c1 : w7.cell? ⟨P, 1, none⟩ = some (.int .i64 t) := by unfold World.cell?; rw [hP7]; rfl
        have c2 : w7.cell? ⟨P, 2, none⟩ = some (.int .i64 c) := by unfold World.cell?; rw [hP7]; rfl
        have c3 : w7.cell? ⟨P, 3, none⟩ = some (.slice A n k) := by unfold World.cell?; rw [hP7]; rfl
        have y3 : w7.frozen? ⟨P, 3, none⟩ = false := by unfold World.frozen?; rw [hP7]; rfl
        have HO := Lib.hid (World.ownsRow_nil w7 w7.heap.size 5 1)
        clear hP7 hR7
        go_upto_region 12 with (at_builtin; (refine wpList_append_rd _ rfl (.const (.slice none 0 0)) (.tmp 45) rfl w7.heap.size w7.heap.size _ [] rfl HO.out _ _ _ l rfl HRL7.out (by simp; have := HN.out; omega) (by simp) ?_; intro v8 w8 hown8 hgrow8; have hown9 : w8.ownsRow w7.heap.size 5 1 v8 l.length (bvs l) := hown8; have hb8 : Below w7.heap.size w7 w8 := (Below.refl _ _).grown hgrow8 (Nat.le_refl _) (fun g hg => (HO.out.lt g hg).1); obtain ⟨nl, HNL⟩ : ∃ nl, Hid (l.length = nl) := ⟨_, rfl⟩; rw [HNL.out] at hown9; obtain ⟨A8, c8, rfl, _, _⟩ := own_shape hown9; have HO8 := Lib.hid hown9; have HB8 := Lib.hid hb8; have HP8 := Lib.hid ((hb8.block P (Array.getElem?_eq_some_iff.1 HP7.out).1).trans HP7.out); have y3 : w8.frozen? ⟨P, 3, none⟩ = false := (by unfold World.frozen?; rw [HP8.out]; rfl); have c3 : w8.cell? ⟨P, 3, none⟩ = some (.slice A n k) := (by unfold World.cell?; rw [HP8.out]; rfl); clear hown8 hgrow8 hown9 hb8))
        have hP9 := heap_cells_set w8 P 3 _ _ (.slice A8 nl c8) HP8.out
        have hf9 := Fr.setCell w8 ⟨P, 3, none⟩ (.slice A8 nl c8) (F := fun i => i = P) rfl
        obtain ⟨w9, hw9⟩ : ∃ u, w8.setCell ⟨P, 3, none⟩ (.slice A8 nl c8) = u := ⟨_, rfl⟩
        rw [hw9] at hP9 hf9 ⊢
        have hP9' : w9.heap[P]? = some (.cells #[.int .i64 (q : Int), .int .i64 t, .int .i64 c, .slice A8 nl c8] 24 (0, 0)) := hP9
        have HF9 := Lib.hid hf9
        have HP9 := Lib.hid hP9'
        clear hw9 hf9 hP9 c0 c1 c2 c3 y3
        have c0 : w9.cell? ⟨P, 0, none⟩ = some (.int .i64 (q : Int)) := by unfold World.cell?; rw [HP9.out]; rfl
        have c1 : w9.cell? ⟨P, 1, none⟩ = some (.int .i64 t) := by unfold World.cell?; rw [HP9.out]; rfl
        have c2 : w9.cell? ⟨P, 2, none⟩ = some (.int .i64 c) := by unfold World.cell?; rw [HP9.out]; rfl
        have c3 : w9.cell? ⟨P, 3, none⟩ = some (.slice A8 nl c8) := by unfold World.cell?; rw [HP9.out]; rfl
        have hR8 := (HB8.out.block R (Array.getElem?_eq_some_iff.1 HR7.out).1).trans HR7.out
        have hR9 := (HF9.out.block R (Array.getElem?_eq_some_iff.1 hR8).1 (fun e => by have e : R = P := e; have := HPR.out; omega)).trans hR8
        have p0 : w9.cell? ⟨R, 0, none⟩ = some (.int .i64 0) := by unfold World.cell?; rw [hR9]; rfl
        have p1 : w9.cell? ⟨R, 1, none⟩ = some (.int .i64 0) := by unfold World.cell?; rw [hR9]; rfl
        have p2 : w9.cell? ⟨R, 2, none⟩ = some (.int .i64 0) := by unfold World.cell?; rw [hR9]; rfl
        have p3 : w9.cell? ⟨R, 3, none⟩ = some (.slice none 0 0) := by unfold World.cell?; rw [hR9]; rfl
        have z0 : w9.frozen? ⟨R, 0, none⟩ = false := by unfold World.frozen?; rw [hR9]; rfl
        have z1 : w9.frozen? ⟨R, 1, none⟩ = false := by unfold World.frozen?; rw [hR9]; rfl
        have z2 : w9.frozen? ⟨R, 2, none⟩ = false := by unfold World.frozen?; rw [hR9]; rfl
        have z3 : w9.frozen? ⟨R, 3, none⟩ = false := by unfold World.frozen?; rw [hR9]; rfl
        clear hP9' hR8
        go_wp2_with fail
        refine bodyPost_ret (results_cell_tmp_row (p := 4) rfl _ _ R 24 #[.int .i64 (q : Int), .int .i64 t, .int .i64 c, .slice A8 nl c8] (0, 0) _ rfl (four_setR hR9 _ _ _ _).1 Tryz.underlying24 rfl (by kernel_rfl)) rfl ?_
        rw [← HQ.out, HE.out]
        have hz : R < w7.heap.size := (Array.getElem?_eq_some_iff.1 HR7.out).1
        have hrd8 : Rd w8 w8.heap.size A8 nl l := Rd.own HO8.out
        have hoff : ∀ a, A8 = some a → w7.heap.size ≤ a.block := fun a ha => by
          have h1 := HO8.out
          subst ha
          exact (h1.lt a.block rfl).1
        have hf10 := four_setF w9 R (.int .i64 (q : Int)) (.int .i64 t) (.int .i64 c) (.slice A8 nl c8)
        have hrd9 := rd_offR HF9.out hrd8 (fun _ a ha e => by have e : a.block = P := e; have := hoff a ha; have := HPR.out; omega)
        have hrd10 := rd_offR hf10 hrd9 (fun _ a ha e => by have e : a.block = R := e; have := hoff a ha; omega)
        have hN8 := HN7.out.trans (nx_below HN7.out.1 HB8.out)
        have hN9 := nx_set hN8 HPR.out.1 (Nat.le_refl _) HRF.out.1 HF9.out
        have hN10 := nx_set hN9 HPR.out.1 (by have := HPR.out; omega) HRF.out.2 hf10
        refine ⟨s7, A8, nl, c8, ?_, ?_, hN10, HA7.out⟩
        · show _ = Ending.returned (.tuple #[.agg #[.int .i64 (r.s : Int), .int .i64 (r.t : Int), .int .i64 (r.c : Int), .slice A8 nl c8], .int .i64 0])
          rw [HRV.out.1, HRV.out.2.1, HRV.out.2.2.1]
          rfl
        · show Rd _ _ A8 nl r.l
          rw [HRV.out.2.2.2]
          exact hrd10
      · have hb : (x != 0) = true := by rw [bne_iff_ne]; exact h0
        have HE := Lib.hid (show wrA S t c l = ((Rn.zero, x), S') by rw [HWR.out, if_pos h0])
        clear h0
        have p0 : w7.cell? ⟨R, 0, none⟩ = some (.int .i64 0) := by unfold World.cell?; rw [hR7]; rfl
        have p1 : w7.cell? ⟨R, 1, none⟩ = some (.int .i64 0) := by unfold World.cell?; rw [hR7]; rfl
        have p2 : w7.cell? ⟨R, 2, none⟩ = some (.int .i64 0) := by unfold World.cell?; rw [hR7]; rfl
        have p3 : w7.cell? ⟨R, 3, none⟩ = some (.slice none 0 0) := by unfold World.cell?; rw [hR7]; rfl
        have z0 : w7.frozen? ⟨R, 0, none⟩ = false := by unfold World.frozen?; rw [hR7]; rfl
        have z1 : w7.frozen? ⟨R, 1, none⟩ = false := by unfold World.frozen?; rw [hR7]; rfl
        have z2 : w7.frozen? ⟨R, 2, none⟩ = false := by unfold World.frozen?; rw [hR7]; rfl
        have z3 : w7.frozen? ⟨R, 3, none⟩ = false := by unfold World.frozen?; rw [hR7]; rfl
        go_wp2_with fail
        refine bodyPost_ret (results_cell_tmp_row (p := 4) rfl _ _ R 24 #[.int .i64 0, .int .i64 0, .int .i64 0, .slice none 0 0] (0, 0) _ rfl (four_setR hR7 _ _ _ _).1 Tryz.underlying24 rfl (by kernel_rfl)) rfl ?_
        rw [← HQ.out, HE.out]
        exact wrp_zero (nx_set HN7.out HPR.out.1 (by have := HPR.out; omega) HRF.out.2 (four_setF w7 R _ _ _ _)) HA7.out
  · have HE := Lib.hid (show wrA S t c l = ((Rn.zero, er), S) by
      unfold wrA
      rw [HM.out]
      simp only
      rw [if_pos he])
    have heb : (er != 0) = true := by rw [bne_iff_ne]; exact he
    clear he hP4
    have p0 : w4.cell? ⟨R, 0, none⟩ = some (.int .i64 0) := by unfold World.cell?; rw [hR4]; rfl
    have p1 : w4.cell? ⟨R, 1, none⟩ = some (.int .i64 0) := by unfold World.cell?; rw [hR4]; rfl
    have p2 : w4.cell? ⟨R, 2, none⟩ = some (.int .i64 0) := by unfold World.cell?; rw [hR4]; rfl
    have p3 : w4.cell? ⟨R, 3, none⟩ = some (.slice none 0 0) := by unfold World.cell?; rw [hR4]; rfl
    have z0 : w4.frozen? ⟨R, 0, none⟩ = false := by unfold World.frozen?; rw [hR4]; rfl
    have z1 : w4.frozen? ⟨R, 1, none⟩ = false := by unfold World.frozen?; rw [hR4]; rfl
    have z2 : w4.frozen? ⟨R, 2, none⟩ = false := by unfold World.frozen?; rw [hR4]; rfl
    have z3 : w4.frozen? ⟨R, 3, none⟩ = false := by unfold World.frozen?; rw [hR4]; rfl
    go_wp2_with fail
    refine bodyPost_ret (results_cell_tmp_row (p := 4) rfl _ _ R 24 #[.int .i64 0, .int .i64 0, .int .i64 0, .slice none 0 0] (0, 0) _ rfl (four_setR hR4 _ _ _ _).1 Tryz.underlying24 rfl (by kernel_rfl)) rfl ?_
    rw [← HQ.out, HE.out]
    exact wrp_zero (nx_below H.out ((HF4.out.noBelow).trans ((four_setR hR4 _ _ _ _).2.mono (by have := HPR.out; omega)))) HS.out
end Go.Proofs.YtdkgcgamiochnaaGreatDoor
namespace Go.Proofs.YtdkgcgamiochnaaGreatDoor
open Go.RowKit Go.Maps

def svs (l : List (List UInt8)) : List Value := l.map Proofs.encStr
theorem svs_length (l : List (List UInt8)) : (svs l).length = l.length := by simp [svs]
set_option maxRecDepth 100000 in
theorem svs_at {l : List (List UInt8)} {j : Nat} {x : List UInt8} (h : l[j]? = some x) : (svs l)[j]? = some (.string ⟨x.toArray⟩) := by
  unfold svs
  rw [List.getElem?_map, h]
  rfl
theorem Fr.drewN (F : Nat → Prop) (w : World) (n : Nat) : Fr F w (w.drewN n) := ⟨rfl, rfl, rfl, Nat.le_refl _, fun _ _ _ => rfl⟩
set_option maxHeartbeats 4000000 in
set_option maxRecDepth 100000 in
theorem texts_any {w : World} {B1 B2 n m : Nat} {v1 v2 : Value} {xs ys : List (List UInt8)} (h1 : w.ownsRow B1 9 1 v1 n (svs xs)) (h2 : w.ownsRow B2 9 1 v2 m (svs ys)) (hn : n ≤ 1000) (hm : m ≤ 1000) :
    Calls Tryz.prog 16 #[v1, v2] w fun e w' => e = .returned (.bool (decide (xs = ys))) ∧ Fr No w w' := by
  have hx : xs.length = n := by have := h1.1; rw [svs_length] at this; omega
  have hy : ys.length = m := by have := h2.1; rw [svs_length] at this; omega
  obtain ⟨A1, c1, rfl⟩ : ∃ A c, v1 = .slice A n c := by
    rcases h1.2 with ⟨rfl, e⟩ | ⟨g, cap, cur, rfl, _⟩
    · exact ⟨none, 0, by rw [e]⟩
    · exact ⟨_, _, rfl⟩
  obtain ⟨A2, c2, rfl⟩ : ∃ A c, v2 = .slice A m c := by
    rcases h2.2 with ⟨rfl, e⟩ | ⟨g, cap, cur, rfl, _⟩
    · exact ⟨none, 0, by rw [e]⟩
    · exact ⟨_, _, rfl⟩
  have H1 := Lib.hid h1
  have H2 := Lib.hid h2
  have HX := Lib.hid (And.intro hx hy)
  clear h1 h2 hx hy
  by_cases hnm : n = m
  · subst hnm
    go_enter Tryz.func16, Tryz.ntmps16
    go_wp2_with fail
    go_loopw [5, 6] (fun vs vi wr => ∃ (i : Nat) (b : Bool), i ≤ n ∧ vs = .bool b ∧ vi = .int .i64 (i : Int) ∧ Fr No w wr ∧ (b = true → xs.take i = ys.take i) ∧ (b = false → xs ≠ ys)) (fun vs vi _ => n - (intOf vi).toNat)
    case atStart => exact ⟨0, true, Nat.zero_le _, rfl, rfl, Fr.refl _ _, fun _ => rfl, fun h => by cases h⟩
    case round =>
      obtain ⟨i, b, hi, rfl, rfl, hf, ht, hne⟩ := hrel
      have HF := Lib.hid hf
      clear hf
      cases b with
      | false =>
        have HQ : Hid (decide (xs = ys) = false) := by show _ = _; rw [decide_eq_false_iff_not]; exact hne rfl
        clear ht hne
        go_wp2_with fail
        go_ret
        exact ⟨by rw [HQ.out]; rfl, HF.out⟩
      | true =>
        by_cases hil : i < n
        · obtain ⟨x, hxi⟩ : ∃ x, xs[i]? = some x := ⟨_, List.getElem?_eq_getElem (by rw [HX.out.1]; exact hil)⟩
          obtain ⟨y, hyi⟩ : ∃ y, ys[i]? = some y := ⟨_, List.getElem?_eq_getElem (by rw [HX.out.2]; exact hil)⟩
          obtain ⟨G, rfl⟩ : ∃ G, A1 = some ⟨G, 0, none⟩ := by
            rcases H1.out.2 with ⟨e, e0⟩ | ⟨G, cap, cur, e, _⟩
            · omega
            · injection e with e; exact ⟨G, e⟩
          obtain ⟨G2, rfl⟩ : ∃ G, A2 = some ⟨G, 0, none⟩ := by
            rcases H2.out.2 with ⟨e, e0⟩ | ⟨G, cap, cur, e, _⟩
            · omega
            · injection e with e; exact ⟨G, e⟩
          have hg1 := H1.out.cells (g := G) rfl i (.string ⟨x.toArray⟩) (svs_at hxi)
          have hg2 := H2.out.cells (g := G2) rfl i (.string ⟨y.toArray⟩) (svs_at hyi)
          rw [Addr.add_lit, Nat.zero_add] at hg1 hg2
          have hw1 := HF.out.cell hg1 (fun e => e)
          have hw2 := HF.out.cell hg2 (fun e => e)
          have hwk : IntKind.i64.wrap ((i : Int) + 1) = ((i + 1 : Nat) : Int) := by
            rw [show ((i : Int) + 1) = ((i + 1 : Nat) : Int) by omega]
            exact IntWalk.i64_in _ (by omega)
          clear hg1 hg2
          go_wp2_with fail
          go_quiet (fail)
          have HF2 := Lib.hid (HF.out.no_trans (Fr.drewN No wr nq))
          have htx : xs.take (i + 1) = xs.take i ++ [x] := by rw [List.take_add_one, hxi]; simp
          have hty : ys.take (i + 1) = ys.take i ++ [y] := by rw [List.take_add_one, hyi]; simp
          have HR := Lib.hid (show ((x == y) = true → xs.take (i + 1) = ys.take (i + 1)) ∧ ((x == y) = false → xs ≠ ys) by
            refine ⟨fun h => ?_, fun h => ?_⟩
            · rw [htx, hty, ht (by simp), eq_of_beq h]
            · intro e
              subst e
              rw [hxi] at hyi
              cases hyi
              simp at h)
          clear ht hne htx hty
          go_wp2_with fail
          go_roundw
          case rel => exact ⟨i + 1, x == y, by omega, by first | rfl | go_num, by go_num, HF2.out, HR.out.1, HR.out.2⟩
          case measure => simp [intOf]; omega
        · have hie : i = n := by omega
          subst hie
          have HQ : Hid (decide (xs = ys) = true) := by
            show _ = _
            rw [decide_eq_true_eq]
            have := ht rfl
            rw [List.take_of_length_le (by have := HX.out.1; omega), List.take_of_length_le (by have := HX.out.2; omega)] at this
            exact this
          clear ht hne
          go_wp2_with fail
          go_ret
          exact ⟨by rw [HQ.out]; rfl, HF.out⟩
  · have hd : ((n : Int) == (m : Int)) = false := by rw [beq_eq_false_iff_ne]; omega
    have HQ : Hid (decide (xs = ys) = false) := by
      show _ = _
      rw [decide_eq_false_iff_not]
      intro e
      have h1 := HX.out.1
      have h2 := HX.out.2
      rw [e] at h1
      omega
    go_enter Tryz.func16, Tryz.ntmps16
    go_wp2_with fail
    go_loopw [5, 6] (fun vs vi wr => vs = .bool false ∧ vi = .int .i64 0 ∧ wr = w) (fun vs vi _ => 0)
    case atStart => exact ⟨by first | rfl | rw [hd], rfl, rfl⟩
    case round =>
      obtain ⟨rfl, rfl, rfl⟩ := hrel
      go_wp2_with fail
      go_ret
      exact ⟨by rw [HQ.out]; rfl, Fr.refl _ _⟩
end Go.Proofs.YtdkgcgamiochnaaGreatDoor
namespace Go.Proofs.YtdkgcgamiochnaaGreatDoor
open Go.RowKit Go.Maps

theorem small_bytes (s t c : Nat) (hs : s < 128) (ht : t < 128) (hc : c < 128) (L : List UInt8) (h : mgc ++ [UInt8.ofNat s] ++ [UInt8.ofNat t] ++ [UInt8.ofNat c] ++ ([UInt8.ofNat 0] ++ []) = L) (b : List UInt8) (hb : L ++ be4 (crc L) = b) : Rn.bytes ⟨s, t, c, []⟩ = b := by
  unfold Rn.bytes Rn.body
  simp only [List.length_nil]
  rw [varint_small hs, varint_small ht, varint_small hc, varint_small (show 0 < 128 by omega), h, hb]
/-- The three roots. -/
def r1 : Rn := ⟨1, 5, 2, []⟩
def r2 : Rn := ⟨2, 6, 2, []⟩
def r3 : Rn := ⟨2, 7, 2, []⟩
def b1 : List UInt8 := [72, 83, 82, 49, 1, 5, 2, 0, 220, 33, 10, 221]
def b2 : List UInt8 := [72, 83, 82, 49, 2, 6, 2, 0, 204, 210, 27, 106]
def b3 : List UInt8 := [72, 83, 82, 49, 2, 7, 2, 0, 205, 16, 113, 93]
theorem r1_bytes : r1.bytes = b1 := small_bytes 1 5 2 (by omega) (by omega) (by omega) [72, 83, 82, 49, 1, 5, 2, 0] (by decide +kernel) _ (by decide +kernel)
theorem r2_bytes : r2.bytes = b2 := small_bytes 2 6 2 (by omega) (by omega) (by omega) [72, 83, 82, 49, 2, 6, 2, 0] (by decide +kernel) _ (by decide +kernel)
theorem r3_bytes : r3.bytes = b3 := small_bytes 2 7 2 (by omega) (by omega) (by omega) [72, 83, 82, 49, 2, 7, 2, 0] (by decide +kernel) _ (by decide +kernel)
theorem b1_prs : prs b1 = (r1, 0) := by rw [← r1_bytes]; exact prs_bytes r1 (by decide) (by decide)
theorem b2_prs : prs b2 = (r2, 0) := by rw [← r2_bytes]; exact prs_bytes r2 (by decide) (by decide)
theorem b3_prs : prs b3 = (r3, 0) := by rw [← r3_bytes]; exact prs_bytes r3 (by decide) (by decide)
def b2x : List UInt8 := [72, 83, 82, 49, 2, 6, 2, 0, 204, 210, 27, 106, 120]
theorem b2x_prs : (prs b2x).2 ≠ 0 := by
  have h : (unS b2x).2 = 12 := by decide +kernel
  unfold prs
  rw [if_pos (by rw [h]; decide), h]
  decide
/-- The names, written out. -/
theorem nmR0 : nmR 0 = [114, 111, 111, 116, 48] := by decide +kernel
theorem nmR1 : nmR 1 = [114, 111, 111, 116, 49] := by decide +kernel
/-- The disks of the examples. -/
def S0 : Ab := ⟨false, false, 0, 1000, []⟩
def S1 : Ab := ⟨false, false, 0, 1000, [⟨[114, 111, 111, 116, 49], b1, 12⟩]⟩
def S2 : Ab := ⟨false, false, 0, 1000, [⟨[114, 111, 111, 116, 48], b2, 12⟩, ⟨[114, 111, 111, 116, 49], b1, 12⟩]⟩
def S3 : Ab := ⟨false, false, 0, 1000, [⟨[114, 111, 111, 116, 48], b2x, 12⟩, ⟨[114, 111, 111, 116, 49], b1, 12⟩]⟩
def S4 : Ab := ⟨false, false, 0, 1000, [⟨[114, 111, 111, 116, 48], b3, 12⟩, ⟨[114, 111, 111, 116, 49], b1, 12⟩]⟩
/-- What a file tells. -/
theorem rfA_none {S : Ab} {d : Nat} (h : S.err (nmR d) = 13) : rfA S d = (Rn.zero, 0) := by unfold rfA; rw [if_pos h]
theorem rfA_root {S : Ab} {d : Nat} {b : List UInt8} {r : Rn} (h : S.err (nmR d) = 0) (hb : (aold (nmR d) S.fs).bs = b) (hp : prs b = (r, 0)) (hr : r.s % 2 = d) : rfA S d = (r, 0) := by
  unfold rfA
  rw [if_neg (by rw [h]; decide), if_neg (by rw [h]; decide), hb, hp]
  simp only
  rw [if_neg (by rw [hr]; simp)]
theorem rfA_spoilt {S : Ab} {d : Nat} {b : List UInt8} (h : S.err (nmR d) = 0) (hb : (aold (nmR d) S.fs).bs = b) (hp : (prs b).2 ≠ 0) : rfA S d = (Rn.zero, 0) := by
  unfold rfA
  rw [if_neg (by rw [h]; decide), if_neg (by rw [h]; decide), hb, if_pos (Or.inl hp)]
theorem rdA_both {S : Ab} {x y : Rn} (h0 : rfA S 0 = (x, 0)) (h1 : rfA S 1 = (y, 0)) : rdA S = (pickR (pickR Rn.zero x) y, decide (0 < (pickR (pickR Rn.zero x) y).s), 0) := by
  unfold rdA
  rw [if_neg (by rw [h0]; simp), if_neg (by rw [h1]; simp)]
  show (pickR (pickR Rn.zero (rfA S 0).1) (rfA S 1).1, decide (0 < (pickR (pickR Rn.zero (rfA S 0).1) (rfA S 1).1).s), 0) = _
  rw [h0, h1]
theorem S0_rd : rdA S0 = (Rn.zero, false, 0) := rdA_both (rfA_none (by decide +kernel)) (rfA_none (by decide +kernel))
theorem S1_rd : rdA S1 = (r1, true, 0) := rdA_both (rfA_none (by decide +kernel)) (rfA_root (by decide +kernel) (b := b1) (by decide +kernel) b1_prs (by decide))
theorem S2_rd : rdA S2 = (r2, true, 0) := rdA_both (rfA_root (by decide +kernel) (b := b2) (by decide +kernel) b2_prs (by decide)) (rfA_root (by decide +kernel) (b := b1) (by decide +kernel) b1_prs (by decide))
theorem S3_rd : rdA S3 = (r1, true, 0) := rdA_both (rfA_spoilt (by decide +kernel) (b := b2x) (by decide +kernel) b2x_prs) (rfA_root (by decide +kernel) (b := b1) (by decide +kernel) b1_prs (by decide))
theorem S4_rd : rdA S4 = (r3, true, 0) := rdA_both (rfA_root (by decide +kernel) (b := b3) (by decide +kernel) b3_prs (by decide)) (rfA_root (by decide +kernel) (b := b1) (by decide +kernel) b1_prs (by decide))
/-- Write, where it goes well. -/
theorem wrA_well {S S' : Ab} {m r : Rn} {ok : Bool} {t : Nat} {b : List UInt8} (hr : rdA S = (m, ok, 0)) (hm : m.s + 1 = r.s) (hs : 1 ≤ r.s ∧ r.s ≤ 100) (ht : t ≤ 100) (he : r = ⟨r.s, t, 2, []⟩) (hb : r.bytes = b) (hw : wfA (nmR (r.s % 2)) b S 4 = (0, S')) : wrA S (t : Int) 2 [] = ((r, 0), S') := by
  obtain ⟨q, hq⟩ : ∃ q, r.s = q := ⟨_, rfl⟩
  rw [hq] at he hm hs hw
  subst he
  unfold wrA
  rw [hr]
  simp only [hm]
  have hg : rgt (q : Int) (t : Int) 2 = true := by
    unfold rgt
    simp only [Bool.and_eq_true, decide_eq_true_eq]
    omega
  rw [if_neg (by simp), hg, if_neg (by simp)]
  simp only [Int.toNat_natCast, show (2 : Int).toNat = 2 from rfl]
  rw [hb, hw]
  simp
theorem S0_wr : wrA S0 5 2 [] = ((r1, 0), S1) := wrA_well (t := 5) S0_rd rfl (by decide) (by decide) rfl r1_bytes (by rfl)
theorem S1_wr : wrA S1 6 2 [] = ((r2, 0), S2) := wrA_well (t := 6) S1_rd rfl (by decide) (by decide) rfl r2_bytes (by rfl)
theorem S2_ap : S2.append [114, 111, 111, 116, 48] [120] = (0, S3) := by rfl
theorem S3_wr : wrA S3 7 2 [] = ((r3, 0), S4) := wrA_well (t := 7) S3_rd rfl (by decide) (by decide) rfl r3_bytes (by rfl)
end Go.Proofs.YtdkgcgamiochnaaGreatDoor
namespace Go.Proofs.YtdkgcgamiochnaaGreatDoor
open Go.RowKit Go.Maps

theorem lon_lens {S : Ab} {s : St} (ha : s.ab = S) (hl : ∀ f ∈ S.fs, f.bs.length ≤ 20000) : ∀ f ∈ s.fs, f.bs.length ≤ 20000 := by
  intro f hf
  subst ha
  exact hl f.ab (List.mem_map.2 ⟨f, hf, rfl⟩)
set_option maxHeartbeats 8000000 in
set_option maxRecDepth 100000 in
theorem reads_any {w0 w : World} {D M : Nat} {S : Ab} (h : Lon w0 D M S w) (ht : Tab w0) (hl : ∀ f ∈ S.fs, f.bs.length ≤ 20000) {m : Rn} {ok : Bool} (hr : rdA S = (m, ok, 0)) (a b : Nat) (hok : ok = decide (0 < a)) (hms : m.s = a) (hmt : m.t = b) :
    Calls Tryz.prog 14 #[.pointer (some ⟨D, 0, none⟩), .int .i64 (a : Int), .int .i64 (b : Int)] w fun e w' => e = .returned (.bool true) ∧ Lon w0 D M S w' := by
  have HK := Lib.hid (fun w' (hf : Fr No w w') => h.no hf)
  obtain ⟨s, hd, ha, hF, hb⟩ := h
  have hrd := read_any hd (ht.keep hb ht.pos) (lon_lens ha hl)
  rw [ha, hr] at hrd
  have HR := Lib.hid hrd
  have HOK := Lib.hid hok
  subst hms hmt
  clear hrd hd ha hF hb ht hl hr hok
  go_enter Tryz.func14, Tryz.ntmps14
  go_wp2_with fail
  refine HR.out.mono ?_
  rintro e w1 ⟨A1, n1, c1, rfl, hr1, hb1⟩
  simp only
  have hfx := Fr.alloc No w1 (.cells #[.int .i64 (m.s : Int), .int .i64 (m.t : Int), .int .i64 (m.c : Int), .slice A1 n1 c1] 24)
  have hgx := heap_alloc_new w1 (.cells #[.int .i64 (m.s : Int), .int .i64 (m.t : Int), .int .i64 (m.c : Int), .slice A1 n1 c1] 24)
  have HF1 := Lib.hid (show Fr No w w1 from Fr.of_below hb1)
  clear hr1 hb1
  go_upto_region 2 with fail
  obtain ⟨G, hG⟩ : ∃ G, w1.heap.size = G := ⟨_, rfl⟩
  obtain ⟨w2, hw2⟩ : ∃ u, w1.alloc (.cells #[.int .i64 (m.s : Int), .int .i64 (m.t : Int), .int .i64 (m.c : Int), .slice A1 n1 c1] 24) = u := ⟨_, rfl⟩
  rw [hw2] at hfx hgx ⊢
  rw [hG] at hgx ⊢
  have HF2 := Lib.hid (HF1.out.no_trans hfx)
  have u0 : w2.cell? ⟨G, 0, none⟩ = some (.int .i64 (m.s : Int)) := by unfold World.cell?; rw [hgx]; rfl
  have u1 : w2.cell? ⟨G, 1, none⟩ = some (.int .i64 (m.t : Int)) := by unfold World.cell?; rw [hgx]; rfl
  clear hw2 hG hfx hgx
  have hx : ok = decide (0 < m.s) := HOK.out
  go_wp2_with fail
  go_ret
  exact ⟨rfl, HK.out _ HF2.out⟩
set_option maxHeartbeats 8000000 in
set_option maxRecDepth 100000 in
theorem writes_any {w0 w : World} {D M : Nat} {S S' : Ab} (h : Lon w0 D M S w) (ht : Tab w0) (hl : ∀ f ∈ S.fs, f.bs.length ≤ 20000) (hl' : ∀ f ∈ S'.fs, f.bs.length ≤ 20000) {r m : Rn} (t q : Nat) (hw : wrA S (t : Int) 2 [] = ((r, 0), S')) (hrs : r.s = q) (hrt : r.t = t) (hrc : r.c = 2)
    (hr : rdA S' = (m, true, 0)) (hms : m.s = q) (hmt : m.t = t) (hq : 0 < q) :
    Calls Tryz.prog 15 #[.pointer (some ⟨D, 0, none⟩), .int .i64 (t : Int), .int .i64 (q : Int)] w fun e w' => e = .returned (.bool true) ∧ Lon w0 D M S' w' := by
  obtain ⟨s, hd, ha, hF, hb⟩ := h
  have hwr := write_any hd (ht.keep hb ht.pos) (lon_lens ha hl) 99 (t : Int) 2 none 0 0 [] Rd.nil (by omega) (fun h _ _ => absurd h (by omega))
  rw [ha, hw] at hwr
  have HW := Lib.hid hwr
  have HC := Lib.hid (fun W s' (hN : Nx D M w s W s') (ha : s'.ab = S') => Lon.call hF hb hN ha)
  have HRR := Lib.hid (fun W (hL : Lon w0 D M S' W) => reads_any hL ht hl' hr q t (by simp [hq]) hms hmt)
  have HV := Lib.hid (And.intro hrs (And.intro hrt hrc))
  clear hwr hd ha hF hb ht hl hl' hr hw hms hmt hq hrs hrt hrc
  go_enter Tryz.func15, Tryz.ntmps15
  go_wp2_with fail
  refine HW.out.mono ?_
  rintro e w1 ⟨s', A1, n1, c1, rfl, hr1, hN, ha⟩
  simp only
  have HL1 := Lib.hid (HC.out w1 s' hN ha)
  rw [HV.out.1, HV.out.2.1, HV.out.2.2]
  have hfx := Fr.alloc No w1 (.cells #[.int .i64 (q : Int), .int .i64 (t : Int), .int .i64 ((2 : Nat) : Int), .slice A1 n1 c1] 24)
  have hgx := heap_alloc_new w1 (.cells #[.int .i64 (q : Int), .int .i64 (t : Int), .int .i64 ((2 : Nat) : Int), .slice A1 n1 c1] 24)
  clear hr1 hN ha
  go_upto_region 2 with fail
  obtain ⟨G, hG⟩ : ∃ G, w1.heap.size = G := ⟨_, rfl⟩
  obtain ⟨w2, hw2⟩ : ∃ u, w1.alloc (.cells #[.int .i64 (q : Int), .int .i64 (t : Int), .int .i64 2, .slice A1 n1 c1] 24) = u := ⟨_, rfl⟩
  first | rw [hw2] at hfx hgx ⊢ | (rw [show ((2 : Nat) : Int) = 2 from rfl, hw2] at hfx hgx; rw [hw2])
  rw [hG] at hgx ⊢
  have HL2 := Lib.hid (HL1.out.no hfx)
  have u0 : w2.cell? ⟨G, 0, none⟩ = some (.int .i64 (q : Int)) := by unfold World.cell?; rw [hgx]; rfl
  have u1 : w2.cell? ⟨G, 1, none⟩ = some (.int .i64 (t : Int)) := by unfold World.cell?; rw [hgx]; rfl
  have u2 : w2.cell? ⟨G, 2, none⟩ = some (.int .i64 2) := by unfold World.cell?; rw [hgx]; rfl
  clear hw2 hG hfx hgx
  go_wp2_with fail
  refine (HRR.out _ HL2.out).mono ?_
  rintro e w3 ⟨rfl, hL3⟩
  simp only
  have HL3 := Lib.hid hL3
  clear hL3
  go_wp2_with fail
  go_ret
  exact ⟨rfl, HL3.out⟩
end Go.Proofs.YtdkgcgamiochnaaGreatDoor
namespace Go.Proofs.YtdkgcgamiochnaaGreatDoor
open Go.RowKit Go.Maps

theorem own_texts (w : World) (xs : List (List UInt8)) (n : Nat) (hn : xs.length = n) (h : n ≤ 1000) (cs : Array Value) (hcs : cs.toList = svs xs) : (w.alloc (.cells cs 9)).ownsRow w.heap.size 9 1 (.slice (some ⟨w.heap.size, 0, none⟩) n n) n (svs xs) := by
  have hl : (svs xs).length = n := by rw [svs_length, hn]
  refine ⟨by omega, .inr ⟨w.heap.size, n, cs, rfl, Nat.le_refl _, heap_alloc_new w _, Nat.le_refl _, by unfold maxLen; omega, ?_, ?_⟩⟩
  · rw [← Array.length_toList, hcs]; omega
  · rw [hcs, List.take_of_length_le (by omega)]
/-- What List tells, held against a row of texts written out. -/
theorem same_lit {w : World} {B n : Nat} {A : Option Addr} {c : Nat} {xs : List (List UInt8)} (h : w.ownsRow B 9 1 (.slice A n c) n (svs xs)) (hn : xs.length = n) (h1 : n ≤ 1000) (cs : Array Value) (hcs : cs.toList = svs xs) :
    Calls Tryz.prog 16 #[.slice A n c, .slice (some ⟨w.heap.size, 0, none⟩) n n] (w.alloc (.cells cs 9)) fun e w' => e = .returned (.bool true) ∧ Fr No w w' := by
  refine (texts_any (h.alloc _) (own_texts w xs n hn h1 cs hcs) h1 h1).mono ?_
  rintro e w' ⟨rfl, hf⟩
  exact ⟨by simp, (Fr.alloc No w _).no_trans hf⟩
theorem lens_of (S : Ab) (h : (S.fs.all fun f => decide (f.bs.length ≤ 20000)) = true) : ∀ f ∈ S.fs, f.bs.length ≤ 20000 := fun f hf => by
  have h1 := List.all_eq_true.1 h f hf
  simpa using h1
theorem S0_l : ∀ f ∈ S0.fs, f.bs.length ≤ 20000 := lens_of S0 (by decide +kernel)
theorem S1_l : ∀ f ∈ S1.fs, f.bs.length ≤ 20000 := lens_of S1 (by decide +kernel)
theorem S2_l : ∀ f ∈ S2.fs, f.bs.length ≤ 20000 := lens_of S2 (by decide +kernel)
theorem S3_l : ∀ f ∈ S3.fs, f.bs.length ≤ 20000 := lens_of S3 (by decide +kernel)
theorem S4_l : ∀ f ∈ S4.fs, f.bs.length ≤ 20000 := lens_of S4 (by decide +kernel)
theorem sz5 : (⟨#[114, 111, 111, 116, 48]⟩ : ByteArray).size ≤ maxLen := by
  have e : (⟨#[114, 111, 111, 116, 48]⟩ : ByteArray).size = 5 := rfl
  unfold maxLen
  omega
set_option maxHeartbeats 8000000 in
set_option maxRecDepth 100000 in
theorem awake_any (w : World) (ht : Tab w) : Calls Tryz.prog 4 #[] w fun e w' => e = .returned (.bool true) ∧ Below w.heap.size w w' := by
  have HT := Lib.hid ht
  have hnew := lon_new 1000 w (by omega)
  obtain ⟨D, HDD⟩ : ∃ D, Hid (w.heap.size + 1 = D) := ⟨_, rfl⟩
  obtain ⟨M, HMM⟩ : ∃ M, Hid (w.heap.size = M) := ⟨_, rfl⟩
  rw [HDD.out, HMM.out] at hnew
  have K1 := Lib.hid (fun W (h : Lon w D M S0 W) => reads_any h HT.out S0_l S0_rd 0 0 (by decide) rfl rfl)
  have K2 := Lib.hid (fun W (h : Lon w D M S0 W) => writes_any h HT.out S0_l S1_l 5 1 S0_wr rfl rfl rfl S1_rd rfl rfl (by omega))
  have K3 := Lib.hid (fun W (h : Lon w D M S1 W) => lon_list h (n := 1) rfl)
  have K4 := Lib.hid (fun W (h : Lon w D M S1 W) => writes_any h HT.out S1_l S2_l 6 2 S1_wr rfl rfl rfl S2_rd rfl rfl (by omega))
  have K5 := Lib.hid (fun W (h : Lon w D M S2 W) => lon_list h (n := 2) rfl)
  have K6 := Lib.hid (fun W (h : Lon w D M S3 W) => reads_any h HT.out S3_l S3_rd 1 5 (by decide) rfl rfl)
  have K7 := Lib.hid (fun W (h : Lon w D M S3 W) => writes_any h HT.out S3_l S4_l 7 2 S3_wr rfl rfl rfl S4_rd rfl rfl (by omega))
  have HN := Lib.hid hnew
  have kc := fun (W : World) (C : Array Value) (n c : Nat) => Lib.run_convert_bytes_const (P := Tryz.prog) W 22 5 C n c Tryz.underlying22 Tryz.underlying5
  clear hnew ht
  go_enter Tryz.func4, Tryz.ntmps4
  go_wp2_with fail
  refine HN.out.mono ?_
  rintro e w1 ⟨rfl, hl⟩
  have HL1 := Lib.hid hl
  clear hl
  go_wp2_with fail
  refine (K1.out _ HL1.out).mono ?_
  rintro e w2 ⟨rfl, hl⟩
  simp only
  have HL2 := Lib.hid hl
  clear hl
  go_wp2_with fail
  refine (K2.out _ HL2.out).mono ?_
  rintro e w3 ⟨rfl, hl⟩
  simp only
  have HL3 := Lib.hid hl
  clear hl
  go_wp2_with fail
  refine (K3.out _ HL3.out).mono ?_
  rintro e w4 ⟨A4, c4, rfl, ho, hl⟩
  simp only
  have HL4 := Lib.hid hl
  have HO4 := Lib.hid ho
  clear hl ho
  go_wp2_with fail
  refine (same_lit (xs := [[114, 111, 111, 116, 49]]) HO4.out rfl (by omega) #[.string ⟨#[114, 111, 111, 116, 49]⟩] rfl).mono ?_
  rintro e w5 ⟨rfl, hf⟩
  simp only
  have HL5 := Lib.hid (HL4.out.no hf)
  clear hf
  go_wp2_with fail
  refine (K4.out _ HL5.out).mono ?_
  rintro e w6 ⟨rfl, hl⟩
  simp only
  have HL6 := Lib.hid hl
  clear hl
  go_wp2_with fail
  refine (K5.out _ HL6.out).mono ?_
  rintro e w7 ⟨A7, c7, rfl, ho, hl⟩
  simp only
  have HL7 := Lib.hid hl
  have HO7 := Lib.hid ho
  clear hl ho
  go_wp2_with fail
  refine (same_lit (xs := [[114, 111, 111, 116, 48], [114, 111, 111, 116, 49]]) HO7.out rfl (by omega) #[.string ⟨#[114, 111, 111, 116, 48]⟩, .string ⟨#[114, 111, 111, 116, 49]⟩] rfl).mono ?_
  rintro e w8 ⟨rfl, hf⟩
  simp only
  have HL8 := Lib.hid (HL7.out.no hf)
  clear hf
  go_wp2_with fail
  refine (lon_append (HL8.out.no (Fr.alloc No w8 (.cells #[.int .u8 120] 5 (1, 2)))) ⟨#[114, 111, 111, 116, 48]⟩ sz5 _ 1 1 [120] ((Rd.new w8 [120] #[.int .u8 120] rfl (1, 2)).more (by simp)) S2_ap).mono ?_
  rintro e w9 ⟨rfl, hl⟩
  have HL9 := Lib.hid hl
  clear hl
  go_wp2_with fail
  refine (K6.out _ HL9.out).mono ?_
  rintro e w10 ⟨rfl, hl⟩
  simp only
  have HL10 := Lib.hid hl
  clear hl
  go_wp2_with fail
  refine (K7.out _ HL10.out).mono ?_
  rintro e w11 ⟨rfl, hl⟩
  simp only
  have HL11 := Lib.hid hl
  clear hl
  go_wp2_with fail
  go_ret
  exact ⟨rfl, HL11.out.bel⟩
end Go.Proofs.YtdkgcgamiochnaaGreatDoor
namespace Go.Proofs.YtdkgcgamiochnaaGreatDoor
open Go.RowKit Go.Maps

theorem bytes_lit_eq (l1 l2 : List UInt8) : ((⟨l1.toArray⟩ : ByteArray).toList == (⟨l2.toArray⟩ : ByteArray).toList) = decide (l1 = l2) := by
  rw [ByteArray.toList_mk, ByteArray.toList_mk]
  by_cases h : l1 = l2
  · subst h; simp
  · rw [decide_eq_false h, beq_eq_false_iff_ne]; exact h
set_option maxRecDepth 100000 in
theorem same_bytes {w : World} {A B : Option Addr} {n m : Nat} {l1 l2 : List UInt8} (c d : Nat) (h1 : Rd w w.heap.size A n l1) (h2 : Rd w w.heap.size B m l2) :
    Calls Tryz.prog 11 #[.slice A n c, .slice B m d] w fun e w' => e = .returned (.bool (decide (l1 = l2))) ∧ w' = w := by
  have s1 := str_rule c h1
  have s2 := str_rule d h2
  have hb := bytes_lit_eq l1 l2
  clear h1 h2
  obtain ⟨x, hx⟩ : ∃ x, (⟨l1.toArray⟩ : ByteArray) = x := ⟨_, rfl⟩
  obtain ⟨y, hy⟩ : ∃ y, (⟨l2.toArray⟩ : ByteArray) = y := ⟨_, rfl⟩
  rw [hx] at s1 hb
  rw [hy] at s2 hb
  have HB := Lib.hid hb
  clear hx hy hb
  go_enter Tryz.func11, Tryz.ntmps11
  go_wp2_with fail
  go_ret
  rw [← HB.out]
  exact ⟨rfl, rfl⟩
/-- Two roots as they stand in memory. -/
def eqR (a1 t1 c1 a2 t2 c2 : Int) (l1 l2 : List UInt8) : Bool := decide (a1 = a2 ∧ t1 = t2 ∧ c1 = c2 ∧ l1 = l2)
set_option maxHeartbeats 4000000 in
set_option maxRecDepth 100000 in
theorem same_root {w : World} {A B : Option Addr} {n m : Nat} {l1 l2 : List UInt8} (a1 t1 c1 a2 t2 c2 : Int) (k j : Nat) (h1 : Rd w w.heap.size A n l1) (h2 : Rd w w.heap.size B m l2) :
    Calls Tryz.prog 12 #[.agg #[.int .i64 a1, .int .i64 t1, .int .i64 c1, .slice A n k], .agg #[.int .i64 a2, .int .i64 t2, .int .i64 c2, .slice B m j]] w fun e w' => e = .returned (.bool (eqR a1 t1 c1 a2 t2 c2 l1 l2)) ∧ Below w.heap.size w w' := by
  have hf1 := Fr.alloc No w (.cells #[.int .i64 a1, .int .i64 t1, .int .i64 c1, .slice A n k] 24)
  have hf2 := Fr.alloc No (w.alloc (.cells #[.int .i64 a1, .int .i64 t1, .int .i64 c1, .slice A n k] 24)) (.cells #[.int .i64 a2, .int .i64 t2, .int .i64 c2, .slice B m j] 24)
  have hb1 : ((w.alloc (.cells #[.int .i64 a1, .int .i64 t1, .int .i64 c1, .slice A n k] 24)).alloc (.cells #[.int .i64 a2, .int .i64 t2, .int .i64 c2, .slice B m j] 24)).heap[w.heap.size]? = some (.cells #[.int .i64 a1, .int .i64 t1, .int .i64 c1, .slice A n k] 24 (0, 0)) :=
    (Below.heap_alloc _ _ _ (by simp)).trans (heap_alloc_new w _)
  have hb2 := heap2R w (.cells #[.int .i64 a1, .int .i64 t1, .int .i64 c1, .slice A n k] 24) (.cells #[.int .i64 a2, .int .i64 t2, .int .i64 c2, .slice B m j] 24)
  have hff := hf1.no_trans hf2
  have h1' := rd_offR hff h1 (fun _ _ _ e => e)
  have h2' := rd_offR hff h2 (fun _ _ _ e => e)
  clear hf1 hf2 h1 h2
  go_enter Tryz.func12, Tryz.ntmps12
  go_upto_region 1 with fail
  obtain ⟨w2, hw2⟩ : ∃ u, (w.alloc (.cells #[.int .i64 a1, .int .i64 t1, .int .i64 c1, .slice A n k] 24)).alloc (.cells #[.int .i64 a2, .int .i64 t2, .int .i64 c2, .slice B m j] 24) = u := ⟨_, rfl⟩
  rw [hw2] at hff hb1 hb2 h1' h2' ⊢
  obtain ⟨P, hP⟩ : ∃ P, w.heap.size = P := ⟨_, rfl⟩
  have HF := Lib.hid (show Below w.heap.size w w2 from hff.noBelow)
  rw [hP] at hb1 hb2 ⊢
  obtain ⟨R, hR⟩ : ∃ R, P + 1 = R := ⟨_, rfl⟩
  rw [hR] at hb2 ⊢
  have u0 : w2.cell? ⟨P, 0, none⟩ = some (.int .i64 a1) := by unfold World.cell?; rw [hb1]; rfl
  have u1 : w2.cell? ⟨P, 1, none⟩ = some (.int .i64 t1) := by unfold World.cell?; rw [hb1]; rfl
  have u2 : w2.cell? ⟨P, 2, none⟩ = some (.int .i64 c1) := by unfold World.cell?; rw [hb1]; rfl
  have u3 : w2.cell? ⟨P, 3, none⟩ = some (.slice A n k) := by unfold World.cell?; rw [hb1]; rfl
  have v0 : w2.cell? ⟨R, 0, none⟩ = some (.int .i64 a2) := by unfold World.cell?; rw [hb2]; rfl
  have v1 : w2.cell? ⟨R, 1, none⟩ = some (.int .i64 t2) := by unfold World.cell?; rw [hb2]; rfl
  have v2 : w2.cell? ⟨R, 2, none⟩ = some (.int .i64 c2) := by unfold World.cell?; rw [hb2]; rfl
  have v3 : w2.cell? ⟨R, 3, none⟩ = some (.slice B m j) := by unfold World.cell?; rw [hb2]; rfl
  have HS := Lib.hid (same_bytes k j h1' h2')
  clear hw2 hP hR hb1 hb2 hff h1' h2'
  by_cases e0 : a1 = a2
  · subst e0
    by_cases e1 : t1 = t2
    · subst e1
      by_cases e2 : c1 = c2
      · subst e2
        have HQ := Lib.hid (show decide (l1 = l2) = eqR a1 t1 c1 a1 t1 c1 l1 l2 by unfold eqR; simp)
        go_wp2_with fail
        refine HS.out.mono ?_
        rintro e w3 ⟨rfl, rfl⟩
        simp only
        rw [HQ.out]
        go_wp2_with fail
        go_ret
        exact ⟨rfl, HF.out⟩
      · have hx : (c1 == c2) = false := by rw [beq_eq_false_iff_ne]; exact e2
        have HQ := Lib.hid (show false = eqR a1 t1 c1 a1 t1 c2 l1 l2 by unfold eqR; simp [e2])
        clear e2
        go_wp2_with fail
        go_ret
        rw [← HQ.out]
        exact ⟨rfl, HF.out⟩
    · have hx : (t1 == t2) = false := by rw [beq_eq_false_iff_ne]; exact e1
      have HQ := Lib.hid (show false = eqR a1 t1 c1 a1 t2 c2 l1 l2 by unfold eqR; simp [e1])
      clear e1
      go_wp2_with fail
      go_ret
      rw [← HQ.out]
      exact ⟨rfl, HF.out⟩
  · have hx : (a1 == a2) = false := by rw [beq_eq_false_iff_ne]; exact e0
    have HQ := Lib.hid (show false = eqR a1 t1 c1 a2 t2 c2 l1 l2 by unfold eqR; simp [e0])
    clear e0
    go_wp2_with fail
    go_ret
    rw [← HQ.out]
    exact ⟨rfl, HF.out⟩
end Go.Proofs.YtdkgcgamiochnaaGreatDoor
namespace Go.Proofs.YtdkgcgamiochnaaGreatDoor
open Go.RowKit Go.Maps

theorem varint_len : ∀ (k n : Nat), n < 128 ^ (k + 1) → (varint n).length ≤ k + 1
  | 0, n, h => by
    rw [varint_small (by simpa using h)]
    simp
  | k + 1, n, h => by
    by_cases hs : n < 128
    · rw [varint_small hs]; simp
    · rw [varint_big hs, List.length_cons]
      have := varint_len k (n / 128) (by rw [Nat.div_lt_iff_lt_mul (by omega), ← Nat.pow_succ]; exact h)
      omega
theorem varint_len9 {n : Nat} (h : n ≤ top) : (varint n).length ≤ 9 := varint_len 8 n (by unfold top at h; omega)
theorem bytes_len (r : Rn) (h : r.right = true) (hl : r.l.length ≤ 10000) : r.l.length ≤ r.bytes.length ∧ r.bytes.length ≤ r.l.length + 100 := by
  obtain ⟨_, h1, h2, h3⟩ := (right_iff r).1 h
  have e1 := varint_len9 h1
  have e2 := varint_len9 h2
  have e3 := varint_len9 h3
  have e4 := varint_len9 (show r.l.length ≤ top by unfold top; omega)
  have e5 : mgc.length = 4 := rfl
  have e6 : ∀ s, (be4 s).length = 4 := fun _ => rfl
  unfold Rn.bytes Rn.body
  simp only [List.length_append, e5, e6]
  omega
/-- What Bytes answers: the bytes, the error. -/
def byR (a t c : Int) (l : List UInt8) : List UInt8 × Int := if rgt a t c = true then (Rn.bytes ⟨a.toNat, t.toNat, c.toNat, l⟩, 0) else ([], 2)
def Byp (w : World) (r : List UInt8 × Int) (e : Ending) (w' : World) : Prop :=
  ∃ A n c, e = .returned (.tuple #[.slice A n c, .int .i64 r.2]) ∧ n ≤ c ∧ Rd w' w'.heap.size A n r.1 ∧ Below w.heap.size w w'
theorem rgt_nat {a t c : Int} (h : rgt a t c = true) : ∃ x y z : Nat, a = (x : Int) ∧ t = (y : Int) ∧ c = (z : Int) ∧ ∀ l, (⟨x, y, z, l⟩ : Rn).right = true := by
  have hrg : 1 ≤ a ∧ a ≤ 9007199254740992 ∧ 0 ≤ t ∧ t ≤ 9007199254740992 ∧ 0 ≤ c ∧ c ≤ 9007199254740992 := by
    unfold rgt at h
    simp only [Bool.and_eq_true, decide_eq_true_eq] at h
    omega
  refine ⟨a.toNat, t.toNat, c.toNat, by omega, by omega, by omega, fun l => (right_iff _).2 ?_⟩
  show 1 ≤ a.toNat ∧ a.toNat ≤ 9007199254740992 ∧ t.toNat ≤ 9007199254740992 ∧ c.toNat ≤ 9007199254740992
  omega
theorem Bytes_any (a t c : Int) (A : Option Addr) (n k : Nat) (l : List UInt8) (w : World) (h : Rd w w.heap.size A n l) (hn : n ≤ 10000) (ht : Tab w) :
    Calls Tryz.prog 7 #[.agg #[.int .i64 a, .int .i64 t, .int .i64 c, .slice A n k]] w (Byp w (byR a t c l)) := by
  cases hg : rgt a t c with
  | false =>
    refine (bytes_bad a t c A n k w hg).mono ?_
    rintro e w' ⟨rfl, hb⟩
    unfold byR
    rw [if_neg (by rw [hg]; simp)]
    exact ⟨none, 0, 0, rfl, Nat.le_refl _, Rd.nil, hb⟩
  | true =>
    unfold byR
    rw [if_pos hg]
    obtain ⟨x, y, z, rfl, rfl, rfl, hr⟩ := rgt_nat hg
    refine (bytes_ok ⟨x, y, z, l⟩ (hr l) A n k w h hn ht).mono ?_
    rintro e w' ⟨v, rfl, v', hv, ho, hb⟩
    injection hv with hv
    subst hv
    obtain ⟨A1, c1, rfl, h1, _⟩ := own_shape ho
    exact ⟨A1, _, c1, rfl, h1, Rd.own ho, hb⟩
theorem byR_bad {a t c : Int} {l : List UInt8} (h : (byR a t c l).2 ≠ 0) : byR a t c l = ([], 2) := by
  unfold byR at h ⊢
  by_cases hg : rgt a t c = true
  · rw [if_pos hg] at h; exact absurd rfl h
  · rw [if_neg hg]
/-- A right root's bytes are read as that root. -/
theorem byR_prs {a t c : Int} {l : List UInt8} (h : (byR a t c l).2 = 0) (hl : l.length ≤ 10000) : ∃ r : Rn, prs (byR a t c l).1 = (r, 0) ∧ (byR a t c l).1 = r.bytes ∧ r.right = true ∧ (r.s : Int) = a ∧ (r.t : Int) = t ∧ (r.c : Int) = c ∧ r.l = l := by
  unfold byR at h ⊢
  by_cases hg : rgt a t c = true
  · rw [if_pos hg]
    obtain ⟨x, y, z, rfl, rfl, rfl, hr⟩ := rgt_nat hg
    exact ⟨⟨x, y, z, l⟩, prs_bytes _ (hr l) (by show l.length ≤ _; omega), rfl, hr l, rfl, rfl, rfl, rfl⟩
  · rw [if_neg hg] at h; simp at h
theorem byR_len {a t c : Int} {l : List UInt8} (hl : l.length ≤ 10000) : (byR a t c l).1.length ≤ 10100 := by
  by_cases h : (byR a t c l).2 = 0
  · obtain ⟨r, _, e, hr, _, _, _, hl2⟩ := byR_prs h hl
    rw [e]
    have := (bytes_len r hr (by rw [hl2]; exact hl)).2
    rw [hl2] at this
    omega
  · rw [byR_bad h]
    simp
/-- Two right roots are alike where their bytes are. -/
theorem byR_same {a t c a' t' c' : Int} {l l' : List UInt8} (h : (byR a t c l).2 = 0) (h' : (byR a' t' c' l').2 = 0) (hl : l.length ≤ 10000) (hl' : l'.length ≤ 10000) : eqR a t c a' t' c' l l' = decide ((byR a t c l).1 = (byR a' t' c' l').1) := by
  obtain ⟨r, p1, e1, g1, rfl, rfl, rfl, rfl⟩ := byR_prs h hl
  obtain ⟨q, p2, e2, g2, rfl, rfl, rfl, rfl⟩ := byR_prs h' hl'
  rw [e1, e2]
  unfold eqR
  rw [decide_eq_decide]
  constructor
  · rintro ⟨h1, h2, h3, h4⟩
    have : r = q := by
      cases r; cases q
      simp only [Int.natCast_inj] at h1 h2 h3
      simp only at h4
      subst h1 h2 h3 h4
      rfl
    rw [this]
  · intro h
    have := bytes_inj g1 (by omega) g2 (by omega) h
    subst this
    exact ⟨rfl, rfl, rfl, rfl⟩
/-- Bytes that are parsed well are that root's. -/
theorem prs_byR {l : List UInt8} {r : Rn} (h : prs l = (r, 0)) (hl : l.length ≤ 1000) : byR r.s r.t r.c r.l = (l, 0) ∧ r.l.length ≤ 1000 := by
  obtain ⟨h1, h2, h3⟩ := prs_tells l r h
  unfold byR
  rw [if_pos (by rw [rgt_right]; exact h1)]
  refine ⟨by rw [h3]; rfl, ?_⟩
  have h4 : r.l.length ≤ r.bytes.length := by
    unfold Rn.bytes Rn.body
    simp only [List.length_append]
    omega
  rw [← h3] at h4
  omega
end Go.Proofs.YtdkgcgamiochnaaGreatDoor

/-
  Several texts in one: RtZ, Row, RtP, RtQ, RtR. No statement of the seat is proved here.
-/
import Derived.Test.YthmphbfhofigoaaDoorRtY
import Derived.Test.YthmphbfhofigoaaDoorDxA
import Derived.Test.YthmphbfhofigoaaDoorTxs
import Derived.Test.YthmphbfhofigoaaDoorSl
namespace Go.Proofs.YthmphbfhofigoaaDoor
open Go.RowKit Go.Maps

theorem rfA_top (S : Ab) (d : Nat) : (rfA S d).1.s ≤ top := by
  unfold rfA
  split
  · exact Nat.zero_le _
  · split
    · exact Nat.zero_le _
    · split
      · exact Nat.zero_le _
      · rename_i h
        obtain ⟨r, e, hp⟩ : ∃ r e, prs (aold (nmR d) S.fs).bs = (r, e) := ⟨_, _, rfl⟩
        rw [hp] at h ⊢
        have he : e = 0 := by
          have h2 : ¬ (e ≠ 0 ∨ r.s % 2 ≠ d) := h
          omega
        subst he
        exact ((right_iff r).1 (prs_tells _ r hp).1).2.1
theorem cntR_top (S : Ab) : ∀ k, (cntR S k).s ≤ top
  | 0 => Nat.zero_le _
  | k + 1 => by
    show (pickR (cntR S k) (rfA S k).1).s ≤ top
    unfold pickR
    split
    · exact rfA_top S k
    · exact cntR_top S k
theorem rdA_top (S : Ab) : (rdA S).1.s ≤ top := by
  unfold rdA
  split
  · exact Nat.zero_le _
  · split
    · exact Nat.zero_le _
    · exact cntR_top S 2
/-- What Write does: the root, the error; the disk. -/
def wrA (S : Ab) (t c : Int) (l : List UInt8) : (Rn × Int) × Ab :=
  if (rdA S).2.2 ≠ 0 then ((Rn.zero, (rdA S).2.2), S)
  else if rgt (((rdA S).1.s + 1 : Nat) : Int) t c = false then ((Rn.zero, 2), S)
  else if (wfA (nmR (((rdA S).1.s + 1) % 2)) (Rn.bytes ⟨(rdA S).1.s + 1, t.toNat, c.toNat, l⟩) S 4).1 ≠ 0 then ((Rn.zero, (wfA (nmR (((rdA S).1.s + 1) % 2)) (Rn.bytes ⟨(rdA S).1.s + 1, t.toNat, c.toNat, l⟩) S 4).1), (wfA (nmR (((rdA S).1.s + 1) % 2)) (Rn.bytes ⟨(rdA S).1.s + 1, t.toNat, c.toNat, l⟩) S 4).2)
  else ((⟨(rdA S).1.s + 1, t.toNat, c.toNat, l⟩, 0), (wfA (nmR (((rdA S).1.s + 1) % 2)) (Rn.bytes ⟨(rdA S).1.s + 1, t.toNat, c.toNat, l⟩) S 4).2)
def Wrp (D M : Nat) (w : World) (s : St) (r : (Rn × Int) × Ab) (e : Ending) (w' : World) : Prop :=
  ∃ s' A n c, e = .returned (.tuple #[.agg #[.int .i64 (r.1.1.s : Int), .int .i64 (r.1.1.t : Int), .int .i64 (r.1.1.c : Int), .slice A n c], .int .i64 r.1.2]) ∧ Rd w' w'.heap.size A n r.1.1.l ∧ Nx D M w s w' s' ∧ s'.ab = r.2
theorem wrp_zero {D M : Nat} {w w' : World} {s s' : St} {x : Int} {S : Ab} (hN : Nx D M w s w' s') (ha : s'.ab = S) :
    Wrp D M w s ((Rn.zero, x), S) (.returned (.tuple #[.agg #[.int .i64 0, .int .i64 0, .int .i64 0, .slice none 0 0], .int .i64 x])) w' := ⟨s', none, 0, 0, rfl, Rd.nil, hN, ha⟩
/-- What happens in blocks of the call's own leaves a disk alone. -/
theorem nx_below {D M : Nat} {w w' : World} {s : St} (h : Dsk w D M s) (hb : Below w.heap.size w w') : Nx D M w s w' s := Nx.no h (Fr.of_below hb)
theorem four_setF (w : World) (R : Nat) (x y z u : Value) : Fr (fun k => k = R) w ((((w.setCell ⟨R, 0, none⟩ x).setCell ⟨R, 1, none⟩ y).setCell ⟨R, 2, none⟩ z).setCell ⟨R, 3, none⟩ u) :=
  (((Fr.setCell w ⟨R, 0, none⟩ _ (F := fun k => k = R) rfl).trans (Fr.setCell _ ⟨R, 1, none⟩ _ (F := fun k => k = R) rfl) (fun _ _ e => e)).trans (Fr.setCell _ ⟨R, 2, none⟩ _ (F := fun k => k = R) rfl) (fun _ _ e => e)).trans (Fr.setCell _ ⟨R, 3, none⟩ _ (F := fun k => k = R) rfl) (fun _ _ e => e)
/-- A block of the call's own, turned behind a disk's calls. -/
theorem nx_set {D M : Nat} {w w1 w2 : World} {s s1 : St} {P R : Nat} (hN : Nx D M w s w1 s1) (hP : w.heap.size = P) (hR : P ≤ R) (hF : ¬ foot D M s1.fs R) (hf : Fr (fun k => k = R) w1 w2) : Nx D M w s w2 s1 :=
  ⟨hN.1.keep hf (fun k hk e => hF (e ▸ hk)), hN.2.1.trans hf (fun i hi e => by have e : i = R := e; omega), hN.2.2⟩
set_option maxHeartbeats 8000000 in
set_option maxRecDepth 100000 in
theorem write_any {w : World} {D M : Nat} {s : St} (h : Dsk w D M s) (ht : Tab w) (hl : ∀ f ∈ s.fs, f.bs.length ≤ 20000) (a t c : Int) (A : Option Addr) (n k : Nat) (l : List UInt8) (hr : Rd w w.heap.size A n l) (hn : n ≤ 10000)
    (hA : 0 < n → ∀ a, A = some a → ¬ foot D M s.fs a.block) :
    Calls Tryd.prog 12 #[.pointer (some ⟨D, 0, none⟩), .agg #[.int .i64 a, .int .i64 t, .int .i64 c, .slice A n k]] w (Wrp D M w s (wrA s.ab t c l)) := by
  have hf1 := Fr.alloc No w (.cells #[.int .i64 a, .int .i64 t, .int .i64 c, .slice A n k] 24)
  have hf2 := Fr.alloc No (w.alloc (.cells #[.int .i64 a, .int .i64 t, .int .i64 c, .slice A n k] 24)) (.cells #[.int .i64 0, .int .i64 0, .int .i64 0, .slice none 0 0] 24)
  have hb1 : ((w.alloc (.cells #[.int .i64 a, .int .i64 t, .int .i64 c, .slice A n k] 24)).alloc (.cells #[.int .i64 0, .int .i64 0, .int .i64 0, .slice none 0 0] 24)).heap[w.heap.size]? = some (.cells #[.int .i64 a, .int .i64 t, .int .i64 c, .slice A n k] 24 (0, 0)) :=
    (Below.heap_alloc _ _ _ (by simp)).trans (heap_alloc_new w _)
  have hb2 := heap2R w (.cells #[.int .i64 a, .int .i64 t, .int .i64 c, .slice A n k] 24) (.cells #[.int .i64 0, .int .i64 0, .int .i64 0, .slice none 0 0] 24)
  have H := Lib.hid h
  have HT := Lib.hid ht
  have HL := Lib.hid hl
  have HTP := Lib.hid ht.pos
  have HR := Lib.hid hr
  have HA := Lib.hid hA
  have HN := Lib.hid hn
  have HTOP := Lib.hid (rdA_top s.ab)
  obtain ⟨S, HS⟩ : ∃ S, Hid (s.ab = S) := ⟨_, rfl⟩
  rw [HS.out] at HTOP ⊢
  obtain ⟨Q, HQ⟩ : ∃ Q : Ending → World → Prop, Hid (Wrp D M w s (wrA S t c l) = Q) := ⟨_, rfl⟩
  rw [HQ.out]
  have hf12 := hf1.no_trans hf2
  clear h ht hl hr hA hn hf1 hf2
  go_enter Tryd.func12, Tryd.ntmps12
  go_upto_region 1 with fail
  obtain ⟨w2, hw2⟩ : ∃ u, (w.alloc (.cells #[.int .i64 a, .int .i64 t, .int .i64 c, .slice A n k] 24)).alloc (.cells #[.int .i64 0, .int .i64 0, .int .i64 0, .slice none 0 0] 24) = u := ⟨_, rfl⟩
  rw [hw2] at hf12 hb1 hb2 ⊢
  obtain ⟨P, hP⟩ : ∃ P, w.heap.size = P := ⟨_, rfl⟩
  rw [hP] at hb1 hb2 ⊢
  obtain ⟨R, hRR⟩ : ∃ R, P + 1 = R := ⟨_, rfl⟩
  rw [hRR] at hb2 ⊢
  have HF2 := Lib.hid hf12
  have HB1 := Lib.hid hb1
  have HB2 := Lib.hid hb2
  have HPR := Lib.hid (show w.heap.size = P ∧ P + 1 = R ∧ R < w2.heap.size from ⟨hP, hRR, (Array.getElem?_eq_some_iff.1 hb2).1⟩)
  have hrd := read_any (H.out.no HF2.out) (HT.out.keep HF2.out.noBelow HTP.out) HL.out
  rw [HS.out] at hrd
  obtain ⟨m, ok, er, hm⟩ : ∃ m ok er, rdA S = (m, ok, er) := ⟨_, _, _, rfl⟩
  rw [hm] at hrd HTOP
  have HM := Lib.hid hm
  have HRD := Lib.hid hrd
  clear hw2 hP hRR hf12 hb1 hb2 hrd hm
  go_wp2_with fail
  refine HRD.out.mono ?_
  rintro e w3 ⟨A3, n3, c3, rfl, hr3, hb3⟩
  simp only
  have HF3 := Lib.hid (HF2.out.no_trans (Fr.of_below hb3))
  have hfx := Fr.alloc No w3 (.cells #[.int .i64 (m.s : Int), .int .i64 (m.t : Int), .int .i64 (m.c : Int), .slice A3 n3 c3] 24)
  have hgx := heap_alloc_new w3 (.cells #[.int .i64 (m.s : Int), .int .i64 (m.t : Int), .int .i64 (m.c : Int), .slice A3 n3 c3] 24)
  have HB3 := Lib.hid hb3
  clear hr3 hb3
  go_upto_region 2 with fail
  obtain ⟨G, hG⟩ : ∃ G, w3.heap.size = G := ⟨_, rfl⟩
  obtain ⟨w4, hw4⟩ : ∃ u, w3.alloc (.cells #[.int .i64 (m.s : Int), .int .i64 (m.t : Int), .int .i64 (m.c : Int), .slice A3 n3 c3] 24) = u := ⟨_, rfl⟩
  rw [hw4] at hfx hgx ⊢
  rw [hG] at hgx ⊢
  have HF4 := Lib.hid (HF3.out.no_trans hfx)
  have hP4 := (hfx.block P (by have := HPR.out; have := HB3.out.size; omega) (fun e => e)).trans ((HB3.out.block P (by have := HPR.out; omega)).trans HB1.out)
  have hR4 := (hfx.block R (by have := HPR.out; have := HB3.out.size; omega) (fun e => e)).trans ((HB3.out.block R (by have := HPR.out; omega)).trans HB2.out)
  have HG4 := Lib.hid hgx
  have HP4 := Lib.hid hP4
  have HR4 := Lib.hid hR4
  have HGZ := Lib.hid (show R < G ∧ G < w4.heap.size by have h1 := (Array.getElem?_eq_some_iff.1 hgx).1; have := HPR.out; have := HB3.out.size; omega)
  clear hw4 hG hfx
  by_cases he : er = 0
  · subst he
    have u0 : w4.cell? ⟨G, 0, none⟩ = some (.int .i64 (m.s : Int)) := by unfold World.cell?; rw [hgx]; rfl
    have c0 : w4.cell? ⟨P, 0, none⟩ = some (.int .i64 a) := by unfold World.cell?; rw [hP4]; rfl
    have y0 : w4.frozen? ⟨P, 0, none⟩ = false := by unfold World.frozen?; rw [hP4]; rfl
    have hms : m.s ≤ 9007199254740992 := HTOP.out
    obtain ⟨q, hq⟩ : ∃ q : Nat, m.s + 1 = q := ⟨_, rfl⟩
    have hws : IntKind.i64.wrap ((m.s : Int) + 1) = (q : Int) := by
      rw [show ((m.s : Int) + 1) = (q : Int) by omega]
      exact IntWalk.i64_in _ (by omega)
    have HQM := Lib.hid hq
    clear hms hgx hP4 hR4 hq
    go_upto_region 5 with fail
    have hP5 := heap_cells_set w4 P 0 _ _ (.int .i64 (q : Int)) HP4.out
    have hR5 := (Below.heap_setCell w4 ⟨P, 0, none⟩ (.int .i64 (q : Int)) R (show R ≠ P by have := HPR.out; omega)).trans HR4.out
    have hb5 : Below P w4 (w4.setCell ⟨P, 0, none⟩ (.int .i64 (q : Int))) := (Below.refl P w4).setCell (p := ⟨P, 0, none⟩) (Nat.le_refl _) _
    obtain ⟨w5, hw5⟩ : ∃ u, w4.setCell ⟨P, 0, none⟩ (.int .i64 (q : Int)) = u := ⟨_, rfl⟩
    rw [hw5] at hP5 hR5 hb5 ⊢
    have HB5 := Lib.hid (show Below P w w5 by
      have h1 := HF4.out.noBelow
      rw [HPR.out.1] at h1
      exact h1.trans hb5)
    have HP5 : Hid (w5.heap[P]? = some (.cells #[.int .i64 (q : Int), .int .i64 t, .int .i64 c, .slice A n k] 24 (0, 0))) := hP5
    have HR5 := Lib.hid hR5
    have HRL5 := Lib.hid (show Rd w5 w5.heap.size A n l from (HR.out.below (by rw [HPR.out.1]; exact HB5.out)).more (by have := HB5.out.size; omega))
    have HT5 := Lib.hid (HT.out.keep HB5.out (by rw [← HPR.out.1]; exact HTP.out))
    have HS5 := Lib.hid (show R < w5.heap.size from (Array.getElem?_eq_some_iff.1 hR5).1)
    clear hw5 hP5 hR5 hb5 u0 c0 y0 hws
    have c0 : w5.cell? ⟨P, 0, none⟩ = some (.int .i64 (q : Int)) := by unfold World.cell?; rw [HP5.out]; rfl
    have c1 : w5.cell? ⟨P, 1, none⟩ = some (.int .i64 t) := by unfold World.cell?; rw [HP5.out]; rfl
    have c2 : w5.cell? ⟨P, 2, none⟩ = some (.int .i64 c) := by unfold World.cell?; rw [HP5.out]; rfl
    have c3 : w5.cell? ⟨P, 3, none⟩ = some (.slice A n k) := by unfold World.cell?; rw [HP5.out]; rfl
    cases hg : rgt (q : Int) t c with
    | false =>
      have HBB := Lib.hid (bytes_bad (q : Int) t c A n k w5 hg)
      have HE := Lib.hid (show wrA S t c l = ((Rn.zero, 2), S) by
        unfold wrA
        rw [HM.out]
        simp only
        rw [if_neg (by simp), HQM.out, if_pos hg])
      clear hg
      go_wp2_with fail
      refine HBB.out.mono ?_
      rintro e w6 ⟨rfl, hb6⟩
      have hR6 := (hb6.block R HS5.out).trans HR5.out
      have HB6 := Lib.hid (HB5.out.trans (hb6.mono (by have := HPR.out; have := HS5.out; omega)))
      clear hb6 c0 c1 c2 c3
      have p0 : w6.cell? ⟨R, 0, none⟩ = some (.int .i64 0) := by unfold World.cell?; rw [hR6]; rfl
      have p1 : w6.cell? ⟨R, 1, none⟩ = some (.int .i64 0) := by unfold World.cell?; rw [hR6]; rfl
      have p2 : w6.cell? ⟨R, 2, none⟩ = some (.int .i64 0) := by unfold World.cell?; rw [hR6]; rfl
      have p3 : w6.cell? ⟨R, 3, none⟩ = some (.slice none 0 0) := by unfold World.cell?; rw [hR6]; rfl
      have z0 : w6.frozen? ⟨R, 0, none⟩ = false := by unfold World.frozen?; rw [hR6]; rfl
      have z1 : w6.frozen? ⟨R, 1, none⟩ = false := by unfold World.frozen?; rw [hR6]; rfl
      have z2 : w6.frozen? ⟨R, 2, none⟩ = false := by unfold World.frozen?; rw [hR6]; rfl
      have z3 : w6.frozen? ⟨R, 3, none⟩ = false := by unfold World.frozen?; rw [hR6]; rfl
      go_wp2_with fail
      refine bodyPost_ret (results_cell_tmp_row (p := 4) rfl _ _ R 24 #[.int .i64 0, .int .i64 0, .int .i64 0, .slice none 0 0] (0, 0) _ rfl (four_setR hR6 _ _ _ _).1 Tryd.underlying24 rfl (by kernel_rfl)) rfl ?_
      rw [← HQ.out, HE.out]
      exact wrp_zero (nx_below H.out (by rw [HPR.out.1]; exact HB6.out.trans ((four_setR hR6 _ _ _ _).2.mono (by have := HPR.out; omega)))) HS.out
    | true =>
      have hrg : 1 ≤ (q : Int) ∧ (q : Int) ≤ 9007199254740992 ∧ 0 ≤ t ∧ t ≤ 9007199254740992 ∧ 0 ≤ c ∧ c ≤ 9007199254740992 := by
        unfold rgt at hg
        simp only [Bool.and_eq_true, decide_eq_true_eq] at hg
        omega
      obtain ⟨t', ht'⟩ : ∃ t', t.toNat = t' := ⟨_, rfl⟩
      obtain ⟨c', hc'⟩ : ∃ c', c.toNat = c' := ⟨_, rfl⟩
      have et : t = (t' : Int) := by omega
      have ec : c = (c' : Int) := by omega
      obtain ⟨r, hrr⟩ : ∃ r : Rn, (⟨q, t', c', l⟩ : Rn) = r := ⟨_, rfl⟩
      have hright : r.right = true := by
        rw [← hrr]
        refine (right_iff _).2 ?_
        show 1 ≤ q ∧ q ≤ 9007199254740992 ∧ t' ≤ 9007199254740992 ∧ c' ≤ 9007199254740992
        omega
      have hbo := bytes_ok r hright A n k w5 (by rw [← hrr]; exact HRL5.out) HN.out HT5.out
      have HBO : Hid (Calls Tryd.prog 7 #[.agg #[.int .i64 (q : Int), .int .i64 t, .int .i64 c, .slice A n k]] w5 fun e w' => ∃ v, e = .returned (.tuple #[v, .int .i64 0]) ∧ Put w5.heap.size w5 r.bytes (.returned v) w') := by
        have h1 := hbo
        rw [← hrr] at h1
        rw [et, ec, ← hrr]
        exact h1
      have HWR := Lib.hid (show wrA S t c l = if (wfA (nmR (q % 2)) r.bytes S 4).1 ≠ 0 then ((Rn.zero, (wfA (nmR (q % 2)) r.bytes S 4).1), (wfA (nmR (q % 2)) r.bytes S 4).2) else ((r, 0), (wfA (nmR (q % 2)) r.bytes S 4).2) by
        unfold wrA
        rw [HM.out]
        simp only
        rw [if_neg (by simp), HQM.out, if_neg (by rw [hg]; simp), ht', hc', hrr])
      have HRV := Lib.hid (show r.s = q ∧ (r.t : Int) = t ∧ (r.c : Int) = c ∧ r.l = l by rw [← hrr]; exact ⟨rfl, et.symm, ec.symm, rfl⟩)
      have HFN := Lib.hid (fun W => filename_any q W)
      clear hg hrg ht' hc' et ec hrr hright hbo
      go_wp2_with fail
      refine HBO.out.mono ?_
      rintro e w6 ⟨v6, rfl, v6', hv6, ho6, hb6⟩
      injection hv6 with hv6
      subst hv6
      obtain ⟨LB, HLB⟩ : ∃ L, Hid (r.bytes = L) := ⟨_, rfl⟩
      rw [HLB.out] at ho6 HWR
      obtain ⟨mb, HMB⟩ : ∃ m, Hid (LB.length = m) := ⟨_, rfl⟩
      obtain ⟨A6, c6, hv, hc6, _⟩ := own_shape ho6
      rw [HMB.out] at hv hc6
      subst hv
      have hrd6 : Rd w6 w6.heap.size A6 mb LB := Rd.own (by rw [HMB.out] at ho6; exact ho6)
      have HNB6 := Lib.hid (show 0 < mb → ∀ a, A6 = some a → ¬ foot D M s.fs a.block from fun _ a ha hk => by
        have h1 := H.out.foot_lt hk
        subst ha
        have h2 := (ho6.lt a.block rfl).1
        have := HB5.out.size
        omega)
      have HB6 := Lib.hid (HB5.out.trans (hb6.mono (by have := HPR.out; have := HS5.out; omega)))
      have hP6 := (hb6.block P (by have := HPR.out; have := HS5.out; omega)).trans HP5.out
      have hR6 := (hb6.block R HS5.out).trans HR5.out
      have HP6 := Lib.hid hP6
      have HR6 := Lib.hid hR6
      have HD6 := Lib.hid (H.out.no (Fr.of_below (by rw [HPR.out.1]; exact HB6.out)))
      have hwf := writefile_any HD6.out ⟨(nmR (q % 2)).toArray⟩ (nmR_size _) A6 mb c6 LB hrd6 HNB6.out
      rw [HS.out] at hwf
      have HWF : Hid (Calls Tryd.prog 28 #[.pointer (some ⟨D, 0, none⟩), .string ⟨(nmR (q % 2)).toArray⟩, .slice A6 mb c6] w6 (Abs D M w6 s (wfA (nmR (q % 2)) LB S 4))) := hwf
      obtain ⟨x, S', hx⟩ : ∃ x S', wfA (nmR (q % 2)) LB S 4 = (x, S') := ⟨_, _, rfl⟩
      rw [hx] at HWF HWR
      clear hx ho6 hb6 hrd6 hwf hP6 hR6 c0 c1 c2 c3 hc6
      have c0 : w6.cell? ⟨P, 0, none⟩ = some (.int .i64 (q : Int)) := by unfold World.cell?; rw [HP6.out]; rfl
      go_wp2_with fail
      refine (HFN.out _).mono ?_
      rintro e w7 ⟨rfl, rfl⟩
      go_wp2_with fail
      refine HWF.out.mono ?_
      rintro e w7 ⟨s7, rfl, hN7, hab7⟩
      simp only
      have hFP : ∀ j, P ≤ j → ¬ foot D M s.fs j := fun j hj hk => by have := H.out.foot_lt hk; have := HPR.out; omega
      have hP7 := (hN7.2.1.block P (Array.getElem?_eq_some_iff.1 HP6.out).1 (hFP P (Nat.le_refl _))).trans HP6.out
      have hR7 := (hN7.2.1.block R (Array.getElem?_eq_some_iff.1 HR6.out).1 (hFP R (by have := HPR.out; omega))).trans HR6.out
      have HN7 := Lib.hid (show Nx D M w s w7 s7 from (nx_below H.out (by rw [HPR.out.1]; exact HB6.out)).trans hN7)
      have HA7 := Lib.hid hab7
      have HRF := Lib.hid (show (¬ foot D M s7.fs P) ∧ ¬ foot D M s7.fs R from ⟨fun hk => by
        rcases hN7.2.2 P hk with e | e
        · exact hFP P (Nat.le_refl _) e
        · have := (Array.getElem?_eq_some_iff.1 HP6.out).1; omega, fun hk => by
        rcases hN7.2.2 R hk with e | e
        · exact hFP R (by have := HPR.out; omega) e
        · have := (Array.getElem?_eq_some_iff.1 HR6.out).1; omega⟩)
      have HRL7 := Lib.hid (show Rd w7 w7.heap.size A n l from rd_offR HN7.out.2.1 HR.out (fun h0 a ha => HA.out h0 a ha))
      have HP7 := Lib.hid hP7
      have HR7 := Lib.hid hR7
      clear hN7 hab7 hFP c0
      by_cases h0 : x = 0
      · subst h0
        have HE := Lib.hid (show wrA S t c l = ((r, 0), S') by rw [HWR.out]; simp)
        have c0 : w7.cell? ⟨P, 0, none⟩ = some (.int .i64 (q : Int)) := by unfold World.cell?; rw [hP7]; rfl
        have c1 : w7.cell? ⟨P, 1, none⟩ = some (.int .i64 t) := by unfold World.cell?; rw [hP7]; rfl
        have c2 : w7.cell? ⟨P, 2, none⟩ = some (.int .i64 c) := by unfold World.cell?; rw [hP7]; rfl
        have c3 : w7.cell? ⟨P, 3, none⟩ = some (.slice A n k) := by unfold World.cell?; rw [hP7]; rfl
        have y3 : w7.frozen? ⟨P, 3, none⟩ = false := by unfold World.frozen?; rw [hP7]; rfl
        have HO := Lib.hid (World.ownsRow_nil w7 w7.heap.size 5 1)
        clear hP7 hR7
        go_upto_region 12 with (at_builtin; (refine wpList_append_rd _ rfl (.const (.slice none 0 0)) (.tmp 45) rfl w7.heap.size w7.heap.size _ [] rfl HO.out _ _ _ l rfl HRL7.out (by simp; have := HN.out; omega) (by simp) ?_; intro v8 w8 hown8 hgrow8; have hown9 : w8.ownsRow w7.heap.size 5 1 v8 l.length (bvs l) := hown8; have hb8 : Below w7.heap.size w7 w8 := (Below.refl _ _).grown hgrow8 (Nat.le_refl _) (fun g hg => (HO.out.lt g hg).1); obtain ⟨nl, HNL⟩ : ∃ nl, Hid (l.length = nl) := ⟨_, rfl⟩; rw [HNL.out] at hown9; obtain ⟨A8, c8, rfl, _, _⟩ := own_shape hown9; have HO8 := Lib.hid hown9; have HB8 := Lib.hid hb8; have HP8 := Lib.hid ((hb8.block P (Array.getElem?_eq_some_iff.1 HP7.out).1).trans HP7.out); have y3 : w8.frozen? ⟨P, 3, none⟩ = false := (by unfold World.frozen?; rw [HP8.out]; rfl); have c3 : w8.cell? ⟨P, 3, none⟩ = some (.slice A n k) := (by unfold World.cell?; rw [HP8.out]; rfl); clear hown8 hgrow8 hown9 hb8))
        have hP9 := heap_cells_set w8 P 3 _ _ (.slice A8 nl c8) HP8.out
        have hf9 := Fr.setCell w8 ⟨P, 3, none⟩ (.slice A8 nl c8) (F := fun i => i = P) rfl
        obtain ⟨w9, hw9⟩ : ∃ u, w8.setCell ⟨P, 3, none⟩ (.slice A8 nl c8) = u := ⟨_, rfl⟩
        rw [hw9] at hP9 hf9 ⊢
        have hP9' : w9.heap[P]? = some (.cells #[.int .i64 (q : Int), .int .i64 t, .int .i64 c, .slice A8 nl c8] 24 (0, 0)) := hP9
        have HF9 := Lib.hid hf9
        have HP9 := Lib.hid hP9'
        clear hw9 hf9 hP9 c0 c1 c2 c3 y3
        have c0 : w9.cell? ⟨P, 0, none⟩ = some (.int .i64 (q : Int)) := by unfold World.cell?; rw [HP9.out]; rfl
        have c1 : w9.cell? ⟨P, 1, none⟩ = some (.int .i64 t) := by unfold World.cell?; rw [HP9.out]; rfl
        have c2 : w9.cell? ⟨P, 2, none⟩ = some (.int .i64 c) := by unfold World.cell?; rw [HP9.out]; rfl
        have c3 : w9.cell? ⟨P, 3, none⟩ = some (.slice A8 nl c8) := by unfold World.cell?; rw [HP9.out]; rfl
        have hR8 := (HB8.out.block R (Array.getElem?_eq_some_iff.1 HR7.out).1).trans HR7.out
        have hR9 := (HF9.out.block R (Array.getElem?_eq_some_iff.1 hR8).1 (fun e => by have e : R = P := e; have := HPR.out; omega)).trans hR8
        have p0 : w9.cell? ⟨R, 0, none⟩ = some (.int .i64 0) := by unfold World.cell?; rw [hR9]; rfl
        have p1 : w9.cell? ⟨R, 1, none⟩ = some (.int .i64 0) := by unfold World.cell?; rw [hR9]; rfl
        have p2 : w9.cell? ⟨R, 2, none⟩ = some (.int .i64 0) := by unfold World.cell?; rw [hR9]; rfl
        have p3 : w9.cell? ⟨R, 3, none⟩ = some (.slice none 0 0) := by unfold World.cell?; rw [hR9]; rfl
        have z0 : w9.frozen? ⟨R, 0, none⟩ = false := by unfold World.frozen?; rw [hR9]; rfl
        have z1 : w9.frozen? ⟨R, 1, none⟩ = false := by unfold World.frozen?; rw [hR9]; rfl
        have z2 : w9.frozen? ⟨R, 2, none⟩ = false := by unfold World.frozen?; rw [hR9]; rfl
        have z3 : w9.frozen? ⟨R, 3, none⟩ = false := by unfold World.frozen?; rw [hR9]; rfl
        clear hP9' hR8
        go_wp2_with fail
        refine bodyPost_ret (results_cell_tmp_row (p := 4) rfl _ _ R 24 #[.int .i64 (q : Int), .int .i64 t, .int .i64 c, .slice A8 nl c8] (0, 0) _ rfl (four_setR hR9 _ _ _ _).1 Tryd.underlying24 rfl (by kernel_rfl)) rfl ?_
        rw [← HQ.out, HE.out]
        have hz : R < w7.heap.size := (Array.getElem?_eq_some_iff.1 HR7.out).1
        have hrd8 : Rd w8 w8.heap.size A8 nl l := Rd.own HO8.out
        have hoff : ∀ a, A8 = some a → w7.heap.size ≤ a.block := fun a ha => by
          have h1 := HO8.out
          subst ha
          exact (h1.lt a.block rfl).1
        have hf10 := four_setF w9 R (.int .i64 (q : Int)) (.int .i64 t) (.int .i64 c) (.slice A8 nl c8)
        have hrd9 := rd_offR HF9.out hrd8 (fun _ a ha e => by have e : a.block = P := e; have := hoff a ha; have := HPR.out; omega)
        have hrd10 := rd_offR hf10 hrd9 (fun _ a ha e => by have e : a.block = R := e; have := hoff a ha; omega)
        have hN8 := HN7.out.trans (nx_below HN7.out.1 HB8.out)
        have hN9 := nx_set hN8 HPR.out.1 (Nat.le_refl _) HRF.out.1 HF9.out
        have hN10 := nx_set hN9 HPR.out.1 (by have := HPR.out; omega) HRF.out.2 hf10
        refine ⟨s7, A8, nl, c8, ?_, ?_, hN10, HA7.out⟩
        · show _ = Ending.returned (.tuple #[.agg #[.int .i64 (r.s : Int), .int .i64 (r.t : Int), .int .i64 (r.c : Int), .slice A8 nl c8], .int .i64 0])
          rw [HRV.out.1, HRV.out.2.1, HRV.out.2.2.1]
          rfl
        · show Rd _ _ A8 nl r.l
          rw [HRV.out.2.2.2]
          exact hrd10
      · have hb : (x != 0) = true := by rw [bne_iff_ne]; exact h0
        have HE := Lib.hid (show wrA S t c l = ((Rn.zero, x), S') by rw [HWR.out, if_pos h0])
        clear h0
        have p0 : w7.cell? ⟨R, 0, none⟩ = some (.int .i64 0) := by unfold World.cell?; rw [hR7]; rfl
        have p1 : w7.cell? ⟨R, 1, none⟩ = some (.int .i64 0) := by unfold World.cell?; rw [hR7]; rfl
        have p2 : w7.cell? ⟨R, 2, none⟩ = some (.int .i64 0) := by unfold World.cell?; rw [hR7]; rfl
        have p3 : w7.cell? ⟨R, 3, none⟩ = some (.slice none 0 0) := by unfold World.cell?; rw [hR7]; rfl
        have z0 : w7.frozen? ⟨R, 0, none⟩ = false := by unfold World.frozen?; rw [hR7]; rfl
        have z1 : w7.frozen? ⟨R, 1, none⟩ = false := by unfold World.frozen?; rw [hR7]; rfl
        have z2 : w7.frozen? ⟨R, 2, none⟩ = false := by unfold World.frozen?; rw [hR7]; rfl
        have z3 : w7.frozen? ⟨R, 3, none⟩ = false := by unfold World.frozen?; rw [hR7]; rfl
        go_wp2_with fail
        refine bodyPost_ret (results_cell_tmp_row (p := 4) rfl _ _ R 24 #[.int .i64 0, .int .i64 0, .int .i64 0, .slice none 0 0] (0, 0) _ rfl (four_setR hR7 _ _ _ _).1 Tryd.underlying24 rfl (by kernel_rfl)) rfl ?_
        rw [← HQ.out, HE.out]
        exact wrp_zero (nx_set HN7.out HPR.out.1 (by have := HPR.out; omega) HRF.out.2 (four_setF w7 R _ _ _ _)) HA7.out
  · have HE := Lib.hid (show wrA S t c l = ((Rn.zero, er), S) by
      unfold wrA
      rw [HM.out]
      simp only
      rw [if_pos he])
    have heb : (er != 0) = true := by rw [bne_iff_ne]; exact he
    clear he hP4
    have p0 : w4.cell? ⟨R, 0, none⟩ = some (.int .i64 0) := by unfold World.cell?; rw [hR4]; rfl
    have p1 : w4.cell? ⟨R, 1, none⟩ = some (.int .i64 0) := by unfold World.cell?; rw [hR4]; rfl
    have p2 : w4.cell? ⟨R, 2, none⟩ = some (.int .i64 0) := by unfold World.cell?; rw [hR4]; rfl
    have p3 : w4.cell? ⟨R, 3, none⟩ = some (.slice none 0 0) := by unfold World.cell?; rw [hR4]; rfl
    have z0 : w4.frozen? ⟨R, 0, none⟩ = false := by unfold World.frozen?; rw [hR4]; rfl
    have z1 : w4.frozen? ⟨R, 1, none⟩ = false := by unfold World.frozen?; rw [hR4]; rfl
    have z2 : w4.frozen? ⟨R, 2, none⟩ = false := by unfold World.frozen?; rw [hR4]; rfl
    have z3 : w4.frozen? ⟨R, 3, none⟩ = false := by unfold World.frozen?; rw [hR4]; rfl
    go_wp2_with fail
    refine bodyPost_ret (results_cell_tmp_row (p := 4) rfl _ _ R 24 #[.int .i64 0, .int .i64 0, .int .i64 0, .slice none 0 0] (0, 0) _ rfl (four_setR hR4 _ _ _ _).1 Tryd.underlying24 rfl (by kernel_rfl)) rfl ?_
    rw [← HQ.out, HE.out]
    exact wrp_zero (nx_below H.out ((HF4.out.noBelow).trans ((four_setR hR4 _ _ _ _).2.mono (by have := HPR.out; omega)))) HS.out
end Go.Proofs.YthmphbfhofigoaaDoor
namespace Go.Proofs.YthmphbfhofigoaaDoor
open Go.RowKit Go.Maps

theorem small_bytes (s t c : Nat) (hs : s < 128) (ht : t < 128) (hc : c < 128) (L : List UInt8) (h : mgc ++ [UInt8.ofNat s] ++ [UInt8.ofNat t] ++ [UInt8.ofNat c] ++ ([UInt8.ofNat 0] ++ []) = L) (b : List UInt8) (hb : L ++ be4 (crc L) = b) : Rn.bytes ⟨s, t, c, []⟩ = b := by
  unfold Rn.bytes Rn.body
  simp only [List.length_nil]
  rw [varint_small hs, varint_small ht, varint_small hc, varint_small (show 0 < 128 by omega), h, hb]
/-- The three roots. -/
def r1 : Rn := ⟨1, 5, 2, []⟩
def r2 : Rn := ⟨2, 6, 2, []⟩
def r3 : Rn := ⟨2, 7, 2, []⟩
def b1 : List UInt8 := [72, 83, 82, 49, 1, 5, 2, 0, 220, 33, 10, 221]
def b2 : List UInt8 := [72, 83, 82, 49, 2, 6, 2, 0, 204, 210, 27, 106]
def b3 : List UInt8 := [72, 83, 82, 49, 2, 7, 2, 0, 205, 16, 113, 93]
theorem r1_bytes : r1.bytes = b1 := small_bytes 1 5 2 (by omega) (by omega) (by omega) [72, 83, 82, 49, 1, 5, 2, 0] (by decide +kernel) _ (by decide +kernel)
theorem r2_bytes : r2.bytes = b2 := small_bytes 2 6 2 (by omega) (by omega) (by omega) [72, 83, 82, 49, 2, 6, 2, 0] (by decide +kernel) _ (by decide +kernel)
theorem r3_bytes : r3.bytes = b3 := small_bytes 2 7 2 (by omega) (by omega) (by omega) [72, 83, 82, 49, 2, 7, 2, 0] (by decide +kernel) _ (by decide +kernel)
theorem b1_prs : prs b1 = (r1, 0) := by rw [← r1_bytes]; exact prs_bytes r1 (by decide) (by decide)
theorem b2_prs : prs b2 = (r2, 0) := by rw [← r2_bytes]; exact prs_bytes r2 (by decide) (by decide)
theorem b3_prs : prs b3 = (r3, 0) := by rw [← r3_bytes]; exact prs_bytes r3 (by decide) (by decide)
def b2x : List UInt8 := [72, 83, 82, 49, 2, 6, 2, 0, 204, 210, 27, 106, 120]
theorem b2x_prs : (prs b2x).2 ≠ 0 := by
  have h : (unS b2x).2 = 12 := by decide +kernel
  unfold prs
  rw [if_pos (by rw [h]; decide), h]
  decide
/-- The names, written out. -/
theorem nmR0 : nmR 0 = [114, 111, 111, 116, 48] := by decide +kernel
theorem nmR1 : nmR 1 = [114, 111, 111, 116, 49] := by decide +kernel
/-- The disks of the examples. -/
def S0 : Ab := ⟨false, false, 0, 1000, []⟩
def S1 : Ab := ⟨false, false, 0, 1000, [⟨[114, 111, 111, 116, 49], b1, 12⟩]⟩
def S2 : Ab := ⟨false, false, 0, 1000, [⟨[114, 111, 111, 116, 48], b2, 12⟩, ⟨[114, 111, 111, 116, 49], b1, 12⟩]⟩
def S3 : Ab := ⟨false, false, 0, 1000, [⟨[114, 111, 111, 116, 48], b2x, 12⟩, ⟨[114, 111, 111, 116, 49], b1, 12⟩]⟩
def S4 : Ab := ⟨false, false, 0, 1000, [⟨[114, 111, 111, 116, 48], b3, 12⟩, ⟨[114, 111, 111, 116, 49], b1, 12⟩]⟩
/-- What a file tells. -/
theorem rfA_none {S : Ab} {d : Nat} (h : S.err (nmR d) = 13) : rfA S d = (Rn.zero, 0) := by unfold rfA; rw [if_pos h]
theorem rfA_root {S : Ab} {d : Nat} {b : List UInt8} {r : Rn} (h : S.err (nmR d) = 0) (hb : (aold (nmR d) S.fs).bs = b) (hp : prs b = (r, 0)) (hr : r.s % 2 = d) : rfA S d = (r, 0) := by
  unfold rfA
  rw [if_neg (by rw [h]; decide), if_neg (by rw [h]; decide), hb, hp]
  simp only
  rw [if_neg (by rw [hr]; simp)]
theorem rfA_spoilt {S : Ab} {d : Nat} {b : List UInt8} (h : S.err (nmR d) = 0) (hb : (aold (nmR d) S.fs).bs = b) (hp : (prs b).2 ≠ 0) : rfA S d = (Rn.zero, 0) := by
  unfold rfA
  rw [if_neg (by rw [h]; decide), if_neg (by rw [h]; decide), hb, if_pos (Or.inl hp)]
theorem rdA_both {S : Ab} {x y : Rn} (h0 : rfA S 0 = (x, 0)) (h1 : rfA S 1 = (y, 0)) : rdA S = (pickR (pickR Rn.zero x) y, decide (0 < (pickR (pickR Rn.zero x) y).s), 0) := by
  unfold rdA
  rw [if_neg (by rw [h0]; simp), if_neg (by rw [h1]; simp)]
  show (pickR (pickR Rn.zero (rfA S 0).1) (rfA S 1).1, decide (0 < (pickR (pickR Rn.zero (rfA S 0).1) (rfA S 1).1).s), 0) = _
  rw [h0, h1]
theorem S0_rd : rdA S0 = (Rn.zero, false, 0) := rdA_both (rfA_none (by decide +kernel)) (rfA_none (by decide +kernel))
theorem S1_rd : rdA S1 = (r1, true, 0) := rdA_both (rfA_none (by decide +kernel)) (rfA_root (by decide +kernel) (b := b1) (by decide +kernel) b1_prs (by decide))
theorem S2_rd : rdA S2 = (r2, true, 0) := rdA_both (rfA_root (by decide +kernel) (b := b2) (by decide +kernel) b2_prs (by decide)) (rfA_root (by decide +kernel) (b := b1) (by decide +kernel) b1_prs (by decide))
theorem S3_rd : rdA S3 = (r1, true, 0) := rdA_both (rfA_spoilt (by decide +kernel) (b := b2x) (by decide +kernel) b2x_prs) (rfA_root (by decide +kernel) (b := b1) (by decide +kernel) b1_prs (by decide))
theorem S4_rd : rdA S4 = (r3, true, 0) := rdA_both (rfA_root (by decide +kernel) (b := b3) (by decide +kernel) b3_prs (by decide)) (rfA_root (by decide +kernel) (b := b1) (by decide +kernel) b1_prs (by decide))
/-- Write, where it goes well. -/
theorem wrA_well {S S' : Ab} {m r : Rn} {ok : Bool} {t : Nat} {b : List UInt8} (hr : rdA S = (m, ok, 0)) (hm : m.s + 1 = r.s) (hs : 1 ≤ r.s ∧ r.s ≤ 100) (ht : t ≤ 100) (he : r = ⟨r.s, t, 2, []⟩) (hb : r.bytes = b) (hw : wfA (nmR (r.s % 2)) b S 4 = (0, S')) : wrA S (t : Int) 2 [] = ((r, 0), S') := by
  obtain ⟨q, hq⟩ : ∃ q, r.s = q := ⟨_, rfl⟩
  rw [hq] at he hm hs hw
  subst he
  unfold wrA
  rw [hr]
  simp only [hm]
  have hg : rgt (q : Int) (t : Int) 2 = true := by
    unfold rgt
    simp only [Bool.and_eq_true, decide_eq_true_eq]
    omega
  rw [if_neg (by simp), hg, if_neg (by simp)]
  simp only [Int.toNat_natCast, show (2 : Int).toNat = 2 from rfl]
  rw [hb, hw]
  simp
theorem S0_wr : wrA S0 5 2 [] = ((r1, 0), S1) := wrA_well (t := 5) S0_rd rfl (by decide) (by decide) rfl r1_bytes (by rfl)
theorem S1_wr : wrA S1 6 2 [] = ((r2, 0), S2) := wrA_well (t := 6) S1_rd rfl (by decide) (by decide) rfl r2_bytes (by rfl)
theorem S2_ap : S2.append [114, 111, 111, 116, 48] [120] = (0, S3) := by rfl
theorem S3_wr : wrA S3 7 2 [] = ((r3, 0), S4) := wrA_well (t := 7) S3_rd rfl (by decide) (by decide) rfl r3_bytes (by rfl)
end Go.Proofs.YthmphbfhofigoaaDoor
namespace Go.Proofs.YthmphbfhofigoaaDoor
open Go.RowKit Go.Maps

theorem lon_lens {S : Ab} {s : St} (ha : s.ab = S) (hl : ∀ f ∈ S.fs, f.bs.length ≤ 20000) : ∀ f ∈ s.fs, f.bs.length ≤ 20000 := by
  intro f hf
  subst ha
  exact hl f.ab (List.mem_map.2 ⟨f, hf, rfl⟩)
set_option maxHeartbeats 8000000 in
set_option maxRecDepth 100000 in
theorem reads_any {w0 w : World} {D M : Nat} {S : Ab} (h : Lon w0 D M S w) (ht : Tab w0) (hl : ∀ f ∈ S.fs, f.bs.length ≤ 20000) {m : Rn} {ok : Bool} (hr : rdA S = (m, ok, 0)) (a b : Nat) (hok : ok = decide (0 < a)) (hms : m.s = a) (hmt : m.t = b) :
    Calls Tryd.prog 16 #[.pointer (some ⟨D, 0, none⟩), .int .i64 (a : Int), .int .i64 (b : Int)] w fun e w' => e = .returned (.bool true) ∧ Lon w0 D M S w' := by
  have HK := Lib.hid (fun w' (hf : Fr No w w') => h.no hf)
  obtain ⟨s, hd, ha, hF, hb⟩ := h
  have hrd := read_any hd (ht.keep hb ht.pos) (lon_lens ha hl)
  rw [ha, hr] at hrd
  have HR := Lib.hid hrd
  have HOK := Lib.hid hok
  subst hms hmt
  clear hrd hd ha hF hb ht hl hr hok
  go_enter Tryd.func16, Tryd.ntmps16
  go_wp2_with fail
  refine HR.out.mono ?_
  rintro e w1 ⟨A1, n1, c1, rfl, hr1, hb1⟩
  simp only
  have hfx := Fr.alloc No w1 (.cells #[.int .i64 (m.s : Int), .int .i64 (m.t : Int), .int .i64 (m.c : Int), .slice A1 n1 c1] 24)
  have hgx := heap_alloc_new w1 (.cells #[.int .i64 (m.s : Int), .int .i64 (m.t : Int), .int .i64 (m.c : Int), .slice A1 n1 c1] 24)
  have HF1 := Lib.hid (show Fr No w w1 from Fr.of_below hb1)
  clear hr1 hb1
  go_upto_region 2 with fail
  obtain ⟨G, hG⟩ : ∃ G, w1.heap.size = G := ⟨_, rfl⟩
  obtain ⟨w2, hw2⟩ : ∃ u, w1.alloc (.cells #[.int .i64 (m.s : Int), .int .i64 (m.t : Int), .int .i64 (m.c : Int), .slice A1 n1 c1] 24) = u := ⟨_, rfl⟩
  rw [hw2] at hfx hgx ⊢
  rw [hG] at hgx ⊢
  have HF2 := Lib.hid (HF1.out.no_trans hfx)
  have u0 : w2.cell? ⟨G, 0, none⟩ = some (.int .i64 (m.s : Int)) := by unfold World.cell?; rw [hgx]; rfl
  have u1 : w2.cell? ⟨G, 1, none⟩ = some (.int .i64 (m.t : Int)) := by unfold World.cell?; rw [hgx]; rfl
  clear hw2 hG hfx hgx
  have hx : ok = decide (0 < m.s) := HOK.out
  go_wp2_with fail
  go_ret
  exact ⟨rfl, HK.out _ HF2.out⟩
set_option maxHeartbeats 8000000 in
set_option maxRecDepth 100000 in
theorem writes_any {w0 w : World} {D M : Nat} {S S' : Ab} (h : Lon w0 D M S w) (ht : Tab w0) (hl : ∀ f ∈ S.fs, f.bs.length ≤ 20000) (hl' : ∀ f ∈ S'.fs, f.bs.length ≤ 20000) {r m : Rn} (t q : Nat) (hw : wrA S (t : Int) 2 [] = ((r, 0), S')) (hrs : r.s = q) (hrt : r.t = t) (hrc : r.c = 2)
    (hr : rdA S' = (m, true, 0)) (hms : m.s = q) (hmt : m.t = t) (hq : 0 < q) :
    Calls Tryd.prog 17 #[.pointer (some ⟨D, 0, none⟩), .int .i64 (t : Int), .int .i64 (q : Int)] w fun e w' => e = .returned (.bool true) ∧ Lon w0 D M S' w' := by
  obtain ⟨s, hd, ha, hF, hb⟩ := h
  have hwr := write_any hd (ht.keep hb ht.pos) (lon_lens ha hl) 99 (t : Int) 2 none 0 0 [] Rd.nil (by omega) (fun h _ _ => absurd h (by omega))
  rw [ha, hw] at hwr
  have HW := Lib.hid hwr
  have HC := Lib.hid (fun W s' (hN : Nx D M w s W s') (ha : s'.ab = S') => Lon.call hF hb hN ha)
  have HRR := Lib.hid (fun W (hL : Lon w0 D M S' W) => reads_any hL ht hl' hr q t (by simp [hq]) hms hmt)
  have HV := Lib.hid (And.intro hrs (And.intro hrt hrc))
  clear hwr hd ha hF hb ht hl hl' hr hw hms hmt hq hrs hrt hrc
  go_enter Tryd.func17, Tryd.ntmps17
  go_wp2_with fail
  refine HW.out.mono ?_
  rintro e w1 ⟨s', A1, n1, c1, rfl, hr1, hN, ha⟩
  simp only
  have HL1 := Lib.hid (HC.out w1 s' hN ha)
  rw [HV.out.1, HV.out.2.1, HV.out.2.2]
  have hfx := Fr.alloc No w1 (.cells #[.int .i64 (q : Int), .int .i64 (t : Int), .int .i64 ((2 : Nat) : Int), .slice A1 n1 c1] 24)
  have hgx := heap_alloc_new w1 (.cells #[.int .i64 (q : Int), .int .i64 (t : Int), .int .i64 ((2 : Nat) : Int), .slice A1 n1 c1] 24)
  clear hr1 hN ha
  go_upto_region 2 with fail
  obtain ⟨G, hG⟩ : ∃ G, w1.heap.size = G := ⟨_, rfl⟩
  obtain ⟨w2, hw2⟩ : ∃ u, w1.alloc (.cells #[.int .i64 (q : Int), .int .i64 (t : Int), .int .i64 2, .slice A1 n1 c1] 24) = u := ⟨_, rfl⟩
  first | rw [hw2] at hfx hgx ⊢ | (rw [show ((2 : Nat) : Int) = 2 from rfl, hw2] at hfx hgx; rw [hw2])
  rw [hG] at hgx ⊢
  have HL2 := Lib.hid (HL1.out.no hfx)
  have u0 : w2.cell? ⟨G, 0, none⟩ = some (.int .i64 (q : Int)) := by unfold World.cell?; rw [hgx]; rfl
  have u1 : w2.cell? ⟨G, 1, none⟩ = some (.int .i64 (t : Int)) := by unfold World.cell?; rw [hgx]; rfl
  have u2 : w2.cell? ⟨G, 2, none⟩ = some (.int .i64 2) := by unfold World.cell?; rw [hgx]; rfl
  clear hw2 hG hfx hgx
  go_wp2_with fail
  refine (HRR.out _ HL2.out).mono ?_
  rintro e w3 ⟨rfl, hL3⟩
  simp only
  have HL3 := Lib.hid hL3
  clear hL3
  go_wp2_with fail
  go_ret
  exact ⟨rfl, HL3.out⟩
end Go.Proofs.YthmphbfhofigoaaDoor
namespace Go.Proofs.YthmphbfhofigoaaDoor
open Go.RowKit Go.Maps

theorem own_texts (w : World) (xs : List (List UInt8)) (n : Nat) (hn : xs.length = n) (h : n ≤ 1000) (cs : Array Value) (hcs : cs.toList = svs xs) : (w.alloc (.cells cs 9)).ownsRow w.heap.size 9 1 (.slice (some ⟨w.heap.size, 0, none⟩) n n) n (svs xs) := by
  have hl : (svs xs).length = n := by rw [svs_length, hn]
  refine ⟨by omega, .inr ⟨w.heap.size, n, cs, rfl, Nat.le_refl _, heap_alloc_new w _, Nat.le_refl _, by unfold maxLen; omega, ?_, ?_⟩⟩
  · rw [← Array.length_toList, hcs]; omega
  · rw [hcs, List.take_of_length_le (by omega)]
/-- What List tells, held against a row of texts written out. -/
theorem same_lit {w : World} {B n : Nat} {A : Option Addr} {c : Nat} {xs : List (List UInt8)} (h : w.ownsRow B 9 1 (.slice A n c) n (svs xs)) (hn : xs.length = n) (h1 : n ≤ 1000) (cs : Array Value) (hcs : cs.toList = svs xs) :
    Calls Tryd.prog 18 #[.slice A n c, .slice (some ⟨w.heap.size, 0, none⟩) n n] (w.alloc (.cells cs 9)) fun e w' => e = .returned (.bool true) ∧ Fr No w w' := by
  refine (texts_any (h.alloc _) (own_texts w xs n hn h1 cs hcs) h1 h1).mono ?_
  rintro e w' ⟨rfl, hf⟩
  exact ⟨by simp, (Fr.alloc No w _).no_trans hf⟩
theorem lens_of (S : Ab) (h : (S.fs.all fun f => decide (f.bs.length ≤ 20000)) = true) : ∀ f ∈ S.fs, f.bs.length ≤ 20000 := fun f hf => by
  have h1 := List.all_eq_true.1 h f hf
  simpa using h1
theorem S0_l : ∀ f ∈ S0.fs, f.bs.length ≤ 20000 := lens_of S0 (by decide +kernel)
theorem S1_l : ∀ f ∈ S1.fs, f.bs.length ≤ 20000 := lens_of S1 (by decide +kernel)
theorem S2_l : ∀ f ∈ S2.fs, f.bs.length ≤ 20000 := lens_of S2 (by decide +kernel)
theorem S3_l : ∀ f ∈ S3.fs, f.bs.length ≤ 20000 := lens_of S3 (by decide +kernel)
theorem S4_l : ∀ f ∈ S4.fs, f.bs.length ≤ 20000 := lens_of S4 (by decide +kernel)
theorem sz5 : (⟨#[114, 111, 111, 116, 48]⟩ : ByteArray).size ≤ maxLen := by
  have e : (⟨#[114, 111, 111, 116, 48]⟩ : ByteArray).size = 5 := rfl
  unfold maxLen
  omega
set_option maxHeartbeats 8000000 in
set_option maxRecDepth 100000 in
theorem awake_any (w : World) (ht : Tab w) : Calls Tryd.prog 5 #[] w fun e w' => e = .returned (.bool true) ∧ Below w.heap.size w w' := by
  have HT := Lib.hid ht
  have hnew := lon_new 1000 w (by omega)
  obtain ⟨D, HDD⟩ : ∃ D, Hid (w.heap.size + 1 = D) := ⟨_, rfl⟩
  obtain ⟨M, HMM⟩ : ∃ M, Hid (w.heap.size = M) := ⟨_, rfl⟩
  rw [HDD.out, HMM.out] at hnew
  have K1 := Lib.hid (fun W (h : Lon w D M S0 W) => reads_any h HT.out S0_l S0_rd 0 0 (by decide) rfl rfl)
  have K2 := Lib.hid (fun W (h : Lon w D M S0 W) => writes_any h HT.out S0_l S1_l 5 1 S0_wr rfl rfl rfl S1_rd rfl rfl (by omega))
  have K3 := Lib.hid (fun W (h : Lon w D M S1 W) => lon_list h (n := 1) rfl)
  have K4 := Lib.hid (fun W (h : Lon w D M S1 W) => writes_any h HT.out S1_l S2_l 6 2 S1_wr rfl rfl rfl S2_rd rfl rfl (by omega))
  have K5 := Lib.hid (fun W (h : Lon w D M S2 W) => lon_list h (n := 2) rfl)
  have K6 := Lib.hid (fun W (h : Lon w D M S3 W) => reads_any h HT.out S3_l S3_rd 1 5 (by decide) rfl rfl)
  have K7 := Lib.hid (fun W (h : Lon w D M S3 W) => writes_any h HT.out S3_l S4_l 7 2 S3_wr rfl rfl rfl S4_rd rfl rfl (by omega))
  have HN := Lib.hid hnew
  have kc := fun (W : World) (C : Array Value) (n c : Nat) => Lib.run_convert_bytes_const (P := Tryd.prog) W 22 5 C n c Tryd.underlying22 Tryd.underlying5
  clear hnew ht
  go_enter Tryd.func5, Tryd.ntmps5
  go_wp2_with fail
  refine HN.out.mono ?_
  rintro e w1 ⟨rfl, hl⟩
  have HL1 := Lib.hid hl
  clear hl
  go_wp2_with fail
  refine (K1.out _ HL1.out).mono ?_
  rintro e w2 ⟨rfl, hl⟩
  simp only
  have HL2 := Lib.hid hl
  clear hl
  go_wp2_with fail
  refine (K2.out _ HL2.out).mono ?_
  rintro e w3 ⟨rfl, hl⟩
  simp only
  have HL3 := Lib.hid hl
  clear hl
  go_wp2_with fail
  refine (K3.out _ HL3.out).mono ?_
  rintro e w4 ⟨A4, c4, rfl, ho, hl⟩
  simp only
  have HL4 := Lib.hid hl
  have HO4 := Lib.hid ho
  clear hl ho
  go_wp2_with fail
  refine (same_lit (xs := [[114, 111, 111, 116, 49]]) HO4.out rfl (by omega) #[.string ⟨#[114, 111, 111, 116, 49]⟩] rfl).mono ?_
  rintro e w5 ⟨rfl, hf⟩
  simp only
  have HL5 := Lib.hid (HL4.out.no hf)
  clear hf
  go_wp2_with fail
  refine (K4.out _ HL5.out).mono ?_
  rintro e w6 ⟨rfl, hl⟩
  simp only
  have HL6 := Lib.hid hl
  clear hl
  go_wp2_with fail
  refine (K5.out _ HL6.out).mono ?_
  rintro e w7 ⟨A7, c7, rfl, ho, hl⟩
  simp only
  have HL7 := Lib.hid hl
  have HO7 := Lib.hid ho
  clear hl ho
  go_wp2_with fail
  refine (same_lit (xs := [[114, 111, 111, 116, 48], [114, 111, 111, 116, 49]]) HO7.out rfl (by omega) #[.string ⟨#[114, 111, 111, 116, 48]⟩, .string ⟨#[114, 111, 111, 116, 49]⟩] rfl).mono ?_
  rintro e w8 ⟨rfl, hf⟩
  simp only
  have HL8 := Lib.hid (HL7.out.no hf)
  clear hf
  go_wp2_with fail
  refine (lon_append (HL8.out.no (Fr.alloc No w8 (.cells #[.int .u8 120] 5 (1, 2)))) ⟨#[114, 111, 111, 116, 48]⟩ sz5 _ 1 1 [120] ((Rd.new w8 [120] #[.int .u8 120] rfl (1, 2)).more (by simp)) S2_ap).mono ?_
  rintro e w9 ⟨rfl, hl⟩
  have HL9 := Lib.hid hl
  clear hl
  go_wp2_with fail
  refine (K6.out _ HL9.out).mono ?_
  rintro e w10 ⟨rfl, hl⟩
  simp only
  have HL10 := Lib.hid hl
  clear hl
  go_wp2_with fail
  refine (K7.out _ HL10.out).mono ?_
  rintro e w11 ⟨rfl, hl⟩
  simp only
  have HL11 := Lib.hid hl
  clear hl
  go_wp2_with fail
  go_ret
  exact ⟨rfl, HL11.out.bel⟩
end Go.Proofs.YthmphbfhofigoaaDoor
namespace Go.Proofs.YthmphbfhofigoaaDoor
open Go.RowKit Go.Maps

theorem bytes_lit_eq (l1 l2 : List UInt8) : ((⟨l1.toArray⟩ : ByteArray).toList == (⟨l2.toArray⟩ : ByteArray).toList) = decide (l1 = l2) := by
  rw [ByteArray.toList_mk, ByteArray.toList_mk]
  by_cases h : l1 = l2
  · subst h; simp
  · rw [decide_eq_false h, beq_eq_false_iff_ne]; exact h
set_option maxRecDepth 100000 in
theorem same_bytes {w : World} {A B : Option Addr} {n m : Nat} {l1 l2 : List UInt8} (c d : Nat) (h1 : Rd w w.heap.size A n l1) (h2 : Rd w w.heap.size B m l2) :
    Calls Tryd.prog 8 #[.slice A n c, .slice B m d] w fun e w' => e = .returned (.bool (decide (l1 = l2))) ∧ w' = w := by
  have s1 := str_rule c h1
  have s2 := str_rule d h2
  have hb := bytes_lit_eq l1 l2
  clear h1 h2
  obtain ⟨x, hx⟩ : ∃ x, (⟨l1.toArray⟩ : ByteArray) = x := ⟨_, rfl⟩
  obtain ⟨y, hy⟩ : ∃ y, (⟨l2.toArray⟩ : ByteArray) = y := ⟨_, rfl⟩
  rw [hx] at s1 hb
  rw [hy] at s2 hb
  have HB := Lib.hid hb
  clear hx hy hb
  go_enter Tryd.func8, Tryd.ntmps8
  go_wp2_with fail
  go_ret
  rw [← HB.out]
  exact ⟨rfl, rfl⟩
/-- Two roots as they stand in memory. -/
def eqR (a1 t1 c1 a2 t2 c2 : Int) (l1 l2 : List UInt8) : Bool := decide (a1 = a2 ∧ t1 = t2 ∧ c1 = c2 ∧ l1 = l2)
set_option maxHeartbeats 4000000 in
set_option maxRecDepth 100000 in
theorem same_root {w : World} {A B : Option Addr} {n m : Nat} {l1 l2 : List UInt8} (a1 t1 c1 a2 t2 c2 : Int) (k j : Nat) (h1 : Rd w w.heap.size A n l1) (h2 : Rd w w.heap.size B m l2) :
    Calls Tryd.prog 9 #[.agg #[.int .i64 a1, .int .i64 t1, .int .i64 c1, .slice A n k], .agg #[.int .i64 a2, .int .i64 t2, .int .i64 c2, .slice B m j]] w fun e w' => e = .returned (.bool (eqR a1 t1 c1 a2 t2 c2 l1 l2)) ∧ Below w.heap.size w w' := by
  have hf1 := Fr.alloc No w (.cells #[.int .i64 a1, .int .i64 t1, .int .i64 c1, .slice A n k] 24)
  have hf2 := Fr.alloc No (w.alloc (.cells #[.int .i64 a1, .int .i64 t1, .int .i64 c1, .slice A n k] 24)) (.cells #[.int .i64 a2, .int .i64 t2, .int .i64 c2, .slice B m j] 24)
  have hb1 : ((w.alloc (.cells #[.int .i64 a1, .int .i64 t1, .int .i64 c1, .slice A n k] 24)).alloc (.cells #[.int .i64 a2, .int .i64 t2, .int .i64 c2, .slice B m j] 24)).heap[w.heap.size]? = some (.cells #[.int .i64 a1, .int .i64 t1, .int .i64 c1, .slice A n k] 24 (0, 0)) :=
    (Below.heap_alloc _ _ _ (by simp)).trans (heap_alloc_new w _)
  have hb2 := heap2R w (.cells #[.int .i64 a1, .int .i64 t1, .int .i64 c1, .slice A n k] 24) (.cells #[.int .i64 a2, .int .i64 t2, .int .i64 c2, .slice B m j] 24)
  have hff := hf1.no_trans hf2
  have h1' := rd_offR hff h1 (fun _ _ _ e => e)
  have h2' := rd_offR hff h2 (fun _ _ _ e => e)
  clear hf1 hf2 h1 h2
  go_enter Tryd.func9, Tryd.ntmps9
  go_upto_region 1 with fail
  obtain ⟨w2, hw2⟩ : ∃ u, (w.alloc (.cells #[.int .i64 a1, .int .i64 t1, .int .i64 c1, .slice A n k] 24)).alloc (.cells #[.int .i64 a2, .int .i64 t2, .int .i64 c2, .slice B m j] 24) = u := ⟨_, rfl⟩
  rw [hw2] at hff hb1 hb2 h1' h2' ⊢
  obtain ⟨P, hP⟩ : ∃ P, w.heap.size = P := ⟨_, rfl⟩
  have HF := Lib.hid (show Below w.heap.size w w2 from hff.noBelow)
  rw [hP] at hb1 hb2 ⊢
  obtain ⟨R, hR⟩ : ∃ R, P + 1 = R := ⟨_, rfl⟩
  rw [hR] at hb2 ⊢
  have u0 : w2.cell? ⟨P, 0, none⟩ = some (.int .i64 a1) := by unfold World.cell?; rw [hb1]; rfl
  have u1 : w2.cell? ⟨P, 1, none⟩ = some (.int .i64 t1) := by unfold World.cell?; rw [hb1]; rfl
  have u2 : w2.cell? ⟨P, 2, none⟩ = some (.int .i64 c1) := by unfold World.cell?; rw [hb1]; rfl
  have u3 : w2.cell? ⟨P, 3, none⟩ = some (.slice A n k) := by unfold World.cell?; rw [hb1]; rfl
  have v0 : w2.cell? ⟨R, 0, none⟩ = some (.int .i64 a2) := by unfold World.cell?; rw [hb2]; rfl
  have v1 : w2.cell? ⟨R, 1, none⟩ = some (.int .i64 t2) := by unfold World.cell?; rw [hb2]; rfl
  have v2 : w2.cell? ⟨R, 2, none⟩ = some (.int .i64 c2) := by unfold World.cell?; rw [hb2]; rfl
  have v3 : w2.cell? ⟨R, 3, none⟩ = some (.slice B m j) := by unfold World.cell?; rw [hb2]; rfl
  have HS := Lib.hid (same_bytes k j h1' h2')
  clear hw2 hP hR hb1 hb2 hff h1' h2'
  by_cases e0 : a1 = a2
  · subst e0
    by_cases e1 : t1 = t2
    · subst e1
      by_cases e2 : c1 = c2
      · subst e2
        have HQ := Lib.hid (show decide (l1 = l2) = eqR a1 t1 c1 a1 t1 c1 l1 l2 by unfold eqR; simp)
        go_wp2_with fail
        refine HS.out.mono ?_
        rintro e w3 ⟨rfl, rfl⟩
        simp only
        rw [HQ.out]
        go_wp2_with fail
        go_ret
        exact ⟨rfl, HF.out⟩
      · have hx : (c1 == c2) = false := by rw [beq_eq_false_iff_ne]; exact e2
        have HQ := Lib.hid (show false = eqR a1 t1 c1 a1 t1 c2 l1 l2 by unfold eqR; simp [e2])
        clear e2
        go_wp2_with fail
        go_ret
        rw [← HQ.out]
        exact ⟨rfl, HF.out⟩
    · have hx : (t1 == t2) = false := by rw [beq_eq_false_iff_ne]; exact e1
      have HQ := Lib.hid (show false = eqR a1 t1 c1 a1 t2 c2 l1 l2 by unfold eqR; simp [e1])
      clear e1
      go_wp2_with fail
      go_ret
      rw [← HQ.out]
      exact ⟨rfl, HF.out⟩
  · have hx : (a1 == a2) = false := by rw [beq_eq_false_iff_ne]; exact e0
    have HQ := Lib.hid (show false = eqR a1 t1 c1 a2 t2 c2 l1 l2 by unfold eqR; simp [e0])
    clear e0
    go_wp2_with fail
    go_ret
    rw [← HQ.out]
    exact ⟨rfl, HF.out⟩
end Go.Proofs.YthmphbfhofigoaaDoor
namespace Go.Proofs.YthmphbfhofigoaaDoor
open Go.RowKit Go.Maps

theorem varint_len : ∀ (k n : Nat), n < 128 ^ (k + 1) → (varint n).length ≤ k + 1
  | 0, n, h => by
    rw [varint_small (by simpa using h)]
    simp
  | k + 1, n, h => by
    by_cases hs : n < 128
    · rw [varint_small hs]; simp
    · rw [varint_big hs, List.length_cons]
      have := varint_len k (n / 128) (by rw [Nat.div_lt_iff_lt_mul (by omega), ← Nat.pow_succ]; exact h)
      omega
theorem varint_len9 {n : Nat} (h : n ≤ top) : (varint n).length ≤ 9 := varint_len 8 n (by unfold top at h; omega)
theorem bytes_len (r : Rn) (h : r.right = true) (hl : r.l.length ≤ 10000) : r.l.length ≤ r.bytes.length ∧ r.bytes.length ≤ r.l.length + 100 := by
  obtain ⟨_, h1, h2, h3⟩ := (right_iff r).1 h
  have e1 := varint_len9 h1
  have e2 := varint_len9 h2
  have e3 := varint_len9 h3
  have e4 := varint_len9 (show r.l.length ≤ top by unfold top; omega)
  have e5 : mgc.length = 4 := rfl
  have e6 : ∀ s, (be4 s).length = 4 := fun _ => rfl
  unfold Rn.bytes Rn.body
  simp only [List.length_append, e5, e6]
  omega
/-- What Bytes answers: the bytes, the error. -/
def byR (a t c : Int) (l : List UInt8) : List UInt8 × Int := if rgt a t c = true then (Rn.bytes ⟨a.toNat, t.toNat, c.toNat, l⟩, 0) else ([], 2)
def Byp (w : World) (r : List UInt8 × Int) (e : Ending) (w' : World) : Prop :=
  ∃ A n c, e = .returned (.tuple #[.slice A n c, .int .i64 r.2]) ∧ n ≤ c ∧ Rd w' w'.heap.size A n r.1 ∧ Below w.heap.size w w'
theorem rgt_nat {a t c : Int} (h : rgt a t c = true) : ∃ x y z : Nat, a = (x : Int) ∧ t = (y : Int) ∧ c = (z : Int) ∧ ∀ l, (⟨x, y, z, l⟩ : Rn).right = true := by
  have hrg : 1 ≤ a ∧ a ≤ 9007199254740992 ∧ 0 ≤ t ∧ t ≤ 9007199254740992 ∧ 0 ≤ c ∧ c ≤ 9007199254740992 := by
    unfold rgt at h
    simp only [Bool.and_eq_true, decide_eq_true_eq] at h
    omega
  refine ⟨a.toNat, t.toNat, c.toNat, by omega, by omega, by omega, fun l => (right_iff _).2 ?_⟩
  show 1 ≤ a.toNat ∧ a.toNat ≤ 9007199254740992 ∧ t.toNat ≤ 9007199254740992 ∧ c.toNat ≤ 9007199254740992
  omega
theorem Bytes_any (a t c : Int) (A : Option Addr) (n k : Nat) (l : List UInt8) (w : World) (h : Rd w w.heap.size A n l) (hn : n ≤ 10000) (ht : Tab w) :
    Calls Tryd.prog 7 #[.agg #[.int .i64 a, .int .i64 t, .int .i64 c, .slice A n k]] w (Byp w (byR a t c l)) := by
  cases hg : rgt a t c with
  | false =>
    refine (bytes_bad a t c A n k w hg).mono ?_
    rintro e w' ⟨rfl, hb⟩
    unfold byR
    rw [if_neg (by rw [hg]; simp)]
    exact ⟨none, 0, 0, rfl, Nat.le_refl _, Rd.nil, hb⟩
  | true =>
    unfold byR
    rw [if_pos hg]
    obtain ⟨x, y, z, rfl, rfl, rfl, hr⟩ := rgt_nat hg
    refine (bytes_ok ⟨x, y, z, l⟩ (hr l) A n k w h hn ht).mono ?_
    rintro e w' ⟨v, rfl, v', hv, ho, hb⟩
    injection hv with hv
    subst hv
    obtain ⟨A1, c1, rfl, h1, _⟩ := own_shape ho
    exact ⟨A1, _, c1, rfl, h1, Rd.own ho, hb⟩
theorem byR_bad {a t c : Int} {l : List UInt8} (h : (byR a t c l).2 ≠ 0) : byR a t c l = ([], 2) := by
  unfold byR at h ⊢
  by_cases hg : rgt a t c = true
  · rw [if_pos hg] at h; exact absurd rfl h
  · rw [if_neg hg]
/-- A right root's bytes are read as that root. -/
theorem byR_prs {a t c : Int} {l : List UInt8} (h : (byR a t c l).2 = 0) (hl : l.length ≤ 10000) : ∃ r : Rn, prs (byR a t c l).1 = (r, 0) ∧ (byR a t c l).1 = r.bytes ∧ r.right = true ∧ (r.s : Int) = a ∧ (r.t : Int) = t ∧ (r.c : Int) = c ∧ r.l = l := by
  unfold byR at h ⊢
  by_cases hg : rgt a t c = true
  · rw [if_pos hg]
    obtain ⟨x, y, z, rfl, rfl, rfl, hr⟩ := rgt_nat hg
    exact ⟨⟨x, y, z, l⟩, prs_bytes _ (hr l) (by show l.length ≤ _; omega), rfl, hr l, rfl, rfl, rfl, rfl⟩
  · rw [if_neg hg] at h; simp at h
theorem byR_len {a t c : Int} {l : List UInt8} (hl : l.length ≤ 10000) : (byR a t c l).1.length ≤ 10100 := by
  by_cases h : (byR a t c l).2 = 0
  · obtain ⟨r, _, e, hr, _, _, _, hl2⟩ := byR_prs h hl
    rw [e]
    have := (bytes_len r hr (by rw [hl2]; exact hl)).2
    rw [hl2] at this
    omega
  · rw [byR_bad h]
    simp
/-- Two right roots are alike where their bytes are. -/
theorem byR_same {a t c a' t' c' : Int} {l l' : List UInt8} (h : (byR a t c l).2 = 0) (h' : (byR a' t' c' l').2 = 0) (hl : l.length ≤ 10000) (hl' : l'.length ≤ 10000) : eqR a t c a' t' c' l l' = decide ((byR a t c l).1 = (byR a' t' c' l').1) := by
  obtain ⟨r, p1, e1, g1, rfl, rfl, rfl, rfl⟩ := byR_prs h hl
  obtain ⟨q, p2, e2, g2, rfl, rfl, rfl, rfl⟩ := byR_prs h' hl'
  rw [e1, e2]
  unfold eqR
  rw [decide_eq_decide]
  constructor
  · rintro ⟨h1, h2, h3, h4⟩
    have : r = q := by
      cases r; cases q
      simp only [Int.natCast_inj] at h1 h2 h3
      simp only at h4
      subst h1 h2 h3 h4
      rfl
    rw [this]
  · intro h
    have := bytes_inj g1 (by omega) g2 (by omega) h
    subst this
    exact ⟨rfl, rfl, rfl, rfl⟩
/-- Bytes that are parsed well are that root's. -/
theorem prs_byR {l : List UInt8} {r : Rn} (h : prs l = (r, 0)) (hl : l.length ≤ 1000) : byR r.s r.t r.c r.l = (l, 0) ∧ r.l.length ≤ 1000 := by
  obtain ⟨h1, h2, h3⟩ := prs_tells l r h
  unfold byR
  rw [if_pos (by rw [rgt_right]; exact h1)]
  refine ⟨by rw [h3]; rfl, ?_⟩
  have h4 : r.l.length ≤ r.bytes.length := by
    unfold Rn.bytes Rn.body
    simp only [List.length_append]
    omega
  rw [← h3] at h4
  omega
end Go.Proofs.YthmphbfhofigoaaDoor
namespace Go.Proofs.YthmphbfhofigoaaDoor
open Go.RowKit Go.Maps

set_option maxHeartbeats 16000000 in
set_option maxRecDepth 100000 in
theorem back_walk {w : World} (ht : Tab w) (a1 t1 c1 a2 t2 c2 : Int) (A B C : Option Addr) (n k m j p q : Nat) (l1 l2 l3 : List UInt8) (h1 : Rd w w.heap.size A n l1) (h2 : Rd w w.heap.size B m l2) (h3 : Rd w w.heap.size C p l3) (hpq : p ≤ q) :
    Calls Tryd.prog 3 #[.agg #[.int .i64 a1, .int .i64 t1, .int .i64 c1, .slice A n k], .agg #[.int .i64 a2, .int .i64 t2, .int .i64 c2, .slice B m j], .slice C p q] w fun e w' => e = .returned (.bool true) ∧ Below w.heap.size w w' := by
  have hf1 := Fr.alloc No w (.cells #[.int .i64 a1, .int .i64 t1, .int .i64 c1, .slice A n k] 24)
  have hf2 := Fr.alloc No (w.alloc (.cells #[.int .i64 a1, .int .i64 t1, .int .i64 c1, .slice A n k] 24)) (.cells #[.int .i64 a2, .int .i64 t2, .int .i64 c2, .slice B m j] 24)
  have hb1 : ((w.alloc (.cells #[.int .i64 a1, .int .i64 t1, .int .i64 c1, .slice A n k] 24)).alloc (.cells #[.int .i64 a2, .int .i64 t2, .int .i64 c2, .slice B m j] 24)).heap[w.heap.size]? = some (.cells #[.int .i64 a1, .int .i64 t1, .int .i64 c1, .slice A n k] 24 (0, 0)) :=
    (Below.heap_alloc _ _ _ (by simp)).trans (heap_alloc_new w _)
  have hb2 := heap2R w (.cells #[.int .i64 a1, .int .i64 t1, .int .i64 c1, .slice A n k] 24) (.cells #[.int .i64 a2, .int .i64 t2, .int .i64 c2, .slice B m j] 24)
  have hff := hf1.no_trans hf2
  have h1' := rd_offR hff h1 (fun _ _ _ e => e)
  have h2' := rd_offR hff h2 (fun _ _ _ e => e)
  have h3' := rd_offR hff h3 (fun _ _ _ e => e)
  have HPQ := Lib.hid hpq
  clear hf1 hf2 h1 h2 h3 hpq
  go_enter Tryd.func3, Tryd.ntmps3
  go_upto_region 1 with fail
  obtain ⟨w2, hw2⟩ : ∃ u, (w.alloc (.cells #[.int .i64 a1, .int .i64 t1, .int .i64 c1, .slice A n k] 24)).alloc (.cells #[.int .i64 a2, .int .i64 t2, .int .i64 c2, .slice B m j] 24) = u := ⟨_, rfl⟩
  rw [hw2] at hff hb1 hb2 h1' h2' h3' ⊢
  obtain ⟨P, hP⟩ : ∃ P, w.heap.size = P := ⟨_, rfl⟩
  have HW2 := Lib.hid (show Below w.heap.size w w2 from hff.noBelow)
  have HT := Lib.hid (fun W (h : Below w2.heap.size w2 W) => (ht.keep HW2.out ht.pos).keep h (by have := ht.pos; have := HW2.out.size; omega))
  rw [hP] at hb1 hb2 ⊢
  obtain ⟨R, hR⟩ : ∃ R, P + 1 = R := ⟨_, rfl⟩
  rw [hR] at hb2 ⊢
  have HP2 : Hid (w2.heap[P]? = some (.cells #[.int .i64 a1, .int .i64 t1, .int .i64 c1, .slice A n k] 24 (0, 0))) := hb1
  have HR2 : Hid (w2.heap[R]? = some (.cells #[.int .i64 a2, .int .i64 t2, .int .i64 c2, .slice B m j] 24 (0, 0))) := hb2
  have HPL := Lib.hid (show P < w2.heap.size ∧ R < w2.heap.size from ⟨(Array.getElem?_eq_some_iff.1 hb1).1, (Array.getElem?_eq_some_iff.1 hb2).1⟩)
  have HD1 := Lib.hid (fun W (h : Below w2.heap.size w2 W) => ((h1'.below h).more h.size : Rd W W.heap.size A n l1))
  have HD2 := Lib.hid (fun W (h : Below w2.heap.size w2 W) => ((h2'.below h).more h.size : Rd W W.heap.size B m l2))
  have HD3 := Lib.hid (fun W (h : Below w2.heap.size w2 W) => ((h3'.below h).more h.size : Rd W W.heap.size C p l3))
  have HLN := Lib.hid (show l1.length = n ∧ l2.length = m ∧ l3.length = p from ⟨h1'.1, h2'.1, h3'.1⟩)
  have HA := Lib.hid (fun W (h : Below w2.heap.size w2 W) => awake_any W (HT.out W h))
  have HXw2 := Lib.hid (Below.refl w2.heap.size w2)
  have HPE := Lib.hid hP
  clear hw2 hP hR hb1 hb2 hff h1' h2' h3' ht
  have u0 : w2.cell? ⟨P, 0, none⟩ = some (.int .i64 a1) := by unfold World.cell?; rw [(HXw2.out.block P HPL.out.1).trans HP2.out]; rfl
  have u1 : w2.cell? ⟨P, 1, none⟩ = some (.int .i64 t1) := by unfold World.cell?; rw [(HXw2.out.block P HPL.out.1).trans HP2.out]; rfl
  have u2 : w2.cell? ⟨P, 2, none⟩ = some (.int .i64 c1) := by unfold World.cell?; rw [(HXw2.out.block P HPL.out.1).trans HP2.out]; rfl
  have u3 : w2.cell? ⟨P, 3, none⟩ = some (.slice A n k) := by unfold World.cell?; rw [(HXw2.out.block P HPL.out.1).trans HP2.out]; rfl
  have v0 : w2.cell? ⟨R, 0, none⟩ = some (.int .i64 a2) := by unfold World.cell?; rw [(HXw2.out.block R HPL.out.2).trans HR2.out]; rfl
  have v1 : w2.cell? ⟨R, 1, none⟩ = some (.int .i64 t2) := by unfold World.cell?; rw [(HXw2.out.block R HPL.out.2).trans HR2.out]; rfl
  have v2 : w2.cell? ⟨R, 2, none⟩ = some (.int .i64 c2) := by unfold World.cell?; rw [(HXw2.out.block R HPL.out.2).trans HR2.out]; rfl
  have v3 : w2.cell? ⟨R, 3, none⟩ = some (.slice B m j) := by unfold World.cell?; rw [(HXw2.out.block R HPL.out.2).trans HR2.out]; rfl
  by_cases g1 : 500 < n
  · clear HLN
    go_wp2_with fail
    refine (HA.out _ HXw2.out).mono ?_
    rintro e wz ⟨rfl, hbz⟩
    have HZ := Lib.hid (HXw2.out.trans (hbz.mono HXw2.out.size))
    clear hbz
    go_wp2_with fail
    go_ret
    exact ⟨rfl, HW2.out.trans (HZ.out.mono HW2.out.size)⟩
  by_cases g2 : 500 < m
  · clear HLN
    go_wp2_with fail
    refine (HA.out _ HXw2.out).mono ?_
    rintro e wz ⟨rfl, hbz⟩
    have HZ := Lib.hid (HXw2.out.trans (hbz.mono HXw2.out.size))
    clear hbz
    go_wp2_with fail
    go_ret
    exact ⟨rfl, HW2.out.trans (HZ.out.mono HW2.out.size)⟩
  by_cases g3 : 1000 < p
  · clear HLN
    go_wp2_with fail
    refine (HA.out _ HXw2.out).mono ?_
    rintro e wz ⟨rfl, hbz⟩
    have HZ := Lib.hid (HXw2.out.trans (hbz.mono HXw2.out.size))
    clear hbz
    go_wp2_with fail
    go_ret
    exact ⟨rfl, HW2.out.trans (HZ.out.mono HW2.out.size)⟩
  have HG := Lib.hid (show n ≤ 500 ∧ m ≤ 500 ∧ p ≤ 1000 by omega)
  have HL1 := Lib.hid (show l1.length ≤ 10000 by have := HLN.out; have := HG.out; omega)
  have HL2 := Lib.hid (show l2.length ≤ 10000 by have := HLN.out; have := HG.out; omega)
  have HL3 := Lib.hid (show l3.length ≤ 1000 by have := HLN.out; have := HG.out; omega)
  have HP3 := Lib.hid (Parse_any l3 C p q w2 (HD3.out w2 HXw2.out) (by omega) HPQ.out (HT.out w2 HXw2.out))
  obtain ⟨z, ez, hz⟩ : ∃ z e, prs l3 = (z, e) := ⟨_, _, rfl⟩
  have HZP := Lib.hid hz
  rw [hz] at HP3
  clear hz
  go_wp2_with fail
  refine HP3.out.mono ?_
  rintro e w3 ⟨A3, n3, c3, rfl, hr3, hb3⟩
  simp only
  have HXw3 := Lib.hid (HXw2.out.trans hb3)
  have hfx := Fr.alloc No w3 (.cells #[.int .i64 (z.s : Int), .int .i64 (z.t : Int), .int .i64 (z.c : Int), .slice A3 n3 c3] 24)
  have hgx := heap_alloc_new w3 (.cells #[.int .i64 (z.s : Int), .int .i64 (z.t : Int), .int .i64 (z.c : Int), .slice A3 n3 c3] 24)
  have hr4 := rd_offR hfx hr3 (fun _ _ _ e => e)
  clear hr3 hb3 u0 u1 u2 u3 v0 v1 v2 v3 g1 g2 g3
  go_upto_region 4 with fail
  obtain ⟨G, hG⟩ : ∃ G, w3.heap.size = G := ⟨_, rfl⟩
  obtain ⟨w4, hw4⟩ : ∃ u, w3.alloc (.cells #[.int .i64 (z.s : Int), .int .i64 (z.t : Int), .int .i64 (z.c : Int), .slice A3 n3 c3] 24) = u := ⟨_, rfl⟩
  rw [hw4] at hfx hgx hr4 ⊢
  rw [hG] at hgx ⊢
  have HXw4 := Lib.hid (HXw3.out.trans (hfx.noBelow.mono HXw3.out.size))
  have HR4 : Hid (Rd w4 w4.heap.size A3 n3 z.l) := hr4
  have HG4 := Lib.hid hgx
  clear hw4 hG hfx hgx hr4
  by_cases hez : ez = 0
  · subst hez
    have HZB := Lib.hid (prs_byR HZP.out HL3.out)
    have y0 : w4.cell? ⟨G, 0, none⟩ = some (.int .i64 (z.s : Int)) := by unfold World.cell?; rw [HG4.out]; rfl
    have y1 : w4.cell? ⟨G, 1, none⟩ = some (.int .i64 (z.t : Int)) := by unfold World.cell?; rw [HG4.out]; rfl
    have y2 : w4.cell? ⟨G, 2, none⟩ = some (.int .i64 (z.c : Int)) := by unfold World.cell?; rw [HG4.out]; rfl
    have y3 : w4.cell? ⟨G, 3, none⟩ = some (.slice A3 n3 c3) := by unfold World.cell?; rw [HG4.out]; rfl
    have HB3 := Lib.hid (Bytes_any (z.s : Int) (z.t : Int) (z.c : Int) A3 n3 c3 z.l w4 HR4.out (by have := HR4.out.1; have := HZB.out.2; omega) (HT.out w4 HXw4.out))
    rw [HZB.out.1] at HB3
    go_wp2_with fail
    refine HB3.out.mono ?_
    rintro e w5 ⟨A5, n5, c5, rfl, hc5, hr5, hb5⟩
    simp only
    have HXw5 := Lib.hid (HXw4.out.trans (hb5.mono HXw4.out.size))
    have HSB3 := Lib.hid (same_bytes c5 q hr5 (HD3.out w5 HXw5.out))
    rw [show decide (l3 = l3) = true by simp] at HSB3
    clear hc5 hr5 hb5 y0 y1 y2 y3
    go_wp2_with fail
    refine HSB3.out.mono ?_
    rintro e w5' ⟨rfl, hww⟩
    obtain rfl : w5 = w5' := hww.symm
    simp only
    have u0 : w5.cell? ⟨P, 0, none⟩ = some (.int .i64 a1) := by unfold World.cell?; rw [(HXw5.out.block P HPL.out.1).trans HP2.out]; rfl
    have u1 : w5.cell? ⟨P, 1, none⟩ = some (.int .i64 t1) := by unfold World.cell?; rw [(HXw5.out.block P HPL.out.1).trans HP2.out]; rfl
    have u2 : w5.cell? ⟨P, 2, none⟩ = some (.int .i64 c1) := by unfold World.cell?; rw [(HXw5.out.block P HPL.out.1).trans HP2.out]; rfl
    have u3 : w5.cell? ⟨P, 3, none⟩ = some (.slice A n k) := by unfold World.cell?; rw [(HXw5.out.block P HPL.out.1).trans HP2.out]; rfl
    have HB1 := Lib.hid (Bytes_any a1 t1 c1 A n k l1 w5 (HD1.out w5 HXw5.out) (by have := HG.out; omega) (HT.out w5 HXw5.out))
    obtain ⟨x1, e1, hy1⟩ : ∃ x e, byR a1 t1 c1 l1 = (x, e) := ⟨_, _, rfl⟩
    have HY1 := Lib.hid hy1
    rw [hy1] at HB1
    clear hy1
    go_wp2_with fail
    refine HB1.out.mono ?_
    rintro e w6 ⟨A8, n8, c8, rfl, hc8, hr8, hb8⟩
    simp only
    have HXw6 := Lib.hid (HXw5.out.trans (hb8.mono HXw5.out.size))
    have HRXw6 : Hid (Rd w6 w6.heap.size A8 n8 x1) := hr8
    have HC8 := Lib.hid hc8
    clear hr8 hb8 hc8 u0 u1 u2 u3
    have v0 : w6.cell? ⟨R, 0, none⟩ = some (.int .i64 a2) := by unfold World.cell?; rw [(HXw6.out.block R HPL.out.2).trans HR2.out]; rfl
    have v1 : w6.cell? ⟨R, 1, none⟩ = some (.int .i64 t2) := by unfold World.cell?; rw [(HXw6.out.block R HPL.out.2).trans HR2.out]; rfl
    have v2 : w6.cell? ⟨R, 2, none⟩ = some (.int .i64 c2) := by unfold World.cell?; rw [(HXw6.out.block R HPL.out.2).trans HR2.out]; rfl
    have v3 : w6.cell? ⟨R, 3, none⟩ = some (.slice B m j) := by unfold World.cell?; rw [(HXw6.out.block R HPL.out.2).trans HR2.out]; rfl
    have HB2 := Lib.hid (Bytes_any a2 t2 c2 B m j l2 w6 (HD2.out w6 HXw6.out) (by have := HG.out; omega) (HT.out w6 HXw6.out))
    obtain ⟨x2, e2, hy2⟩ : ∃ x e, byR a2 t2 c2 l2 = (x, e) := ⟨_, _, rfl⟩
    have HY2 := Lib.hid hy2
    rw [hy2] at HB2
    clear hy2
    go_wp2_with fail
    refine HB2.out.mono ?_
    rintro e w7 ⟨A7, n7, c7, rfl, hc7, hr7, hb7⟩
    simp only
    have HXw7 := Lib.hid (HXw6.out.trans (hb7.mono HXw6.out.size))
    have HRXw7 : Hid (Rd w7 w7.heap.size A8 n8 x1) := (HRXw6.out.below hb7).more hb7.size
    have HRYw7 : Hid (Rd w7 w7.heap.size A7 n7 x2) := hr7
    clear hr7 hb7 hc7 v0 v1 v2 v3
    by_cases h1 : e1 = 0
    · subst h1
      have HLX := Lib.hid (show x1.length ≤ 10100 by have := byR_len (a := a1) (t := t1) (c := c1) (l := l1) HL1.out; rw [HY1.out] at this; exact this)
      have HPR := Lib.hid (show ∃ r : Rn, prs x1 = (r, 0) ∧ x1 = r.bytes ∧ r.right = true ∧ (r.s : Int) = a1 ∧ (r.t : Int) = t1 ∧ (r.c : Int) = c1 ∧ r.l = l1 by
        have := byR_prs (a := a1) (t := t1) (c := c1) (l := l1) (by rw [HY1.out]) HL1.out
        rw [HY1.out] at this
        exact this)
      by_cases h2 : e2 = 0
      · subst h2
        have HSM := Lib.hid (show eqR a1 t1 c1 a2 t2 c2 l1 l2 = decide (x1 = x2) by
          have := byR_same (a := a1) (t := t1) (c := c1) (l := l1) (a' := a2) (t' := t2) (c' := c2) (l' := l2) (by rw [HY1.out]) (by rw [HY2.out]) HL1.out HL2.out
          rw [HY1.out, HY2.out] at this
          exact this)
        have u0 : w7.cell? ⟨P, 0, none⟩ = some (.int .i64 a1) := by unfold World.cell?; rw [(HXw7.out.block P HPL.out.1).trans HP2.out]; rfl
        have u1 : w7.cell? ⟨P, 1, none⟩ = some (.int .i64 t1) := by unfold World.cell?; rw [(HXw7.out.block P HPL.out.1).trans HP2.out]; rfl
        have u2 : w7.cell? ⟨P, 2, none⟩ = some (.int .i64 c1) := by unfold World.cell?; rw [(HXw7.out.block P HPL.out.1).trans HP2.out]; rfl
        have u3 : w7.cell? ⟨P, 3, none⟩ = some (.slice A n k) := by unfold World.cell?; rw [(HXw7.out.block P HPL.out.1).trans HP2.out]; rfl
        have v0 : w7.cell? ⟨R, 0, none⟩ = some (.int .i64 a2) := by unfold World.cell?; rw [(HXw7.out.block R HPL.out.2).trans HR2.out]; rfl
        have v1 : w7.cell? ⟨R, 1, none⟩ = some (.int .i64 t2) := by unfold World.cell?; rw [(HXw7.out.block R HPL.out.2).trans HR2.out]; rfl
        have v2 : w7.cell? ⟨R, 2, none⟩ = some (.int .i64 c2) := by unfold World.cell?; rw [(HXw7.out.block R HPL.out.2).trans HR2.out]; rfl
        have v3 : w7.cell? ⟨R, 3, none⟩ = some (.slice B m j) := by unfold World.cell?; rw [(HXw7.out.block R HPL.out.2).trans HR2.out]; rfl
        have HSR1 := Lib.hid (same_root a1 t1 c1 a2 t2 c2 k j (HD1.out w7 HXw7.out) (HD2.out w7 HXw7.out))
        rw [HSM.out] at HSR1
        obtain ⟨bb, HBB⟩ : ∃ b, Hid (decide (x1 = x2) = b) := ⟨_, rfl⟩
        rw [HBB.out] at HSR1
        go_wp2_with fail
        refine HSR1.out.mono ?_
        rintro e w8 ⟨rfl, hb⟩
        simp only
        have HXw8 := Lib.hid (HXw7.out.trans (hb.mono HXw7.out.size))
        have HRXw8 : Hid (Rd w8 w8.heap.size A8 n8 x1) := (HRXw7.out.below hb).more hb.size
        have HRYw8 : Hid (Rd w8 w8.heap.size A7 n7 x2) := (HRYw7.out.below hb).more hb.size
        have HSB := Lib.hid (same_bytes c8 c7 HRXw8.out HRYw8.out)
        rw [HBB.out] at HSB
        clear hb u0 u1 u2 u3 v0 v1 v2 v3
        go_wp2_with fail
        refine HSB.out.mono ?_
        rintro e w9 ⟨rfl, rfl⟩
        simp only
        have HPXa := Lib.hid (Parse_any x1 A8 n8 c8 w9 HRXw8.out (by have := HRXw8.out.1; have := HLX.out; omega) HC8.out (HT.out w9 HXw8.out))
        obtain ⟨r, hp, hby, hrr, hs, htt, hcc, hll⟩ := HPR.out
        rw [hp] at HPXa
        have HV := Lib.hid (show (r.s : Int) = a1 ∧ (r.t : Int) = t1 ∧ (r.c : Int) = c1 ∧ r.l = l1 from ⟨hs, htt, hcc, hll⟩)
        clear hp hby hrr hs htt hcc hll
        go_wp2_with fail
        refine HPXa.out.mono ?_
        rintro e wp ⟨A9, n9, c9, rfl, hr9, hb9⟩
        simp only
        have HXwp := Lib.hid (HXw8.out.trans (hb9.mono HXw8.out.size))
        have hfx := Fr.alloc No wp (.cells #[.int .i64 (r.s : Int), .int .i64 (r.t : Int), .int .i64 (r.c : Int), .slice A9 n9 c9] 24)
        have hgx := heap_alloc_new wp (.cells #[.int .i64 (r.s : Int), .int .i64 (r.t : Int), .int .i64 (r.c : Int), .slice A9 n9 c9] 24)
        have hr10 := rd_offR hfx hr9 (fun _ _ _ e => e)
        clear hr9 hb9
        go_upto_region 15 with fail
        obtain ⟨G, hG⟩ : ∃ G, wp.heap.size = G := ⟨_, rfl⟩
        obtain ⟨wq, hwq⟩ : ∃ u, wp.alloc (.cells #[.int .i64 (r.s : Int), .int .i64 (r.t : Int), .int .i64 (r.c : Int), .slice A9 n9 c9] 24) = u := ⟨_, rfl⟩
        rw [hwq] at hfx hgx hr10 ⊢
        rw [hG] at hgx ⊢
        have HXwq := Lib.hid (HXwp.out.trans (hfx.noBelow.mono HXwp.out.size))
        have x0 : wq.cell? ⟨G, 0, none⟩ = some (.int .i64 (r.s : Int)) := by unfold World.cell?; rw [hgx]; rfl
        have x1' : wq.cell? ⟨G, 1, none⟩ = some (.int .i64 (r.t : Int)) := by unfold World.cell?; rw [hgx]; rfl
        have x2 : wq.cell? ⟨G, 2, none⟩ = some (.int .i64 (r.c : Int)) := by unfold World.cell?; rw [hgx]; rfl
        have x3 : wq.cell? ⟨G, 3, none⟩ = some (.slice A9 n9 c9) := by unfold World.cell?; rw [hgx]; rfl
        have HSR := Lib.hid (same_root (r.s : Int) (r.t : Int) (r.c : Int) a1 t1 c1 c9 k hr10 (HD1.out wq HXwq.out))
        rw [show eqR (r.s : Int) (r.t : Int) (r.c : Int) a1 t1 c1 r.l l1 = true by unfold eqR; rw [HV.out.1, HV.out.2.1, HV.out.2.2.1, HV.out.2.2.2]; simp] at HSR
        clear hwq hG hfx hgx hr10
        have u0 : wq.cell? ⟨P, 0, none⟩ = some (.int .i64 a1) := by unfold World.cell?; rw [(HXwq.out.block P HPL.out.1).trans HP2.out]; rfl
        have u1 : wq.cell? ⟨P, 1, none⟩ = some (.int .i64 t1) := by unfold World.cell?; rw [(HXwq.out.block P HPL.out.1).trans HP2.out]; rfl
        have u2 : wq.cell? ⟨P, 2, none⟩ = some (.int .i64 c1) := by unfold World.cell?; rw [(HXwq.out.block P HPL.out.1).trans HP2.out]; rfl
        have u3 : wq.cell? ⟨P, 3, none⟩ = some (.slice A n k) := by unfold World.cell?; rw [(HXwq.out.block P HPL.out.1).trans HP2.out]; rfl
        go_wp2_with fail
        refine HSR.out.mono ?_
        rintro e wr ⟨rfl, hbr⟩
        simp only
        have HXwr := Lib.hid (HXwq.out.trans (hbr.mono HXwq.out.size))
        clear hbr
        go_wp2_with fail
        refine (HA.out _ HXwr.out).mono ?_
        rintro e wz ⟨rfl, hbz⟩
        have HZ := Lib.hid (HXwr.out.trans (hbz.mono HXwr.out.size))
        clear hbz
        go_wp2_with fail
        go_ret
        exact ⟨rfl, HW2.out.trans (HZ.out.mono HW2.out.size)⟩
      · have hb2 : (e2 == 0) = false := by rw [beq_eq_false_iff_ne]; exact h2
        clear h2
        have HPXb := Lib.hid (Parse_any x1 A8 n8 c8 w7 HRXw7.out (by have := HRXw7.out.1; have := HLX.out; omega) HC8.out (HT.out w7 HXw7.out))
        obtain ⟨r, hp, hby, hrr, hs, htt, hcc, hll⟩ := HPR.out
        rw [hp] at HPXb
        have HV := Lib.hid (show (r.s : Int) = a1 ∧ (r.t : Int) = t1 ∧ (r.c : Int) = c1 ∧ r.l = l1 from ⟨hs, htt, hcc, hll⟩)
        clear hp hby hrr hs htt hcc hll
        go_wp2_with fail
        refine HPXb.out.mono ?_
        rintro e wp ⟨A9, n9, c9, rfl, hr9, hb9⟩
        simp only
        have HXwp := Lib.hid (HXw7.out.trans (hb9.mono HXw7.out.size))
        have hfx := Fr.alloc No wp (.cells #[.int .i64 (r.s : Int), .int .i64 (r.t : Int), .int .i64 (r.c : Int), .slice A9 n9 c9] 24)
        have hgx := heap_alloc_new wp (.cells #[.int .i64 (r.s : Int), .int .i64 (r.t : Int), .int .i64 (r.c : Int), .slice A9 n9 c9] 24)
        have hr10 := rd_offR hfx hr9 (fun _ _ _ e => e)
        clear hr9 hb9
        go_upto_region 15 with fail
        obtain ⟨G, hG⟩ : ∃ G, wp.heap.size = G := ⟨_, rfl⟩
        obtain ⟨wq, hwq⟩ : ∃ u, wp.alloc (.cells #[.int .i64 (r.s : Int), .int .i64 (r.t : Int), .int .i64 (r.c : Int), .slice A9 n9 c9] 24) = u := ⟨_, rfl⟩
        rw [hwq] at hfx hgx hr10 ⊢
        rw [hG] at hgx ⊢
        have HXwq := Lib.hid (HXwp.out.trans (hfx.noBelow.mono HXwp.out.size))
        have x0 : wq.cell? ⟨G, 0, none⟩ = some (.int .i64 (r.s : Int)) := by unfold World.cell?; rw [hgx]; rfl
        have x1' : wq.cell? ⟨G, 1, none⟩ = some (.int .i64 (r.t : Int)) := by unfold World.cell?; rw [hgx]; rfl
        have x2 : wq.cell? ⟨G, 2, none⟩ = some (.int .i64 (r.c : Int)) := by unfold World.cell?; rw [hgx]; rfl
        have x3 : wq.cell? ⟨G, 3, none⟩ = some (.slice A9 n9 c9) := by unfold World.cell?; rw [hgx]; rfl
        have HSR := Lib.hid (same_root (r.s : Int) (r.t : Int) (r.c : Int) a1 t1 c1 c9 k hr10 (HD1.out wq HXwq.out))
        rw [show eqR (r.s : Int) (r.t : Int) (r.c : Int) a1 t1 c1 r.l l1 = true by unfold eqR; rw [HV.out.1, HV.out.2.1, HV.out.2.2.1, HV.out.2.2.2]; simp] at HSR
        clear hwq hG hfx hgx hr10
        have u0 : wq.cell? ⟨P, 0, none⟩ = some (.int .i64 a1) := by unfold World.cell?; rw [(HXwq.out.block P HPL.out.1).trans HP2.out]; rfl
        have u1 : wq.cell? ⟨P, 1, none⟩ = some (.int .i64 t1) := by unfold World.cell?; rw [(HXwq.out.block P HPL.out.1).trans HP2.out]; rfl
        have u2 : wq.cell? ⟨P, 2, none⟩ = some (.int .i64 c1) := by unfold World.cell?; rw [(HXwq.out.block P HPL.out.1).trans HP2.out]; rfl
        have u3 : wq.cell? ⟨P, 3, none⟩ = some (.slice A n k) := by unfold World.cell?; rw [(HXwq.out.block P HPL.out.1).trans HP2.out]; rfl
        go_wp2_with fail
        refine HSR.out.mono ?_
        rintro e wr ⟨rfl, hbr⟩
        simp only
        have HXwr := Lib.hid (HXwq.out.trans (hbr.mono HXwq.out.size))
        clear hbr
        go_wp2_with fail
        refine (HA.out _ HXwr.out).mono ?_
        rintro e wz ⟨rfl, hbz⟩
        have HZ := Lib.hid (HXwr.out.trans (hbz.mono HXwr.out.size))
        clear hbz
        go_wp2_with fail
        go_ret
        exact ⟨rfl, HW2.out.trans (HZ.out.mono HW2.out.size)⟩
    · have HE1 := Lib.hid (show x1 = [] ∧ e1 = 2 by
        have := byR_bad (a := a1) (t := t1) (c := c1) (l := l1) (by rw [HY1.out]; exact h1)
        rw [HY1.out] at this
        injection this with h3 h4
        exact ⟨h3, h4⟩)
      obtain rfl : e1 = 2 := HE1.out.2
      obtain rfl : n8 = 0 := by have := HRXw7.out.1; rw [HE1.out.1] at this; exact this.symm
      clear h1
      go_wp2_with fail
      refine (HA.out _ HXw7.out).mono ?_
      rintro e wz ⟨rfl, hbz⟩
      have HZ := Lib.hid (HXw7.out.trans (hbz.mono HXw7.out.size))
      clear hbz
      go_wp2_with fail
      go_ret
      exact ⟨rfl, HW2.out.trans (HZ.out.mono HW2.out.size)⟩
  · have hbz : ((ez : Int) == 0) = false := by rw [beq_eq_false_iff_ne]; omega
    clear hez
    have u0 : w4.cell? ⟨P, 0, none⟩ = some (.int .i64 a1) := by unfold World.cell?; rw [(HXw4.out.block P HPL.out.1).trans HP2.out]; rfl
    have u1 : w4.cell? ⟨P, 1, none⟩ = some (.int .i64 t1) := by unfold World.cell?; rw [(HXw4.out.block P HPL.out.1).trans HP2.out]; rfl
    have u2 : w4.cell? ⟨P, 2, none⟩ = some (.int .i64 c1) := by unfold World.cell?; rw [(HXw4.out.block P HPL.out.1).trans HP2.out]; rfl
    have u3 : w4.cell? ⟨P, 3, none⟩ = some (.slice A n k) := by unfold World.cell?; rw [(HXw4.out.block P HPL.out.1).trans HP2.out]; rfl
    have HB1 := Lib.hid (Bytes_any a1 t1 c1 A n k l1 w4 (HD1.out w4 HXw4.out) (by have := HG.out; omega) (HT.out w4 HXw4.out))
    obtain ⟨x1, e1, hy1⟩ : ∃ x e, byR a1 t1 c1 l1 = (x, e) := ⟨_, _, rfl⟩
    have HY1 := Lib.hid hy1
    rw [hy1] at HB1
    clear hy1
    go_wp2_with fail
    refine HB1.out.mono ?_
    rintro e w6 ⟨A8, n8, c8, rfl, hc8, hr8, hb8⟩
    simp only
    have HXw6 := Lib.hid (HXw4.out.trans (hb8.mono HXw4.out.size))
    have HRXw6 : Hid (Rd w6 w6.heap.size A8 n8 x1) := hr8
    have HC8 := Lib.hid hc8
    clear hr8 hb8 hc8 u0 u1 u2 u3
    have v0 : w6.cell? ⟨R, 0, none⟩ = some (.int .i64 a2) := by unfold World.cell?; rw [(HXw6.out.block R HPL.out.2).trans HR2.out]; rfl
    have v1 : w6.cell? ⟨R, 1, none⟩ = some (.int .i64 t2) := by unfold World.cell?; rw [(HXw6.out.block R HPL.out.2).trans HR2.out]; rfl
    have v2 : w6.cell? ⟨R, 2, none⟩ = some (.int .i64 c2) := by unfold World.cell?; rw [(HXw6.out.block R HPL.out.2).trans HR2.out]; rfl
    have v3 : w6.cell? ⟨R, 3, none⟩ = some (.slice B m j) := by unfold World.cell?; rw [(HXw6.out.block R HPL.out.2).trans HR2.out]; rfl
    have HB2 := Lib.hid (Bytes_any a2 t2 c2 B m j l2 w6 (HD2.out w6 HXw6.out) (by have := HG.out; omega) (HT.out w6 HXw6.out))
    obtain ⟨x2, e2, hy2⟩ : ∃ x e, byR a2 t2 c2 l2 = (x, e) := ⟨_, _, rfl⟩
    have HY2 := Lib.hid hy2
    rw [hy2] at HB2
    clear hy2
    go_wp2_with fail
    refine HB2.out.mono ?_
    rintro e w7 ⟨A7, n7, c7, rfl, hc7, hr7, hb7⟩
    simp only
    have HXw7 := Lib.hid (HXw6.out.trans (hb7.mono HXw6.out.size))
    have HRXw7 : Hid (Rd w7 w7.heap.size A8 n8 x1) := (HRXw6.out.below hb7).more hb7.size
    have HRYw7 : Hid (Rd w7 w7.heap.size A7 n7 x2) := hr7
    clear hr7 hb7 hc7 v0 v1 v2 v3
    by_cases h1 : e1 = 0
    · subst h1
      have HLX := Lib.hid (show x1.length ≤ 10100 by have := byR_len (a := a1) (t := t1) (c := c1) (l := l1) HL1.out; rw [HY1.out] at this; exact this)
      have HPR := Lib.hid (show ∃ r : Rn, prs x1 = (r, 0) ∧ x1 = r.bytes ∧ r.right = true ∧ (r.s : Int) = a1 ∧ (r.t : Int) = t1 ∧ (r.c : Int) = c1 ∧ r.l = l1 by
        have := byR_prs (a := a1) (t := t1) (c := c1) (l := l1) (by rw [HY1.out]) HL1.out
        rw [HY1.out] at this
        exact this)
      by_cases h2 : e2 = 0
      · subst h2
        have HSM := Lib.hid (show eqR a1 t1 c1 a2 t2 c2 l1 l2 = decide (x1 = x2) by
          have := byR_same (a := a1) (t := t1) (c := c1) (l := l1) (a' := a2) (t' := t2) (c' := c2) (l' := l2) (by rw [HY1.out]) (by rw [HY2.out]) HL1.out HL2.out
          rw [HY1.out, HY2.out] at this
          exact this)
        have u0 : w7.cell? ⟨P, 0, none⟩ = some (.int .i64 a1) := by unfold World.cell?; rw [(HXw7.out.block P HPL.out.1).trans HP2.out]; rfl
        have u1 : w7.cell? ⟨P, 1, none⟩ = some (.int .i64 t1) := by unfold World.cell?; rw [(HXw7.out.block P HPL.out.1).trans HP2.out]; rfl
        have u2 : w7.cell? ⟨P, 2, none⟩ = some (.int .i64 c1) := by unfold World.cell?; rw [(HXw7.out.block P HPL.out.1).trans HP2.out]; rfl
        have u3 : w7.cell? ⟨P, 3, none⟩ = some (.slice A n k) := by unfold World.cell?; rw [(HXw7.out.block P HPL.out.1).trans HP2.out]; rfl
        have v0 : w7.cell? ⟨R, 0, none⟩ = some (.int .i64 a2) := by unfold World.cell?; rw [(HXw7.out.block R HPL.out.2).trans HR2.out]; rfl
        have v1 : w7.cell? ⟨R, 1, none⟩ = some (.int .i64 t2) := by unfold World.cell?; rw [(HXw7.out.block R HPL.out.2).trans HR2.out]; rfl
        have v2 : w7.cell? ⟨R, 2, none⟩ = some (.int .i64 c2) := by unfold World.cell?; rw [(HXw7.out.block R HPL.out.2).trans HR2.out]; rfl
        have v3 : w7.cell? ⟨R, 3, none⟩ = some (.slice B m j) := by unfold World.cell?; rw [(HXw7.out.block R HPL.out.2).trans HR2.out]; rfl
        have HSR1 := Lib.hid (same_root a1 t1 c1 a2 t2 c2 k j (HD1.out w7 HXw7.out) (HD2.out w7 HXw7.out))
        rw [HSM.out] at HSR1
        obtain ⟨bb, HBB⟩ : ∃ b, Hid (decide (x1 = x2) = b) := ⟨_, rfl⟩
        rw [HBB.out] at HSR1
        go_wp2_with fail
        refine HSR1.out.mono ?_
        rintro e w8 ⟨rfl, hb⟩
        simp only
        have HXw8 := Lib.hid (HXw7.out.trans (hb.mono HXw7.out.size))
        have HRXw8 : Hid (Rd w8 w8.heap.size A8 n8 x1) := (HRXw7.out.below hb).more hb.size
        have HRYw8 : Hid (Rd w8 w8.heap.size A7 n7 x2) := (HRYw7.out.below hb).more hb.size
        have HSB := Lib.hid (same_bytes c8 c7 HRXw8.out HRYw8.out)
        rw [HBB.out] at HSB
        clear hb u0 u1 u2 u3 v0 v1 v2 v3
        go_wp2_with fail
        refine HSB.out.mono ?_
        rintro e w9 ⟨rfl, rfl⟩
        simp only
        have HPXa := Lib.hid (Parse_any x1 A8 n8 c8 w9 HRXw8.out (by have := HRXw8.out.1; have := HLX.out; omega) HC8.out (HT.out w9 HXw8.out))
        obtain ⟨r, hp, hby, hrr, hs, htt, hcc, hll⟩ := HPR.out
        rw [hp] at HPXa
        have HV := Lib.hid (show (r.s : Int) = a1 ∧ (r.t : Int) = t1 ∧ (r.c : Int) = c1 ∧ r.l = l1 from ⟨hs, htt, hcc, hll⟩)
        clear hp hby hrr hs htt hcc hll
        go_wp2_with fail
        refine HPXa.out.mono ?_
        rintro e wp ⟨A9, n9, c9, rfl, hr9, hb9⟩
        simp only
        have HXwp := Lib.hid (HXw8.out.trans (hb9.mono HXw8.out.size))
        have hfx := Fr.alloc No wp (.cells #[.int .i64 (r.s : Int), .int .i64 (r.t : Int), .int .i64 (r.c : Int), .slice A9 n9 c9] 24)
        have hgx := heap_alloc_new wp (.cells #[.int .i64 (r.s : Int), .int .i64 (r.t : Int), .int .i64 (r.c : Int), .slice A9 n9 c9] 24)
        have hr10 := rd_offR hfx hr9 (fun _ _ _ e => e)
        clear hr9 hb9
        go_upto_region 15 with fail
        obtain ⟨G, hG⟩ : ∃ G, wp.heap.size = G := ⟨_, rfl⟩
        obtain ⟨wq, hwq⟩ : ∃ u, wp.alloc (.cells #[.int .i64 (r.s : Int), .int .i64 (r.t : Int), .int .i64 (r.c : Int), .slice A9 n9 c9] 24) = u := ⟨_, rfl⟩
        rw [hwq] at hfx hgx hr10 ⊢
        rw [hG] at hgx ⊢
        have HXwq := Lib.hid (HXwp.out.trans (hfx.noBelow.mono HXwp.out.size))
        have x0 : wq.cell? ⟨G, 0, none⟩ = some (.int .i64 (r.s : Int)) := by unfold World.cell?; rw [hgx]; rfl
        have x1' : wq.cell? ⟨G, 1, none⟩ = some (.int .i64 (r.t : Int)) := by unfold World.cell?; rw [hgx]; rfl
        have x2 : wq.cell? ⟨G, 2, none⟩ = some (.int .i64 (r.c : Int)) := by unfold World.cell?; rw [hgx]; rfl
        have x3 : wq.cell? ⟨G, 3, none⟩ = some (.slice A9 n9 c9) := by unfold World.cell?; rw [hgx]; rfl
        have HSR := Lib.hid (same_root (r.s : Int) (r.t : Int) (r.c : Int) a1 t1 c1 c9 k hr10 (HD1.out wq HXwq.out))
        rw [show eqR (r.s : Int) (r.t : Int) (r.c : Int) a1 t1 c1 r.l l1 = true by unfold eqR; rw [HV.out.1, HV.out.2.1, HV.out.2.2.1, HV.out.2.2.2]; simp] at HSR
        clear hwq hG hfx hgx hr10
        have u0 : wq.cell? ⟨P, 0, none⟩ = some (.int .i64 a1) := by unfold World.cell?; rw [(HXwq.out.block P HPL.out.1).trans HP2.out]; rfl
        have u1 : wq.cell? ⟨P, 1, none⟩ = some (.int .i64 t1) := by unfold World.cell?; rw [(HXwq.out.block P HPL.out.1).trans HP2.out]; rfl
        have u2 : wq.cell? ⟨P, 2, none⟩ = some (.int .i64 c1) := by unfold World.cell?; rw [(HXwq.out.block P HPL.out.1).trans HP2.out]; rfl
        have u3 : wq.cell? ⟨P, 3, none⟩ = some (.slice A n k) := by unfold World.cell?; rw [(HXwq.out.block P HPL.out.1).trans HP2.out]; rfl
        go_wp2_with fail
        refine HSR.out.mono ?_
        rintro e wr ⟨rfl, hbr⟩
        simp only
        have HXwr := Lib.hid (HXwq.out.trans (hbr.mono HXwq.out.size))
        clear hbr
        go_wp2_with fail
        refine (HA.out _ HXwr.out).mono ?_
        rintro e wz ⟨rfl, hbz⟩
        have HZ := Lib.hid (HXwr.out.trans (hbz.mono HXwr.out.size))
        clear hbz
        go_wp2_with fail
        go_ret
        exact ⟨rfl, HW2.out.trans (HZ.out.mono HW2.out.size)⟩
      · have hb2 : (e2 == 0) = false := by rw [beq_eq_false_iff_ne]; exact h2
        clear h2
        have HPXb := Lib.hid (Parse_any x1 A8 n8 c8 w7 HRXw7.out (by have := HRXw7.out.1; have := HLX.out; omega) HC8.out (HT.out w7 HXw7.out))
        obtain ⟨r, hp, hby, hrr, hs, htt, hcc, hll⟩ := HPR.out
        rw [hp] at HPXb
        have HV := Lib.hid (show (r.s : Int) = a1 ∧ (r.t : Int) = t1 ∧ (r.c : Int) = c1 ∧ r.l = l1 from ⟨hs, htt, hcc, hll⟩)
        clear hp hby hrr hs htt hcc hll
        go_wp2_with fail
        refine HPXb.out.mono ?_
        rintro e wp ⟨A9, n9, c9, rfl, hr9, hb9⟩
        simp only
        have HXwp := Lib.hid (HXw7.out.trans (hb9.mono HXw7.out.size))
        have hfx := Fr.alloc No wp (.cells #[.int .i64 (r.s : Int), .int .i64 (r.t : Int), .int .i64 (r.c : Int), .slice A9 n9 c9] 24)
        have hgx := heap_alloc_new wp (.cells #[.int .i64 (r.s : Int), .int .i64 (r.t : Int), .int .i64 (r.c : Int), .slice A9 n9 c9] 24)
        have hr10 := rd_offR hfx hr9 (fun _ _ _ e => e)
        clear hr9 hb9
        go_upto_region 15 with fail
        obtain ⟨G, hG⟩ : ∃ G, wp.heap.size = G := ⟨_, rfl⟩
        obtain ⟨wq, hwq⟩ : ∃ u, wp.alloc (.cells #[.int .i64 (r.s : Int), .int .i64 (r.t : Int), .int .i64 (r.c : Int), .slice A9 n9 c9] 24) = u := ⟨_, rfl⟩
        rw [hwq] at hfx hgx hr10 ⊢
        rw [hG] at hgx ⊢
        have HXwq := Lib.hid (HXwp.out.trans (hfx.noBelow.mono HXwp.out.size))
        have x0 : wq.cell? ⟨G, 0, none⟩ = some (.int .i64 (r.s : Int)) := by unfold World.cell?; rw [hgx]; rfl
        have x1' : wq.cell? ⟨G, 1, none⟩ = some (.int .i64 (r.t : Int)) := by unfold World.cell?; rw [hgx]; rfl
        have x2 : wq.cell? ⟨G, 2, none⟩ = some (.int .i64 (r.c : Int)) := by unfold World.cell?; rw [hgx]; rfl
        have x3 : wq.cell? ⟨G, 3, none⟩ = some (.slice A9 n9 c9) := by unfold World.cell?; rw [hgx]; rfl
        have HSR := Lib.hid (same_root (r.s : Int) (r.t : Int) (r.c : Int) a1 t1 c1 c9 k hr10 (HD1.out wq HXwq.out))
        rw [show eqR (r.s : Int) (r.t : Int) (r.c : Int) a1 t1 c1 r.l l1 = true by unfold eqR; rw [HV.out.1, HV.out.2.1, HV.out.2.2.1, HV.out.2.2.2]; simp] at HSR
        clear hwq hG hfx hgx hr10
        have u0 : wq.cell? ⟨P, 0, none⟩ = some (.int .i64 a1) := by unfold World.cell?; rw [(HXwq.out.block P HPL.out.1).trans HP2.out]; rfl
        have u1 : wq.cell? ⟨P, 1, none⟩ = some (.int .i64 t1) := by unfold World.cell?; rw [(HXwq.out.block P HPL.out.1).trans HP2.out]; rfl
        have u2 : wq.cell? ⟨P, 2, none⟩ = some (.int .i64 c1) := by unfold World.cell?; rw [(HXwq.out.block P HPL.out.1).trans HP2.out]; rfl
        have u3 : wq.cell? ⟨P, 3, none⟩ = some (.slice A n k) := by unfold World.cell?; rw [(HXwq.out.block P HPL.out.1).trans HP2.out]; rfl
        go_wp2_with fail
        refine HSR.out.mono ?_
        rintro e wr ⟨rfl, hbr⟩
        simp only
        have HXwr := Lib.hid (HXwq.out.trans (hbr.mono HXwq.out.size))
        clear hbr
        go_wp2_with fail
        refine (HA.out _ HXwr.out).mono ?_
        rintro e wz ⟨rfl, hbz⟩
        have HZ := Lib.hid (HXwr.out.trans (hbz.mono HXwr.out.size))
        clear hbz
        go_wp2_with fail
        go_ret
        exact ⟨rfl, HW2.out.trans (HZ.out.mono HW2.out.size)⟩
    · have HE1 := Lib.hid (show x1 = [] ∧ e1 = 2 by
        have := byR_bad (a := a1) (t := t1) (c := c1) (l := l1) (by rw [HY1.out]; exact h1)
        rw [HY1.out] at this
        injection this with h3 h4
        exact ⟨h3, h4⟩)
      obtain rfl : e1 = 2 := HE1.out.2
      obtain rfl : n8 = 0 := by have := HRXw7.out.1; rw [HE1.out.1] at this; exact this.symm
      clear h1
      go_wp2_with fail
      refine (HA.out _ HXw7.out).mono ?_
      rintro e wz ⟨rfl, hbz⟩
      have HZ := Lib.hid (HXw7.out.trans (hbz.mono HXw7.out.size))
      clear hbz
      go_wp2_with fail
      go_ret
      exact ⟨rfl, HW2.out.trans (HZ.out.mono HW2.out.size)⟩
end Go.Proofs.YthmphbfhofigoaaDoor
namespace Go.Proofs.YthmphbfhofigoaaDoor
open Go.RowKit

/-- A slice of n things of so many cells each: at each place what At says. -/
def RowOf {α : Type} (W : World) (size : Nat) (At : Addr → α → Prop) (A : Option Addr) (n : Nat) (xs : List α) : Prop :=
  xs.length = n ∧ (0 < n → ∃ b o, A = some ⟨b, o, none⟩ ∧ b < W.heap.size ∧ ∀ j (h : j < xs.length), At ⟨b, o + j * size, none⟩ xs[j])
/-- A slice of bytes, as it stands in a cell. -/
structure Sb where
  A : Option Addr
  n : Nat
  c : Nat
  l : List UInt8
def BsAt (W : World) (a : Addr) (x : Sb) : Prop := W.cell? a = some (.slice x.A x.n x.c) ∧ Rd W W.heap.size x.A x.n x.l
end Go.Proofs.YthmphbfhofigoaaDoor
namespace Go.Proofs.YthmphbfhofigoaaDoor
open Go.RowKit Go.Maps

def nm0 : List UInt8 := [114, 111, 111, 116, 48]
def nm1 : List UInt8 := [114, 111, 111, 116, 49]
/-- A disk with room for a million bytes, and its files. -/
def dk (fs : List Af) : Ab := ⟨false, false, 0, 1048576, fs⟩
def fl (nm b : List UInt8) : Af := ⟨nm, b, b.length⟩
theorem dk_fl (fs : List Af) : ¬ ((dk fs).fl = true) := by show ¬ (false = true); decide
theorem dk_fails (fs : List Af) : ¬ ((dk fs).fails = true) := by unfold Ab.fails dk; simp
theorem rm_none {fs : List Af} (h : afnd nmN fs = none) : rmA (dk fs) nmN = (0, dk fs) := by
  have he : (dk fs).err nmN = 13 := by
    unfold Ab.err dk
    simp only
    rw [h]
    rfl
  have hr : (dk fs).remove nmN = (13, dk fs) := by
    unfold Ab.remove
    rw [if_pos (by rw [he]; decide), he]
  unfold rmA
  rw [hr, if_pos rfl]
/-- The four steps of writing a file, one by one. -/
theorem wf_well {fs f2 f3 f4 : List Af} {nm b : List UInt8} (h0 : afnd nmN fs = none) (hfit : (dk fs).fits nmN b.length = true) (h2 : aput ⟨nmN, [] ++ b, 0⟩ fs = f2) (h3 : aput ⟨nmN, b, b.length⟩ f2 = f3) (hf2 : (afnd nmN f2) = some ⟨nmN, b, 0⟩) (hf3 : afnd nmN f3 = some ⟨nmN, b, b.length⟩) (hn : isNm nm = true) (h4 : aput ⟨nm, b, b.length⟩ (adel nmN f3) = f4) :
    wfA nm b (dk fs) 4 = (0, dk f4) := by
  have e1 : wfA nm b (dk fs) 1 = (0, dk fs) := by
    show (if ((0 : Int), dk fs).1 ≠ 0 then _ else rmA (dk fs) nmN) = _
    rw [if_neg (by simp), rm_none h0]
  have e2 : wfA nm b (dk fs) 2 = (0, dk f2) := by
    show (if (wfA nm b (dk fs) 1).1 ≠ 0 then _ else (wfA nm b (dk fs) 1).2.append nmN b) = _
    rw [e1, if_neg (by simp)]
    show (dk fs).append nmN b = _
    unfold Ab.append
    have hold : aold nmN (dk fs).fs = ⟨nmN, [], 0⟩ := by
      show aold nmN fs = _
      unfold aold
      rw [h0]
      rfl
    rw [if_neg (dk_fl fs), if_neg (by decide), if_neg (by rw [hfit]; simp), if_neg (dk_fails fs), hold]
    show ((0 : Int), dk (aput ⟨nmN, [] ++ b, 0⟩ fs)) = _
    rw [h2]
  have e3 : wfA nm b (dk fs) 3 = (0, dk f3) := by
    show (if (wfA nm b (dk fs) 2).1 ≠ 0 then _ else (wfA nm b (dk fs) 2).2.sync nmN) = _
    rw [e2, if_neg (by simp)]
    show (dk f2).sync nmN = _
    have he : (dk f2).err nmN = 0 := by unfold Ab.err dk; simp only; rw [hf2]; rfl
    have hold : aold nmN (dk f2).fs = ⟨nmN, b, 0⟩ := by show aold nmN f2 = _; unfold aold; rw [hf2]; rfl
    unfold Ab.sync
    rw [if_neg (by rw [he]; simp), if_neg (dk_fails f2), hold]
    show ((0 : Int), dk (aput ⟨nmN, b, b.length⟩ f2)) = _
    rw [h3]
  show (if (wfA nm b (dk fs) 3).1 ≠ 0 then _ else (wfA nm b (dk fs) 3).2.rename nmN nm) = _
  rw [e3, if_neg (by simp)]
  show (dk f3).rename nmN nm = _
  have he : (dk f3).err nmN = 0 := by unfold Ab.err dk; simp only; rw [hf3]; rfl
  have hold : aold nmN (dk f3).fs = ⟨nmN, b, b.length⟩ := by show aold nmN f3 = _; unfold aold; rw [hf3]; rfl
  unfold Ab.rename
  rw [if_neg (by rw [he]; simp), if_neg (by rw [hn]; simp), if_neg (dk_fails f3), hold]
  show ((0 : Int), dk (aput ⟨nm, b, b.length⟩ (adel nmN f3))) = _
  rw [h4]
theorem fits_of {fs : List Af} {n : Nat} (h1 : aused fs + n ≤ 1048576) (h2 : fs.length < 200) (nm : List UInt8) : (dk fs).fits nm n = true := by
  unfold Ab.fits dk
  simp only [Bool.and_eq_true, Bool.or_eq_true, decide_eq_true_eq]
  exact ⟨h1, .inr h2⟩
theorem wf_0 (b : List UInt8) (h : b.length ≤ 1000) : wfA nm1 b (dk []) 4 = (0, dk [fl nm1 b]) :=
  wf_well (f2 := [⟨nmN, b, 0⟩]) (f3 := [⟨nmN, b, b.length⟩]) rfl (fits_of (by show 0 + b.length ≤ _; omega) (by decide) _) rfl rfl rfl rfl (by decide) rfl
theorem wf_1 (b1 b : List UInt8) (h1 : b1.length ≤ 1000) (h : b.length ≤ 1000) : wfA nm0 b (dk [fl nm1 b1]) 4 = (0, dk [fl nm0 b, fl nm1 b1]) :=
  wf_well (f2 := [⟨nmN, b, 0⟩, fl nm1 b1]) (f3 := [⟨nmN, b, b.length⟩, fl nm1 b1]) rfl (fits_of (by show b1.length + 0 + b.length ≤ _; omega) (by simp) _) rfl rfl rfl rfl (by decide) rfl
theorem wf_20 (b0 b1 b : List UInt8) (h0 : b0.length ≤ 1000) (h1 : b1.length ≤ 1000) (h : b.length ≤ 1000) : wfA nm0 b (dk [fl nm0 b0, fl nm1 b1]) 4 = (0, dk [fl nm0 b, fl nm1 b1]) :=
  wf_well (f2 := [⟨nmN, b, 0⟩, fl nm0 b0, fl nm1 b1]) (f3 := [⟨nmN, b, b.length⟩, fl nm0 b0, fl nm1 b1]) rfl (fits_of (by show b0.length + (b1.length + 0) + b.length ≤ _; omega) (by simp) _) rfl rfl rfl rfl (by decide) rfl
theorem wf_21 (b0 b1 b : List UInt8) (h0 : b0.length ≤ 1000) (h1 : b1.length ≤ 1000) (h : b.length ≤ 1000) : wfA nm1 b (dk [fl nm0 b0, fl nm1 b1]) 4 = (0, dk [fl nm0 b0, fl nm1 b]) :=
  wf_well (f2 := [⟨nmN, b, 0⟩, fl nm0 b0, fl nm1 b1]) (f3 := [⟨nmN, b, b.length⟩, fl nm0 b0, fl nm1 b1]) rfl (fits_of (by show b0.length + (b1.length + 0) + b.length ≤ _; omega) (by simp) _) rfl rfl rfl rfl (by decide) rfl
/-- A root that was written: right, of a short blob. -/
def Okr (r : Rn) : Prop := r.right = true ∧ r.l.length ≤ 100
theorem Okr.len {r : Rn} (h : Okr r) : r.bytes.length ≤ 1000 := by
  have := (bytes_len r h.1 (by have := h.2; omega)).2
  have := h.2
  omega
theorem Okr.prs {r : Rn} (h : Okr r) : prs r.bytes = (r, 0) := prs_bytes r h.1 (by have := h.2; omega)
/-- What a disk holds after n roots, and the one that counts. -/
inductive Turn : Nat → Rn → List Af → Prop
  | zero : Turn 0 Rn.zero []
  | one (r : Rn) : Okr r → r.s = 1 → Turn 1 r [fl nm1 r.bytes]
  | even (n : Nat) (r q : Rn) : Okr r → Okr q → 2 ≤ n → n % 2 = 0 → r.s = n → q.s + 1 = n → Turn n r [fl nm0 r.bytes, fl nm1 q.bytes]
  | odd (n : Nat) (r q : Rn) : Okr r → Okr q → 2 ≤ n → n % 2 = 1 → r.s = n → q.s + 1 = n → Turn n r [fl nm0 q.bytes, fl nm1 r.bytes]
theorem rf_dk {fs : List Af} {d : Nat} {r : Rn} {nm : List UInt8} (hd : nmR d = nm) (hf : afnd nm fs = some (fl nm r.bytes)) (h : Okr r) (hr : r.s % 2 = d) : rfA (dk fs) d = (r, 0) :=
  rfA_root (b := r.bytes) (by rw [hd]; unfold Ab.err dk; simp only; rw [hf]; rfl) (by rw [hd]; show (aold nm fs).bs = _; unfold aold; rw [hf]; rfl) h.prs hr
theorem rf_none {fs : List Af} {d : Nat} {nm : List UInt8} (hd : nmR d = nm) (hf : afnd nm fs = none) : rfA (dk fs) d = (Rn.zero, 0) :=
  rfA_none (by rw [hd]; unfold Ab.err dk; simp only; rw [hf]; rfl)
/-- The root that counts is read. -/
theorem Turn.rd {n : Nat} {r : Rn} {fs : List Af} (h : Turn n r fs) : rdA (dk fs) = (r, decide (0 < n), 0) := by
  cases h with
  | zero => exact rdA_both (x := Rn.zero) (y := Rn.zero) (rf_none nmR0 rfl) (rf_none nmR1 rfl)
  | one _ h hs =>
    rw [rdA_both (x := Rn.zero) (y := r) (rf_none nmR0 rfl) (rf_dk nmR1 rfl h (by rw [hs]))]
    have e : pickR (pickR Rn.zero Rn.zero) r = r := by
      show (if (pickR Rn.zero Rn.zero).s < r.s then r else _) = r
      rw [if_pos (by rw [hs]; decide)]
    rw [e, hs]
  | even _ _ q h hq h2 hm hs hqs =>
    rw [rdA_both (x := r) (y := q) (rf_dk nmR0 rfl h (by rw [hs]; exact hm)) (rf_dk nmR1 rfl hq (by omega))]
    have e : pickR (pickR Rn.zero r) q = r := by
      have e0 : pickR Rn.zero r = r := by show (if 0 < r.s then r else _) = r; rw [if_pos (by omega)]
      rw [e0]
      show (if r.s < q.s then q else r) = r
      rw [if_neg (by omega)]
    rw [e, hs]
  | odd _ _ q h hq h2 hm hs hqs =>
    rw [rdA_both (x := q) (y := r) (rf_dk nmR0 rfl hq (by omega)) (rf_dk nmR1 rfl h (by rw [hs]; exact hm))]
    have e : pickR (pickR Rn.zero q) r = r := by
      have e0 : pickR Rn.zero q = q := by show (if 0 < q.s then q else _) = q; rw [if_pos (by omega)]
      rw [e0]
      show (if q.s < r.s then r else q) = r
      rw [if_pos (by omega)]
    rw [e, hs]
theorem Turn.serial {n : Nat} {r : Rn} {fs : List Af} (h : Turn n r fs) : r.s = n := by
  cases h with
  | zero => rfl
  | one _ h hs => exact hs
  | even _ _ q h hq h2 hm hs hqs => exact hs
  | odd _ _ q h hq h2 hm hs hqs => exact hs
/-- What Read tells of a file. -/
def rdF (fs : List Af) (nm : List UInt8) : List UInt8 × Int := match afnd nm fs with
  | none => ([], 13)
  | some f => (f.bs, 0)
theorem Turn.len {n : Nat} {r : Rn} {fs : List Af} (h : Turn n r fs) : fs.length = min n 2 := by
  cases h with
  | zero => rfl
  | one _ h hs => rfl
  | even _ _ q h hq h2 hm hs hqs => show 2 = _; omega
  | odd _ _ q h hq h2 hm hs hqs => show 2 = _; omega
theorem Turn.lens {n : Nat} {r : Rn} {fs : List Af} (h : Turn n r fs) : ∀ f ∈ (dk fs).fs, f.bs.length ≤ 20000 := by
  intro f hf
  have hf : f ∈ fs := hf
  cases h with
  | zero => cases hf
  | one _ h hs =>
    simp only [List.mem_cons, List.not_mem_nil, or_false] at hf
    subst hf
    have := h.len
    show r.bytes.length ≤ _
    omega
  | even _ _ q h hq h2 hm hs hqs =>
    have := h.len
    have := hq.len
    simp only [List.mem_cons, List.not_mem_nil, or_false] at hf
    rcases hf with rfl | rfl
    · show r.bytes.length ≤ _
      omega
    · show q.bytes.length ≤ _
      omega
  | odd _ _ q h hq h2 hm hs hqs =>
    have := h.len
    have := hq.len
    simp only [List.mem_cons, List.not_mem_nil, or_false] at hf
    rcases hf with rfl | rfl
    · show q.bytes.length ≤ _
      omega
    · show r.bytes.length ≤ _
      omega
/-- The next root is written into the other file. -/
theorem Turn.wf {n : Nat} {r : Rn} {fs : List Af} (h : Turn n r fs) {q : Rn} (hq : Okr q) (hs : q.s = n + 1) : ∃ fs', wfA (nmR (q.s % 2)) q.bytes (dk fs) 4 = (0, dk fs') ∧ Turn (n + 1) q fs' ∧ rdF fs' (nmR (n % 2)) = rdF fs (nmR (n % 2)) := by
  cases h with
  | zero =>
    rw [hs, nmR1]
    exact ⟨_, wf_0 _ hq.len, .one q hq hs, rfl⟩
  | one _ h h1 =>
    rw [hs, nmR0]
    exact ⟨_, wf_1 _ _ h.len hq.len, .even _ q r hq h (by omega) (by omega) hs (by omega), rfl⟩
  | even _ _ p h hp h2 hm h1 hps =>
    rw [show q.s % 2 = 1 by omega, nmR1]
    exact ⟨_, wf_21 _ _ _ h.len hp.len hq.len, .odd _ q r hq h (by omega) (by omega) hs (by omega), by rw [hm]; rfl⟩
  | odd _ _ p h hp h2 hm h1 hps =>
    rw [show q.s % 2 = 0 by omega, nmR0]
    exact ⟨_, wf_20 _ _ _ hp.len h.len hq.len, .even _ q r hq h (by omega) (by omega) hs (by omega), by rw [hm]; rfl⟩
/-- What Write does in its turn. -/
theorem Turn.wr {n : Nat} {r : Rn} {fs : List Af} (h : Turn n r fs) (t c : Int) (l : List UInt8) (hl : l.length ≤ 100) :
    (wrA (dk fs) t c l = ((Rn.zero, 2), dk fs)) ∨ ∃ q fs', wrA (dk fs) t c l = ((q, 0), dk fs') ∧ Turn (n + 1) q fs' ∧ q.s = n + 1 ∧ rdF fs' (nmR (n % 2)) = rdF fs (nmR (n % 2)) := by
  unfold wrA
  rw [h.rd]
  simp only [h.serial]
  rw [if_neg (by simp)]
  by_cases hg : rgt ((n + 1 : Nat) : Int) t c = false
  · left
    rw [if_pos hg]
  · right
    rw [if_neg hg]
    obtain ⟨x, y, z, hx, rfl, rfl, hr⟩ := rgt_nat (by simpa using hg : rgt ((n + 1 : Nat) : Int) t c = true)
    obtain rfl : n + 1 = x := by omega
    simp only [Int.toNat_natCast]
    obtain ⟨fs', hw, ht, hk⟩ := h.wf (q := ⟨n + 1, y, z, l⟩) ⟨hr l, hl⟩ rfl
    have hw' : wfA (nmR ((n + 1) % 2)) (Rn.bytes ⟨n + 1, y, z, l⟩) (dk fs) 4 = (0, dk fs') := hw
    rw [hw']
    exact ⟨_, fs', by simp, ht, rfl, hk⟩
end Go.Proofs.YthmphbfhofigoaaDoor
namespace Go.Proofs.YthmphbfhofigoaaDoor
open Go.RowKit Go.Maps

theorem dk_fs {s : St} {fs : List Af} (ha : s.ab = dk fs) : s.fl = false ∧ s.fs.map Fl.ab = fs := by
  have e1 : s.ab.fl = false := by rw [ha]; rfl
  have e2 : s.ab.fs = fs := by rw [ha]; rfl
  exact ⟨e1, e2⟩
theorem rdk {w : World} {D M : Nat} {s : St} {fs : List Af} (h : Dsk w D M s) (ha : s.ab = dk fs) (nm : ByteArray) (hs : nm.size ≤ maxLen) :
    Calls Tryd.prog 11 #[.pointer (some ⟨D, 0, none⟩), .string nm] w fun e w' => ∃ A n c, e = .returned (.tuple #[.slice A n c, .int .i64 (rdF fs nm.data.toList).2]) ∧ Rd w' w'.heap.size A n (rdF fs nm.data.toList).1 ∧ (∀ a, A = some a → w.heap.size ≤ a.block) ∧ Fr No w w' := by
  obtain ⟨hfl, hfs⟩ := dk_fs ha
  cases hf : fnd nm.data.toList s.fs with
  | none =>
    have he : s.err nm.data.toList = 13 := by unfold St.err; rw [hfl, hf]; rfl
    have hr : rdF fs nm.data.toList = ([], 13) := by unfold rdF; rw [← hfs, fnd_ab, hf]; rfl
    refine (read_bad h nm hs (by rw [he]; decide)).mono ?_
    rintro e w' ⟨rfl, hF⟩
    rw [hr, he]
    exact ⟨none, 0, 0, rfl, Rd.nil, (fun _ h => by cases h), hF⟩
  | some f =>
    have hr : rdF fs nm.data.toList = (f.bs, 0) := by unfold rdF; rw [← hfs, fnd_ab, hf]; rfl
    refine (read_ok h nm hs hfl f hf).mono ?_
    rintro e w' ⟨v, rfl, ho, hF⟩
    rw [hr]
    obtain ⟨A, c, rfl, _, _⟩ := own_shape ho
    exact ⟨A, _, c, rfl, Rd.own ho, (fun a ha => by subst ha; exact (ho.lt a.block rfl).1), hF⟩
theorem listk {w : World} {D M : Nat} {s : St} {fs : List Af} (h : Dsk w D M s) (ha : s.ab = dk fs) :
    Calls Tryd.prog 14 #[.pointer (some ⟨D, 0, none⟩)] w fun e w' => ∃ A c, e = .returned (.slice A fs.length c) ∧ Fr No w w' := by
  obtain ⟨_, hfs⟩ := dk_fs ha
  refine (list_any h).mono ?_
  rintro e w' ⟨v, rfl, ho, hF⟩
  have e : s.fs.length = fs.length := by rw [← hfs, List.length_map]
  rw [e] at ho
  obtain ⟨A, c, rfl, _, _⟩ := own_shape ho
  exact ⟨A, c, rfl, hF⟩
/-- A root as it stands in a cell row. -/
structure Rc where
  s : Int
  t : Int
  c : Int
  A : Option Addr
  n : Nat
  k : Nat
  l : List UInt8
def RtAt (W : World) (a : Addr) (x : Rc) : Prop :=
  W.cell? a = some (.int .i64 x.s) ∧ W.cell? (a.add 1) = some (.int .i64 x.t) ∧ W.cell? (a.add 2) = some (.int .i64 x.c) ∧ W.cell? (a.add 3) = some (.slice x.A x.n x.k) ∧ Rd W W.heap.size x.A x.n x.l
/-- Where a disk, and a row of the law's own beside it, stand since w. -/
def Lor (w : World) (D M N : Nat) (o : Obj) (s : St) (W : World) : Prop := Dsk W D M s ∧ (∀ k, foot D M s.fs k → w.heap.size ≤ k) ∧ Below w.heap.size w W ∧ W.heap[N]? = some o ∧ ¬ foot D M s.fs N
theorem Lor.no {w W W' : World} {D M N : Nat} {o : Obj} {s : St} (h : Lor w D M N o s W) (hf : Fr No W W') : Lor w D M N o s W' := by
  obtain ⟨hd, hF, hb, hN, hn⟩ := h
  exact ⟨hd.no hf, hF, hb.trans (hf.noBelow.mono hb.size), (hf.block N (Array.getElem?_eq_some_iff.1 hN).1 (fun e => e)).trans hN, hn⟩
theorem Lor.call {w W W' : World} {D M N : Nat} {o : Obj} {s s' : St} (h : Lor w D M N o s W) (hx : Nx D M W s W' s') : Lor w D M N o s' W' := by
  obtain ⟨hd, hF, hb, hN, hn⟩ := h
  have hl := (Array.getElem?_eq_some_iff.1 hN).1
  refine ⟨hx.1, fun k hk => ?_, hb.trans (hx.2.1.below hb.size hF), (hx.2.1.block N hl hn).trans hN, fun hk => ?_⟩
  · rcases hx.2.2 k hk with e | e
    · exact hF k e
    · have := hb.size; omega
  · rcases hx.2.2 N hk with e | e
    · exact hn e
    · omega
end Go.Proofs.YthmphbfhofigoaaDoor
namespace Go.Proofs.YthmphbfhofigoaaDoor
open Go.RowKit Go.Maps

theorem nm_size5 (x : UInt8) : (⟨#[114, 111, 111, 116, x]⟩ : ByteArray).size ≤ maxLen := by
  have e : (⟨#[114, 111, 111, 116, x]⟩ : ByteArray).size = 5 := rfl
  unfold maxLen
  omega
set_option maxHeartbeats 16000000 in
set_option maxRecDepth 100000 in
theorem turns_walk {w : World} (ht : Tab w) (A : Option Addr) (n c : Nat) (xs : List Rc) (hx : RowOf w 4 (RtAt w) A n xs) (hnm : n ≤ maxLen) :
    Calls Tryd.prog 4 #[.slice A n c] w fun e w' => e = .returned (.bool true) ∧ Below w.heap.size w w' := by
  have HT := Lib.hid (fun W (h : Below w.heap.size w W) => ht.keep h ht.pos)
  have HA := Lib.hid (fun W (h : Below w.heap.size w W) => awake_any W (HT.out W h))
  have HX := Lib.hid hx
  have hnew := new_dsk 1048576 w (by omega)
  obtain ⟨D, HDD⟩ : ∃ D, Hid (w.heap.size + 1 = D) := ⟨_, rfl⟩
  obtain ⟨M, HMM⟩ : ∃ M, Hid (w.heap.size = M) := ⟨_, rfl⟩
  rw [HMM.out] at HDD
  rw [HMM.out, HDD.out] at hnew
  have HN := Lib.hid hnew
  have HNM := Lib.hid hnm
  clear hnew hx ht hnm
  go_enter Tryd.func4, Tryd.ntmps4
  go_wp2_with fail
  refine HN.out.mono ?_
  rintro e w1 ⟨rfl, hd1, hb1⟩
  have hf2 := Fr.alloc No w1 (.cells #[.string ⟨#[114, 111, 111, 116, 48]⟩, .string ⟨#[114, 111, 111, 116, 49]⟩] 9)
  have hg2 := heap_alloc_new w1 (.cells #[.string ⟨#[114, 111, 111, 116, 48]⟩, .string ⟨#[114, 111, 111, 116, 49]⟩] 9)
  have HD1 := Lib.hid hd1
  have HB1 := Lib.hid hb1
  clear hd1 hb1
  go_upto_region 5 with fail
  obtain ⟨N, hN⟩ : ∃ N, w1.heap.size = N := ⟨_, rfl⟩
  obtain ⟨w2, hw2⟩ : ∃ u, w1.alloc (.cells #[.string ⟨#[114, 111, 111, 116, 48]⟩, .string ⟨#[114, 111, 111, 116, 49]⟩] 9) = u := ⟨_, rfl⟩
  rw [hw2] at hf2 hg2 ⊢
  rw [hN] at hg2 ⊢
  obtain ⟨o, HO⟩ : ∃ o, Hid ((Obj.cells #[.string ⟨#[114, 111, 111, 116, 48]⟩, .string ⟨#[114, 111, 111, 116, 49]⟩] 9 (0, 0)) = o) := ⟨_, rfl⟩
  rw [HO.out] at hg2
  have HL2 : Hid (Lor w D M N o ⟨false, false, 0, 1048576, []⟩ w2) := Lib.hid (show Lor w D M N o ⟨false, false, 0, 1048576, []⟩ w2 from by
    have hfoot : ∀ k, foot D M [] k → k = D ∨ k = M := fun k hk => by
      rcases hk with e | e | ⟨f, hf, _⟩
      · first | exact .inl e | exact .inr e
      · first | exact .inr e | exact .inl e
      · cases hf
    have h1 := HDD.out
    have h2 := HMM.out
    have h3 := HB1.out.size
    have hDN : D < w1.heap.size := HD1.out.foot_lt (k := D) (by first | exact .inl rfl | exact .inr (.inl rfl))
    refine ⟨HD1.out.no hf2, fun k hk => ?_, (by have := HB1.out; rw [← HMM.out] at this; exact this.trans (hf2.noBelow.mono this.size)), hg2, fun hk => ?_⟩
    · rcases hfoot k hk with rfl | rfl <;> omega
    · rcases hfoot N hk with e | e <;> omega)
  clear hw2 hN hf2 hg2
  go_wp2_with fail
  go_loopw [6, 7] (fun v6 v7 wr => ∃ (i m : Nat) (r : Rn) (fs : List Af) (s : St), i ≤ n ∧ i ≤ 20 ∧ m ≤ i ∧ v6 = .int .i64 (m : Int) ∧ v7 = .int .i64 (i : Int) ∧ Turn m r fs ∧ s.ab = dk fs ∧ Lor w D M N o s wr) (fun _ v7 _ => 20 - (intOf v7).toNat)
  case atStart => exact ⟨0, 0, Rn.zero, [], ⟨false, false, 0, 1048576, []⟩, Nat.zero_le _, Nat.zero_le _, Nat.le_refl _, rfl, rfl, .zero, rfl, HL2.out⟩
  case round =>
    obtain ⟨i, m, r, fs, s, hin, hi20, hmi, rfl, rfl, htu, hab, hlo⟩ := hrel
    have HTU := Lib.hid htu
    have HAB := Lib.hid hab
    have HL := Lib.hid hlo
    clear htu hab hlo
    have hwi : IntKind.i64.wrap ((i : Int) + 1) = ((i + 1 : Nat) : Int) := by
      rw [show ((i : Int) + 1) = ((i + 1 : Nat) : Int) by omega]
      exact IntWalk.i64_in _ (by omega)
    have HWI := Lib.hid hwi
    clear hwi
    by_cases h1 : i < n
    · by_cases h2 : i < 20
      · obtain ⟨x, HXI⟩ : ∃ x, Hid (xs[i]? = some x) := ⟨_, List.getElem?_eq_getElem (by rw [HX.out.1]; exact h1)⟩
        obtain ⟨b, o1, rfl, hbl, hat⟩ := HX.out.2 (by omega)
        have hxi := hat i (by rw [HX.out.1]; exact h1)
        have hxe : xs[i]'(by rw [HX.out.1]; exact h1) = x := by have := HXI.out; rw [List.getElem?_eq_getElem (by rw [HX.out.1]; exact h1)] at this; exact Option.some.inj this
        rw [hxe] at hxi
        obtain ⟨c0, c1, c2, c3, hrl⟩ := hxi
        have HBL := Lib.hid hbl
        rw [Addr.add_lit] at c1 c2 c3
        have CW := Lib.hid (fun W (h : Below w.heap.size w W) => And.intro ((h.cell (p := ⟨b, o1 + i * 4, none⟩) HBL.out).trans c0) (And.intro ((h.cell (p := ⟨b, o1 + i * 4 + 1, none⟩) HBL.out).trans c1) (And.intro ((h.cell (p := ⟨b, o1 + i * 4 + 2, none⟩) HBL.out).trans c2) ((h.cell (p := ⟨b, o1 + i * 4 + 3, none⟩) HBL.out).trans c3))))
        have HRL := Lib.hid hrl
        clear hat hxe c0 c1 c2 c3 hrl hbl
        have d3 := (CW.out wr HL.out.2.2.1).2.2.2
        by_cases h3 : 100 < x.n
        · have hwi := HWI.out
          go_wp2_with fail
          go_roundw
          case rel => exact ⟨i + 1, m, r, fs, s, by omega, by omega, by omega, rfl, by go_num, HTU.out, HAB.out, HL.out⟩
          case measure => simp [intOf]; omega
        · rcases (show m % 2 = 0 ∨ m % 2 = 1 by omega) with hm2 | hm2
          · have hr2 : (m : Int) % 2 = 0 := by omega
            have HM2 := Lib.hid hm2
            have q0 : wr.cell? ⟨N, 0, none⟩ = some (.string ⟨#[114, 111, 111, 116, 48]⟩) := by unfold World.cell?; rw [HL.out.2.2.2.1, ← HO.out]; rfl
            have hrk := rdk HL.out.1 HAB.out ⟨#[114, 111, 111, 116, 48]⟩ (nm_size5 _)
            obtain ⟨yb, ye, hy⟩ : ∃ yb ye, rdF fs [114, 111, 111, 116, 48] = (yb, ye) := ⟨_, _, rfl⟩
            have HY := Lib.hid hy
            have HRK : Hid (Calls Tryd.prog 11 #[.pointer (some ⟨D, 0, none⟩), .string ⟨#[114, 111, 111, 116, 48]⟩] wr fun e w' => ∃ A n c, e = .returned (.tuple #[.slice A n c, .int .i64 ye]) ∧ Rd w' w'.heap.size A n yb ∧ (∀ a, A = some a → wr.heap.size ≤ a.block) ∧ Fr No wr w') := by
              have h := hrk
              rw [show (⟨#[114, 111, 111, 116, 48]⟩ : ByteArray).data.toList = [114, 111, 111, 116, 48] from rfl, hy] at h
              exact h
            clear hrk hy hm2
            go_wp2_with fail
            refine HRK.out.mono ?_
            rintro e w4 ⟨A5, n5, c5, rfl, hrd5, hoff5, hf4⟩
            simp only
            have HF4 := Lib.hid hf4
            have HL4 := Lib.hid (HL.out.no hf4)
            have HRD5 := Lib.hid hrd5
            have HOFF5 := Lib.hid hoff5
            obtain ⟨e0, e1, e2, e3⟩ := CW.out w4 HL4.out.2.2.1
            have hwr := write_any HL4.out.1 (HT.out w4 HL4.out.2.2.1) (lon_lens HAB.out HTU.out.lens) x.s x.t x.c x.A x.n x.k x.l (by
              have hb := HL4.out.2.2.1
              exact (HRL.out.below hb).more hb.size) (by omega) (fun h0 a ha hk => by
              have h5 := HL4.out.2.1 _ hk
              obtain ⟨b', o', e', hlt, _⟩ := HRL.out.2 h0
              rw [ha] at e'
              injection e' with e'
              subst e'
              have : b' < w.heap.size := hlt
              have h6 : w.heap.size ≤ b' := h5
              omega)
            rw [HAB.out] at hwr
            have HLX : Hid (x.l.length ≤ 100) := Lib.hid (by have := HRL.out.1; omega)
            clear hrd5 hoff5 hf4 q0
            rcases HTU.out.wr x.t x.c x.l HLX.out with hw | ⟨q, fs', hw, htu', hqs, hkeep⟩
            · rw [hw] at hwr
              have HW := Lib.hid hwr
              clear hwr hw
              go_wp2_with fail
              refine HW.out.mono ?_
              rintro e w5 ⟨s5, A6, n6, c6, rfl, hrd6, hN5, hab5⟩
              have HL5 := Lib.hid (HL4.out.call hN5)
              have HAB5 := Lib.hid (show s5.ab = dk fs from hab5)
              have hwi := HWI.out
              simp only
              have hfx := fun o => HL5.out.no (Fr.alloc No w5 o)
              have HFX := Lib.hid hfx
              clear hrd6 hN5 hab5 hfx
              go_wp2_with fail
              go_roundw
              case rel => exact ⟨i + 1, m, r, fs, s5, by omega, by omega, by omega, rfl, by go_num, HTU.out, HAB5.out, HFX.out _⟩
              case measure => simp [intOf]; omega
            · rw [hw] at hwr
              have HW := Lib.hid hwr
              obtain ⟨m1, HM1⟩ : ∃ m1, Hid (m + 1 = m1) := ⟨_, rfl⟩
              rw [HM1.out] at htu' hqs
              have HTU' := Lib.hid htu'
              have HQS := Lib.hid hqs
              have HKP : Hid (rdF fs' [114, 111, 111, 116, 48] = (yb, ye)) := Lib.hid (show rdF fs' [114, 111, 111, 116, 48] = (yb, ye) by
                rw [HM2.out, nmR0] at hkeep
                rw [hkeep]
                exact HY.out)
              clear hwr hw htu' hqs hkeep
              go_wp2_with fail
              refine HW.out.mono ?_
              rintro e w5 ⟨s5, A6, n6, c6, rfl, hrd6, hN5, hab5⟩
              have HL5 := Lib.hid (HL4.out.call hN5)
              have HAB5 := Lib.hid (show s5.ab = dk fs' from hab5)
              have HR5 : Hid (Rd w5 w5.heap.size A5 n5 yb) := Lib.hid (rd_offR hN5.2.1 HRD5.out (fun _ a ha hk => by
                have h1 := HOFF5.out a ha
                have h2 := HL.out.1.foot_lt hk
                omega))
              have HR6 : Hid (Rd w5 w5.heap.size A6 n6 q.l) := Lib.hid hrd6
              simp only
              rw [HQS.out]
              have hfx := Fr.alloc No w5 (.cells #[.int .i64 (m1 : Int), .int .i64 (q.t : Int), .int .i64 (q.c : Int), .slice A6 n6 c6] 24)
              have hgx := heap_alloc_new w5 (.cells #[.int .i64 (m1 : Int), .int .i64 (q.t : Int), .int .i64 (q.c : Int), .slice A6 n6 c6] 24)
              clear hrd6 hN5 hab5 e0 e1 e2 e3
              go_upto_region 13 with fail
              obtain ⟨G, hG⟩ : ∃ G, w5.heap.size = G := ⟨_, rfl⟩
              obtain ⟨w6, hw6⟩ : ∃ u, w5.alloc (.cells #[.int .i64 (m1 : Int), .int .i64 (q.t : Int), .int .i64 (q.c : Int), .slice A6 n6 c6] 24) = u := ⟨_, rfl⟩
              rw [hw6] at hfx hgx ⊢
              rw [hG] at hgx ⊢
              have HF6 := Lib.hid hfx
              have HG6 : Hid (w6.heap[G]? = some (.cells #[.int .i64 (m1 : Int), .int .i64 (q.t : Int), .int .i64 (q.c : Int), .slice A6 n6 c6] 24 (0, 0))) := hgx
              have HGL := Lib.hid (Array.getElem?_eq_some_iff.1 hgx).1
              have HL6 := Lib.hid (HL5.out.no hfx)
              have hwm : IntKind.i64.wrap ((m : Int) + 1) = (m1 : Int) := by
                rw [show ((m : Int) + 1) = (m1 : Int) by have := HM1.out; omega]
                exact IntWalk.i64_in _ (by have := HM1.out; omega)
              have hrk := rdk HL6.out.1 HAB5.out ⟨#[114, 111, 111, 116, 48]⟩ (nm_size5 _)
              have HRK2 : Hid (Calls Tryd.prog 11 #[.pointer (some ⟨D, 0, none⟩), .string ⟨#[114, 111, 111, 116, 48]⟩] w6 fun e w' => ∃ A n c, e = .returned (.tuple #[.slice A n c, .int .i64 ye]) ∧ Rd w' w'.heap.size A n yb ∧ (∀ a, A = some a → w6.heap.size ≤ a.block) ∧ Fr No w6 w') := by
                have h := hrk
                rw [show (⟨#[114, 111, 111, 116, 48]⟩ : ByteArray).data.toList = [114, 111, 111, 116, 48] from rfl, HKP.out] at h
                exact h
              clear hw6 hG hfx hgx hrk
              go_wp2_with fail
              refine HRK2.out.mono ?_
              rintro e w7 ⟨A7, n7, c7, rfl, hrd7, _, hf7⟩
              simp only
              have HL7 := Lib.hid (HL6.out.no hf7)
              have HF7 := Lib.hid hf7
              have HR7 := Lib.hid hrd7
              have HUS := Lib.hid (used_any HL7.out.1)
              clear hrd7 hf7
              go_wp2_with fail
              refine HUS.out.mono ?_
              rintro e w8 ⟨rfl, hf8⟩
              obtain ⟨us, HUU⟩ : ∃ u, Hid (used s5.fs = u) := ⟨_, rfl⟩
              rw [HUU.out]
              have HL8 := Lib.hid (HL7.out.no hf8)
              have HE8 : Hid (Fr No w7 w8) := hf8
              have HF8 := Lib.hid (HF7.out.no_trans hf8)
              have HLI := Lib.hid (listk HL8.out.1 HAB5.out)
              obtain ⟨kf, HKF⟩ : ∃ k, Hid (fs'.length = k) := ⟨_, rfl⟩
              rw [HKF.out] at HLI
              clear hf8
              go_wp2_with fail
              refine HLI.out.mono ?_
              rintro e w9 ⟨A9, c9, rfl, hf9⟩
              simp only
              have HL9 := Lib.hid (HL8.out.no hf9)
              have HE9 := Lib.hid (HE8.out.no_trans hf9)
              have HF9 := Lib.hid (HF8.out.no_trans hf9)
              have hrr := read_any HL9.out.1 (HT.out w9 HL9.out.2.2.1) (lon_lens HAB5.out HTU'.out.lens)
              rw [HAB5.out, HTU'.out.rd, show decide (0 < m1) = true by have := HM1.out; simp; omega] at hrr
              have HRR := Lib.hid hrr
              clear hf9 hrr
              go_wp2_with fail
              refine HRR.out.mono ?_
              rintro e w10 ⟨A10, n10, c10, rfl, hr10, hb10⟩
              simp only
              rw [HQS.out]
              have hfy := Fr.alloc No w10 (.cells #[.int .i64 (m1 : Int), .int .i64 (q.t : Int), .int .i64 (q.c : Int), .slice A10 n10 c10] 24)
              have hgy := heap_alloc_new w10 (.cells #[.int .i64 (m1 : Int), .int .i64 (q.t : Int), .int .i64 (q.c : Int), .slice A10 n10 c10] 24)
              have HR10 : Hid (Rd w10 w10.heap.size A10 n10 q.l) := Lib.hid hr10
              have HL10 := Lib.hid (HL9.out.no (show Fr No w9 w10 from Fr.of_below hb10))
              have HE10 := Lib.hid (HE9.out.no_trans (show Fr No w9 w10 from Fr.of_below hb10))
              have HF10 := Lib.hid (HF9.out.no_trans (show Fr No w9 w10 from Fr.of_below hb10))
              clear hr10 hb10
              go_upto_region 18 with fail
              obtain ⟨J, hJ⟩ : ∃ J, w10.heap.size = J := ⟨_, rfl⟩
              obtain ⟨w11, hw11⟩ : ∃ u, w10.alloc (.cells #[.int .i64 (m1 : Int), .int .i64 (q.t : Int), .int .i64 (q.c : Int), .slice A10 n10 c10] 24) = u := ⟨_, rfl⟩
              rw [hw11] at hfy hgy ⊢
              rw [hJ] at hgy ⊢
              have HF11 := Lib.hid (HF10.out.no_trans hfy)
              have HE11 := Lib.hid (HE10.out.no_trans hfy)
              have HL11 := Lib.hid (HL10.out.no hfy)
              have HR11 := Lib.hid (rd_offR hfy HR10.out (fun _ _ _ e => e))
              have HRA := Lib.hid (rd_offR HF11.out (rd_offR HF6.out HR5.out (fun _ _ _ e => e)) (fun _ _ _ e => e))
              have HRB := Lib.hid (rd_offR HE11.out HR7.out (fun _ _ _ e => e))
              have HRC := Lib.hid (rd_offR HF11.out (rd_offR HF6.out HR6.out (fun _ _ _ e => e)) (fun _ _ _ e => e))
              have hg11 := (HF11.out.block G HGL.out (fun e => e)).trans HG6.out
              have x0 : w11.cell? ⟨G, 0, none⟩ = some (.int .i64 (m1 : Int)) := by unfold World.cell?; rw [hg11]; rfl
              have x1 : w11.cell? ⟨G, 1, none⟩ = some (.int .i64 (q.t : Int)) := by unfold World.cell?; rw [hg11]; rfl
              have x2 : w11.cell? ⟨G, 2, none⟩ = some (.int .i64 (q.c : Int)) := by unfold World.cell?; rw [hg11]; rfl
              have x3 : w11.cell? ⟨G, 3, none⟩ = some (.slice A6 n6 c6) := by unfold World.cell?; rw [hg11]; rfl
              have y0 : w11.cell? ⟨J, 0, none⟩ = some (.int .i64 (m1 : Int)) := by unfold World.cell?; rw [hgy]; rfl
              have y1 : w11.cell? ⟨J, 1, none⟩ = some (.int .i64 (q.t : Int)) := by unfold World.cell?; rw [hgy]; rfl
              have y2 : w11.cell? ⟨J, 2, none⟩ = some (.int .i64 (q.c : Int)) := by unfold World.cell?; rw [hgy]; rfl
              have y3 : w11.cell? ⟨J, 3, none⟩ = some (.slice A10 n10 c10) := by unfold World.cell?; rw [hgy]; rfl
              have HSB := Lib.hid (same_bytes c5 c7 HRA.out HRB.out)
              rw [show decide (yb = yb) = true by simp] at HSB
              have HSR := Lib.hid (same_root (m1 : Int) (q.t : Int) (q.c : Int) (m1 : Int) (q.t : Int) (q.c : Int) c10 c6 HR11.out HRC.out)
              rw [show eqR (m1 : Int) (q.t : Int) (q.c : Int) (m1 : Int) (q.t : Int) (q.c : Int) q.l q.l = true by unfold eqR; simp] at HSR
              clear hw11 hJ hfy hgy hg11
              go_wp2_with fail
              refine HSB.out.mono ?_
              rintro e w12 ⟨rfl, hww⟩
              obtain rfl : w11 = w12 := hww.symm
              simp only
              go_wp2_with fail
              refine HSR.out.mono ?_
              rintro e w13 ⟨rfl, hb13⟩
              simp only
              have HL13 := Lib.hid (HL11.out.no (show Fr No w11 w13 from Fr.of_below hb13))
              have HUS2 := Lib.hid (used_any HL13.out.1)
              rw [HUU.out] at HUS2
              clear hb13
              go_wp2_with fail
              refine HUS2.out.mono ?_
              rintro e w14 ⟨rfl, hf14⟩
              simp only
              have HL14 := Lib.hid (HL13.out.no hf14)
              have HLI2 := Lib.hid (listk HL14.out.1 HAB5.out)
              rw [HKF.out] at HLI2
              clear hf14
              go_wp2_with fail
              refine HLI2.out.mono ?_
              rintro e w15 ⟨A15, c15, rfl, hf15⟩
              simp only
              have HL15 := Lib.hid (HL14.out.no hf15)
              have hwi := HWI.out
              clear hf15
              have hkm : kf = min m1 2 := by have h1 := HTU'.out.len; have h2 := HKF.out; omega
              have hmn : min (m1 : Int) 2 = (kf : Int) := by omega
              clear hkm
              go_wp2_with fail
              go_roundw
              case rel => exact ⟨i + 1, m1, q, fs', s5, by omega, by omega, by have := HM1.out; omega, rfl, by go_num, HTU'.out, HAB5.out, HL15.out⟩
              case measure => simp [intOf]; omega
          · have hr2 : (m : Int) % 2 = 1 := by omega
            have HM2 := Lib.hid hm2
            have q1 : wr.cell? ⟨N, 1, none⟩ = some (.string ⟨#[114, 111, 111, 116, 49]⟩) := by unfold World.cell?; rw [HL.out.2.2.2.1, ← HO.out]; rfl
            have hrk := rdk HL.out.1 HAB.out ⟨#[114, 111, 111, 116, 49]⟩ (nm_size5 _)
            obtain ⟨yb, ye, hy⟩ : ∃ yb ye, rdF fs [114, 111, 111, 116, 49] = (yb, ye) := ⟨_, _, rfl⟩
            have HY := Lib.hid hy
            have HRK : Hid (Calls Tryd.prog 11 #[.pointer (some ⟨D, 0, none⟩), .string ⟨#[114, 111, 111, 116, 49]⟩] wr fun e w' => ∃ A n c, e = .returned (.tuple #[.slice A n c, .int .i64 ye]) ∧ Rd w' w'.heap.size A n yb ∧ (∀ a, A = some a → wr.heap.size ≤ a.block) ∧ Fr No wr w') := by
              have h := hrk
              rw [show (⟨#[114, 111, 111, 116, 49]⟩ : ByteArray).data.toList = [114, 111, 111, 116, 49] from rfl, hy] at h
              exact h
            clear hrk hy hm2
            go_wp2_with fail
            refine HRK.out.mono ?_
            rintro e w4 ⟨A5, n5, c5, rfl, hrd5, hoff5, hf4⟩
            simp only
            have HF4 := Lib.hid hf4
            have HL4 := Lib.hid (HL.out.no hf4)
            have HRD5 := Lib.hid hrd5
            have HOFF5 := Lib.hid hoff5
            obtain ⟨e0, e1, e2, e3⟩ := CW.out w4 HL4.out.2.2.1
            have hwr := write_any HL4.out.1 (HT.out w4 HL4.out.2.2.1) (lon_lens HAB.out HTU.out.lens) x.s x.t x.c x.A x.n x.k x.l (by
              have hb := HL4.out.2.2.1
              exact (HRL.out.below hb).more hb.size) (by omega) (fun h0 a ha hk => by
              have h5 := HL4.out.2.1 _ hk
              obtain ⟨b', o', e', hlt, _⟩ := HRL.out.2 h0
              rw [ha] at e'
              injection e' with e'
              subst e'
              have : b' < w.heap.size := hlt
              have h6 : w.heap.size ≤ b' := h5
              omega)
            rw [HAB.out] at hwr
            have HLX : Hid (x.l.length ≤ 100) := Lib.hid (by have := HRL.out.1; omega)
            clear hrd5 hoff5 hf4 q1
            rcases HTU.out.wr x.t x.c x.l HLX.out with hw | ⟨q, fs', hw, htu', hqs, hkeep⟩
            · rw [hw] at hwr
              have HW := Lib.hid hwr
              clear hwr hw
              go_wp2_with fail
              refine HW.out.mono ?_
              rintro e w5 ⟨s5, A6, n6, c6, rfl, hrd6, hN5, hab5⟩
              have HL5 := Lib.hid (HL4.out.call hN5)
              have HAB5 := Lib.hid (show s5.ab = dk fs from hab5)
              have hwi := HWI.out
              simp only
              have hfx := fun o => HL5.out.no (Fr.alloc No w5 o)
              have HFX := Lib.hid hfx
              clear hrd6 hN5 hab5 hfx
              go_wp2_with fail
              go_roundw
              case rel => exact ⟨i + 1, m, r, fs, s5, by omega, by omega, by omega, rfl, by go_num, HTU.out, HAB5.out, HFX.out _⟩
              case measure => simp [intOf]; omega
            · rw [hw] at hwr
              have HW := Lib.hid hwr
              obtain ⟨m1, HM1⟩ : ∃ m1, Hid (m + 1 = m1) := ⟨_, rfl⟩
              rw [HM1.out] at htu' hqs
              have HTU' := Lib.hid htu'
              have HQS := Lib.hid hqs
              have HKP : Hid (rdF fs' [114, 111, 111, 116, 49] = (yb, ye)) := Lib.hid (show rdF fs' [114, 111, 111, 116, 49] = (yb, ye) by
                rw [HM2.out, nmR1] at hkeep
                rw [hkeep]
                exact HY.out)
              clear hwr hw htu' hqs hkeep
              go_wp2_with fail
              refine HW.out.mono ?_
              rintro e w5 ⟨s5, A6, n6, c6, rfl, hrd6, hN5, hab5⟩
              have HL5 := Lib.hid (HL4.out.call hN5)
              have HAB5 := Lib.hid (show s5.ab = dk fs' from hab5)
              have HR5 : Hid (Rd w5 w5.heap.size A5 n5 yb) := Lib.hid (rd_offR hN5.2.1 HRD5.out (fun _ a ha hk => by
                have h1 := HOFF5.out a ha
                have h2 := HL.out.1.foot_lt hk
                omega))
              have HR6 : Hid (Rd w5 w5.heap.size A6 n6 q.l) := Lib.hid hrd6
              simp only
              rw [HQS.out]
              have hfx := Fr.alloc No w5 (.cells #[.int .i64 (m1 : Int), .int .i64 (q.t : Int), .int .i64 (q.c : Int), .slice A6 n6 c6] 24)
              have hgx := heap_alloc_new w5 (.cells #[.int .i64 (m1 : Int), .int .i64 (q.t : Int), .int .i64 (q.c : Int), .slice A6 n6 c6] 24)
              clear hrd6 hN5 hab5 e0 e1 e2 e3
              go_upto_region 13 with fail
              obtain ⟨G, hG⟩ : ∃ G, w5.heap.size = G := ⟨_, rfl⟩
              obtain ⟨w6, hw6⟩ : ∃ u, w5.alloc (.cells #[.int .i64 (m1 : Int), .int .i64 (q.t : Int), .int .i64 (q.c : Int), .slice A6 n6 c6] 24) = u := ⟨_, rfl⟩
              rw [hw6] at hfx hgx ⊢
              rw [hG] at hgx ⊢
              have HF6 := Lib.hid hfx
              have HG6 : Hid (w6.heap[G]? = some (.cells #[.int .i64 (m1 : Int), .int .i64 (q.t : Int), .int .i64 (q.c : Int), .slice A6 n6 c6] 24 (0, 0))) := hgx
              have HGL := Lib.hid (Array.getElem?_eq_some_iff.1 hgx).1
              have HL6 := Lib.hid (HL5.out.no hfx)
              have hwm : IntKind.i64.wrap ((m : Int) + 1) = (m1 : Int) := by
                rw [show ((m : Int) + 1) = (m1 : Int) by have := HM1.out; omega]
                exact IntWalk.i64_in _ (by have := HM1.out; omega)
              have hrk := rdk HL6.out.1 HAB5.out ⟨#[114, 111, 111, 116, 49]⟩ (nm_size5 _)
              have HRK2 : Hid (Calls Tryd.prog 11 #[.pointer (some ⟨D, 0, none⟩), .string ⟨#[114, 111, 111, 116, 49]⟩] w6 fun e w' => ∃ A n c, e = .returned (.tuple #[.slice A n c, .int .i64 ye]) ∧ Rd w' w'.heap.size A n yb ∧ (∀ a, A = some a → w6.heap.size ≤ a.block) ∧ Fr No w6 w') := by
                have h := hrk
                rw [show (⟨#[114, 111, 111, 116, 49]⟩ : ByteArray).data.toList = [114, 111, 111, 116, 49] from rfl, HKP.out] at h
                exact h
              clear hw6 hG hfx hgx hrk
              go_wp2_with fail
              refine HRK2.out.mono ?_
              rintro e w7 ⟨A7, n7, c7, rfl, hrd7, _, hf7⟩
              simp only
              have HL7 := Lib.hid (HL6.out.no hf7)
              have HF7 := Lib.hid hf7
              have HR7 := Lib.hid hrd7
              have HUS := Lib.hid (used_any HL7.out.1)
              clear hrd7 hf7
              go_wp2_with fail
              refine HUS.out.mono ?_
              rintro e w8 ⟨rfl, hf8⟩
              obtain ⟨us, HUU⟩ : ∃ u, Hid (used s5.fs = u) := ⟨_, rfl⟩
              rw [HUU.out]
              have HL8 := Lib.hid (HL7.out.no hf8)
              have HE8 : Hid (Fr No w7 w8) := hf8
              have HF8 := Lib.hid (HF7.out.no_trans hf8)
              have HLI := Lib.hid (listk HL8.out.1 HAB5.out)
              obtain ⟨kf, HKF⟩ : ∃ k, Hid (fs'.length = k) := ⟨_, rfl⟩
              rw [HKF.out] at HLI
              clear hf8
              go_wp2_with fail
              refine HLI.out.mono ?_
              rintro e w9 ⟨A9, c9, rfl, hf9⟩
              simp only
              have HL9 := Lib.hid (HL8.out.no hf9)
              have HE9 := Lib.hid (HE8.out.no_trans hf9)
              have HF9 := Lib.hid (HF8.out.no_trans hf9)
              have hrr := read_any HL9.out.1 (HT.out w9 HL9.out.2.2.1) (lon_lens HAB5.out HTU'.out.lens)
              rw [HAB5.out, HTU'.out.rd, show decide (0 < m1) = true by have := HM1.out; simp; omega] at hrr
              have HRR := Lib.hid hrr
              clear hf9 hrr
              go_wp2_with fail
              refine HRR.out.mono ?_
              rintro e w10 ⟨A10, n10, c10, rfl, hr10, hb10⟩
              simp only
              rw [HQS.out]
              have hfy := Fr.alloc No w10 (.cells #[.int .i64 (m1 : Int), .int .i64 (q.t : Int), .int .i64 (q.c : Int), .slice A10 n10 c10] 24)
              have hgy := heap_alloc_new w10 (.cells #[.int .i64 (m1 : Int), .int .i64 (q.t : Int), .int .i64 (q.c : Int), .slice A10 n10 c10] 24)
              have HR10 : Hid (Rd w10 w10.heap.size A10 n10 q.l) := Lib.hid hr10
              have HL10 := Lib.hid (HL9.out.no (show Fr No w9 w10 from Fr.of_below hb10))
              have HE10 := Lib.hid (HE9.out.no_trans (show Fr No w9 w10 from Fr.of_below hb10))
              have HF10 := Lib.hid (HF9.out.no_trans (show Fr No w9 w10 from Fr.of_below hb10))
              clear hr10 hb10
              go_upto_region 18 with fail
              obtain ⟨J, hJ⟩ : ∃ J, w10.heap.size = J := ⟨_, rfl⟩
              obtain ⟨w11, hw11⟩ : ∃ u, w10.alloc (.cells #[.int .i64 (m1 : Int), .int .i64 (q.t : Int), .int .i64 (q.c : Int), .slice A10 n10 c10] 24) = u := ⟨_, rfl⟩
              rw [hw11] at hfy hgy ⊢
              rw [hJ] at hgy ⊢
              have HF11 := Lib.hid (HF10.out.no_trans hfy)
              have HE11 := Lib.hid (HE10.out.no_trans hfy)
              have HL11 := Lib.hid (HL10.out.no hfy)
              have HR11 := Lib.hid (rd_offR hfy HR10.out (fun _ _ _ e => e))
              have HRA := Lib.hid (rd_offR HF11.out (rd_offR HF6.out HR5.out (fun _ _ _ e => e)) (fun _ _ _ e => e))
              have HRB := Lib.hid (rd_offR HE11.out HR7.out (fun _ _ _ e => e))
              have HRC := Lib.hid (rd_offR HF11.out (rd_offR HF6.out HR6.out (fun _ _ _ e => e)) (fun _ _ _ e => e))
              have hg11 := (HF11.out.block G HGL.out (fun e => e)).trans HG6.out
              have x0 : w11.cell? ⟨G, 0, none⟩ = some (.int .i64 (m1 : Int)) := by unfold World.cell?; rw [hg11]; rfl
              have x1 : w11.cell? ⟨G, 1, none⟩ = some (.int .i64 (q.t : Int)) := by unfold World.cell?; rw [hg11]; rfl
              have x2 : w11.cell? ⟨G, 2, none⟩ = some (.int .i64 (q.c : Int)) := by unfold World.cell?; rw [hg11]; rfl
              have x3 : w11.cell? ⟨G, 3, none⟩ = some (.slice A6 n6 c6) := by unfold World.cell?; rw [hg11]; rfl
              have y0 : w11.cell? ⟨J, 0, none⟩ = some (.int .i64 (m1 : Int)) := by unfold World.cell?; rw [hgy]; rfl
              have y1 : w11.cell? ⟨J, 1, none⟩ = some (.int .i64 (q.t : Int)) := by unfold World.cell?; rw [hgy]; rfl
              have y2 : w11.cell? ⟨J, 2, none⟩ = some (.int .i64 (q.c : Int)) := by unfold World.cell?; rw [hgy]; rfl
              have y3 : w11.cell? ⟨J, 3, none⟩ = some (.slice A10 n10 c10) := by unfold World.cell?; rw [hgy]; rfl
              have HSB := Lib.hid (same_bytes c5 c7 HRA.out HRB.out)
              rw [show decide (yb = yb) = true by simp] at HSB
              have HSR := Lib.hid (same_root (m1 : Int) (q.t : Int) (q.c : Int) (m1 : Int) (q.t : Int) (q.c : Int) c10 c6 HR11.out HRC.out)
              rw [show eqR (m1 : Int) (q.t : Int) (q.c : Int) (m1 : Int) (q.t : Int) (q.c : Int) q.l q.l = true by unfold eqR; simp] at HSR
              clear hw11 hJ hfy hgy hg11
              go_wp2_with fail
              refine HSB.out.mono ?_
              rintro e w12 ⟨rfl, hww⟩
              obtain rfl : w11 = w12 := hww.symm
              simp only
              go_wp2_with fail
              refine HSR.out.mono ?_
              rintro e w13 ⟨rfl, hb13⟩
              simp only
              have HL13 := Lib.hid (HL11.out.no (show Fr No w11 w13 from Fr.of_below hb13))
              have HUS2 := Lib.hid (used_any HL13.out.1)
              rw [HUU.out] at HUS2
              clear hb13
              go_wp2_with fail
              refine HUS2.out.mono ?_
              rintro e w14 ⟨rfl, hf14⟩
              simp only
              have HL14 := Lib.hid (HL13.out.no hf14)
              have HLI2 := Lib.hid (listk HL14.out.1 HAB5.out)
              rw [HKF.out] at HLI2
              clear hf14
              go_wp2_with fail
              refine HLI2.out.mono ?_
              rintro e w15 ⟨A15, c15, rfl, hf15⟩
              simp only
              have HL15 := Lib.hid (HL14.out.no hf15)
              have hwi := HWI.out
              clear hf15
              have hkm : kf = min m1 2 := by have h1 := HTU'.out.len; have h2 := HKF.out; omega
              have hmn : min (m1 : Int) 2 = (kf : Int) := by omega
              clear hkm
              go_wp2_with fail
              go_roundw
              case rel => exact ⟨i + 1, m1, q, fs', s5, by omega, by omega, by have := HM1.out; omega, rfl, by go_num, HTU'.out, HAB5.out, HL15.out⟩
              case measure => simp [intOf]; omega
      · go_wp2_with fail
        refine (HA.out _ HL.out.2.2.1).mono ?_
        rintro e wz ⟨rfl, hbz⟩
        have HZ := Lib.hid (HL.out.2.2.1.trans (hbz.mono HL.out.2.2.1.size))
        clear hbz
        go_wp2_with fail
        go_ret
        exact ⟨rfl, HZ.out⟩
    · go_wp2_with fail
      refine (HA.out _ HL.out.2.2.1).mono ?_
      rintro e wz ⟨rfl, hbz⟩
      have HZ := Lib.hid (HL.out.2.2.1.trans (hbz.mono HL.out.2.2.1.size))
      clear hbz
      go_wp2_with fail
      go_ret
      exact ⟨rfl, HZ.out⟩
end Go.Proofs.YthmphbfhofigoaaDoor

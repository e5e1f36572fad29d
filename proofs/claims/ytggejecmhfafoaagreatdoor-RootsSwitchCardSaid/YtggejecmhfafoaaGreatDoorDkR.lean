/-
  Append at a disk: the walk. No statement of the seat is proved here.
-/
import Derived.Test.YtggejecmhfafoaaGreatDoorDkQ
namespace Go.Proofs.YtggejecmhfafoaaGreatDoor
open Go.RowKit Go.Maps

set_option maxRecDepth 100000 in
theorem Dsk.rd_ne {w : World} {D M : Nat} {s : St} (h : Dsk w D M s) {B n : Nat} {A : Option Addr} {l : List UInt8} (hr : Rd w B A n l) (hn : 0 < n) : ∃ b o, A = some ⟨b, o, none⟩ ∧ b ≠ D := by
  obtain ⟨b, o, hA, hb, hc⟩ := hr.2 hn
  refine ⟨b, o, hA, ?_⟩
  rintro rfl
  have h0 := hc 0 (by have := hr.1; omega)
  rw [h.cell, Nat.add_zero] at h0
  unfold St.cells at h0
  rcases o with _ | _ | _ | _ | _ | _ | o <;> simp at h0
set_option maxRecDepth 100000 in
theorem Dsk.rd_step {w w' : World} {D M : Nat} {s : St} (h : Dsk w D M s) {B n : Nat} {A : Option Addr} {l : List UInt8} (hr : Rd w B A n l) (hB : B ≤ w.heap.size) (hf : Fr (fun k => k = D) w w') : Rd w' B A n l := by
  refine ⟨hr.1, fun hn => ?_⟩
  obtain ⟨b, o, hA, hb, hc⟩ := hr.2 hn
  obtain ⟨b', o', hA', hne⟩ := h.rd_ne hr hn
  rw [hA] at hA'
  injection hA' with e
  injection e with e1 e2
  subst e1
  exact ⟨b, o, hA, hb, fun j hj => (World.cell?_of_block (w := w) (hf.block b (by omega) hne)).trans (hc j hj)⟩
set_option maxRecDepth 100000 in
theorem wpList_look_old {w : World} {ops : Array Oper} {rest : List Oper} {o : Oper} {a : Act} {Q : Exit → Act → World → Prop} {M n : Nat} {fs : List Fl} (hg : o.guard = none) (m x : Operand) (hop : o.op = Op.lookup 46 m x false)
    (hown : w.ownsMap Tryz.prog 9 flR M n (dat fs)) (nm : ByteArray) (hs : nm.size ≤ maxLen) (hm : a.eval m = .map (some M)) (hx : a.eval x = .string nm)
    (hK : wpList Tryz.prog ops Q rest (a.put o.dst (.agg #[.slice (old nm.data.toList fs).A (old nm.data.toList fs).bs.length (old nm.data.toList fs).c, .int .i64 ((old nm.data.toList fs).fm : Int)])) w) : wpList Tryz.prog ops Q (o :: rest) a w := by
  refine wpList_look hg m x hop hown nm hs hm hx ?_
  unfold old at hK
  cases hf : fnd nm.data.toList fs with
  | none => rw [hf] at hK; exact hK
  | some f => rw [hf] at hK; exact hK
set_option maxRecDepth 100000 in
theorem append_down {w : World} {D M : Nat} {s : St} (h : Dsk w D M s) (nm : ByteArray) (A : Option Addr) (n c : Nat) (hfl : s.fl = true) :
    Calls Tryz.prog 31 #[.pointer (some ⟨D, 0, none⟩), .string nm, .slice A n c] w fun e w' => e = .returned (.int .i64 15) ∧ w = w' := by
  have HR := Lib.hid (ready_down D w h.c3 (by rw [h.c0, hfl]))
  clear h hfl
  go_enter Tryz.func31, Tryz.ntmps31
  go_wp2_with fail
  refine HR.out.mono ?_
  rintro e w' ⟨rfl, rfl⟩
  go_wp2_with fail
  go_ret
  exact ⟨rfl, rfl⟩
set_option maxRecDepth 100000 in
theorem append_name {w : World} {D M : Nat} {s : St} (h : Dsk w D M s) (nm : ByteArray) (hs : nm.size ≤ maxLen) (A : Option Addr) (n c : Nat) (hfl : s.fl = false) (hn : isNm nm.data.toList = false) :
    Calls Tryz.prog 31 #[.pointer (some ⟨D, 0, none⟩), .string nm, .slice A n c] w fun e w' => e = .returned (.int .i64 13) ∧ w = w' := by
  have HR := Lib.hid (ready_up D w h.c3 (by rw [h.c0, hfl]))
  have HI0 := isname_any nm w (by unfold maxLen at hs; exact hs)
  rw [hn] at HI0
  have HI := Lib.hid HI0
  clear h hfl hn hs HI0
  go_enter Tryz.func31, Tryz.ntmps31
  go_wp2_with fail
  refine HR.out.mono ?_
  rintro e w' ⟨rfl, rfl⟩
  go_wp2_with fail
  refine HI.out.mono ?_
  rintro e w' ⟨rfl, rfl⟩
  go_wp2_with fail
  go_ret
  exact ⟨rfl, rfl⟩
set_option maxRecDepth 100000 in
theorem append_full {w : World} {D M : Nat} {s : St} (h : Dsk w D M s) (nm : ByteArray) (hs : nm.size ≤ maxLen) (A : Option Addr) (n c : Nat) (hfl : s.fl = false) (hn : isNm nm.data.toList = true) (hr : s.fits nm.data.toList n = false) :
    Calls Tryz.prog 31 #[.pointer (some ⟨D, 0, none⟩), .string nm, .slice A n c] w fun e w' => e = .returned (.int .i64 5) ∧ Fr No w w' := by
  have HR := Lib.hid (ready_up D w h.c3 (by rw [h.c0, hfl]))
  have HI0 := isname_any nm w (by unfold maxLen at hs; exact hs)
  rw [hn] at HI0
  have HI := Lib.hid HI0
  have HM0 := hasroom_any h nm hs n
  rw [hr] at HM0
  have HM := Lib.hid HM0
  clear h hfl hn hs HI0 hr HM0
  go_enter Tryz.func31, Tryz.ntmps31
  go_wp2_with fail
  refine HR.out.mono ?_
  rintro e w' ⟨rfl, rfl⟩
  go_wp2_with fail
  refine HI.out.mono ?_
  rintro e w' ⟨rfl, rfl⟩
  go_wp2_with fail
  refine HM.out.mono ?_
  rintro e w1 ⟨rfl, hf1⟩
  have HF1 := Lib.hid hf1
  clear hf1
  go_wp2_with fail
  go_ret
  exact ⟨rfl, HF1.out⟩
set_option maxRecDepth 100000 in
theorem append_fails {w : World} {D M : Nat} {s : St} (h : Dsk w D M s) (nm : ByteArray) (hs : nm.size ≤ maxLen) (A : Option Addr) (n c : Nat) (hfl : s.fl = false) (hn : isNm nm.data.toList = true) (hr : s.fits nm.data.toList n = true) (hx : s.fails = true) :
    Calls Tryz.prog 31 #[.pointer (some ⟨D, 0, none⟩), .string nm, .slice A n c] w fun e w' => e = .returned (.int .i64 15) ∧ Nx D M w s w' s.step := by
  have HR := Lib.hid (ready_up D w h.c3 (by rw [h.c0, hfl]))
  have HI0 := isname_any nm w (by unfold maxLen at hs; exact hs)
  rw [hn] at HI0
  have HI := Lib.hid HI0
  have HM0 := hasroom_any h nm hs n
  rw [hr] at HM0
  have HM := Lib.hid HM0
  have HS := Lib.hid (fun W (hf : Fr No w W) => step_any (h.no hf) hfl)
  clear hn hs HI0 hr HM0
  have H := Lib.hid h
  have HX := Lib.hid hx
  clear h hfl hx
  go_enter Tryz.func31, Tryz.ntmps31
  go_wp2_with fail
  refine HR.out.mono ?_
  rintro e w' ⟨rfl, rfl⟩
  go_wp2_with fail
  refine HI.out.mono ?_
  rintro e w' ⟨rfl, rfl⟩
  go_wp2_with fail
  refine HM.out.mono ?_
  rintro e w1 ⟨rfl, hf1⟩
  have HF1 := Lib.hid hf1
  clear hf1
  go_wp2_with fail
  refine (HS.out _ HF1.out).mono ?_
  rintro e w2 ⟨rfl, h2, hf2⟩
  have H2 := Lib.hid h2
  have HF2 := Lib.hid hf2
  clear h2 hf2
  rw [HX.out]
  go_wp2_with fail
  go_ret
  exact ⟨rfl, (Nx.no H.out HF1.out).trans (Nx.step H2.out HF2.out)⟩
set_option maxRecDepth 100000 in
theorem append_ok {w : World} {D M : Nat} {s : St} (h : Dsk w D M s) (nm : ByteArray) (hs : nm.size ≤ maxLen) (A : Option Addr) (n c : Nat) (l : List UInt8) (hb : Rd w w.heap.size A n l) (hfl : s.fl = false) (hn : isNm nm.data.toList = true) (hr : s.fits nm.data.toList n = true) (hx : s.fails = false) :
    Calls Tryz.prog 31 #[.pointer (some ⟨D, 0, none⟩), .string nm, .slice A n c] w fun e w' => 
      e = .returned (.int .i64 0) ∧ ∃ A' c', Nx D M w s w' { s.step with fs := put ⟨nm.data.toList, A', c', (old nm.data.toList s.fs).bs ++ l, (old nm.data.toList s.fs).fm⟩ s.fs } := by
  have HR := Lib.hid (ready_up D w h.c3 (by rw [h.c0, hfl]))
  have HI0 := isname_any nm w (by unfold maxLen at hs; exact hs)
  rw [hn] at HI0
  have HI := Lib.hid HI0
  have HM0 := hasroom_any h nm hs n
  rw [hr] at HM0
  have HM := Lib.hid HM0
  have HS := Lib.hid (fun W (hf : Fr No w W) => step_any (h.no hf) hfl)
  have hlen : (old nm.data.toList s.fs).bs.length + n ≤ 33554432 := by
    have h1 : used s.fs + n ≤ s.mo := by
      unfold St.fits at hr
      simp only [Bool.and_eq_true, decide_eq_true_eq] at hr
      exact hr.1
    have h2 := used_put h (old nm.data.toList s.fs)
    have h3 := h.most
    rw [old_nm] at h2
    have h4 : (old nm.data.toList s.fs).bs.length ≤ used s.fs := by
      unfold old
      cases hf : fnd nm.data.toList s.fs with
      | none => exact Nat.zero_le _
      | some f => exact used_mem (fnd_mem hf).1
    omega
  have H := Lib.hid h
  have HX := Lib.hid hx
  have HD := Lib.hid hb
  have HL := Lib.hid hlen
  have HS40 : Hid (nm.size ≤ 40) := by
    show nm.size ≤ 40
    unfold isNm at hn
    simp only [Bool.and_eq_true, decide_eq_true_eq] at hn
    have : nm.data.toList.length = nm.size := by rw [Array.length_toList]; rfl
    omega
  have HN := Lib.hid hs
  have HQ := Lib.hid hr
  have HNM := Lib.hid hn
  clear h hfl hx hn hs HI0 hr HM0 hb hlen
  go_enter Tryz.func31, Tryz.ntmps31
  go_wp2_with fail
  refine HR.out.mono ?_
  rintro e w' ⟨rfl, rfl⟩
  go_wp2_with fail
  refine HI.out.mono ?_
  rintro e w' ⟨rfl, rfl⟩
  go_wp2_with fail
  refine HM.out.mono ?_
  rintro e w1 ⟨rfl, hf1⟩
  have HF1 := Lib.hid hf1
  clear hf1
  go_wp2_with fail
  refine (HS.out _ HF1.out).mono ?_
  rintro e w2 ⟨rfl, h2, hf2⟩
  have c5 := h2.c5
  have H2 := Lib.hid h2
  have HF2 := Lib.hid hf2
  clear h2 hf2
  rw [HX.out]
  have HM2 : Hid (w2.ownsMap Tryz.prog 9 flR M s.fs.length (dat s.fs)) := by
    have := H2.out.map
    rw [Dsk.stepped_fs] at this
    exact this
  have HR2 := Lib.hid ((H.out.no HF1.out).rd_step (HF1.out.rd (Nat.le_refl _) HD.out) HF1.out.size HF2.out)
  obtain ⟨o, HO⟩ : ∃ o, Hid (old nm.data.toList s.fs = o) := ⟨_, rfl⟩
  have HL2 := Lib.hid (show o.bs.length + n ≤ 33554432 by rw [← HO.out]; exact HL.out)
  have HB2 := Lib.hid (show ∀ k, o.row.ownBlock = some k → k < w2.heap.size by
    intro k hk
    rw [← HO.out] at hk
    have := H2.out.old_foot (k := k) nm.data.toList (by rw [Dsk.stepped_fs]; exact hk)
    exact this.2.2.2)
  obtain ⟨w3, HW3⟩ : ∃ w3, Hid (w2.alloc (.cells #[.slice o.A o.bs.length o.c, .int .i64 (o.fm : Int)] 60) = w3) := ⟨_, rfl⟩
  have HF3 := Lib.hid (show Fr No w2 w3 by rw [← HW3.out]; exact Fr.alloc _ _ _)
  have HG3 := Lib.hid (show w3.heap[w2.heap.size]? = some (.cells #[.slice o.A o.bs.length o.c, .int .i64 (o.fm : Int)] 60 (0, 0)) by rw [← HW3.out]; exact heap_alloc_new _ _)
  have HO3 := Lib.hid (show w3.ownsRow 0 5 1 (.slice o.A o.bs.length o.c) o.bs.length (bvs o.bs) by
    have := H2.out.old_row nm.data.toList
    rw [Dsk.stepped_fs, HO.out] at this
    exact own_keep this (fun k hk => HF3.out.block k (HB2.out k hk) (fun e => e)))
  have HD3 := Lib.hid (HR2.out.below (HF3.out.noBelow.mono (by have := HF1.out.size; have := HF2.out.size; omega)))
  go_wp2_with (first
    | (at_lookup; refine wpList_look_old rfl _ _ rfl HM2.out nm HN.out rfl rfl ?_; rw [HO.out])
    | (at_builtin; rw [HW3.out]; refine wpList_append_rd_at w3 rfl _ _ rfl 0 w.heap.size _ o.bs rfl HO3.out A n c l rfl HD3.out HL2.out (Nat.zero_le _) ?_; intro A' c' w4 hown4 hgrow4 hat4
       have hne : w2.heap.size < w3.heap.size := (Array.getElem?_eq_some_iff.1 HG3.out).1
       have HG4 := Lib.hid ((hgrow4.block w2.heap.size hne (fun e => by have := HB2.out _ e.symm; omega)).trans HG3.out)
       have g0 : w4.cell? ⟨w2.heap.size, 0, none⟩ = some (.slice o.A o.bs.length o.c) := by unfold World.cell?; rw [HG4.out]; rfl
       have g1 : w4.cell? ⟨w2.heap.size, 1, none⟩ = some (.int .i64 (o.fm : Int)) := by unfold World.cell?; rw [HG4.out]; rfl
       have z0 : w4.frozen? ⟨w2.heap.size, 0, none⟩ = false := by unfold World.frozen?; rw [HG4.out]; rfl
       have z1 : w4.frozen? ⟨w2.heap.size, 1, none⟩ = false := by unfold World.frozen?; rw [HG4.out]; rfl
       have HOW4 := Lib.hid hown4
       have HGR4 := Lib.hid hgrow4
       have HAT4 := Lib.hid hat4
       clear hown4 hgrow4 hat4))
  rw [← List.length_append]
  have hoM : ∀ k, o.row.ownBlock = some k → k ≠ D ∧ k ≠ M := by
    intro k hk
    rw [← HO.out] at hk
    have := H2.out.old_foot (k := k) nm.data.toList (by rw [Dsk.stepped_fs]; exact hk)
    exact ⟨this.2.1, this.2.2.1⟩
  have h23 : w2.heap.size < w3.heap.size := (Array.getElem?_eq_some_iff.1 HG3.out).1
  have hA4 : ∀ k, (Value.slice A' (o.bs ++ l).length c').ownBlock = some k → (o.row.ownBlock = some k ∧ k < w2.heap.size) ∨ w2.heap.size < k := by
    intro k hk
    rcases HAT4.out with e | e
    · rw [e] at hk
      exact .inl ⟨hk, HB2.out k hk⟩
    · rw [e] at hk
      injection hk with hk
      right
      omega
  have hfr5 : Fr (fun k => o.row.ownBlock = some k) w2 (w4.setCell ⟨w2.heap.size, 0, none⟩ (.slice A' (o.bs ++ l).length c')) := by
    have h24 : Fr (fun k => o.row.ownBlock = some k) w2 w4 := (HF3.out.mono (fun _ _ e => e.elim)).trans (Fr.grown HGR4.out (F := fun k => o.row.ownBlock = some k) (fun k e => e)) (fun _ _ e => e)
    exact h24.trans (Fr.setAt w4 w2.heap.size 0 _) (fun i hi e => by omega)
  have c55 := hfr5.cell H2.out.c5 (fun e => (hoM D e).1 rfl)
  have hm5 := own_map_keep HM2.out hfr5 (fun e => (hoM M e).2 rfl)
  have HFR5 := Lib.hid hfr5
  refine (keep_any c55 hm5 H.out.few ⟨nm.data.toList, A', c', o.bs ++ l, o.fm⟩ nm rfl HS40.out).mono ?_
  rintro e w6 ⟨rfl, hm6, hf6⟩
  have HM6 := Lib.hid hm6
  have HF6 := Lib.hid hf6
  clear hm6 hf6 hm5 c55 hfr5 g0 g1 z0 z1
  go_wp2_with fail
  go_ret
  refine ⟨rfl, A', c', ?_⟩
  rw [HO.out]
  have hfr6 : Fr (fun k => k = M ∨ o.row.ownBlock = some k) w2 w6 := (HFR5.out.mono (fun _ _ e => .inr e)).trans HF6.out (fun _ _ e => .inl e)
  have hrow : w6.ownsRow 0 5 1 (.slice A' (o.bs ++ l).length c') (o.bs ++ l).length (bvs (o.bs ++ l)) := by
    refine own_keep HOW4.out (fun k hk => ?_)
    have hk4 := (HOW4.out.lt k hk).2
    have hk1 : k ≠ w2.heap.size ∧ k ≠ M := by
      rcases hA4 k hk with ⟨e, e2⟩ | e
      · exact ⟨by omega, (hoM k e).2⟩
      · have := H2.out.map.lt
        exact ⟨by omega, by omega⟩
    rw [HF6.out.block k (by rw [World.size_setCell]; exact hk4) hk1.2, Below.heap_setCell _ _ _ _ hk1.1]
  have hsep : ∀ g ∈ s.step.fs, g.nm ≠ nm.data.toList → Sep (.slice A' (o.bs ++ l).length c') g.row := by
    intro g hg hne k hk hk2
    have hgl := ((H2.out.rows g hg).lt k hk2).2
    rcases hA4 k hk with ⟨e, e2⟩ | e
    · have := H2.out.old_sep nm.data.toList hg hne
      rw [Dsk.stepped_fs, HO.out] at this
      exact this k e hk2
    · omega
  have hup := used_put H.out ⟨nm.data.toList, A', c', o.bs ++ l, o.fm⟩
  have hlp := length_put H.out ⟨nm.data.toList, A', c', o.bs ++ l, o.fm⟩
  simp only [HO.out] at hup
  have hbl : (o.bs ++ l).length = o.bs.length + n := by rw [List.length_append, HD.out.1]
  have hfit : used s.fs + n ≤ s.mo ∧ ((fnd nm.data.toList s.fs).isSome = true ∨ s.fs.length < 200) := by
    have hr := HQ.out
    unfold St.fits at hr
    simp only [Bool.and_eq_true, Bool.or_eq_true, decide_eq_true_eq] at hr
    exact hr
  have hD := H2.out.stored ⟨nm.data.toList, A', c', o.bs ++ l, o.fm⟩ hfr6 (fun e => e.elim (fun e => H.out.ne e) (fun e => (hoM D e).1 rfl))
    (fun g hg hne k hk e => e.elim (fun e => (H2.out.row_ne hg hk).2 e) (fun e => by
      have := H2.out.old_sep nm.data.toList hg hne
      rw [Dsk.stepped_fs, HO.out] at this
      exact this k e hk))
    (by rw [Dsk.stepped_fs]; exact HM6.out) hrow hsep
    (by have := H.out.old_firm nm.data.toList; rw [HO.out] at this; show o.fm ≤ (o.bs ++ l).length; omega)
    HNM.out (by rw [Dsk.stepped_fs, Dsk.stepped_mo]; omega)
    (by rw [Dsk.stepped_fs, hlp]; have := H.out.few; rcases hfit.2 with e | e; (· rw [if_pos e]; omega); (· split <;> omega))
  rw [Dsk.stepped_fs] at hD
  refine ⟨hD, ?_, ?_⟩
  · refine ((HF1.out.mono (G := foot D M s.fs) (fun _ _ e => e.elim)).trans (HF2.out.mono (G := foot D M s.fs) (fun _ _ e => .inl e)) (fun _ _ e => e)).trans hfr6 (fun i _ e => ?_)
    rcases e with e | e
    · exact .inr (.inl e)
    · rw [← HO.out] at e
      exact (H.out.old_foot nm.data.toList e).1
  · intro k hk
    rcases hk with e | e | ⟨g, hg, e⟩
    · exact .inl (.inl e)
    · exact .inl (.inr (.inl e))
    · rcases mem_put.1 hg with rfl | ⟨hg, _⟩
      · rcases hA4 k e with ⟨e, _⟩ | e
        · rw [← HO.out] at e
          exact .inl (H.out.old_foot nm.data.toList e).1
        · have := HF1.out.size
          have := HF2.out.size
          exact .inr (by omega)
      · exact .inl (.inr (.inr ⟨g, hg, e⟩))
end Go.Proofs.YtggejecmhfafoaaGreatDoor

/-
  DiskRoom: the walk. No statement of the seat is proved here.
-/
import Derived.Test.YtjnhlakcihkepaaDmC
import Derived.Laws.MakeOwn
namespace Go.Proofs.Ytjnhlakcihkepaa
open Go.RowKit Go.Maps Go.Sort

set_option maxRecDepth 100000 in
theorem ClAt.facts {W : World} {b o : Nat} {x : Cl} (h : ClAt W ⟨b, o, none⟩ x) :
    W.cell? ⟨b, o, none⟩ = some (.int .u8 (x.wh : Int)) ∧ W.cell? ⟨b, o + 1, none⟩ = some (.string x.nm) ∧ W.cell? ⟨b, o + 2, none⟩ = some (.string x.to) ∧ W.cell? ⟨b, o + 3, none⟩ = some (.slice x.B.A x.B.n x.B.c) ∧
      W.cell? ⟨b, o + 4, none⟩ = some (.int .i64 x.n) ∧ W.cell? ⟨b, o + 5, none⟩ = some (.slice x.K x.kn x.kc) := by
  obtain ⟨h0, h1, h2, h3, h4, h5, _⟩ := h
  simp only [Addr.add_lit] at h1 h2 h3 h4 h5
  exact ⟨h0, h1, h2, h3, h4, h5⟩
set_option maxRecDepth 100000 in
theorem szl (l : List UInt8) (h : l.length ≤ 1000) : (⟨l.toArray⟩ : ByteArray).size ≤ maxLen := by
  have e : (⟨l.toArray⟩ : ByteArray).size = l.length := by show l.toArray.size = _; simp
  unfold maxLen
  omega
set_option maxRecDepth 100000 in
theorem used_take_succ {fs : List Fl} {j : Nat} {f : Fl} (h : fs[j]? = some f) : used (fs.take (j + 1)) = used (fs.take j) + f.bs.length := by
  rw [List.take_add_one, h]
  simp [used]
set_option maxRecDepth 100000 in
theorem used_take_le (fs : List Fl) (j : Nat) : used (fs.take j) ≤ used fs := by
  have e : used fs = used (fs.take j) + used (fs.drop j) := by
    unfold used
    rw [← List.sum_append, ← List.map_append, List.take_append_drop]
  omega
set_option maxRecDepth 100000 in
theorem make_u8 (k : Nat) (hk : k ≤ 100000) (W : World) :
    (Instr.makeSlice 37 (.int .i64 (k : Int)) (.int .i64 (k : Int))).run Try.prog W = .ok (.slice (some ⟨W.heap.size, 0, none⟩) k k) (W.alloc (.cells (List.replicate k (Value.int .u8 0)).toArray 5)) := by
  obtain ⟨i0, hi, hz0, hz1, hz2⟩ := info_parts info_u8
  have h := run_make (P := Try.prog) W 37 5 i0 (.int .u8 0) Try.underlying37 hi hz0 .i64 .i64 (k : Int) (k : Int) (by omega) (by omega) (by rw [hz2]; omega) (by omega)
  rw [h]
  have e : madeCells (Value.int .u8 0).cells (((k : Nat) : Int).toNat * i0.size) = (List.replicate k (Value.int .u8 0)).toArray := by
    rw [hz1]
    apply Array.ext
    · simp [madeCells]
    · intro i h1 h2
      simp [madeCells, Value.cells, Nat.mod_one]
  rw [e]
  simp
set_option maxRecDepth 100000 in
theorem bvs_zeros (k : Nat) : (List.replicate k (Value.int .u8 0)).toArray.toList = bvs (List.replicate k 0) := by
  simp [bvs]
set_option maxRecDepth 100000 in
set_option maxHeartbeats 8000000 in
theorem room_walk (r : Int) (A : Option Addr) (n c : Nat) (xs : List Cl) (w : World) (hx : RowOf w 6 (ClAt w) A n xs) (hr0 : 0 ≤ r) (hr1 : r ≤ 65535) :
    Calls Try.prog 5 #[.int .u16 r, .slice A n c] w fun e w' => e = .returned (.bool true) ∧ Below w.heap.size w w' := by
  have HA := Lib.hid (fun W => awake_any W)
  have hmm : r % 301 = (((r % 301).toNat : Nat) : Int) := by
    have := Int.emod_nonneg r (b := 301) (by omega)
    omega
  have hml : (r % 301).toNat ≤ 300 := by
    have := Int.emod_lt_of_pos r (b := 301) (by omega)
    omega
  obtain ⟨m, HM⟩ : ∃ m, Hid ((r % 301).toNat = m) := ⟨_, rfl⟩
  rw [HM.out] at hmm hml
  have hnew := new_dsk m w (by omega)
  obtain ⟨B, HBB⟩ : ∃ B, Hid (w.heap.size = B) := ⟨_, rfl⟩
  rw [HBB.out] at hnew ⊢
  obtain ⟨D, HDD⟩ : ∃ D, Hid (B + 1 = D) := ⟨_, rfl⟩
  rw [HDD.out] at hnew
  have HX := Lib.hid hx
  clear hx
  go_enter Try.func5, Try.ntmps5
  go_wp2_with fail
  refine hnew.mono ?_
  rintro e w0 ⟨rfl, hd, hb⟩
  have HB0 := Lib.hid hb
  have HN0 := Lib.hid (Nx.refl hd)
  have HFOOT := Lib.hid (show ∀ k, foot D B [] k → B ≤ k by
    intro k hk
    rcases hk with e | e | ⟨f, hf, _⟩
    · have := HDD.out; omega
    · omega
    · cases hf)
  clear hnew hd hb
  go_wp2_with fail
  go_loopw [8] (fun vi wr => ∃ (i : Nat) (s : St), i ≤ 50 ∧ i ≤ n ∧ vi = .int .i64 (i : Int) ∧ Nx D B w0 ⟨false, false, 0, m, []⟩ wr s ∧ Calm s.ab m i) (fun vi _ => 50 - (intOf vi).toNat)
  case atStart => exact ⟨0, _, by omega, by omega, rfl, HN0.out, rfl, rfl, rfl, rfl, Nat.le_refl _⟩
  case round =>
    obtain ⟨i, s, hi, hin, rfl, hN, hC⟩ := hrel
    have HN := Lib.hid hN
    have HC := Lib.hid hC
    have HBr := Lib.hid (HB0.out.trans (hN.2.1.below (by have := HB0.out.size; rw [HBB.out] at this; exact this) HFOOT.out))
    clear hN hC
    by_cases hlt : i < n ∧ i < 50
    · obtain ⟨hlt, hlt2⟩ := hlt
      obtain ⟨b, o, rfl, hb, hc⟩ := HX.out.2 (by omega)
      have hix : i < xs.length := by rw [HX.out.1]; exact hlt
      obtain ⟨x, hxe⟩ : ∃ x, xs[i] = x := ⟨_, rfl⟩
      have hbs := hc i hix
      rw [hxe] at hbs
      have HCL := Lib.hid (show ∀ W, Below B w W → ClAt W ⟨b, o + i * 6, none⟩ x from fun W hW => hbs.below HBB.out (by rw [← HBB.out]; exact hb) hW)
      clear hc hbs hxe hix
      obtain ⟨q0, q1, q2, q3, q4, q5⟩ := (HCL.out _ HBr.out).facts
      have hwi : IntKind.i64.wrap ((i : Int) + 1) = ((i + 1 : Nat) : Int) := by
        rw [show ((i : Int) + 1) = ((i + 1 : Nat) : Int) by omega]
        exact IntWalk.i64_in _ (by omega)
      have hd50 : decide ((i : Int) < 50) = true := by rw [decide_eq_true_eq]; omega
      go_wp2_with fail
      refine (fits_any x _).mono ?_
      rintro e w1 ⟨rfl, hf⟩
      have HN1 := Lib.hid (HN.out.then_no hf)
      have HB1 := Lib.hid (HBr.out.trans (hf.noBelow.mono (by have := HBr.out.size; rw [HBB.out] at this; exact this)))
      clear hf
      cases hfit : x.fits with
      | false =>
        clear q0 q1 q2 q3 q4 q5
        go_wp2_with fail
        go_roundw
        case rel => exact ⟨i + 1, s, by omega, by omega, by go_num, HN1.out, HC.out.more⟩
        case measure => simp [intOf]; omega
      | true =>
        clear q0 q1 q2 q3 q4 q5
        obtain ⟨q0, q1, q2, q3, q4, q5⟩ := (HCL.out _ HB1.out).facts
        go_wp2_with fail
        have hB150 : x.B.n ≤ 150 := by
          unfold Cl.fits at hfit
          simp only [Bool.and_eq_true, decide_eq_true_eq] at hfit
          exact hfit.1.2
        refine (used_any HN1.out.1).mono ?_
        rintro e w2 ⟨rfl, hf⟩
        have HN2 := Lib.hid (HN1.out.then_no hf)
        have HB2 := Lib.hid (HB1.out.trans (hf.noBelow.mono (by have := HB1.out.size; rw [HBB.out] at this; exact this)))
        clear hf q0 q1 q2 q3 q4 q5
        have hcl := HCL.out _ HB2.out
        obtain ⟨q0, q1, q2, q3, q4, q5⟩ := hcl.facts
        obtain ⟨_, _, _, _, _, _, hw8, hz1, hz2, hrd⟩ := hcl
        have HDO := Lib.hid (does_any HN2.out.1 x hz1 hz2 hrd hw8)
        have hcd := calm_does HC.out x (by omega)
        have HCD := Lib.hid hcd.1
        have hlB := hrd.1
        have hU : aused s.ab.fs = used s.fs := used_ab s.fs
        have hum : used s.fs ≤ m := by have := HN2.out.1.room; have e := HC.out.2.2.2.1; have e2 : s.mo = m := e; omega
        have hml := hml
        obtain ⟨U, HU⟩ : ∃ U, Hid (used s.fs = U) := ⟨_, rfl⟩
        rw [HU.out] at hU hum ⊢
        have hwU : IntKind.i64.wrap ((U : Int) + (x.B.n : Int)) = ((U + x.B.n : Nat) : Int) := by
          rw [← Int.natCast_add]
          exact IntWalk.i64_in _ (by omega)
        have hcode : (x.wh ≤ 1 ∧ (s.ab.does x).1 = 13) ∨ (x.wh ≤ 1 ∧ m < U + x.B.n ∧ (s.ab.does x).1 = 5) ∨ (x.wh ≤ 1 ∧ U + x.B.n ≤ m ∧ (s.ab.does x).1 = 0) ∨ (1 < x.wh ∧ (s.ab.does x).1 ≠ 5) := by
          by_cases h1 : x.wh ≤ 1
          · have e : s.ab.does x = s.ab.append x.nm.data.toList x.B.l := by unfold Ab.does; rw [if_pos h1]
            rw [e]
            rcases (calm_append HC.out x.nm.data.toList x.B.l (by omega)).2 with ⟨_, h⟩ | ⟨_, h, h'⟩ | ⟨_, h, h'⟩
            · exact .inl ⟨h1, h⟩
            · exact .inr (.inl ⟨h1, by omega, h'⟩)
            · exact .inr (.inr (.inl ⟨h1, by omega, h'⟩))
          · exact .inr (.inr (.inr ⟨by omega, hcd.2 (by omega)⟩))
        clear hcd hrd hz1 hz2 hfit hU hlB
        rcases hcode with ⟨h1, hk⟩ | ⟨h1, hm, hk⟩ | ⟨h1, hm, hk⟩ | ⟨h1, hk⟩
        · skip
          have hw1 : decide ((x.wh : Int) ≤ 1) = true := by rw [decide_eq_true_eq]; omega
          have hw2 : decide ((1 : Int) < (x.wh : Int)) = false := by rw [decide_eq_false_iff_not]; omega
          go_wp2_with fail
          refine HDO.out.mono ?_
          rintro e w3 ⟨s', rfl, hN, ha⟩
          rw [hk]
          have HN3 := Lib.hid (HN2.out.trans hN)
          have HC3 := Lib.hid (show Calm s'.ab m (i + 1) by rw [ha]; exact HCD.out)
          have HB3 := Lib.hid (HB0.out.trans (HN3.out.2.1.below (by have := HB0.out.size; rw [HBB.out] at this; exact this) HFOOT.out))
          clear hN ha q0 q1 q2 q3 q4 q5 HDO
          obtain ⟨q0, q1, q2, q3, q4, q5⟩ := (HCL.out _ HB3.out).facts
          go_wp2_with fail
          refine (list_any HN3.out.1).mono ?_
          rintro e w4 ⟨v, rfl, hv, hf⟩
          obtain ⟨A4, c4, rfl⟩ : ∃ A c, v = .slice A s'.fs.length c := by
            rcases hv.2 with ⟨rfl, e⟩ | ⟨g, cap, cur, rfl, _⟩
            · exact ⟨none, 0, by rw [e]⟩
            · exact ⟨_, _, rfl⟩
          have HV := Lib.hid hv
          have HN4 := Lib.hid (HN3.out.then_no hf)
          have hum4 : used s'.fs ≤ m := by have := HN3.out.1.room; have e : s'.mo = m := HC3.out.2.2.2.1; omega
          clear hv hf q0 q1 q2 q3 q4 q5
          go_wp2_with fail
          go_loopw [11, 89] (fun va vj wr' => ∃ j : Nat, j ≤ s'.fs.length ∧ va = .int .i64 (used (s'.fs.take j) : Int) ∧ vj = .int .i64 (j : Int) ∧ Fr No w4 wr') (fun _ vj _ => s'.fs.length - (intOf vj).toNat)
          case atStart => exact ⟨0, Nat.zero_le _, rfl, rfl, Fr.refl _ _⟩
          case round =>
            obtain ⟨j, hj, rfl, rfl, hf5⟩ := hrel
            have HF5 := Lib.hid hf5
            have HN5 := Lib.hid (HN4.out.then_no hf5)
            clear hf5
            by_cases hjl : j < s'.fs.length
            · obtain ⟨f, hf⟩ : ∃ f, s'.fs[j]? = some f := ⟨_, List.getElem?_eq_getElem hjl⟩
              obtain ⟨G, rfl⟩ : ∃ G, A4 = some ⟨G, 0, none⟩ := by
                rcases HV.out.2 with ⟨e, e0⟩ | ⟨G, cap, cur, e, _⟩
                · omega
                · injection e with e; exact ⟨G, e⟩
              have hGr := HV.out.cells (g := G) rfl j (Proofs.encStr f.nm) (by rw [List.getElem?_map, List.getElem?_map, hf]; rfl)
              rw [Addr.add_lit, Nat.zero_add] at hGr
              have hGw := HF5.out.cell hGr (fun e => e)
              have hmem := List.mem_of_getElem? hf
              have hlen : s'.len f.nm = f.bs.length := by unfold St.len; rw [fnd_apart HN5.out.1.apart hmem]
              have hsz : (⟨f.nm.toArray⟩ : ByteArray).size ≤ maxLen := by
                have hq := HN5.out.1.nms f hmem
                unfold isNm at hq
                simp only [Bool.and_eq_true, decide_eq_true_eq] at hq
                exact szl f.nm (by omega)
              have HSZ := Lib.hid (size_any HN5.out.1 ⟨f.nm.toArray⟩ hsz)
              have hlen2 : s'.len (⟨f.nm.toArray⟩ : ByteArray).data.toList = f.bs.length := hlen
              rw [hlen2] at HSZ
              have hst := used_take_succ hf
              have hle := used_take_le s'.fs (j + 1)
              have hws : IntKind.i64.wrap ((used (s'.fs.take j) : Int) + (f.bs.length : Int)) = ((used (s'.fs.take (j + 1)) : Nat) : Int) := by
                rw [hst, ← Int.natCast_add]
                exact IntWalk.i64_in _ (by omega)
              have HST := Lib.hid hst
              have hwj : IntKind.i64.wrap ((j : Int) + 1) = ((j + 1 : Nat) : Int) := by
                have := HN5.out.1.few
                rw [show ((j : Int) + 1) = ((j + 1 : Nat) : Int) by omega]
                exact IntWalk.i64_in _ (by omega)
              clear hGr hmem hlen hsz hlen2 hst hle hf
              go_wp2_with fail
              refine HSZ.out.mono ?_
              rintro e w6 ⟨rfl, hf6⟩
              have HF6 := Lib.hid (HF5.out.no_trans hf6)
              clear hf6
              go_wp2_with fail
              go_roundw
              case rel => exact ⟨j + 1, by omega, by rw [HST.out, Int.natCast_add], by go_num, HF6.out⟩
              case measure => simp [intOf]; omega
            · have hje : j = s'.fs.length := by omega
              subst hje
              have htl : used (s'.fs.take s'.fs.length) = used s'.fs := by rw [List.take_length]
              rw [htl]
              have HU5 := Lib.hid (used_any HN5.out.1)
              obtain ⟨V, HVV⟩ : ∃ V, Hid (used s'.fs = V) := ⟨_, rfl⟩
              rw [HVV.out] at HU5 hum4 ⊢
              have hmV : decide ((m : Int) < (V : Int)) = false := by rw [decide_eq_false_iff_not]; omega
              clear htl
              go_wp2_with fail
              refine HU5.out.mono ?_
              rintro e w6 ⟨rfl, hf6⟩
              have HN6 := Lib.hid (HN5.out.then_no hf6)
              clear hf6
              go_wp2_with fail
              go_roundw
              case rel => exact ⟨i + 1, s', by omega, by omega, by go_num, HN6.out, HC3.out⟩
              case measure => simp [intOf]; omega
        · skip
          have hw1 : decide ((x.wh : Int) ≤ 1) = true := by rw [decide_eq_true_eq]; omega
          have hw2 : decide ((1 : Int) < (x.wh : Int)) = false := by rw [decide_eq_false_iff_not]; omega
          have hw3 : decide ((m : Int) < ((U + x.B.n : Nat) : Int)) = true := by rw [decide_eq_true_eq]; omega
          go_wp2_with fail
          refine HDO.out.mono ?_
          rintro e w3 ⟨s', rfl, hN, ha⟩
          rw [hk]
          have HN3 := Lib.hid (HN2.out.trans hN)
          have HC3 := Lib.hid (show Calm s'.ab m (i + 1) by rw [ha]; exact HCD.out)
          have HB3 := Lib.hid (HB0.out.trans (HN3.out.2.1.below (by have := HB0.out.size; rw [HBB.out] at this; exact this) HFOOT.out))
          clear hN ha q0 q1 q2 q3 q4 q5 HDO
          obtain ⟨q0, q1, q2, q3, q4, q5⟩ := (HCL.out _ HB3.out).facts
          go_wp2_with fail
          refine (list_any HN3.out.1).mono ?_
          rintro e w4 ⟨v, rfl, hv, hf⟩
          obtain ⟨A4, c4, rfl⟩ : ∃ A c, v = .slice A s'.fs.length c := by
            rcases hv.2 with ⟨rfl, e⟩ | ⟨g, cap, cur, rfl, _⟩
            · exact ⟨none, 0, by rw [e]⟩
            · exact ⟨_, _, rfl⟩
          have HV := Lib.hid hv
          have HN4 := Lib.hid (HN3.out.then_no hf)
          have hum4 : used s'.fs ≤ m := by have := HN3.out.1.room; have e : s'.mo = m := HC3.out.2.2.2.1; omega
          clear hv hf q0 q1 q2 q3 q4 q5
          go_wp2_with fail
          go_loopw [11, 89] (fun va vj wr' => ∃ j : Nat, j ≤ s'.fs.length ∧ va = .int .i64 (used (s'.fs.take j) : Int) ∧ vj = .int .i64 (j : Int) ∧ Fr No w4 wr') (fun _ vj _ => s'.fs.length - (intOf vj).toNat)
          case atStart => exact ⟨0, Nat.zero_le _, rfl, rfl, Fr.refl _ _⟩
          case round =>
            obtain ⟨j, hj, rfl, rfl, hf5⟩ := hrel
            have HF5 := Lib.hid hf5
            have HN5 := Lib.hid (HN4.out.then_no hf5)
            clear hf5
            by_cases hjl : j < s'.fs.length
            · obtain ⟨f, hf⟩ : ∃ f, s'.fs[j]? = some f := ⟨_, List.getElem?_eq_getElem hjl⟩
              obtain ⟨G, rfl⟩ : ∃ G, A4 = some ⟨G, 0, none⟩ := by
                rcases HV.out.2 with ⟨e, e0⟩ | ⟨G, cap, cur, e, _⟩
                · omega
                · injection e with e; exact ⟨G, e⟩
              have hGr := HV.out.cells (g := G) rfl j (Proofs.encStr f.nm) (by rw [List.getElem?_map, List.getElem?_map, hf]; rfl)
              rw [Addr.add_lit, Nat.zero_add] at hGr
              have hGw := HF5.out.cell hGr (fun e => e)
              have hmem := List.mem_of_getElem? hf
              have hlen : s'.len f.nm = f.bs.length := by unfold St.len; rw [fnd_apart HN5.out.1.apart hmem]
              have hsz : (⟨f.nm.toArray⟩ : ByteArray).size ≤ maxLen := by
                have hq := HN5.out.1.nms f hmem
                unfold isNm at hq
                simp only [Bool.and_eq_true, decide_eq_true_eq] at hq
                exact szl f.nm (by omega)
              have HSZ := Lib.hid (size_any HN5.out.1 ⟨f.nm.toArray⟩ hsz)
              have hlen2 : s'.len (⟨f.nm.toArray⟩ : ByteArray).data.toList = f.bs.length := hlen
              rw [hlen2] at HSZ
              have hst := used_take_succ hf
              have hle := used_take_le s'.fs (j + 1)
              have hws : IntKind.i64.wrap ((used (s'.fs.take j) : Int) + (f.bs.length : Int)) = ((used (s'.fs.take (j + 1)) : Nat) : Int) := by
                rw [hst, ← Int.natCast_add]
                exact IntWalk.i64_in _ (by omega)
              have HST := Lib.hid hst
              have hwj : IntKind.i64.wrap ((j : Int) + 1) = ((j + 1 : Nat) : Int) := by
                have := HN5.out.1.few
                rw [show ((j : Int) + 1) = ((j + 1 : Nat) : Int) by omega]
                exact IntWalk.i64_in _ (by omega)
              clear hGr hmem hlen hsz hlen2 hst hle hf
              go_wp2_with fail
              refine HSZ.out.mono ?_
              rintro e w6 ⟨rfl, hf6⟩
              have HF6 := Lib.hid (HF5.out.no_trans hf6)
              clear hf6
              go_wp2_with fail
              go_roundw
              case rel => exact ⟨j + 1, by omega, by rw [HST.out, Int.natCast_add], by go_num, HF6.out⟩
              case measure => simp [intOf]; omega
            · have hje : j = s'.fs.length := by omega
              subst hje
              have htl : used (s'.fs.take s'.fs.length) = used s'.fs := by rw [List.take_length]
              rw [htl]
              have HU5 := Lib.hid (used_any HN5.out.1)
              obtain ⟨V, HVV⟩ : ∃ V, Hid (used s'.fs = V) := ⟨_, rfl⟩
              rw [HVV.out] at HU5 hum4 ⊢
              have hmV : decide ((m : Int) < (V : Int)) = false := by rw [decide_eq_false_iff_not]; omega
              clear htl
              go_wp2_with fail
              refine HU5.out.mono ?_
              rintro e w6 ⟨rfl, hf6⟩
              have HN6 := Lib.hid (HN5.out.then_no hf6)
              clear hf6
              go_wp2_with fail
              go_roundw
              case rel => exact ⟨i + 1, s', by omega, by omega, by go_num, HN6.out, HC3.out⟩
              case measure => simp [intOf]; omega
        · skip
          have hw1 : decide ((x.wh : Int) ≤ 1) = true := by rw [decide_eq_true_eq]; omega
          have hw2 : decide ((1 : Int) < (x.wh : Int)) = false := by rw [decide_eq_false_iff_not]; omega
          have hw3 : decide ((m : Int) < ((U + x.B.n : Nat) : Int)) = false := by rw [decide_eq_false_iff_not]; omega
          go_wp2_with fail
          refine HDO.out.mono ?_
          rintro e w3 ⟨s', rfl, hN, ha⟩
          rw [hk]
          have HN3 := Lib.hid (HN2.out.trans hN)
          have HC3 := Lib.hid (show Calm s'.ab m (i + 1) by rw [ha]; exact HCD.out)
          have HB3 := Lib.hid (HB0.out.trans (HN3.out.2.1.below (by have := HB0.out.size; rw [HBB.out] at this; exact this) HFOOT.out))
          clear hN ha q0 q1 q2 q3 q4 q5 HDO
          obtain ⟨q0, q1, q2, q3, q4, q5⟩ := (HCL.out _ HB3.out).facts
          go_wp2_with fail
          refine (list_any HN3.out.1).mono ?_
          rintro e w4 ⟨v, rfl, hv, hf⟩
          obtain ⟨A4, c4, rfl⟩ : ∃ A c, v = .slice A s'.fs.length c := by
            rcases hv.2 with ⟨rfl, e⟩ | ⟨g, cap, cur, rfl, _⟩
            · exact ⟨none, 0, by rw [e]⟩
            · exact ⟨_, _, rfl⟩
          have HV := Lib.hid hv
          have HN4 := Lib.hid (HN3.out.then_no hf)
          have hum4 : used s'.fs ≤ m := by have := HN3.out.1.room; have e : s'.mo = m := HC3.out.2.2.2.1; omega
          clear hv hf q0 q1 q2 q3 q4 q5
          go_wp2_with fail
          go_loopw [11, 89] (fun va vj wr' => ∃ j : Nat, j ≤ s'.fs.length ∧ va = .int .i64 (used (s'.fs.take j) : Int) ∧ vj = .int .i64 (j : Int) ∧ Fr No w4 wr') (fun _ vj _ => s'.fs.length - (intOf vj).toNat)
          case atStart => exact ⟨0, Nat.zero_le _, rfl, rfl, Fr.refl _ _⟩
          case round =>
            obtain ⟨j, hj, rfl, rfl, hf5⟩ := hrel
            have HF5 := Lib.hid hf5
            have HN5 := Lib.hid (HN4.out.then_no hf5)
            clear hf5
            by_cases hjl : j < s'.fs.length
            · obtain ⟨f, hf⟩ : ∃ f, s'.fs[j]? = some f := ⟨_, List.getElem?_eq_getElem hjl⟩
              obtain ⟨G, rfl⟩ : ∃ G, A4 = some ⟨G, 0, none⟩ := by
                rcases HV.out.2 with ⟨e, e0⟩ | ⟨G, cap, cur, e, _⟩
                · omega
                · injection e with e; exact ⟨G, e⟩
              have hGr := HV.out.cells (g := G) rfl j (Proofs.encStr f.nm) (by rw [List.getElem?_map, List.getElem?_map, hf]; rfl)
              rw [Addr.add_lit, Nat.zero_add] at hGr
              have hGw := HF5.out.cell hGr (fun e => e)
              have hmem := List.mem_of_getElem? hf
              have hlen : s'.len f.nm = f.bs.length := by unfold St.len; rw [fnd_apart HN5.out.1.apart hmem]
              have hsz : (⟨f.nm.toArray⟩ : ByteArray).size ≤ maxLen := by
                have hq := HN5.out.1.nms f hmem
                unfold isNm at hq
                simp only [Bool.and_eq_true, decide_eq_true_eq] at hq
                exact szl f.nm (by omega)
              have HSZ := Lib.hid (size_any HN5.out.1 ⟨f.nm.toArray⟩ hsz)
              have hlen2 : s'.len (⟨f.nm.toArray⟩ : ByteArray).data.toList = f.bs.length := hlen
              rw [hlen2] at HSZ
              have hst := used_take_succ hf
              have hle := used_take_le s'.fs (j + 1)
              have hws : IntKind.i64.wrap ((used (s'.fs.take j) : Int) + (f.bs.length : Int)) = ((used (s'.fs.take (j + 1)) : Nat) : Int) := by
                rw [hst, ← Int.natCast_add]
                exact IntWalk.i64_in _ (by omega)
              have HST := Lib.hid hst
              have hwj : IntKind.i64.wrap ((j : Int) + 1) = ((j + 1 : Nat) : Int) := by
                have := HN5.out.1.few
                rw [show ((j : Int) + 1) = ((j + 1 : Nat) : Int) by omega]
                exact IntWalk.i64_in _ (by omega)
              clear hGr hmem hlen hsz hlen2 hst hle hf
              go_wp2_with fail
              refine HSZ.out.mono ?_
              rintro e w6 ⟨rfl, hf6⟩
              have HF6 := Lib.hid (HF5.out.no_trans hf6)
              clear hf6
              go_wp2_with fail
              go_roundw
              case rel => exact ⟨j + 1, by omega, by rw [HST.out, Int.natCast_add], by go_num, HF6.out⟩
              case measure => simp [intOf]; omega
            · have hje : j = s'.fs.length := by omega
              subst hje
              have htl : used (s'.fs.take s'.fs.length) = used s'.fs := by rw [List.take_length]
              rw [htl]
              have HU5 := Lib.hid (used_any HN5.out.1)
              obtain ⟨V, HVV⟩ : ∃ V, Hid (used s'.fs = V) := ⟨_, rfl⟩
              rw [HVV.out] at HU5 hum4 ⊢
              have hmV : decide ((m : Int) < (V : Int)) = false := by rw [decide_eq_false_iff_not]; omega
              clear htl
              go_wp2_with fail
              refine HU5.out.mono ?_
              rintro e w6 ⟨rfl, hf6⟩
              have HN6 := Lib.hid (HN5.out.then_no hf6)
              clear hf6
              go_wp2_with fail
              go_roundw
              case rel => exact ⟨i + 1, s', by omega, by omega, by go_num, HN6.out, HC3.out⟩
              case measure => simp [intOf]; omega
        · skip
          have hw1 : decide ((x.wh : Int) ≤ 1) = false := by rw [decide_eq_false_iff_not]; omega
          have hw2 : decide ((1 : Int) < (x.wh : Int)) = true := by rw [decide_eq_true_eq]; omega
          obtain ⟨kk, hkk⟩ : ∃ kk, (s.ab.does x).1 = kk := ⟨_, rfl⟩
          rw [hkk] at hk
          have hk5 : (kk == 5) = false := by rw [beq_eq_false_iff_ne]; exact hk
          go_wp2_with fail
          refine HDO.out.mono ?_
          rintro e w3 ⟨s', rfl, hN, ha⟩
          rw [hkk]
          have HN3 := Lib.hid (HN2.out.trans hN)
          have HC3 := Lib.hid (show Calm s'.ab m (i + 1) by rw [ha]; exact HCD.out)
          have HB3 := Lib.hid (HB0.out.trans (HN3.out.2.1.below (by have := HB0.out.size; rw [HBB.out] at this; exact this) HFOOT.out))
          clear hN ha q0 q1 q2 q3 q4 q5 HDO
          obtain ⟨q0, q1, q2, q3, q4, q5⟩ := (HCL.out _ HB3.out).facts
          go_wp2_with fail
          refine (list_any HN3.out.1).mono ?_
          rintro e w4 ⟨v, rfl, hv, hf⟩
          obtain ⟨A4, c4, rfl⟩ : ∃ A c, v = .slice A s'.fs.length c := by
            rcases hv.2 with ⟨rfl, e⟩ | ⟨g, cap, cur, rfl, _⟩
            · exact ⟨none, 0, by rw [e]⟩
            · exact ⟨_, _, rfl⟩
          have HV := Lib.hid hv
          have HN4 := Lib.hid (HN3.out.then_no hf)
          have hum4 : used s'.fs ≤ m := by have := HN3.out.1.room; have e : s'.mo = m := HC3.out.2.2.2.1; omega
          clear hv hf q0 q1 q2 q3 q4 q5
          go_wp2_with fail
          go_loopw [11, 89] (fun va vj wr' => ∃ j : Nat, j ≤ s'.fs.length ∧ va = .int .i64 (used (s'.fs.take j) : Int) ∧ vj = .int .i64 (j : Int) ∧ Fr No w4 wr') (fun _ vj _ => s'.fs.length - (intOf vj).toNat)
          case atStart => exact ⟨0, Nat.zero_le _, rfl, rfl, Fr.refl _ _⟩
          case round =>
            obtain ⟨j, hj, rfl, rfl, hf5⟩ := hrel
            have HF5 := Lib.hid hf5
            have HN5 := Lib.hid (HN4.out.then_no hf5)
            clear hf5
            by_cases hjl : j < s'.fs.length
            · obtain ⟨f, hf⟩ : ∃ f, s'.fs[j]? = some f := ⟨_, List.getElem?_eq_getElem hjl⟩
              obtain ⟨G, rfl⟩ : ∃ G, A4 = some ⟨G, 0, none⟩ := by
                rcases HV.out.2 with ⟨e, e0⟩ | ⟨G, cap, cur, e, _⟩
                · omega
                · injection e with e; exact ⟨G, e⟩
              have hGr := HV.out.cells (g := G) rfl j (Proofs.encStr f.nm) (by rw [List.getElem?_map, List.getElem?_map, hf]; rfl)
              rw [Addr.add_lit, Nat.zero_add] at hGr
              have hGw := HF5.out.cell hGr (fun e => e)
              have hmem := List.mem_of_getElem? hf
              have hlen : s'.len f.nm = f.bs.length := by unfold St.len; rw [fnd_apart HN5.out.1.apart hmem]
              have hsz : (⟨f.nm.toArray⟩ : ByteArray).size ≤ maxLen := by
                have hq := HN5.out.1.nms f hmem
                unfold isNm at hq
                simp only [Bool.and_eq_true, decide_eq_true_eq] at hq
                exact szl f.nm (by omega)
              have HSZ := Lib.hid (size_any HN5.out.1 ⟨f.nm.toArray⟩ hsz)
              have hlen2 : s'.len (⟨f.nm.toArray⟩ : ByteArray).data.toList = f.bs.length := hlen
              rw [hlen2] at HSZ
              have hst := used_take_succ hf
              have hle := used_take_le s'.fs (j + 1)
              have hws : IntKind.i64.wrap ((used (s'.fs.take j) : Int) + (f.bs.length : Int)) = ((used (s'.fs.take (j + 1)) : Nat) : Int) := by
                rw [hst, ← Int.natCast_add]
                exact IntWalk.i64_in _ (by omega)
              have HST := Lib.hid hst
              have hwj : IntKind.i64.wrap ((j : Int) + 1) = ((j + 1 : Nat) : Int) := by
                have := HN5.out.1.few
                rw [show ((j : Int) + 1) = ((j + 1 : Nat) : Int) by omega]
                exact IntWalk.i64_in _ (by omega)
              clear hGr hmem hlen hsz hlen2 hst hle hf
              go_wp2_with fail
              refine HSZ.out.mono ?_
              rintro e w6 ⟨rfl, hf6⟩
              have HF6 := Lib.hid (HF5.out.no_trans hf6)
              clear hf6
              go_wp2_with fail
              go_roundw
              case rel => exact ⟨j + 1, by omega, by rw [HST.out, Int.natCast_add], by go_num, HF6.out⟩
              case measure => simp [intOf]; omega
            · have hje : j = s'.fs.length := by omega
              subst hje
              have htl : used (s'.fs.take s'.fs.length) = used s'.fs := by rw [List.take_length]
              rw [htl]
              have HU5 := Lib.hid (used_any HN5.out.1)
              obtain ⟨V, HVV⟩ : ∃ V, Hid (used s'.fs = V) := ⟨_, rfl⟩
              rw [HVV.out] at HU5 hum4 ⊢
              have hmV : decide ((m : Int) < (V : Int)) = false := by rw [decide_eq_false_iff_not]; omega
              clear htl
              go_wp2_with fail
              refine HU5.out.mono ?_
              rintro e w6 ⟨rfl, hf6⟩
              have HN6 := Lib.hid (HN5.out.then_no hf6)
              clear hf6
              go_wp2_with fail
              go_roundw
              case rel => exact ⟨i + 1, s', by omega, by omega, by go_num, HN6.out, HC3.out⟩
              case measure => simp [intOf]; omega
    · by_cases hlt2 : i < n
      · have hi50 : i = 50 := by omega
        subst hi50
        clear hi hin hlt
        have hUm : used s.fs ≤ m := by have := HN.out.1.room; have e : s.mo = m := HC.out.2.2.2.1; omega
        have HMO := Lib.hid (show s.mo = m from HC.out.2.2.2.1)
        have HFL := Lib.hid (show s.fl = false from HC.out.1)
        have HX0 := Lib.hid (show s.fails = false by unfold St.fails; rw [show s.bd = false from HC.out.2.1]; rfl)
        have HLN := Lib.hid (show s.fs.length ≤ 50 by
          have h5 := HC.out.2.2.2.2
          have e : s.ab.fs.length = s.fs.length := by
            show (s.fs.map Fl.ab).length = _
            simp
          omega)
        have HU := Lib.hid (used_any HN.out.1)
        obtain ⟨L, hL⟩ : ∃ L, m - used s.fs = L := ⟨_, rfl⟩
        obtain ⟨K1, hK1⟩ : ∃ K1, L + 1 = K1 := ⟨_, rfl⟩
        obtain ⟨U, HUU⟩ : ∃ U, Hid (used s.fs = U) := ⟨_, rfl⟩
        rw [HUU.out] at HU hUm hL
        have hwL : IntKind.i64.wrap ((m : Int) - (U : Int)) = (L : Int) := by
          rw [show ((m : Int) - (U : Int)) = (L : Int) by omega]
          exact IntWalk.i64_in _ (by omega)
        have hwK : IntKind.i64.wrap ((L : Int) + 1) = (K1 : Int) := by
          rw [show ((L : Int) + 1) = (K1 : Int) by omega]
          exact IntWalk.i64_in _ (by omega)
        have hm1 := fun W => make_u8 K1 (by omega) W
        have hm0 := fun W => make_u8 L (by omega) W
        have HLU := Lib.hid (And.intro hL (And.intro hK1 hUm))
        clear hL hK1 hUm
        go_wp2_with fail
        refine HU.out.mono ?_
        rintro e w1 ⟨rfl, hf⟩
        have HN1 := Lib.hid (HN.out.then_no hf)
        clear hf
        go_wp2_with fail
        have ha1 := HN1.out.then_no (Fr.alloc No w1 (.cells (List.replicate K1 (Value.int .u8 0)).toArray 5))
        refine (append_full ha1.1 ⟨#[122]⟩ (sz1 _) (some ⟨w1.heap.size, 0, none⟩) K1 K1 HFL.out (by decide) (by
          unfold St.fits
          rw [HMO.out, HUU.out]
          have := HLU.out
          simp only [Bool.and_eq_false_iff, decide_eq_false_iff_not]
          exact .inl (by omega))).mono ?_
        rintro e w2 ⟨rfl, hf⟩
        have HN2 := Lib.hid (ha1.then_no hf)
        clear hf ha1
        go_wp2_with fail
        have ha2 := HN2.out.then_no (Fr.alloc No w2 (.cells (List.replicate L (Value.int .u8 0)).toArray 5))
        have hrd : Rd (w2.alloc (.cells (List.replicate L (Value.int .u8 0)).toArray 5)) (w2.alloc (.cells (List.replicate L (Value.int .u8 0)).toArray 5)).heap.size (some ⟨w2.heap.size, 0, none⟩) L (List.replicate L 0) := by
          have := (Rd.new w2 (List.replicate L 0) _ (bvs_zeros L) (0, 0)).more (show w2.heap.size + 1 ≤ (w2.alloc (.cells (List.replicate L (Value.int .u8 0)).toArray 5)).heap.size by simp)
          rw [List.length_replicate] at this
          exact this
        refine (append_ok ha2.1 ⟨#[122]⟩ (sz1 _) (some ⟨w2.heap.size, 0, none⟩) L L (List.replicate L 0) hrd HFL.out (by decide) (by
          unfold St.fits
          rw [HMO.out, HUU.out]
          have := HLU.out
          have := HLN.out
          simp only [Bool.and_eq_true, Bool.or_eq_true, decide_eq_true_eq]
          exact ⟨by omega, .inr (by omega)⟩) HX0.out).mono ?_
        rintro e w3 ⟨rfl, A3, c3, hn⟩
        have hst : s.step = s := by unfold St.step; rw [show s.bd = false from HC.out.2.1]; rfl
        rw [hst] at hn
        have hup := used_put HN.out.1 ⟨[122], A3, c3, (old [122] s.fs).bs ++ List.replicate L 0, (old [122] s.fs).fm⟩
        have HN3 := Lib.hid (ha2.trans hn)
        have HUM := Lib.hid (show used (put ⟨[122], A3, c3, (old [122] s.fs).bs ++ List.replicate L 0, (old [122] s.fs).fm⟩ s.fs) = m by
          have := HLU.out
          have := HUU.out
          simp only [List.length_append, List.length_replicate] at hup
          omega)
        clear hn ha2 hrd hup
        obtain ⟨s3, HS3⟩ : ∃ s3, Hid (({ s with fs := put ⟨[122], A3, c3, (old [122] s.fs).bs ++ List.replicate L 0, (old [122] s.fs).fm⟩ s.fs } : St) = s3) := ⟨_, rfl⟩
        have HN4 := Lib.hid (show Nx D B w0 _ w3 s3 by rw [← HS3.out]; exact HN3.out)
        have hu3 : used s3.fs = m := by rw [← HS3.out]; exact HUM.out
        have hfl3 : s3.fl = false := by rw [← HS3.out]; exact HFL.out
        have hmo3 : s3.mo = m := by rw [← HS3.out]; exact HMO.out
        have hx3 : s3.fails = false := by rw [← HS3.out]; exact HX0.out
        have hf3 : fnd [122] s3.fs = some ⟨[122], A3, c3, (old [122] s.fs).bs ++ List.replicate L 0, (old [122] s.fs).fm⟩ := by
          have := HN4.out.1.apart
          rw [← HS3.out] at this ⊢
          exact fnd_put_same this
        have HU3 := used_any HN4.out.1
        rw [hu3] at HU3
        have HU4 := Lib.hid HU3
        have HF3 := Lib.hid (And.intro hu3 (And.intro hfl3 (And.intro hmo3 (And.intro hx3 hf3))))
        clear hst hu3 hfl3 hmo3 hx3 hf3 HU3 HN3 HUM HS3
        go_wp2_with fail
        refine HU4.out.mono ?_
        rintro e w4 ⟨rfl, hf⟩
        have HN5 := Lib.hid (HN4.out.then_no hf)
        clear hf
        go_wp2_with fail
        have ha5 := HN5.out.then_no (Fr.alloc No w4 (.cells #[.int .u8 1] 5))
        refine (append_full ha5.1 ⟨#[122]⟩ (sz1 _) (some ⟨w4.heap.size, 0, none⟩) 1 1 HF3.out.2.1 (by decide) (by
          unfold St.fits
          rw [HF3.out.2.2.1, HF3.out.1]
          simp only [Bool.and_eq_false_iff, decide_eq_false_iff_not]
          exact .inl (by omega))).mono ?_
        rintro e w5 ⟨rfl, hf⟩
        have HN6 := Lib.hid (ha5.then_no hf)
        clear hf ha5
        go_wp2_with fail
        refine (remove_ok HN6.out.1 ⟨#[122]⟩ (sz1 _) HF3.out.2.1 _ HF3.out.2.2.2.2 HF3.out.2.2.2.1).mono ?_
        rintro e w6 ⟨rfl, hn⟩
        have HN7 := Lib.hid (HN6.out.trans hn)
        clear hn
        go_wp2_with fail
        refine (HA.out _).mono ?_
        rintro e w7 ⟨rfl, hb⟩
        have HB7 := Lib.hid hb
        clear hb
        go_wp2_with fail
        go_ret
        exact ⟨rfl, (HB0.out.trans (HN7.out.2.1.below (by have := HB0.out.size; rw [HBB.out] at this; exact this) HFOOT.out)).trans (HB7.out.mono (by have := HN7.out.2.1.size; have := HB0.out.size; rw [HBB.out] at this; omega))⟩
      · have HI50 := Lib.hid hi
        clear hi hlt
        have hUm : used s.fs ≤ m := by have := HN.out.1.room; have e : s.mo = m := HC.out.2.2.2.1; omega
        have HMO := Lib.hid (show s.mo = m from HC.out.2.2.2.1)
        have HFL := Lib.hid (show s.fl = false from HC.out.1)
        have HX0 := Lib.hid (show s.fails = false by unfold St.fails; rw [show s.bd = false from HC.out.2.1]; rfl)
        have HLN := Lib.hid (show s.fs.length ≤ 50 by
          have h5 := HC.out.2.2.2.2
          have := HI50.out
          have e : s.ab.fs.length = s.fs.length := by
            show (s.fs.map Fl.ab).length = _
            simp
          omega)
        have HU := Lib.hid (used_any HN.out.1)
        obtain ⟨L, hL⟩ : ∃ L, m - used s.fs = L := ⟨_, rfl⟩
        obtain ⟨K1, hK1⟩ : ∃ K1, L + 1 = K1 := ⟨_, rfl⟩
        obtain ⟨U, HUU⟩ : ∃ U, Hid (used s.fs = U) := ⟨_, rfl⟩
        rw [HUU.out] at HU hUm hL
        have hwL : IntKind.i64.wrap ((m : Int) - (U : Int)) = (L : Int) := by
          rw [show ((m : Int) - (U : Int)) = (L : Int) by omega]
          exact IntWalk.i64_in _ (by omega)
        have hwK : IntKind.i64.wrap ((L : Int) + 1) = (K1 : Int) := by
          rw [show ((L : Int) + 1) = (K1 : Int) by omega]
          exact IntWalk.i64_in _ (by omega)
        have hm1 := fun W => make_u8 K1 (by omega) W
        have hm0 := fun W => make_u8 L (by omega) W
        have HLU := Lib.hid (And.intro hL (And.intro hK1 hUm))
        clear hL hK1 hUm
        go_wp2_with fail
        refine HU.out.mono ?_
        rintro e w1 ⟨rfl, hf⟩
        have HN1 := Lib.hid (HN.out.then_no hf)
        clear hf
        go_wp2_with fail
        have ha1 := HN1.out.then_no (Fr.alloc No w1 (.cells (List.replicate K1 (Value.int .u8 0)).toArray 5))
        refine (append_full ha1.1 ⟨#[122]⟩ (sz1 _) (some ⟨w1.heap.size, 0, none⟩) K1 K1 HFL.out (by decide) (by
          unfold St.fits
          rw [HMO.out, HUU.out]
          have := HLU.out
          simp only [Bool.and_eq_false_iff, decide_eq_false_iff_not]
          exact .inl (by omega))).mono ?_
        rintro e w2 ⟨rfl, hf⟩
        have HN2 := Lib.hid (ha1.then_no hf)
        clear hf ha1
        go_wp2_with fail
        have ha2 := HN2.out.then_no (Fr.alloc No w2 (.cells (List.replicate L (Value.int .u8 0)).toArray 5))
        have hrd : Rd (w2.alloc (.cells (List.replicate L (Value.int .u8 0)).toArray 5)) (w2.alloc (.cells (List.replicate L (Value.int .u8 0)).toArray 5)).heap.size (some ⟨w2.heap.size, 0, none⟩) L (List.replicate L 0) := by
          have := (Rd.new w2 (List.replicate L 0) _ (bvs_zeros L) (0, 0)).more (show w2.heap.size + 1 ≤ (w2.alloc (.cells (List.replicate L (Value.int .u8 0)).toArray 5)).heap.size by simp)
          rw [List.length_replicate] at this
          exact this
        refine (append_ok ha2.1 ⟨#[122]⟩ (sz1 _) (some ⟨w2.heap.size, 0, none⟩) L L (List.replicate L 0) hrd HFL.out (by decide) (by
          unfold St.fits
          rw [HMO.out, HUU.out]
          have := HLU.out
          have := HLN.out
          simp only [Bool.and_eq_true, Bool.or_eq_true, decide_eq_true_eq]
          exact ⟨by omega, .inr (by omega)⟩) HX0.out).mono ?_
        rintro e w3 ⟨rfl, A3, c3, hn⟩
        have hst : s.step = s := by unfold St.step; rw [show s.bd = false from HC.out.2.1]; rfl
        rw [hst] at hn
        have hup := used_put HN.out.1 ⟨[122], A3, c3, (old [122] s.fs).bs ++ List.replicate L 0, (old [122] s.fs).fm⟩
        have HN3 := Lib.hid (ha2.trans hn)
        have HUM := Lib.hid (show used (put ⟨[122], A3, c3, (old [122] s.fs).bs ++ List.replicate L 0, (old [122] s.fs).fm⟩ s.fs) = m by
          have := HLU.out
          have := HUU.out
          simp only [List.length_append, List.length_replicate] at hup
          omega)
        clear hn ha2 hrd hup
        obtain ⟨s3, HS3⟩ : ∃ s3, Hid (({ s with fs := put ⟨[122], A3, c3, (old [122] s.fs).bs ++ List.replicate L 0, (old [122] s.fs).fm⟩ s.fs } : St) = s3) := ⟨_, rfl⟩
        have HN4 := Lib.hid (show Nx D B w0 _ w3 s3 by rw [← HS3.out]; exact HN3.out)
        have hu3 : used s3.fs = m := by rw [← HS3.out]; exact HUM.out
        have hfl3 : s3.fl = false := by rw [← HS3.out]; exact HFL.out
        have hmo3 : s3.mo = m := by rw [← HS3.out]; exact HMO.out
        have hx3 : s3.fails = false := by rw [← HS3.out]; exact HX0.out
        have hf3 : fnd [122] s3.fs = some ⟨[122], A3, c3, (old [122] s.fs).bs ++ List.replicate L 0, (old [122] s.fs).fm⟩ := by
          have := HN4.out.1.apart
          rw [← HS3.out] at this ⊢
          exact fnd_put_same this
        have HU3 := used_any HN4.out.1
        rw [hu3] at HU3
        have HU4 := Lib.hid HU3
        have HF3 := Lib.hid (And.intro hu3 (And.intro hfl3 (And.intro hmo3 (And.intro hx3 hf3))))
        clear hst hu3 hfl3 hmo3 hx3 hf3 HU3 HN3 HUM HS3
        go_wp2_with fail
        refine HU4.out.mono ?_
        rintro e w4 ⟨rfl, hf⟩
        have HN5 := Lib.hid (HN4.out.then_no hf)
        clear hf
        go_wp2_with fail
        have ha5 := HN5.out.then_no (Fr.alloc No w4 (.cells #[.int .u8 1] 5))
        refine (append_full ha5.1 ⟨#[122]⟩ (sz1 _) (some ⟨w4.heap.size, 0, none⟩) 1 1 HF3.out.2.1 (by decide) (by
          unfold St.fits
          rw [HF3.out.2.2.1, HF3.out.1]
          simp only [Bool.and_eq_false_iff, decide_eq_false_iff_not]
          exact .inl (by omega))).mono ?_
        rintro e w5 ⟨rfl, hf⟩
        have HN6 := Lib.hid (ha5.then_no hf)
        clear hf ha5
        go_wp2_with fail
        refine (remove_ok HN6.out.1 ⟨#[122]⟩ (sz1 _) HF3.out.2.1 _ HF3.out.2.2.2.2 HF3.out.2.2.2.1).mono ?_
        rintro e w6 ⟨rfl, hn⟩
        have HN7 := Lib.hid (HN6.out.trans hn)
        clear hn
        go_wp2_with fail
        refine (HA.out _).mono ?_
        rintro e w7 ⟨rfl, hb⟩
        have HB7 := Lib.hid hb
        clear hb
        go_wp2_with fail
        go_ret
        exact ⟨rfl, (HB0.out.trans (HN7.out.2.1.below (by have := HB0.out.size; rw [HBB.out] at this; exact this) HFOOT.out)).trans (HB7.out.mono (by have := HN7.out.2.1.size; have := HB0.out.size; rw [HBB.out] at this; omega))⟩
end Go.Proofs.Ytjnhlakcihkepaa

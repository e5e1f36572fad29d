/-
  DiskWoven: the walk. No statement of the seat is proved here.
-/
import Derived.Test.YtpffgkflebbejaaDnO
namespace Go.Proofs.Ytpffgkflebbejaa
open Go.RowKit Go.Maps

set_option maxHeartbeats 16000000 in
set_option maxRecDepth 100000 in
theorem woven_walk (A A2 A3 : Option Addr) (n c n2 c2 n3 c3 : Nat) (xs ys : List Cl) (zs : List Bool) (w : World) (hx : RowOf w 6 (ClAt w) A n xs) (hy : RowOf w 6 (ClAt w) A2 n2 ys) (hz : RowOf w 1 (fun a b => w.cell? a = some (.bool b)) A3 n3 zs) :
    Calls Try.prog 7 #[.slice A n c, .slice A2 n2 c2, .slice A3 n3 c3] w fun e w' => e = .returned (.bool true) ∧ Below w.heap.size w w' := by
  have HA := Lib.hid (fun W => awake_any W)
  have HNEW := Lib.hid (show ∀ W, Calls Try.prog 8 #[.int .i64 1048576] W fun e w' => e = .returned (.tuple #[.pointer (some ⟨W.heap.size + 1, 0, none⟩), .int .i64 0]) ∧ Dsk w' (W.heap.size + 1) W.heap.size ⟨false, false, 0, 1048576, []⟩ ∧ Below W.heap.size W w' from fun W => new_dsk 1048576 W (by omega))
  obtain ⟨B, HBB⟩ : ∃ B, Hid (w.heap.size = B) := ⟨_, rfl⟩
  have HOW1 := Lib.hid (fun W (hb : Below w.heap.size w W) => own_any 45 A n c xs w W hx hb)
  have HOW2 := Lib.hid (fun W (hb : Below w.heap.size w W) => own_any 46 A2 n2 c2 ys w W hy hb)
  have HZ := Lib.hid hz
  clear hx hy hz
  go_enter Try.func7, Try.ntmps7
  go_wp2_with fail
  refine (HNEW.out _).mono ?_
  rintro e w1 ⟨rfl, hd1, hb1⟩
  have HD1 := Lib.hid hd1
  have HB1 := Lib.hid hb1
  clear hd1 hb1
  go_wp2_with fail
  refine (HNEW.out _).mono ?_
  rintro e w2 ⟨rfl, hd2, hb2⟩
  have hlt1 := fun k hk => HD1.out.foot_lt (k := k) hk
  have htw : Two B w w2 (w.heap.size + 1) w.heap.size (w1.heap.size + 1) w1.heap.size ⟨false, false, 0, 1048576, []⟩ ⟨false, false, 0, 1048576, []⟩ := by
    have h1 := HB1.out.size
    have h2 := HBB.out
    refine ⟨?_, hd2, fun k hk hk2 => ?_, fun k hk => ?_, fun k hk => ?_, ?_⟩
    · exact HD1.out.keep (F := fun k => w1.heap.size ≤ k) ⟨hb2.os, hb2.tape, hb2.output, hb2.size, fun k hk _ => hb2.block k hk⟩ (fun k hk hf => by have := hlt1 k hk; omega)
    · have := hlt1 k hk
      rcases hk2 with e | e | ⟨f, hf, _⟩
      · omega
      · omega
      · cases hf
    · rcases hk with e | e | ⟨f, hf, _⟩
      · omega
      · omega
      · cases hf
    · rcases hk with e | e | ⟨f, hf, _⟩
      · omega
      · omega
      · cases hf
    · exact (HB1.out.mono (by omega)).trans (hb2.mono (by omega))
  obtain ⟨D, HDD⟩ : ∃ D, Hid (w.heap.size + 1 = D) := ⟨_, rfl⟩
  obtain ⟨D2, HDD2⟩ : ∃ D, Hid (w1.heap.size + 1 = D) := ⟨_, rfl⟩
  obtain ⟨M2, HMM2⟩ : ∃ M, Hid (w1.heap.size = M) := ⟨_, rfl⟩
  rw [HDD.out, HDD2.out] at htw ⊢
  rw [HBB.out, HMM2.out] at htw
  have HTW := Lib.hid htw
  clear htw hd2 hb2 hlt1 HNEW HD1 HB1
  go_wp2_with fail
  refine (HOW1.out _ (by rw [HBB.out]; exact HTW.out.bel)).mono ?_
  rintro e w3 ⟨vl, L, rfl, hO1, hL, hL25⟩
  have HO1 := Lib.hid hO1
  have HL := Lib.hid hL
  obtain ⟨AL, cL, rfl⟩ := own_slice hO1.o
  clear hO1 hL
  go_wp2_with fail
  have hB2 : B ≤ w2.heap.size := by have := HTW.out.bel.size; rw [HBB.out] at this; exact this
  refine (HOW2.out _ (by rw [HBB.out]; exact HTW.out.bel.trans (HO1.out.fr.noBelow.mono hB2))).mono ?_
  rintro e w4 ⟨vm, R, rfl, hO2, hR, hR25⟩
  obtain ⟨AR, cR, rfl⟩ := own_slice hO2.o
  have HR := Lib.hid hR
  have HW4 := Lib.hid (Wv.start HTW.out hB2 HO1.out hO2)
  have HEND : Hid (∀ {W s t vl vm v1 v2 c1 c2}, Wv B w W D B D2 M2 s t vl vm v1 v2 L R c1 c2 → B ≤ W.heap.size) := fun h => by have := h.two.bel.size; rw [HBB.out] at this; exact this
  clear hO2 hR hB2 HOW1 HOW2 HTW HO1
  have HLI : Hid (∀ i x, L[i]? = some x → Oc 45 w x) := fun i x h => HL.out x (List.mem_of_getElem? h)
  have HRI : Hid (∀ i x, R[i]? = some x → Oc 46 w x) := fun i x h => HR.out x (List.mem_of_getElem? h)
  obtain ⟨t0, HT0⟩ : ∃ t0 : St, Hid ((⟨false, false, 0, 1048576, []⟩ : St) = t0) := ⟨_, rfl⟩
  rw [HT0.out] at HW4
  have HST : Hid (t0.ab = Big (runs (L.take 0) ++ runs (R.take 0))) := by show _ = _; rw [← HT0.out]; rfl
  go_wp2_with fail
  go_loopw [11, 41] (fun v1 vi wr => ∃ (i : Nat) (s : St) (A1 : Option Addr) (m1 c1 : Nat), i ≤ L.length ∧ v1 = .slice A1 m1 c1 ∧ vi = .int .i64 (i : Int) ∧ Wv B w wr D B D2 M2 s t0 (.slice AL L.length cL) (.slice AR R.length cR) (.slice A1 m1 c1) (.slice none 0 0) L R (cds L i) [] ∧ s.ab = Big (runs (L.take i) ++ runs (R.take 0)))
    (fun _ vi _ => L.length - (intOf vi).toNat)
  case atStart => exact ⟨0, t0, none, 0, 0, Nat.zero_le _, rfl, rfl, HW4.out, HST.out⟩
  case round =>
    obtain ⟨i, s, A1, m1, c1, hi, rfl, rfl, hW, hs⟩ := hrel
    have HW := Lib.hid hW
    have HS := Lib.hid hs
    clear hW hs
    by_cases hlt : i < L.length
    · obtain ⟨x, hx⟩ : ∃ x, L[i]? = some x := ⟨_, List.getElem?_eq_getElem hlt⟩
      have HXI := Lib.hid hx
      obtain ⟨_, G, rfl⟩ := own_blk HW.out.ol (by omega)
      obtain ⟨q0, q1, q2, q3, q4, q5⟩ := own_six HW.out.ol hx
      have ho := HLI.out i x hx
      have HDO := Lib.hid (fun W (hf : Fr No wr W) => does_any (HW.out.two.a.no hf) x ho.z1 ho.z2 (((ho.rd.more (Nat.le_of_eq HBB.out)).below (HW.out.two.bel.trans (hf.noBelow.mono (HEND.out HW.out)))).more (Nat.le_trans (HEND.out HW.out) hf.size)) (by have := ho.wh; omega))
      have hdo := does_left HL.out HR.out (i := i) (k := 0) (by omega) (by omega) hx
      rw [HS.out, hdo] at HDO
      have hwi : IntKind.i64.wrap ((i : Int) + 1) = ((i + 1 : Nat) : Int) := by
        rw [show ((i : Int) + 1) = ((i + 1 : Nat) : Int) by omega]
        exact IntWalk.i64_in _ (by omega)
      clear hx ho hdo
      go_wp2_with fail
      refine (HDO.out _ (Fr.alloc No wr _)).mono ?_
      rintro e w5 ⟨s5, rfl, hN, hab⟩
      have HW5 := Lib.hid ((HW.out.no (HEND.out HW.out) (Fr.alloc No wr _)).left (by have := HEND.out HW.out; rw [World.size_alloc]; omega) hN)
      have HA5 := Lib.hid hab
      clear hN hab q0 q1 q2 q3 q4 q5 HDO
      go_wp2_with (at_builtin; refine wpList_append_e1 w w5 rfl (.tmp 45) (.tmp 49) rfl HW5.out (HEND.out HW5.out) i (cds_length _ _) (by omega) (cd L i) rfl rfl ?_; intro g6 cap6 w6 hw6; have HW6 := Lib.hid hw6; clear hw6)
      rw [← cds_succ] at HW6
      go_roundw
      case rel => exact ⟨i + 1, s5, _, _, _, by omega, rfl, by go_num, HW6.out, HA5.out⟩
      case measure => simp [intOf]; omega
    · have hie : i = L.length := by omega
      subst hie
      clear hlt hi HW4
      have HW4 := Lib.hid HW.out
      go_wp2_with fail
      go_loopw [12, 54] (fun v2 vi wr => ∃ (k : Nat) (s : St) (A2 : Option Addr) (m2 c2 : Nat), k ≤ R.length ∧ v2 = .slice A2 m2 c2 ∧ vi = .int .i64 (k : Int) ∧ Wv B w wr D B D2 M2 s t0 (.slice AL L.length cL) (.slice AR R.length cR) (.slice A1 m1 c1) (.slice A2 m2 c2) L R (cds L L.length) (cds R k) ∧ s.ab = Big (runs (L.take L.length) ++ runs (R.take k)))
        (fun _ vi _ => R.length - (intOf vi).toNat)
      case atStart => exact ⟨0, s, none, 0, 0, Nat.zero_le _, rfl, rfl, HW4.out, HS.out⟩
      case round =>
        obtain ⟨k, s2, A2, m2, c2, hk, rfl, rfl, hW, hs⟩ := hrel
        have HW := Lib.hid hW
        have HS := Lib.hid hs
        clear hW hs
        by_cases hlt : k < R.length
        · obtain ⟨x, hx⟩ : ∃ x, R[k]? = some x := ⟨_, List.getElem?_eq_getElem hlt⟩
          obtain ⟨_, G, rfl⟩ := own_blk HW.out.om (by omega)
          obtain ⟨q0, q1, q2, q3, q4, q5⟩ := own_six HW.out.om hx
          have ho := HRI.out k x hx
          have HDO := Lib.hid (fun W (hf : Fr No wr W) => does_any (HW.out.two.a.no hf) x ho.z1 ho.z2 (((ho.rd.more (Nat.le_of_eq HBB.out)).below (HW.out.two.bel.trans (hf.noBelow.mono (HEND.out HW.out)))).more (Nat.le_trans (HEND.out HW.out) hf.size)) (by have := ho.wh; omega))
          have hdo := does_right HL.out HR.out (i := L.length) (k := k) (by omega) (by omega) hx
          rw [HS.out, hdo] at HDO
          have hwk : IntKind.i64.wrap ((k : Int) + 1) = ((k + 1 : Nat) : Int) := by
            rw [show ((k : Int) + 1) = ((k + 1 : Nat) : Int) by omega]
            exact IntWalk.i64_in _ (by omega)
          clear hx ho hdo
          go_wp2_with fail
          refine (HDO.out _ (Fr.alloc No wr _)).mono ?_
          rintro e w5 ⟨s5, rfl, hN, hab⟩
          have HW5 := Lib.hid ((HW.out.no (HEND.out HW.out) (Fr.alloc No wr _)).left (by have := HEND.out HW.out; rw [World.size_alloc]; omega) hN)
          have HA5 := Lib.hid hab
          clear hN hab q0 q1 q2 q3 q4 q5 HDO
          go_wp2_with (at_builtin; refine wpList_append_e2 w w5 rfl (.tmp 58) (.tmp 62) rfl HW5.out (HEND.out HW5.out) k (cds_length _ _) (by omega) (cd R k) rfl rfl ?_; intro g6 cap6 w6 hw6; have HW6 := Lib.hid hw6; clear hw6)
          rw [← cds_succ] at HW6
          go_roundw
          case rel => exact ⟨k + 1, s5, _, _, _, by omega, rfl, by go_num, HW6.out, HA5.out⟩
          case measure => simp [intOf]; omega
        · have hke : k = R.length := by omega
          subst hke
          clear hlt hk HW4
          have HW4 := Lib.hid HW.out
          have HSA := Lib.hid HS.out
          clear HW HS
          go_wp2_with fail
          go_loopw [17, 18, 19] (fun vi vk vn wr => ∃ (i k : Nat) (t : St), i ≤ L.length ∧ k ≤ R.length ∧ vi = .int .i64 (i : Int) ∧ vk = .int .i64 (k : Int) ∧ vn = .int .i64 ((i + k : Nat) : Int) ∧ Wv B w wr D B D2 M2 s2 t (.slice AL L.length cL) (.slice AR R.length cR) (.slice A1 m1 c1) (.slice A2 m2 c2) L R (cds L L.length) (cds R R.length) ∧ t.ab = Big (runs (L.take i) ++ runs (R.take k)))
            (fun vi vk _ _ => (L.length - (intOf vi).toNat) + (R.length - (intOf vk).toNat))
          case atStart => exact ⟨0, 0, t0, Nat.zero_le _, Nat.zero_le _, rfl, rfl, rfl, HW4.out, HST.out⟩
          case round =>
            obtain ⟨i, k, t, hi, hk, rfl, rfl, rfl, hW, ht⟩ := hrel
            have HW := Lib.hid hW
            have HT := Lib.hid ht
            clear hW ht
            generalize hNN : i + k = N at *
            by_cases hiL : i < L.length
            · by_cases hkR : k < R.length
              · have hke : ((k : Int) == (R.length : Int)) = false := by rw [beq_eq_false_iff_ne]; omega
                by_cases hn : N < n3
                · obtain ⟨b3, o3, rfl, hb3, hc3⟩ := HZ.out.2 (by omega)
                  have hj : N < zs.length := by rw [HZ.out.1]; exact hn
                  have qz := hc3 N hj
                  rw [Nat.mul_one] at qz
                  have hzw : wr.cell? ⟨b3, o3 + N, none⟩ = some (.bool zs[N]) := (HW.out.two.bel.cell (p := ⟨b3, o3 + N, none⟩) (by rw [← HBB.out]; exact hb3)).trans qz
                  clear hc3 qz
                  cases hzz : zs[N] with
                  | true =>
                    rw [hzz] at hzw
                    obtain ⟨x, hx⟩ : ∃ x, L[i]? = some x := ⟨_, List.getElem?_eq_getElem (by assumption)⟩
                    obtain ⟨_, G, rfl⟩ := own_blk HW.out.ol (by omega)
                    obtain ⟨hm, G1, rfl⟩ := own_blk HW.out.o1 (by rw [cds_length]; omega)
                    rw [cds_length] at hm
                    subst hm
                    have ho := HLI.out i x hx
                    have HDO := Lib.hid (fun W (hf : Fr No wr W) => does_any (HW.out.two.b.no hf) x ho.z1 ho.z2 (((ho.rd.more (Nat.le_of_eq HBB.out)).below (HW.out.two.bel.trans (hf.noBelow.mono (HEND.out HW.out)))).more (Nat.le_trans (HEND.out HW.out) hf.size)) (by have := ho.wh; omega))
                    have hdo := does_left HL.out HR.out (i := i) (k := k) (by omega) (by omega) hx
                    rw [HT.out, hdo] at HDO
                    have HSEV := Lib.hid (show ∀ W s5 t5, Wv B w W D B D2 M2 s5 t5 (.slice (some ⟨G, 0, none⟩) L.length cL) (.slice AR R.length cR) (.slice (some ⟨G1, 0, none⟩) L.length c1) (.slice A2 m2 c2) L R (cds L L.length) (cds R R.length) → W.cell? ⟨G, i * 6, none⟩ = some (.int .u8 (x.wh : Int)) ∧ W.cell? ⟨G, i * 6 + 1, none⟩ = some (.string x.nm) ∧ W.cell? ⟨G, i * 6 + 2, none⟩ = some (.string x.to) ∧ W.cell? ⟨G, i * 6 + 3, none⟩ = some (.slice x.B.A x.B.n x.B.c) ∧
                        W.cell? ⟨G, i * 6 + 4, none⟩ = some (.int .i64 x.n) ∧ W.cell? ⟨G, i * 6 + 5, none⟩ = some (.slice x.K x.kn x.kc) ∧ W.cell? ⟨G1, i, none⟩ = some (.int .i64 (cd L i)) from fun W s5 t5 h => by
                      have h6 := own_six h.ol hx
                      have h1 := h.o1
                      rw [cds_length] at h1
                      exact ⟨h6.1, h6.2.1, h6.2.2.1, h6.2.2.2.1, h6.2.2.2.2.1, h6.2.2.2.2.2, own_err h1 (cds_at _ (by omega))⟩)
                    have y0 := HSEV.out _ _ _ HW.out
                    have HW1 := Lib.hid (HW.out.no (HEND.out HW.out) (Fr.drew No wr))
                    have HB1 := Lib.hid (HEND.out HW1.out)
                    have y1 := HSEV.out _ _ _ HW1.out
                    have hm2 : i < L.length := by omega
                    have hm3 : (i : Int) < (L.length : Int) := by omega
                    have hm4 : (0 : Int) ≤ (i : Int) := by omega
                    have hwi : IntKind.i64.wrap ((i : Int) + 1) = ((i + 1 : Nat) : Int) := by
                      rw [show ((i : Int) + 1) = ((i + 1 : Nat) : Int) by omega]
                      exact IntWalk.i64_in _ (by omega)
                    have hwN : IntKind.i64.wrap ((N : Int) + 1) = ((N + 1 : Nat) : Int) := by
                      rw [show ((N : Int) + 1) = ((N + 1 : Nat) : Int) by omega]
                      exact IntWalk.i64_in _ (by omega)
                    clear hx ho hdo
                    go_wp2_with fail
                    go_region_held3 (fun W => W.cell? ⟨G, i * 6, none⟩ = some (.int .u8 (x.wh : Int)) ∧ W.cell? ⟨G, i * 6 + 1, none⟩ = some (.string x.nm) ∧ W.cell? ⟨G, i * 6 + 2, none⟩ = some (.string x.to) ∧ W.cell? ⟨G, i * 6 + 3, none⟩ = some (.slice x.B.A x.B.n x.B.c) ∧
                        W.cell? ⟨G, i * 6 + 4, none⟩ = some (.int .i64 x.n) ∧ W.cell? ⟨G, i * 6 + 5, none⟩ = some (.slice x.K x.kn x.kc) ∧ W.cell? ⟨G1, i, none⟩ = some (.int .i64 (cd L i)))
                      (first | exact y2 | exact y1 | exact y0)
                      (first | (go_at_call 13; (refine (HDO.out _ (Fr.drew No _)).mono ?_); rintro e w5 ⟨t5, rfl, hN, hab⟩; have HW5 := Lib.hid (HW1.out.right HB1.out hN); have HA5 := Lib.hid hab; have y2 := HSEV.out _ _ _ HW5.out; clear hN hab))
                    all_goals (
                      clear y0 y1 y2 HDO HSEV
                      go_wp2_with fail
                      go_roundw
                      case rel => exact ⟨i + 1, k, t5, by omega, by omega, by go_num, by go_num, by rw [show i + 1 + k = N + 1 by omega]; go_num, HW5.out, HA5.out⟩
                      case measure => simp [intOf]; omega)
                  | false =>
                    rw [hzz] at hzw
                    obtain ⟨x, hx⟩ : ∃ x, R[k]? = some x := ⟨_, List.getElem?_eq_getElem (by assumption)⟩
                    obtain ⟨_, G, rfl⟩ := own_blk HW.out.om (by omega)
                    obtain ⟨hm, G1, rfl⟩ := own_blk HW.out.o2 (by rw [cds_length]; omega)
                    rw [cds_length] at hm
                    subst hm
                    have ho := HRI.out k x hx
                    have HDO := Lib.hid (fun W (hf : Fr No wr W) => does_any (HW.out.two.b.no hf) x ho.z1 ho.z2 (((ho.rd.more (Nat.le_of_eq HBB.out)).below (HW.out.two.bel.trans (hf.noBelow.mono (HEND.out HW.out)))).more (Nat.le_trans (HEND.out HW.out) hf.size)) (by have := ho.wh; omega))
                    have hdo := does_right HL.out HR.out (i := i) (k := k) (by omega) (by omega) hx
                    rw [HT.out, hdo] at HDO
                    have HSEV := Lib.hid (show ∀ W s5 t5, Wv B w W D B D2 M2 s5 t5 (.slice AL L.length cL) (.slice (some ⟨G, 0, none⟩) R.length cR) (.slice A1 m1 c1) (.slice (some ⟨G1, 0, none⟩) R.length c2) L R (cds L L.length) (cds R R.length) → W.cell? ⟨G, k * 6, none⟩ = some (.int .u8 (x.wh : Int)) ∧ W.cell? ⟨G, k * 6 + 1, none⟩ = some (.string x.nm) ∧ W.cell? ⟨G, k * 6 + 2, none⟩ = some (.string x.to) ∧ W.cell? ⟨G, k * 6 + 3, none⟩ = some (.slice x.B.A x.B.n x.B.c) ∧
                        W.cell? ⟨G, k * 6 + 4, none⟩ = some (.int .i64 x.n) ∧ W.cell? ⟨G, k * 6 + 5, none⟩ = some (.slice x.K x.kn x.kc) ∧ W.cell? ⟨G1, k, none⟩ = some (.int .i64 (cd R k)) from fun W s5 t5 h => by
                      have h6 := own_six h.om hx
                      have h1 := h.o2
                      rw [cds_length] at h1
                      exact ⟨h6.1, h6.2.1, h6.2.2.1, h6.2.2.2.1, h6.2.2.2.2.1, h6.2.2.2.2.2, own_err h1 (cds_at _ (by omega))⟩)
                    have y0 := HSEV.out _ _ _ HW.out
                    have HW1 := Lib.hid (HW.out.no (HEND.out HW.out) (Fr.drew No wr))
                    have HB1 := Lib.hid (HEND.out HW1.out)
                    have y1 := HSEV.out _ _ _ HW1.out
                    have hm2 : k < R.length := by omega
                    have hm3 : (k : Int) < (R.length : Int) := by omega
                    have hm4 : (0 : Int) ≤ (k : Int) := by omega
                    have hwi : IntKind.i64.wrap ((k : Int) + 1) = ((k + 1 : Nat) : Int) := by
                      rw [show ((k : Int) + 1) = ((k + 1 : Nat) : Int) by omega]
                      exact IntWalk.i64_in _ (by omega)
                    have hwN : IntKind.i64.wrap ((N : Int) + 1) = ((N + 1 : Nat) : Int) := by
                      rw [show ((N : Int) + 1) = ((N + 1 : Nat) : Int) by omega]
                      exact IntWalk.i64_in _ (by omega)
                    clear hx ho hdo
                    go_wp2_with fail
                    go_region_held3 (fun W => W.cell? ⟨G, k * 6, none⟩ = some (.int .u8 (x.wh : Int)) ∧ W.cell? ⟨G, k * 6 + 1, none⟩ = some (.string x.nm) ∧ W.cell? ⟨G, k * 6 + 2, none⟩ = some (.string x.to) ∧ W.cell? ⟨G, k * 6 + 3, none⟩ = some (.slice x.B.A x.B.n x.B.c) ∧
                        W.cell? ⟨G, k * 6 + 4, none⟩ = some (.int .i64 x.n) ∧ W.cell? ⟨G, k * 6 + 5, none⟩ = some (.slice x.K x.kn x.kc) ∧ W.cell? ⟨G1, k, none⟩ = some (.int .i64 (cd R k)))
                      (first | exact y2 | exact y1 | exact y0)
                      (first | (go_at_call 13; (refine (HDO.out _ (Fr.drew No _)).mono ?_); rintro e w5 ⟨t5, rfl, hN, hab⟩; have HW5 := Lib.hid (HW1.out.right HB1.out hN); have HA5 := Lib.hid hab; have y2 := HSEV.out _ _ _ HW5.out; clear hN hab))
                    all_goals (
                      clear y0 y1 y2 HDO HSEV
                      go_wp2_with fail
                      go_roundw
                      case rel => exact ⟨i, k + 1, t5, by omega, by omega, by go_num, by go_num, by rw [show i + (k + 1) = N + 1 by omega]; go_num, HW5.out, HA5.out⟩
                      case measure => simp [intOf]; omega)
                · skip
                  obtain ⟨x, hx⟩ : ∃ x, R[k]? = some x := ⟨_, List.getElem?_eq_getElem (by assumption)⟩
                  obtain ⟨_, G, rfl⟩ := own_blk HW.out.om (by omega)
                  obtain ⟨hm, G1, rfl⟩ := own_blk HW.out.o2 (by rw [cds_length]; omega)
                  rw [cds_length] at hm
                  subst hm
                  have ho := HRI.out k x hx
                  have HDO := Lib.hid (fun W (hf : Fr No wr W) => does_any (HW.out.two.b.no hf) x ho.z1 ho.z2 (((ho.rd.more (Nat.le_of_eq HBB.out)).below (HW.out.two.bel.trans (hf.noBelow.mono (HEND.out HW.out)))).more (Nat.le_trans (HEND.out HW.out) hf.size)) (by have := ho.wh; omega))
                  have hdo := does_right HL.out HR.out (i := i) (k := k) (by omega) (by omega) hx
                  rw [HT.out, hdo] at HDO
                  have HSEV := Lib.hid (show ∀ W s5 t5, Wv B w W D B D2 M2 s5 t5 (.slice AL L.length cL) (.slice (some ⟨G, 0, none⟩) R.length cR) (.slice A1 m1 c1) (.slice (some ⟨G1, 0, none⟩) R.length c2) L R (cds L L.length) (cds R R.length) → W.cell? ⟨G, k * 6, none⟩ = some (.int .u8 (x.wh : Int)) ∧ W.cell? ⟨G, k * 6 + 1, none⟩ = some (.string x.nm) ∧ W.cell? ⟨G, k * 6 + 2, none⟩ = some (.string x.to) ∧ W.cell? ⟨G, k * 6 + 3, none⟩ = some (.slice x.B.A x.B.n x.B.c) ∧
                      W.cell? ⟨G, k * 6 + 4, none⟩ = some (.int .i64 x.n) ∧ W.cell? ⟨G, k * 6 + 5, none⟩ = some (.slice x.K x.kn x.kc) ∧ W.cell? ⟨G1, k, none⟩ = some (.int .i64 (cd R k)) from fun W s5 t5 h => by
                    have h6 := own_six h.om hx
                    have h1 := h.o2
                    rw [cds_length] at h1
                    exact ⟨h6.1, h6.2.1, h6.2.2.1, h6.2.2.2.1, h6.2.2.2.2.1, h6.2.2.2.2.2, own_err h1 (cds_at _ (by omega))⟩)
                  have y0 := HSEV.out _ _ _ HW.out
                  have HW1 := Lib.hid (HW.out.no (HEND.out HW.out) (Fr.drew No wr))
                  have HB1 := Lib.hid (HEND.out HW1.out)
                  have y1 := HSEV.out _ _ _ HW1.out
                  have hm2 : k < R.length := by omega
                  have hm3 : (k : Int) < (R.length : Int) := by omega
                  have hm4 : (0 : Int) ≤ (k : Int) := by omega
                  have hwi : IntKind.i64.wrap ((k : Int) + 1) = ((k + 1 : Nat) : Int) := by
                    rw [show ((k : Int) + 1) = ((k + 1 : Nat) : Int) by omega]
                    exact IntWalk.i64_in _ (by omega)
                  have hwN : IntKind.i64.wrap ((N : Int) + 1) = ((N + 1 : Nat) : Int) := by
                    rw [show ((N : Int) + 1) = ((N + 1 : Nat) : Int) by omega]
                    exact IntWalk.i64_in _ (by omega)
                  clear hx ho hdo
                  go_wp2_with fail
                  go_region_held3 (fun W => W.cell? ⟨G, k * 6, none⟩ = some (.int .u8 (x.wh : Int)) ∧ W.cell? ⟨G, k * 6 + 1, none⟩ = some (.string x.nm) ∧ W.cell? ⟨G, k * 6 + 2, none⟩ = some (.string x.to) ∧ W.cell? ⟨G, k * 6 + 3, none⟩ = some (.slice x.B.A x.B.n x.B.c) ∧
                      W.cell? ⟨G, k * 6 + 4, none⟩ = some (.int .i64 x.n) ∧ W.cell? ⟨G, k * 6 + 5, none⟩ = some (.slice x.K x.kn x.kc) ∧ W.cell? ⟨G1, k, none⟩ = some (.int .i64 (cd R k)))
                    (first | exact y2 | exact y1 | exact y0)
                    (first | (go_at_call 13; (refine (HDO.out _ (Fr.drew No _)).mono ?_); rintro e w5 ⟨t5, rfl, hN, hab⟩; have HW5 := Lib.hid (HW1.out.right HB1.out hN); have HA5 := Lib.hid hab; have y2 := HSEV.out _ _ _ HW5.out; clear hN hab))
                  all_goals (
                    clear y0 y1 y2 HDO HSEV
                    go_wp2_with fail
                    go_roundw
                    case rel => exact ⟨i, k + 1, t5, by omega, by omega, by go_num, by go_num, by rw [show i + (k + 1) = N + 1 by omega]; go_num, HW5.out, HA5.out⟩
                    case measure => simp [intOf]; omega)
              · have hke : k = R.length := by omega
                have hkb : ((k : Int) == (R.length : Int)) = true := by rw [hke]; simp
                obtain ⟨x, hx⟩ : ∃ x, L[i]? = some x := ⟨_, List.getElem?_eq_getElem (by assumption)⟩
                obtain ⟨_, G, rfl⟩ := own_blk HW.out.ol (by omega)
                obtain ⟨hm, G1, rfl⟩ := own_blk HW.out.o1 (by rw [cds_length]; omega)
                rw [cds_length] at hm
                subst hm
                have ho := HLI.out i x hx
                have HDO := Lib.hid (fun W (hf : Fr No wr W) => does_any (HW.out.two.b.no hf) x ho.z1 ho.z2 (((ho.rd.more (Nat.le_of_eq HBB.out)).below (HW.out.two.bel.trans (hf.noBelow.mono (HEND.out HW.out)))).more (Nat.le_trans (HEND.out HW.out) hf.size)) (by have := ho.wh; omega))
                have hdo := does_left HL.out HR.out (i := i) (k := k) (by omega) (by omega) hx
                rw [HT.out, hdo] at HDO
                have HSEV := Lib.hid (show ∀ W s5 t5, Wv B w W D B D2 M2 s5 t5 (.slice (some ⟨G, 0, none⟩) L.length cL) (.slice AR R.length cR) (.slice (some ⟨G1, 0, none⟩) L.length c1) (.slice A2 m2 c2) L R (cds L L.length) (cds R R.length) → W.cell? ⟨G, i * 6, none⟩ = some (.int .u8 (x.wh : Int)) ∧ W.cell? ⟨G, i * 6 + 1, none⟩ = some (.string x.nm) ∧ W.cell? ⟨G, i * 6 + 2, none⟩ = some (.string x.to) ∧ W.cell? ⟨G, i * 6 + 3, none⟩ = some (.slice x.B.A x.B.n x.B.c) ∧
                    W.cell? ⟨G, i * 6 + 4, none⟩ = some (.int .i64 x.n) ∧ W.cell? ⟨G, i * 6 + 5, none⟩ = some (.slice x.K x.kn x.kc) ∧ W.cell? ⟨G1, i, none⟩ = some (.int .i64 (cd L i)) from fun W s5 t5 h => by
                  have h6 := own_six h.ol hx
                  have h1 := h.o1
                  rw [cds_length] at h1
                  exact ⟨h6.1, h6.2.1, h6.2.2.1, h6.2.2.2.1, h6.2.2.2.2.1, h6.2.2.2.2.2, own_err h1 (cds_at _ (by omega))⟩)
                have y0 := HSEV.out _ _ _ HW.out
                have HW1 := Lib.hid (HW.out.no (HEND.out HW.out) (Fr.drew No wr))
                have HB1 := Lib.hid (HEND.out HW1.out)
                have y1 := HSEV.out _ _ _ HW1.out
                have hm2 : i < L.length := by omega
                have hm3 : (i : Int) < (L.length : Int) := by omega
                have hm4 : (0 : Int) ≤ (i : Int) := by omega
                have hwi : IntKind.i64.wrap ((i : Int) + 1) = ((i + 1 : Nat) : Int) := by
                  rw [show ((i : Int) + 1) = ((i + 1 : Nat) : Int) by omega]
                  exact IntWalk.i64_in _ (by omega)
                have hwN : IntKind.i64.wrap ((N : Int) + 1) = ((N + 1 : Nat) : Int) := by
                  rw [show ((N : Int) + 1) = ((N + 1 : Nat) : Int) by omega]
                  exact IntWalk.i64_in _ (by omega)
                clear hx ho hdo
                go_wp2_with fail
                go_region_held3 (fun W => W.cell? ⟨G, i * 6, none⟩ = some (.int .u8 (x.wh : Int)) ∧ W.cell? ⟨G, i * 6 + 1, none⟩ = some (.string x.nm) ∧ W.cell? ⟨G, i * 6 + 2, none⟩ = some (.string x.to) ∧ W.cell? ⟨G, i * 6 + 3, none⟩ = some (.slice x.B.A x.B.n x.B.c) ∧
                    W.cell? ⟨G, i * 6 + 4, none⟩ = some (.int .i64 x.n) ∧ W.cell? ⟨G, i * 6 + 5, none⟩ = some (.slice x.K x.kn x.kc) ∧ W.cell? ⟨G1, i, none⟩ = some (.int .i64 (cd L i)))
                  (first | exact y2 | exact y1 | exact y0)
                  (first | (go_at_call 13; (refine (HDO.out _ (Fr.drew No _)).mono ?_); rintro e w5 ⟨t5, rfl, hN, hab⟩; have HW5 := Lib.hid (HW1.out.right HB1.out hN); have HA5 := Lib.hid hab; have y2 := HSEV.out _ _ _ HW5.out; clear hN hab))
                all_goals (
                  clear y0 y1 y2 HDO HSEV
                  go_wp2_with fail
                  go_roundw
                  case rel => exact ⟨i + 1, k, t5, by omega, by omega, by go_num, by go_num, by rw [show i + 1 + k = N + 1 by omega]; go_num, HW5.out, HA5.out⟩
                  case measure => simp [intOf]; omega)
            · have hie : i = L.length := by omega
              by_cases hkR : k < R.length
              · skip
                obtain ⟨x, hx⟩ : ∃ x, R[k]? = some x := ⟨_, List.getElem?_eq_getElem (by assumption)⟩
                obtain ⟨_, G, rfl⟩ := own_blk HW.out.om (by omega)
                obtain ⟨hm, G1, rfl⟩ := own_blk HW.out.o2 (by rw [cds_length]; omega)
                rw [cds_length] at hm
                subst hm
                have ho := HRI.out k x hx
                have HDO := Lib.hid (fun W (hf : Fr No wr W) => does_any (HW.out.two.b.no hf) x ho.z1 ho.z2 (((ho.rd.more (Nat.le_of_eq HBB.out)).below (HW.out.two.bel.trans (hf.noBelow.mono (HEND.out HW.out)))).more (Nat.le_trans (HEND.out HW.out) hf.size)) (by have := ho.wh; omega))
                have hdo := does_right HL.out HR.out (i := i) (k := k) (by omega) (by omega) hx
                rw [HT.out, hdo] at HDO
                have HSEV := Lib.hid (show ∀ W s5 t5, Wv B w W D B D2 M2 s5 t5 (.slice AL L.length cL) (.slice (some ⟨G, 0, none⟩) R.length cR) (.slice A1 m1 c1) (.slice (some ⟨G1, 0, none⟩) R.length c2) L R (cds L L.length) (cds R R.length) → W.cell? ⟨G, k * 6, none⟩ = some (.int .u8 (x.wh : Int)) ∧ W.cell? ⟨G, k * 6 + 1, none⟩ = some (.string x.nm) ∧ W.cell? ⟨G, k * 6 + 2, none⟩ = some (.string x.to) ∧ W.cell? ⟨G, k * 6 + 3, none⟩ = some (.slice x.B.A x.B.n x.B.c) ∧
                    W.cell? ⟨G, k * 6 + 4, none⟩ = some (.int .i64 x.n) ∧ W.cell? ⟨G, k * 6 + 5, none⟩ = some (.slice x.K x.kn x.kc) ∧ W.cell? ⟨G1, k, none⟩ = some (.int .i64 (cd R k)) from fun W s5 t5 h => by
                  have h6 := own_six h.om hx
                  have h1 := h.o2
                  rw [cds_length] at h1
                  exact ⟨h6.1, h6.2.1, h6.2.2.1, h6.2.2.2.1, h6.2.2.2.2.1, h6.2.2.2.2.2, own_err h1 (cds_at _ (by omega))⟩)
                have y0 := HSEV.out _ _ _ HW.out
                have HW1 := Lib.hid (HW.out.no (HEND.out HW.out) (Fr.drew No wr))
                have HB1 := Lib.hid (HEND.out HW1.out)
                have y1 := HSEV.out _ _ _ HW1.out
                have hm2 : k < R.length := by omega
                have hm3 : (k : Int) < (R.length : Int) := by omega
                have hm4 : (0 : Int) ≤ (k : Int) := by omega
                have hwi : IntKind.i64.wrap ((k : Int) + 1) = ((k + 1 : Nat) : Int) := by
                  rw [show ((k : Int) + 1) = ((k + 1 : Nat) : Int) by omega]
                  exact IntWalk.i64_in _ (by omega)
                have hwN : IntKind.i64.wrap ((N : Int) + 1) = ((N + 1 : Nat) : Int) := by
                  rw [show ((N : Int) + 1) = ((N + 1 : Nat) : Int) by omega]
                  exact IntWalk.i64_in _ (by omega)
                clear hx ho hdo
                go_wp2_with fail
                go_region_held3 (fun W => W.cell? ⟨G, k * 6, none⟩ = some (.int .u8 (x.wh : Int)) ∧ W.cell? ⟨G, k * 6 + 1, none⟩ = some (.string x.nm) ∧ W.cell? ⟨G, k * 6 + 2, none⟩ = some (.string x.to) ∧ W.cell? ⟨G, k * 6 + 3, none⟩ = some (.slice x.B.A x.B.n x.B.c) ∧
                    W.cell? ⟨G, k * 6 + 4, none⟩ = some (.int .i64 x.n) ∧ W.cell? ⟨G, k * 6 + 5, none⟩ = some (.slice x.K x.kn x.kc) ∧ W.cell? ⟨G1, k, none⟩ = some (.int .i64 (cd R k)))
                  (first | exact y2 | exact y1 | exact y0)
                  (first | (go_at_call 13; (refine (HDO.out _ (Fr.drew No _)).mono ?_); rintro e w5 ⟨t5, rfl, hN, hab⟩; have HW5 := Lib.hid (HW1.out.right HB1.out hN); have HA5 := Lib.hid hab; have y2 := HSEV.out _ _ _ HW5.out; clear hN hab))
                all_goals (
                  clear y0 y1 y2 HDO HSEV
                  go_wp2_with fail
                  go_roundw
                  case rel => exact ⟨i, k + 1, t5, by omega, by omega, by go_num, by go_num, by rw [show i + (k + 1) = N + 1 by omega]; go_num, HW5.out, HA5.out⟩
                  case measure => simp [intOf]; omega)
              · have hke : k = R.length := by omega
                subst hke
                subst hie
                clear hiL hkR hi hk
                have hfa : s2.fl = false := by
                  have e : s2.ab.fl = false := by rw [HSA.out]; rfl
                  exact e
                have hft : t.fl = false := by
                  have e : t.ab.fl = false := by rw [HT.out]; rfl
                  exact e
                have hfab : s2.ab.fs = t.ab.fs := by rw [HSA.out, HT.out]
                have HSM := Lib.hid (same_maps hfab)
                clear hfab
                go_wp2_with fail
                refine (taken_any HW.out.two.a hfa).mono ?_
                rintro e w5 ⟨x1, x2, x3, rfl, hS5, hf5⟩
                have HS5 := Lib.hid hS5
                have HF5 := Lib.hid hf5
                have HW5 := Lib.hid (HW.out.two.no (HEND.out HW.out) hf5)
                clear hS5 hf5
                go_wp2_with fail
                refine (taken_any HW5.out.b hft).mono ?_
                rintro e w6 ⟨y1, y2, y3, rfl, hS6, hf6⟩
                have HS6 := Lib.hid hS6
                have HF6 := Lib.hid hf6
                clear hS6 hf6
                go_wp2_with fail
                refine (same_any (HS5.out.stay HF6.out) HS6.out (by have := HW.out.two.a.few; omega) (by have := HW.out.two.b.few; omega)).mono ?_
                rintro e w7 ⟨rfl, hf7⟩
                have HF7 := Lib.hid hf7
                rw [HSM.out]
                clear hf7
                go_wp2_with fail
                refine (HA.out _).mono ?_
                rintro e w8 ⟨rfl, hb⟩
                have HB8 := Lib.hid hb
                clear hb
                go_wp2_with fail
                go_ret
                have hBr := HEND.out HW.out
                have h5 := HF5.out.size
                have h6 := HF6.out.size
                have h7 := HF7.out.size
                have hB := HBB.out
                exact ⟨rfl, (((HW.out.two.bel.mono (by omega)).trans (HF5.out.noBelow.mono (by omega))).trans (HF6.out.noBelow.mono (by omega))).trans ((HF7.out.noBelow.mono (by omega)).trans (HB8.out.mono (by omega)))⟩
end Go.Proofs.Ytpffgkflebbejaa

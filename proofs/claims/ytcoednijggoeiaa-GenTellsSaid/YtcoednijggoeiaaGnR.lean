/-
  The document's mixing, cells and chunks. No statement of the seat is proved here.
-/
import Derived.Test.YtcoednijggoeiaaGnE
namespace Go.Proofs.Ytcoednijggoeiaa
open Go.RowKit Go.Deep

section
variable {w w' : World} {s : W64}
def rx1 (s n : Int) : Int := IntKind.u64.wrap (s + IntKind.u64.wrap (IntKind.u64.wrap (n + 1) * 11400714819323198485))
def rx2 (x : Int) : Int := IntKind.u64.wrap (bits .xor .u64 x (IntKind.u64.wrap (x.tdiv 1073741824)) * 13787848793156543929)
def rx3 (x : Int) : Int := IntKind.u64.wrap (bits .xor .u64 x (IntKind.u64.wrap (x.tdiv 134217728)) * 10723151780598845931)
def rx4 (x : Int) : Int := bits .xor .u64 x (IntKind.u64.wrap (x.tdiv 2147483648))
theorem quo_w (x : W64) (k : Nat) : IntKind.u64.wrap ((x.toNat : Int).tdiv ((2 ^ k : Nat) : Int)) = ((x >>> k).toNat : Int) := by
  rw [Int.tdiv_eq_ediv_of_nonneg (by omega), BitVec.toNat_ushiftRight, Nat.shiftRight_eq_div_pow]
  have h := x.isLt
  have h2 : x.toNat / 2 ^ k ≤ x.toNat := Nat.div_le_self _ _
  have e : (x.toNat : Int) / ((2 ^ k : Nat) : Int) = ((x.toNat / 2 ^ k : Nat) : Int) := (Int.natCast_ediv _ _).symm
  rw [e]
  generalize x.toNat / 2 ^ k = z at *
  rw [IntWalk.u64_in _ (by omega)]
theorem rx1_w (s n : W64) : rx1 s.toNat n.toNat = ((mx1 s n).toNat : Int) := by
  have e1 : IntKind.u64.wrap ((n.toNat : Int) + 1) = ((n + 1).toNat : Int) := add_w n 1#64
  have e2 : IntKind.u64.wrap (((n + 1).toNat : Int) * 11400714819323198485) = _ := mul_w (n + 1) 0x9e3779b97f4a7c15#64
  unfold rx1
  rw [e1, e2, add_w]
  rfl
theorem rx2_w (x : W64) : rx2 x.toNat = ((mx2 x).toNat : Int) := by
  have e1 : IntKind.u64.wrap ((x.toNat : Int).tdiv 1073741824) = _ := quo_w x 30
  have e2 : IntKind.u64.wrap (((x ^^^ x >>> 30).toNat : Int) * 13787848793156543929) = _ := mul_w (x ^^^ x >>> 30) 0xbf58476d1ce4e5b9#64
  unfold rx2
  rw [e1, xor_w, e2]
  rfl
theorem rx3_w (x : W64) : rx3 x.toNat = ((mx3 x).toNat : Int) := by
  have e1 : IntKind.u64.wrap ((x.toNat : Int).tdiv 134217728) = _ := quo_w x 27
  have e2 : IntKind.u64.wrap (((x ^^^ x >>> 27).toNat : Int) * 10723151780598845931) = _ := mul_w (x ^^^ x >>> 27) 0x94d049bb133111eb#64
  unfold rx3
  rw [e1, xor_w, e2]
  rfl
theorem rx4_w (x : W64) : rx4 x.toNat = ((mx4 x).toNat : Int) := by
  have e1 : IntKind.u64.wrap ((x.toNat : Int).tdiv 2147483648) = _ := quo_w x 31
  unfold rx4
  rw [e1, xor_w]
  rfl
theorem rx_w (s n : W64) : rx4 (rx3 (rx2 (rx1 s.toNat n.toNat))) = ((mixB s n).toNat : Int) := by
  rw [rx1_w, rx2_w, rx3_w, rx4_w]
  rfl
set_option maxRecDepth 100000 in
theorem rmix_any (s n : W64) (w : World) : Calls Try.prog 8 #[u64v s, u64v n] w fun e w' => e = .returned (u64v (mixB s n)) ∧ w' = w := by
  unfold u64v
  rw [← rx_w]
  obtain ⟨a, ha⟩ : ∃ a : Int, (s.toNat : Int) = a := ⟨_, rfl⟩
  obtain ⟨b, hb⟩ : ∃ b : Int, (n.toNat : Int) = b := ⟨_, rfl⟩
  rw [ha, hb]
  go_enter Try.func8, Try.ntmps8
  go_wp2_with fail
  go_ret
  exact ⟨rfl, rfl⟩
set_option maxRecDepth 100000 in
set_option maxHeartbeats 800000 in
theorem rcell_any (s : W64) (x y : Int) (w : World) : Calls Try.prog 10 #[u64v s, .int .i64 x, .int .i64 y] w fun e w' => e = .returned (.int .u8 (cellZ s x y : Int)) ∧ w' = w := by
  by_cases hx0 : x < 0
  · rw [cellZ_out (by omega)]
    unfold u64v
    go_enter Try.func10, Try.ntmps10
    go_wp2_with fail
    go_ret
    exact ⟨rfl, rfl⟩
  · by_cases hx1 : x > 127
    · rw [cellZ_out (by omega)]
      unfold u64v
      go_enter Try.func10, Try.ntmps10
      go_wp2_with fail
      go_ret
      exact ⟨rfl, rfl⟩
    · by_cases hy0 : y < 0
      · rw [cellZ_out (by omega)]
        unfold u64v
        go_enter Try.func10, Try.ntmps10
        go_wp2_with fail
        go_ret
        exact ⟨rfl, rfl⟩
      · by_cases hy1 : y > 127
        · rw [cellZ_out (by omega)]
          unfold u64v
          go_enter Try.func10, Try.ntmps10
          go_wp2_with fail
          go_ret
          exact ⟨rfl, rfl⟩
        · obtain ⟨X, rfl⟩ : ∃ X : Nat, x = (X : Int) := ⟨x.toNat, by omega⟩
          obtain ⟨Y, rfl⟩ : ∃ Y : Nat, y = (Y : Int) := ⟨y.toNat, by omega⟩
          rw [cellZ_in (by omega) (by omega)]
          obtain ⟨p, hp⟩ : ∃ p : Int, ((Y * 128 : Nat) : Int) = p := ⟨_, rfl⟩
          obtain ⟨q, hq⟩ : ∃ q : Int, ((Y * 128 + X : Nat) : Int) = q := ⟨_, rfl⟩
          have w1 : IntKind.i64.wrap ((Y : Int) * 128) = p := by rw [IntWalk.i64_in _ (by omega)]; omega
          have w2 : IntKind.i64.wrap (p + (X : Int)) = q := by rw [IntWalk.i64_in _ (by omega)]; omega
          have w3 : IntKind.u64.wrap q = (((BitVec.ofNat 64 (Y * 128 + X)).toNat : Nat) : Int) := by
            rw [BitVec.toNat_ofNat, IntWalk.u64_in _ (by omega)]
            omega
          have e2 : (((BitVec.ofNat 64 (100000 + X / 8)).toNat : Nat) : Int) = 100000 + (X : Int) / 8 := by
            rw [BitVec.toNat_ofNat]
            omega
          have HM1 := Lib.hid (fun W => rmix_any s (BitVec.ofNat 64 (Y * 128 + X)) W)
          have HM2 := Lib.hid (fun W => rmix_any s (BitVec.ofNat 64 (100000 + X / 8)) W)
          clear hp hq
          unfold cellN hgtN
          generalize BitVec.ofNat 64 (Y * 128 + X) = n1 at *
          generalize BitVec.ofNat 64 (100000 + X / 8) = n2 at *
          have hm1 := (mixB s n1).isLt
          have hm2 := (mixB s n2).isLt
          unfold u64v at *
          rw [e2] at HM2
          clear e2
          obtain ⟨m1, hmm1⟩ : ∃ m, (mixB s n1).toNat = m := ⟨_, rfl⟩
          obtain ⟨m2, hmm2⟩ : ∃ m, (mixB s n2).toNat = m := ⟨_, rfl⟩
          rw [hmm1] at hm1 HM1 ⊢
          rw [hmm2] at hm2 HM2 ⊢
          clear hmm1 hmm2
          obtain ⟨h, hh⟩ : ∃ h : Nat, 40 + m2 % 32 = h := ⟨_, rfl⟩
          rw [hh]
          go_enter Try.func10, Try.ntmps10
          go_wp2_with fail
          refine (HM1.out _).mono ?_
          rintro e w1 ⟨rfl, rfl⟩
          go_wp2_with fail
          refine (HM2.out _).mono ?_
          rintro e w1 ⟨rfl, rfl⟩
          go_upto_region 5 with fail
          obtain ⟨z, hz⟩ : ∃ z : Int, 40 + (m2 : Int) % 32 = z := ⟨_, rfl⟩
          rw [hz]
          have hzh : z = (h : Int) := by omega
          have hzb : 40 ≤ z ∧ z ≤ 71 := by omega
          clear hz hh w2 w3 HM1 HM2
          have w4 : IntKind.i64.wrap (z - 1) = z - 1 := IntWalk.i64_in _ (by omega)
          have w5 : IntKind.i64.wrap (z + 2) = z + 2 := IntWalk.i64_in _ (by omega)
          obtain ⟨r11, hr11⟩ : ∃ r : Int, (m1 : Int) % 11 = r := ⟨_, rfl⟩
          obtain ⟨r7, hr7⟩ : ∃ r : Int, (m1 : Int) % 7 = r := ⟨_, rfl⟩
          by_cases h0 : Y + 1 = h
          · have q0 : z - 1 = (Y : Int) := by omega
            have q1 : (Y : Int) < z := by omega
            replace w4 := w4.trans q0
            by_cases h1 : m1 % 11 = 0
            · have q2 : r11 = 0 := by omega
              subst q2
              have HC : Hid (celN h m1 Y = 4) := Lib.hid (by unfold celN growN; rw [if_pos h0, if_pos h1])
              clear q0 h0 h1 hzh hzb hx0 hx1 hy0 hy1 w5 hr7
              go_wp2_with fail
              go_ret
              exact ⟨by rw [HC.out]; rfl, rfl⟩
            · skip
              have q2 : (r11 == 0) = false := by rw [beq_eq_false_iff_ne]; omega
              by_cases h2 : m1 % 11 = 1
              · have q3 : r11 = 1 := by omega
                subst q3
                have HC : Hid (celN h m1 Y = 3) := Lib.hid (by unfold celN growN; rw [if_pos h0, if_neg h1, if_pos h2])
                clear q0 h0 h1 h2 hzh hzb hx0 hx1 hy0 hy1 w5 hr7
                go_wp2_with fail
                go_ret
                exact ⟨by rw [HC.out]; rfl, rfl⟩
              · have q3 : (r11 == 1) = false := by rw [beq_eq_false_iff_ne]; omega
                have HC : Hid (celN h m1 Y = 0) := Lib.hid (by unfold celN growN; rw [if_pos h0, if_neg h1, if_neg h2])
                clear q0 h0 h1 h2 hzh hzb hx0 hx1 hy0 hy1 w5 hr7
                go_wp2_with fail
                go_ret
                exact ⟨by rw [HC.out]; rfl, rfl⟩
          · have q0 : ((Y : Int) == z - 1) = false := by rw [beq_eq_false_iff_ne]; omega
            by_cases h1 : Y < h
            · have q1 : (Y : Int) < z := by omega
              have HC : Hid (celN h m1 Y = 0) := Lib.hid (by unfold celN; rw [if_neg h0, if_pos h1])
              clear h0 h1 hzh hzb hx0 hx1 hy0 hy1 w5 hr7
              go_wp2_with fail
              go_ret
              exact ⟨by rw [HC.out]; rfl, rfl⟩
            · have q1 : ¬ (Y : Int) < z := by omega
              by_cases h2 : Y < h + 3
              · have q2 : (Y : Int) ≤ z + 2 := by omega
                have HC : Hid (celN h m1 Y = 1) := Lib.hid (by unfold celN; rw [if_neg h0, if_neg h1, if_pos h2])
                clear h0 h1 h2 hzh hzb hx0 hx1 hy0 hy1 hr7
                go_wp2_with fail
                go_ret
                exact ⟨by rw [HC.out]; rfl, rfl⟩
              · have q2 : ¬ (Y : Int) ≤ z + 2 := by omega
                by_cases h3 : m1 % 7 = 0
                · have q3 : r7 = 0 := by omega
                  subst q3
                  have HC : Hid (celN h m1 Y = 7) := Lib.hid (by unfold celN; rw [if_neg h0, if_neg h1, if_neg h2, if_pos h3])
                  clear h0 h1 h2 h3 hzh hzb hx0 hx1 hy0 hy1
                  go_wp2_with fail
                  go_ret
                  exact ⟨by rw [HC.out]; rfl, rfl⟩
                · have q3 : (r7 == 0) = false := by rw [beq_eq_false_iff_ne]; omega
                  have HC : Hid (celN h m1 Y = 2) := Lib.hid (by unfold celN; rw [if_neg h0, if_neg h1, if_neg h2, if_neg h3])
                  clear h0 h1 h2 h3 hzh hzb hx0 hx1 hy0 hy1
                  go_wp2_with fail
                  go_ret
                  exact ⟨by rw [HC.out]; rfl, rfl⟩
/-- Where the document's chunk stands: its cells up to here. -/
def GnJ (w wr : World) (R P : Nat) (X Y : Int) (L : List Nat) (n : Nat) (A : Option Addr) (c : Nat) : Prop :=
  Fr No w wr ∧ wr.heap[R]? = some (.cells #[.int .i64 0, .int .i64 0, .slice none 0 0, .slice none 0 0, .slice none 0 0] 32 (0, 0)) ∧
  wr.heap[P]? = some (.cells #[.int .i64 X, .int .i64 Y, .slice A n c, .slice none 0 0, .slice none 0 0] 32 (0, 0)) ∧ wr.ownsRow w.heap.size 25 1 (.slice A n c) n (itL L)
theorem GnJ.step {wr W2 w5 : World} {R P n : Nat} {X Y : Int} {L : List Nat} {A A' : Option Addr} {c c' i : Nat} (hi : GnJ w wr R P X Y L n A c) (hf2 : Fr No wr W2) (hf : Fr (fun k => (Value.slice A n c).ownBlock = some k) W2 w5)
    (ho : w5.ownsRow w.heap.size 25 1 (.slice A' (n + 1) c') (n + 1) (itL L ++ [.int .u8 (i : Int)])) (hP : w.heap.size ≤ P) (hR : R < P) : GnJ w (w5.setCell ⟨P, 2, none⟩ (.slice A' (n + 1) c')) R P X Y (L ++ [i]) (n + 1) A' c' := by
  obtain ⟨h1, h2, h3, h5⟩ := hi
  have o2 := own_no h5 hf2
  have k1 := hf.blk (blk_no hf2 h2) (own_not o2 (blk_no hf2 h2) (by decide))
  have k3 := hf.blk (blk_no hf2 h3) (own_not o2 (blk_no hf2 h3) (by decide))
  have hs : Fr (fun i => i = P) w5 (w5.setCell ⟨P, 2, none⟩ (.slice A' (n + 1) c')) := Fr.setCell w5 ⟨P, 2, none⟩ _ rfl
  refine ⟨((h1.no_trans hf2).then_new hf (fun i hi => (o2.lt i hi).1)).then_new hs (fun i e => by have e' : i = P := e; omega), hs.blk k1 (fun e => by have e' : R = P := e; omega), ?_, ?_⟩
  · rw [heap_cells_set w5 P 2 _ _ _ k3]
    rfl
  · have e : itL (L ++ [i]) = itL L ++ [.int .u8 (i : Int)] := by rw [itL_append]; rfl
    rw [e]
    exact own_fr ho hs (fun q hq e => by have e' : q = P := e; rw [e'] at hq; exact own_not ho k3 (by decide) hq)
set_option maxRecDepth 100000 in
set_option maxHeartbeats 1600000 in
theorem rchunk_in (w : World) (s : W64) (X Y : Nat) (hX : X < 16) (hY : Y < 16) : Calls Try.prog 13 #[u64v s, .int .i64 (X : Int), .int .i64 (Y : Int)] w
    fun e w' => ∃ A c, e = .returned (.agg #[.int .i64 (X : Int), .int .i64 (Y : Int), .slice A 64 c, .slice none 0 0, .slice none 0 0]) ∧ w'.ownsRow w.heap.size 25 1 (.slice A 64 c) 64 (itL (cellsL s X Y)) ∧ Fr No w w' := by
  have hb0 := heap_alloc_new w (.cells #[.int .i64 0, .int .i64 0, .slice none 0 0, .slice none 0 0, .slice none 0 0] 32)
  have f0 := Fr.alloc No w (.cells #[.int .i64 0, .int .i64 0, .slice none 0 0, .slice none 0 0, .slice none 0 0] 32)
  have hb1 := heap_alloc_new (w.alloc (.cells #[.int .i64 0, .int .i64 0, .slice none 0 0, .slice none 0 0, .slice none 0 0] 32)) (.cells #[.int .i64 (X : Int), .int .i64 (Y : Int), .slice none 0 0, .slice none 0 0, .slice none 0 0] 32)
  have f1 := Fr.alloc No (w.alloc (.cells #[.int .i64 0, .int .i64 0, .slice none 0 0, .slice none 0 0, .slice none 0 0] 32)) (.cells #[.int .i64 (X : Int), .int .i64 (Y : Int), .slice none 0 0, .slice none 0 0, .slice none 0 0] 32)
  rw [World.size_alloc] at hb1
  have HI := Lib.hid (show GnJ w ((w.alloc (.cells #[.int .i64 0, .int .i64 0, .slice none 0 0, .slice none 0 0, .slice none 0 0] 32)).alloc (.cells #[.int .i64 (X : Int), .int .i64 (Y : Int), .slice none 0 0, .slice none 0 0, .slice none 0 0] 32)) w.heap.size (w.heap.size + 1) X Y [] 0 none 0 from ⟨f0.no_trans f1, blk_no f1 hb0, hb1, World.ownsRow_nil _ _ _ _⟩)
  clear hb0 f0 hb1 f1
  unfold u64v at *
  go_enter Try.func13, Try.ntmps13
  go_upto_region 4 with fail
  obtain ⟨R, hR⟩ : ∃ R, w.heap.size = R := ⟨_, rfl⟩
  generalize (w.alloc (.cells #[.int .i64 0, .int .i64 0, .slice none 0 0, .slice none 0 0, .slice none 0 0] 32)).alloc (.cells #[.int .i64 (X : Int), .int .i64 (Y : Int), .slice none 0 0, .slice none 0 0, .slice none 0 0] 32) = wl at *
  have HI0 : Hid (GnJ w wl R (R + 1) X Y [] 0 none 0) := Lib.hid (by have := HI.out; rw [hR] at this; exact this)
  have HR := Lib.hid hR
  rw [hR]
  clear HI hR
  go_wp2_with fail
  go_loopw [8] (fun v8 wr => ∃ (i : Nat) (A : Option Addr) (c : Nat), i ≤ 64 ∧ v8 = .int .i64 (i : Int) ∧ GnJ w wr R (R + 1) X Y ((cellsL s X Y).take i) i A c) (fun v8 _ => 64 - (intOf v8).toNat)
  case atStart => exact ⟨0, _, _, by omega, rfl, HI0.out⟩
  case round =>
    obtain ⟨i, A, c, hi, rfl, hj⟩ := hrel
    have HI1 := Lib.hid hj
    clear hj
    by_cases hlt : i < 64
    · have hwk : IntKind.i64.wrap ((i : Int) + 1) = ((i + 1 : Nat) : Int) := by
        rw [show ((i : Int) + 1) = ((i + 1 : Nat) : Int) by omega]
        exact IntWalk.i64_in _ (by omega)
      have hj := HI1.out
      obtain ⟨hf1, hbR, hbP, ho1⟩ := hj
      have HF1 := Lib.hid hf1
      have HBP := Lib.hid hbP
      have HO1 := Lib.hid ho1
      have hcel := cellZ_in (s := s) (x := X * 8 + i % 8) (y := Y * 8 + i / 8) (by omega) (by omega)
      have htk := cellsL_take s X Y (k := i) hlt
      have HCF := Lib.hid (fun W => rcell_any s ((X * 8 + i % 8 : Nat) : Int) ((Y * 8 + i / 8 : Nat) : Int) W)
      rw [hcel] at HCF
      obtain ⟨p1, hp1⟩ : ∃ p : Int, (X : Int) * 8 = p := ⟨_, rfl⟩
      obtain ⟨q1, hq1⟩ : ∃ p : Int, (Y : Int) * 8 = p := ⟨_, rfl⟩
      obtain ⟨p2, hp2⟩ : ∃ p : Int, ((X * 8 + i % 8 : Nat) : Int) = p := ⟨_, rfl⟩
      obtain ⟨q2, hq2⟩ : ∃ p : Int, ((Y * 8 + i / 8 : Nat) : Int) = p := ⟨_, rfl⟩
      obtain ⟨a8, ha8⟩ : ∃ p : Int, (i : Int) % 8 = p := ⟨_, rfl⟩
      obtain ⟨b8, hb8⟩ : ∃ p : Int, (i : Int) / 8 = p := ⟨_, rfl⟩
      rw [hp2, hq2] at HCF
      have w1 : IntKind.i64.wrap ((X : Int) * 8) = p1 := by rw [IntWalk.i64_in _ (by omega)]; omega
      have w2 : IntKind.i64.wrap (p1 + a8) = p2 := by rw [IntWalk.i64_in _ (by omega)]; omega
      have w3 : IntKind.i64.wrap ((Y : Int) * 8) = q1 := by rw [IntWalk.i64_in _ (by omega)]; omega
      have w4 : IntKind.i64.wrap (q1 + b8) = q2 := by rw [IntWalk.i64_in _ (by omega)]; omega
      have w5 : IntKind.i64.wrap b8 = b8 := IntWalk.i64_in _ (by omega)
      have w6 : (i : Int).tmod 8 = a8 := by rw [Int.tmod_eq_emod_of_nonneg (by omega)]; exact ha8
      unfold u64v at HCF
      have HTK := Lib.hid htk
      generalize cellN s (X * 8 + i % 8) (Y * 8 + i / 8) = cel at *
      clear hp1 hq1 hp2 hq2 htk hcel hf1 hbR ho1
      obtain ⟨g0, g1, g2, g3, g4⟩ := cells5 hbP
      obtain ⟨z0, z1, z2, z3, z4⟩ := free5 hbP
      have HZ : Hid (∀ W, Fr No wr W → W.cell? ⟨R + 1, 2, none⟩ = some (.slice A i c) ∧ W.frozen? ⟨R + 1, 2, none⟩ = false) := Lib.hid (fun W hW => ⟨(cells5 (blk_no hW HBP.out)).2.2.1, (free5 (blk_no hW HBP.out)).2.2.1⟩)
      have fa1 := Fr.drew No wr
      have fa2 := (Fr.alloc No wr (.cells #[.int .u8 (cel : Int)] 25)).no_trans (Fr.drew No _)
      have y1 := (HZ.out _ fa1).1
      have y2 := (HZ.out _ fa2).1
      have hbn := blk_no (Fr.drew No _) (heap_alloc_new wr (.cells #[.int .u8 (cel : Int)] 25))
      have HFA2 := Lib.hid fa2
      go_upto_region 7 with fail
      go_region_law (first
        | ((with_reducible refine step_append_i1 (lo := w.heap.size) _ rfl (.tmp 32) (.tmp 45) rfl (A := A) (n := i) (c := c) ?hs (own_no HO1.out HFA2.out) cel hbn ?hx ?hl ?hb ?_); (case hs => rfl); (case hx => rfl); (case hl => omega); (case hb => exact Nat.le_trans HF1.out.size HFA2.out.size); intro A' c' w5 ho hf; have HO5 := Lib.hid ho; have HF5 := Lib.hid hf; have hb5 := hf.blk (blk_no HFA2.out HBP.out) (own_not (own_no HO1.out HFA2.out) (blk_no HFA2.out HBP.out) (by decide)); have x5 := (cells5 hb5).2.2.1; have x6 := (free5 hb5).2.2.1; clear ho hf)
        | (go_simp; go_at_call 10; refine (HCF.out _).mono ?_; rintro e w6 ⟨rfl, rfl⟩))
      all_goals (
        have HN := Lib.hid (GnJ.step (i := cel) HI1.out HFA2.out HF5.out HO5.out (by rw [HR.out]; omega) (by omega))
        rw [← HTK.out] at HN
        clear x5 x6 hb5
        go_wp2_with fail
        go_roundw
        case rel => exact ⟨i + 1, A', c', by omega, by go_num, HN.out⟩
        case measure => simp [intOf]; omega)
    · have hr8 : i = 64 := by omega
      subst hr8
      have HI2 := HI1.out
      rw [show (cellsL s X Y).take 64 = cellsL s X Y from List.take_of_length_le (by rw [cellsL_len]; decide)] at HI2
      obtain ⟨hf, hbR, hbP, ho⟩ := HI2
      have HFw := Lib.hid hf
      have HBR := Lib.hid hbR
      have HOw := Lib.hid ho
      obtain ⟨g0, g1, g2, g3, g4⟩ := cells5 hbP
      obtain ⟨k0, k1, k2, k3, k4⟩ := cells5 hbR
      obtain ⟨z0, z1, z2, z3, z4⟩ := free5 hbR
      clear hf hbR hbP ho HI0
      go_wp2_with fail
      refine bodyPost_ret (results_cell_row (p := 6) rfl _ _ R 32 #[.int .i64 (X : Int), .int .i64 (Y : Int), .slice A 64 c, .slice none 0 0, .slice none 0 0] (0, 0) _ rfl (set5_heap HBR.out _ _ _ _ _) Try.underlying32 rfl (by kernel_rfl)) rfl ?_
      have hs := set5_fr wr R (.int .i64 (X : Int)) (.int .i64 (Y : Int)) (.slice A 64 c) (.slice none 0 0) (.slice none 0 0)
      refine ⟨A, c, rfl, own_fr HOw.out hs (fun q hq e => by have e' : q = R := e; rw [e'] at hq; exact own_not HOw.out HBR.out (by decide) hq), HFw.out.then_new hs (fun i e => by have e' : i = R := e; have := HR.out; omega)⟩
end
end Go.Proofs.Ytcoednijggoeiaa

/-
  The contract of workIn: a block is worked in. No statement of the seat is proved here.
-/
import Derived.Test.YtgdcjealhbfnaaaDoorShaR
import Derived.StillTailTactics
namespace Go.Proofs.YtgdcjealhbfnaaaDoor
open Go.RowKit

/-- The table of the cubes' root words lies in block 0 of the world, as the program's text lays it. -/
def TabS (w : World) : Prop := ∀ k, k < 64 → w.cell? ⟨0, k, none⟩ = some (.int .u32 ((cubes.getD k 0).toNat : Int))
set_option maxRecDepth 100000 in
theorem TabS.pos {w : World} (h : TabS w) : 0 < w.heap.size := World.block_lt_of_cell? w _ (h 0 (by omega))
set_option maxRecDepth 100000 in
theorem TabS.keep {w w' : World} {B : Nat} (h : TabS w) (hb : Below B w w') (h0 : 0 < B) : TabS w' := fun k hk => (hb.cell (p := ⟨0, k, none⟩) h0).trans (h k hk)
set_option maxRecDepth 100000 in
theorem at_lit (s t : Nat) (z : Int) (hz : z = (s : Int)) (b : Nat) (w : World) (hs : s < 8) (ht : t < 64) (hc : w.cell? ⟨b, 0, none⟩ = some (.int .i64 (t : Int))) :
    Calls Tryd.prog 29 #[.int .i64 z, .pointer (some ⟨b, 0, none⟩)] w fun e w' => e = .returned (.int .i64 (seatAt t s : Int)) ∧ w = w' := by
  subst hz
  exact at_any s t b 0 w hs ht hc
set_option maxRecDepth 100000 in
theorem not_word (x : BitVec 32) : bits .xor .u32 (if IntKind.u32.signed = true then -1 else IntKind.u32.max) (x.toNat : Int) = ((~~~x).toNat : Int) := by
  have := xor_words (BitVec.allOnes 32) x
  rw [BitVec.allOnes_xor] at this
  exact this
set_option maxRecDepth 100000 in
theorem and_words (x y : BitVec 32) : bits .and .u32 (x.toNat : Int) (y.toNat : Int) = ((x &&& y).toNat : Int) := by
  rw [u32_and_nat _ _ x.isLt y.isLt, BitVec.toNat_and]
set_option maxRecDepth 100000 in
theorem or_words (x y : BitVec 32) : bits .or .u32 (x.toNat : Int) (y.toNat : Int) = ((x ||| y).toNat : Int) := by
  rw [u32_or_nat _ _ x.isLt y.isLt, BitVec.toNat_or]
set_option maxRecDepth 100000 in
theorem add_mod (x y : BitVec 32) : ((x.toNat : Int) + (y.toNat : Int)) % 4294967296 = ((x + y).toNat : Int) := by
  rw [BitVec.toNat_add]
  omega
set_option maxRecDepth 100000 in
theorem x_eq (a b c d e f g : BitVec 32) : (((a.toNat : Int) + (b.toNat : Int) + (c.toNat : Int) + (d.toNat : Int)) % 4294967296 + bits .or .u32 (bits .and .u32 (e.toNat : Int) (f.toNat : Int)) (bits .and .u32 (bits .xor .u32 (if IntKind.u32.signed = true then -1 else IntKind.u32.max) (e.toNat : Int)) (g.toNat : Int))) % 4294967296 =
    ((a + b + c + d + chv e f g).toNat : Int) := by
  rw [not_word, and_words, and_words, or_words, ← add_mod _ (chv e f g), ← add_mod _ d, ← add_mod _ c, ← add_mod a b]
  unfold chv
  generalize ((e &&& f ||| ~~~e &&& g).toNat : Int) = z
  generalize (a.toNat : Int) = a
  generalize (b.toNat : Int) = b
  generalize (c.toNat : Int) = c
  generalize (d.toNat : Int) = d
  omega
set_option maxRecDepth 100000 in
theorem y_eq (a b c d : BitVec 32) : ((a.toNat : Int) + bits .or .u32 (bits .or .u32 (bits .and .u32 (b.toNat : Int) (c.toNat : Int)) (bits .and .u32 (b.toNat : Int) (d.toNat : Int))) (bits .and .u32 (c.toNat : Int) (d.toNat : Int))) % 4294967296 =
    ((a + majv b c d).toNat : Int) := by
  rw [and_words, and_words, and_words, or_words, or_words, ← add_mod]
  rfl

/-- The row, of which the first so many seats are more by what they were. -/
def addZ (R S : List (BitVec 32)) (j : Nat) : List (BitVec 32) := List.zipWith (· + ·) (R.take j) (S.take j) ++ R.drop j
set_option maxRecDepth 100000 in
theorem addZ_length (R S : List (BitVec 32)) (j : Nat) (hR : R.length = 8) (hS : S.length = 8) (hj : j ≤ 8) : (addZ R S j).length = 8 := by
  simp [addZ, hR, hS]; omega
set_option maxRecDepth 100000 in
theorem addZ_at (R S : List (BitVec 32)) (j : Nat) (hR : R.length = 8) (hS : S.length = 8) (hj : j < 8) : (addZ R S j).getD j 0 = R.getD j 0 := by
  unfold addZ
  rw [List.getD_eq_getElem?_getD, List.getElem?_append_right (by simp [hR, hS]; omega), List.getD_eq_getElem?_getD, List.getElem?_drop]
  congr 2
  simp [hR, hS]; omega
set_option maxRecDepth 100000 in
theorem addZ_set (R S : List (BitVec 32)) (j : Nat) (hR : R.length = 8) (hS : S.length = 8) (hj : j < 8) : (addZ R S j).set j (R.getD j 0 + S.getD j 0) = addZ R S (j + 1) := by
  unfold addZ
  have hl : (List.zipWith (· + ·) (R.take j) (S.take j)).length = j := by simp [hR, hS]; omega
  have hd : R.drop j = R.getD j 0 :: R.drop (j + 1) := by
    rw [List.getD_eq_getElem?_getD, List.getElem?_eq_getElem (by omega)]
    exact List.drop_eq_getElem_cons (by omega)
  rw [List.set_append_right _ _ (by omega), hl, Nat.sub_self, hd, List.set_cons_zero, List.take_succ_eq_append_getElem (by omega), List.take_succ_eq_append_getElem (by omega), List.zipWith_append (by simp; omega)]
  simp [List.getD_eq_getElem?_getD, List.getElem?_eq_getElem (show j < R.length by omega), List.getElem?_eq_getElem (show j < S.length by omega)]
set_option maxRecDepth 100000 in
theorem addZ_zero (R S : List (BitVec 32)) : addZ R S 0 = R := by simp [addZ]
set_option maxRecDepth 100000 in
theorem addZ_all (R S : List (BitVec 32)) (hR : R.length = 8) (hS : S.length = 8) : addZ R S 8 = List.zipWith (· + ·) R S := by
  unfold addZ
  rw [List.take_of_length_le (by omega), List.take_of_length_le (by omega), List.drop_eq_nil_of_le (by omega), List.append_nil]

set_option maxHeartbeats 3200000 in
set_option maxRecDepth 100000 in
theorem work_any (seats : List (BitVec 32)) (b o c : Nat) (l : List UInt8) (w : World) (hb : b < w.heap.size) (hs : seats.length = 8) (hl : l.length = 64) (hcell : ∀ j (h : j < l.length), w.cell? ⟨b, o + j, none⟩ = some (.int .u8 (l[j].toNat : Int))) (hc : 64 ≤ c) (ht : TabS w) :
    Calls Tryd.prog 13 #[.agg (wcs seats), .slice (some ⟨b, o, none⟩) 64 c] w fun e w' => e = .returned (.agg (wcs (workBlock seats l))) ∧ Below w.heap.size w w' := by
  have HC := Lib.hid hcell
  have HL := Lib.hid hl
  have HS := Lib.hid hs
  have HT := Lib.hid ht
  clear hcell hl hs ht
  go_enter Tryd.func13, Tryd.ntmps13
  go_wp2_with fail
  obtain ⟨w0, hw0⟩ : ∃ w0, (w.alloc (.cells (wcs seats) 30)).alloc (.cells (wcs (List.replicate 8 0)) 30) = w0 := ⟨_, rfl⟩
  have hz0 : w0.heap.size = w.heap.size + 2 := by rw [← hw0]; simp
  have hA : Arr w0 w.heap.size 30 (wcs seats) := by rw [← hw0]; exact (Arr.new _ _ _).alloc _
  have hZ : Arr w0 (w.heap.size + 1) 30 (wcs (List.replicate 8 0)) := by
    rw [← hw0]
    have := Arr.new (w.alloc (.cells (wcs seats) 30)) (wcs (List.replicate 8 0)) 30
    rw [World.size_alloc] at this
    exact this
  have hB0 : Below w.heap.size w w0 := by rw [← hw0]; exact ((Below.refl _ _).alloc (Nat.le_refl _) _).alloc (by simp) _
  have C1 := roll_any b o c l w0 (by omega) HL.out (fun j hj => (hB0.cell (p := ⟨b, o + j, none⟩) hb).trans (HC.out j hj)) hc
  rw [← hw0] at C1
  refine (show Calls Tryd.prog 28 _ _ _ from C1).mono ?_
  rw [hw0]
  clear C1 hw0
  rintro e w1 ⟨rfl, hb1⟩
  have hz1 := hb1.size
  have hA1 := hA.below hb1 (by omega)
  have hZ1 := hZ.below hb1 (by omega)
  have hB1 : Below w.heap.size w w1 := hB0.trans (hb1.mono (by omega))
  have hzz : w.heap.size + 2 ≤ w1.heap.size := by omega
  clear hA hZ hB0 hb1 hz1 hz0
  generalize hws : rollW l 64 = ws
  have HWS : Unit → rollW l 64 = ws := fun _ => hws
  have hwl : ws.length = 64 := by rw [← hws, rollW_length]
  have HWL := Lib.hid hwl
  have HA := Lib.hid hA1
  have HZ := Lib.hid hZ1
  clear hws hwl hA1 hZ1
  go_simp
  iterate 4 (first | go_values | go_skip | go_guarded | go_step | go_upon)
  refine wpList_store_row rfl _ _ _ rfl w1.heap.size (wcs ws) rfl rfl _ _ (Arr.new w1 _ _) (by rw [wcs_size, HWL.out]; kernel_rfl) (by rw [wcs_size, HWL.out]; rfl) (wcs_one _) ?_
  rw [World.setRow_alloc_new]
  obtain ⟨w2, hw2⟩ : ∃ w2, w1.alloc (.cells (wcs ws) 49) = w2 := ⟨_, rfl⟩
  have hz2 : w1.heap.size < w2.heap.size := by rw [← hw2]; simp
  have HW := Lib.hid (show Arr w2 w1.heap.size 49 (wcs ws) by rw [← hw2]; exact Arr.new _ _ _)
  have HA2 := Lib.hid (show Arr w2 w.heap.size 30 (wcs seats) by rw [← hw2]; exact HA.out.alloc _)
  have HZ2 := Lib.hid (show Arr w2 (w.heap.size + 1) 30 (wcs (List.replicate 8 0)) by rw [← hw2]; exact HZ.out.alloc _)
  have hB2 : Below w.heap.size w w2 := by rw [← hw2]; exact hB1.alloc (by omega) _
  rw [hw2]
  clear hw2 HA HZ hB1
  go_simp
  iterate 5 (first | go_values | go_skip | go_guarded | go_step | go_upon | go_simp)
  refine wpList_load_row rfl _ _ rfl w.heap.size rfl _ _ _ _ HA2.out Tryd.underlying30 rfl (by rw [wcs_size, HS.out]; kernel_rfl) ?_
  go_simp
  iterate 3 (first | go_values | go_skip | go_guarded | go_step | go_upon | go_simp)
  refine wpList_store_row rfl _ _ _ rfl w2.heap.size (wcs seats) rfl rfl _ _ (Arr.new w2 _ _) (by rw [wcs_size, HS.out]; kernel_rfl) (by rw [wcs_size, HS.out]; rfl) (wcs_one _) ?_
  rw [World.setRow_alloc_new]
  obtain ⟨w3, hw3⟩ : ∃ w3, w2.alloc (.cells (wcs seats) 30) = w3 := ⟨_, rfl⟩
  have hz3 : w2.heap.size < w3.heap.size := by rw [← hw3]; simp
  have HR3 := Lib.hid (show Arr w3 w2.heap.size 30 (wcs seats) by rw [← hw3]; exact Arr.new _ _ _)
  have HW3 := Lib.hid (show Arr w3 w1.heap.size 49 (wcs ws) by rw [← hw3]; exact HW.out.alloc _)
  have HA3 := Lib.hid (show Arr w3 w.heap.size 30 (wcs seats) by rw [← hw3]; exact HA2.out.alloc _)
  have HZ3 := Lib.hid (show Arr w3 (w.heap.size + 1) 30 (wcs (List.replicate 8 0)) by rw [← hw3]; exact HZ2.out.alloc _)
  have hB3 : Below w.heap.size w w3 := by rw [← hw3]; exact hB2.alloc (by omega) _
  rw [hw3]
  clear hw3 HA2 HZ2 hB2 HW
  generalize w1.heap.size = s5 at *
  generalize w2.heap.size = s6 at *
  go_simp
  have hmf : ∀ (fn : Fn) (first cap : Array Value) (w : World), (Instr.makeFunc fn first cap).run Tryd.prog w = .ok (.func fn first cap) w := fun _ _ _ _ => rfl
  go_wp2_with fail
  go_loopw [21] (fun i wr => ∃ k : Nat, k ≤ 64 ∧ i = .int .i64 (k : Int) ∧ Hid (Arr wr w.heap.size 30 (wcs seats)) ∧ Hid (Arr wr (w.heap.size + 1) 30 (wcs (List.replicate 8 0))) ∧ Hid (Arr wr s5 49 (wcs ws)) ∧ Hid (Arr wr s6 30 (wcs (rowAt seats ws k))) ∧ Below w.heap.size w wr) (fun i _ => 64 - (intOf i).toNat)
  case atStart => exact ⟨0, by omega, rfl, HA3, HZ3, HW3, HR3, hB3⟩
  case round =>
    clear HA3 HZ3 HW3 HR3 hB3
    obtain ⟨k, hk, rfl, HA, HZ, HW, HR, hbr⟩ := hrel
    by_cases hlt : k < 64
    · have HRL := Lib.hid ((rowAt_length seats ws k).trans HS.out)
      have HG := fun (j : Nat) (hj : j < 8) (W : World) (h : Arr W s6 30 (wcs (rowAt seats ws k))) => (h.cell j).trans (wcs_at _ j (by rw [HRL.out]; exact hj))
      obtain ⟨p0, P0⟩ : ∃ p, Unit → seatAt k 0 = p := ⟨_, fun _ => rfl⟩
      obtain ⟨p1, P1⟩ : ∃ p, Unit → seatAt k 1 = p := ⟨_, fun _ => rfl⟩
      obtain ⟨p2, P2⟩ : ∃ p, Unit → seatAt k 2 = p := ⟨_, fun _ => rfl⟩
      obtain ⟨p3, P3⟩ : ∃ p, Unit → seatAt k 3 = p := ⟨_, fun _ => rfl⟩
      obtain ⟨p4, P4⟩ : ∃ p, Unit → seatAt k 4 = p := ⟨_, fun _ => rfl⟩
      obtain ⟨p5, P5⟩ : ∃ p, Unit → seatAt k 5 = p := ⟨_, fun _ => rfl⟩
      obtain ⟨p6, P6⟩ : ∃ p, Unit → seatAt k 6 = p := ⟨_, fun _ => rfl⟩
      obtain ⟨p7, P7⟩ : ∃ p, Unit → seatAt k 7 = p := ⟨_, fun _ => rfl⟩
      have q0 : p0 < 8 := by rw [← P0 ()]; exact seatAt_lt _ _
      have q1 : p1 < 8 := by rw [← P1 ()]; exact seatAt_lt _ _
      have q2 : p2 < 8 := by rw [← P2 ()]; exact seatAt_lt _ _
      have q3 : p3 < 8 := by rw [← P3 ()]; exact seatAt_lt _ _
      have q4 : p4 < 8 := by rw [← P4 ()]; exact seatAt_lt _ _
      have q5 : p5 < 8 := by rw [← P5 ()]; exact seatAt_lt _ _
      have q6 : p6 < 8 := by rw [← P6 ()]; exact seatAt_lt _ _
      have q7 : p7 < 8 := by rw [← P7 ()]; exact seatAt_lt _ _
      obtain ⟨g0, G0⟩ : ∃ g, Unit → (rowAt seats ws k).getD p0 0 = g := ⟨_, fun _ => rfl⟩
      obtain ⟨g1, G1⟩ : ∃ g, Unit → (rowAt seats ws k).getD p1 0 = g := ⟨_, fun _ => rfl⟩
      obtain ⟨g2, G2⟩ : ∃ g, Unit → (rowAt seats ws k).getD p2 0 = g := ⟨_, fun _ => rfl⟩
      obtain ⟨g3, G3⟩ : ∃ g, Unit → (rowAt seats ws k).getD p3 0 = g := ⟨_, fun _ => rfl⟩
      obtain ⟨g4, G4⟩ : ∃ g, Unit → (rowAt seats ws k).getD p4 0 = g := ⟨_, fun _ => rfl⟩
      obtain ⟨g5, G5⟩ : ∃ g, Unit → (rowAt seats ws k).getD p5 0 = g := ⟨_, fun _ => rfl⟩
      obtain ⟨g6, G6⟩ : ∃ g, Unit → (rowAt seats ws k).getD p6 0 = g := ⟨_, fun _ => rfl⟩
      obtain ⟨g7, G7⟩ : ∃ g, Unit → (rowAt seats ws k).getD p7 0 = g := ⟨_, fun _ => rfl⟩
      obtain ⟨cw, CW⟩ : ∃ g, Unit → cubes.getD k 0 = g := ⟨_, fun _ => rfl⟩
      obtain ⟨wk, WK⟩ : ∃ g, Unit → ws.getD k 0 = g := ⟨_, fun _ => rfl⟩
      have AT := fun (s : Nat) (hs : s < 8) (z : Int) (hz : z = (s : Int)) (p : Nat) (hp : seatAt k s = p) (q : Nat) (W : World) (hc : W.cell? ⟨q, 0, none⟩ = some (.int .i64 (k : Int))) => (hp ▸ at_lit s k z hz q W hs hlt hc :
        Calls Tryd.prog 29 #[.int .i64 z, .pointer (some ⟨q, 0, none⟩)] W fun e w' => e = .returned (.int .i64 (p : Int)) ∧ W = w')
      go_wp2_with fail
      obtain ⟨W1, hW1⟩ : ∃ W1, wr.alloc (.cells #[.int .i64 (k : Int)] 3) = W1 := ⟨_, rfl⟩
      have hct1 : W1.cell? ⟨wr.heap.size, 0, none⟩ = some (.int .i64 (k : Int)) := by rw [← hW1]; simp
      have HA1 := Lib.hid (show Arr W1 w.heap.size 30 (wcs seats) by rw [← hW1]; exact HA.out.alloc _)
      have HZ1 := Lib.hid (show Arr W1 (w.heap.size + 1) 30 (wcs (List.replicate 8 0)) by rw [← hW1]; exact HZ.out.alloc _)
      have HW1 := Lib.hid (show Arr W1 s5 49 (wcs ws) by rw [← hW1]; exact HW.out.alloc _)
      have HR1 := Lib.hid (show Arr W1 s6 30 (wcs (rowAt seats ws k)) by rw [← hW1]; exact HR.out.alloc _)
      have hB1 : Below w.heap.size w W1 := by rw [← hW1]; exact hbr.alloc hbr.size _
      have hq : s6 < wr.heap.size := HR.out.lt
      rw [hW1]
      clear hW1 HA HZ HW HR hbr
      generalize wr.heap.size = q at *
      have c0 := HG p0 q0 W1 HR1.out
      have c1 := HG p1 q1 W1 HR1.out
      have c2 := HG p2 q2 W1 HR1.out
      rw [G0 ()] at c0
      rw [G1 ()] at c1
      rw [G2 ()] at c2
      have a0 : (p0 : Int) < 8 := by omega
      have a1 : (p1 : Int) < 8 := by omega
      have a2 : (p2 : Int) < 8 := by omega
      go_quiet (first
        | (go_at_call 29; exact quiet_eq (AT 0 (by decide) 0 rfl p0 (P0 ()) q _ hct1))
        | (go_at_call 29; exact quiet_eq (AT 1 (by decide) 1 rfl p1 (P1 ()) q _ hct1))
        | (go_at_call 29; exact quiet_eq (AT 2 (by decide) 2 rfl p2 (P2 ()) q _ hct1)))
      clear c0 c1 c2
      obtain ⟨W2, hW2⟩ : ∃ W, W1.drewN nq = W := ⟨_, rfl⟩
      have hct2 : W2.cell? ⟨q, 0, none⟩ = some (.int .i64 (k : Int)) := by rw [← hW2]; exact hct1
      have HA2 := Lib.hid (show Arr W2 w.heap.size 30 (wcs seats) by rw [← hW2]; exact HA1.out.drewN _)
      have HZ2 := Lib.hid (show Arr W2 (w.heap.size + 1) 30 (wcs (List.replicate 8 0)) by rw [← hW2]; exact HZ1.out.drewN _)
      have HW2 := Lib.hid (show Arr W2 s5 49 (wcs ws) by rw [← hW2]; exact HW1.out.drewN _)
      have HR2 := Lib.hid (show Arr W2 s6 30 (wcs (rowAt seats ws k)) by rw [← hW2]; exact HR1.out.drewN _)
      have hB2 : Below w.heap.size w W2 := by rw [← hW2]; exact Below.drewN hB1 _
      rw [hW2]
      clear hW2 HA1 HZ1 HW1 HR1 hB1 hct1
      have c4 := HG p4 q4 W2 HR2.out
      have c5 := HG p5 q5 W2 HR2.out
      have c6 := HG p6 q6 W2 HR2.out
      rw [G4 ()] at c4
      rw [G5 ()] at c5
      rw [G6 ()] at c6
      have a4 : (p4 : Int) < 8 := by omega
      have a5 : (p5 : Int) < 8 := by omega
      have a6 : (p6 : Int) < 8 := by omega
      go_wp2_with fail
      go_quiet (first
        | (go_at_call 29; exact quiet_eq (AT 4 (by decide) 4 rfl p4 (P4 ()) q _ hct2))
        | (go_at_call 29; exact quiet_eq (AT 5 (by decide) 5 rfl p5 (P5 ()) q _ hct2))
        | (go_at_call 29; exact quiet_eq (AT 6 (by decide) 6 rfl p6 (P6 ()) q _ hct2)))
      clear c4 c5 c6
      obtain ⟨W3, hW3⟩ : ∃ W, W2.drewN nq = W := ⟨_, rfl⟩
      have hct3 : W3.cell? ⟨q, 0, none⟩ = some (.int .i64 (k : Int)) := by rw [← hW3]; exact hct2
      have HA3 := Lib.hid (show Arr W3 w.heap.size 30 (wcs seats) by rw [← hW3]; exact HA2.out.drewN _)
      have HZ3 := Lib.hid (show Arr W3 (w.heap.size + 1) 30 (wcs (List.replicate 8 0)) by rw [← hW3]; exact HZ2.out.drewN _)
      have HW3 := Lib.hid (show Arr W3 s5 49 (wcs ws) by rw [← hW3]; exact HW2.out.drewN _)
      have HR3 := Lib.hid (show Arr W3 s6 30 (wcs (rowAt seats ws k)) by rw [← hW3]; exact HR2.out.drewN _)
      have hB3 : Below w.heap.size w W3 := by rw [← hW3]; exact Below.drewN hB2 _
      rw [hW3]
      clear hW3 HA2 HZ2 HW2 HR2 hB2 hct2
      have c7 := HG p7 q7 W3 HR3.out
      rw [G7 ()] at c7
      have ck := (HW3.out.cell k).trans (wcs_at _ k (by rw [HWL.out]; exact hlt))
      rw [WK ()] at ck
      have cc := HT.out.keep hB3 HT.out.pos k hlt
      rw [CW ()] at cc
      have a7 : (p7 : Int) < 8 := by omega
      have ak : (k : Int) < 64 := by omega
      have ak0 : (0 : Int) ≤ (k : Int) := by omega
      go_wp2_with fail
      go_quiet (first
        | (go_at_call 29; exact quiet_eq (AT 7 (by decide) 7 rfl p7 (P7 ()) q _ hct3))
        | (go_at_call 30; exact quiet_eq (turned_a g4 _)))
      clear c7 ck cc
      obtain ⟨W4, hW4⟩ : ∃ W, W3.drewN nq = W := ⟨_, rfl⟩
      have hct4 : W4.cell? ⟨q, 0, none⟩ = some (.int .i64 (k : Int)) := by rw [← hW4]; exact hct3
      have HA4 := Lib.hid (show Arr W4 w.heap.size 30 (wcs seats) by rw [← hW4]; exact HA3.out.drewN _)
      have HZ4 := Lib.hid (show Arr W4 (w.heap.size + 1) 30 (wcs (List.replicate 8 0)) by rw [← hW4]; exact HZ3.out.drewN _)
      have HW4 := Lib.hid (show Arr W4 s5 49 (wcs ws) by rw [← hW4]; exact HW3.out.drewN _)
      have HR4 := Lib.hid (show Arr W4 s6 30 (wcs (rowAt seats ws k)) by rw [← hW4]; exact HR3.out.drewN _)
      have hB4 : Below w.heap.size w W4 := by rw [← hW4]; exact Below.drewN hB3 _
      rw [hW4]
      clear hW4 HA3 HZ3 HW3 HR3 hB3 hct3
      rw [x_eq]
      obtain ⟨X, HX⟩ : ∃ X, Unit → g7 + sR g4 6 11 25 + cw + wk + chv g4 g5 g6 = X := ⟨_, fun _ => rfl⟩
      rw [HX ()]
      have c3 := HG p3 q3 W4 HR4.out
      rw [G3 ()] at c3
      have a3 : (p3 : Int) < 8 := by omega
      have fz3 := HR4.out.frozen p3
      go_wp2_with fail
      refine (turned_b g0 W4).mono ?_
      rintro e w' ⟨rfl, rfl⟩
      go_wp2_with fail
      refine (AT 3 (by decide) 3 rfl p3 (P3 ()) q W4 hct4).mono ?_
      rintro e w' ⟨rfl, rfl⟩
      rw [y_eq]
      obtain ⟨Y, HY⟩ : ∃ Y, Unit → sR g0 2 13 22 + majv g0 g1 g2 = Y := ⟨_, fun _ => rfl⟩
      rw [HY ()]
      go_wp2_with fail
      rw [add_mod]
      obtain ⟨W5, hW5⟩ : ∃ W, W4.setCell ⟨s6, p3, none⟩ (.int .u32 ((g3 + X).toNat : Int)) = W := ⟨_, rfl⟩
      have hct5 : W5.cell? ⟨q, 0, none⟩ = some (.int .i64 (k : Int)) := by
        rw [← hW5, World.cell?_setCell_other _ _ _ _ (by intro hh; injection hh with hh; omega)]; exact hct4
      have HA5 := Lib.hid (show Arr W5 w.heap.size 30 (wcs seats) by rw [← hW5]; exact HA4.out.other _ _ (by show w.heap.size ≠ s6; omega))
      have HZ5 := Lib.hid (show Arr W5 (w.heap.size + 1) 30 (wcs (List.replicate 8 0)) by rw [← hW5]; exact HZ4.out.other _ _ (by show w.heap.size + 1 ≠ s6; omega))
      have HW5 := Lib.hid (show Arr W5 s5 49 (wcs ws) by rw [← hW5]; exact HW4.out.other _ _ (by show s5 ≠ s6; omega))
      have HR5 := Lib.hid (show Arr W5 s6 30 (wcs ((rowAt seats ws k).set p3 (g3 + X))) by rw [← hW5, ← wcs_set]; exact HR4.out.set p3 _)
      have hB5 : Below w.heap.size w W5 := by rw [← hW5]; exact hB4.setCell (by show w.heap.size ≤ s6; omega) _
      rw [hW5]
      clear hW5 HA4 HZ4 HW4 HR4 hB4 hct4 c3 fz3
      refine (AT 7 (by decide) 7 rfl p7 (P7 ()) q W5 hct5).mono ?_
      rintro e w' ⟨rfl, rfl⟩
      have c7 := (HR5.out.cell p7).trans (wcs_at _ p7 (by rw [List.length_set, HRL.out]; exact q7))
      generalize ((rowAt seats ws k).set p3 (g3 + X)).getD p7 0 = z7 at c7
      have fz7 := HR5.out.frozen p7
      have HR6 : Hid (Arr (W5.setCell ⟨s6, p7, none⟩ (.int .u32 (((X.toNat : Int) + (Y.toNat : Int)) % 4294967296))) s6 30 (wcs (rowAt seats ws (k + 1)))) := by
        show Arr _ _ _ _
        have := HR5.out.set p7 (u32v (X + Y))
        rw [wcs_set] at this
        rw [add_mod, rowAt, stepRow, stepX, stepY, P0 (), P1 (), P2 (), P3 (), P4 (), P5 (), P6 (), P7 (), G0 (), G1 (), G2 (), G3 (), G4 (), G5 (), G6 (), G7 (), CW (), WK (), HX (), HY ()]
        exact this
      clear HG AT
      go_wp2_with fail
      go_roundw
      case rel => exact ⟨k + 1, by omega, by go_num, Lib.hid (HA5.out.other ⟨s6, p7, none⟩ _ (by show w.heap.size ≠ s6; omega)), Lib.hid (HZ5.out.other ⟨s6, p7, none⟩ _ (by show w.heap.size + 1 ≠ s6; omega)), Lib.hid (HW5.out.other ⟨s6, p7, none⟩ _ (by show s5 ≠ s6; omega)), HR6, hB5.setCell (by show w.heap.size ≤ s6; omega) _⟩
      case measure => simp [intOf]; omega
    · have hge : decide ((k : Int) < 64) = false := by simp; omega
      have hk64 : k = 64 := by omega
      have HE : Unit → workBlock seats l = addZ (rowAt seats ws k) seats 8 := fun _ => by
        rw [addZ_all _ _ ((rowAt_length seats ws k).trans HS.out) HS.out, hk64, workBlock, HWS ()]
      have HRL := Lib.hid ((rowAt_length seats ws k).trans HS.out)
      clear hk64
      generalize rowAt seats ws k = R at *
      clear HW HWS HWL
      go_wp2_with fail
      go_loopw [101] (fun i wr => ∃ j : Nat, j ≤ 8 ∧ i = .int .i64 (j : Int) ∧ Hid (Arr wr w.heap.size 30 (wcs seats)) ∧ Hid (Arr wr (w.heap.size + 1) 30 (wcs (List.replicate 8 0))) ∧ Hid (Arr wr s6 30 (wcs (addZ R seats j))) ∧ Below w.heap.size w wr) (fun i _ => 8 - (intOf i).toNat)
      case atStart => exact ⟨0, by omega, rfl, HA, HZ, (by rw [addZ_zero]; exact HR), hbr⟩
      case round =>
        clear HA HZ HR hbr
        obtain ⟨j, hj, rfl, HA, HZ, HR, hbr⟩ := hrel
        have HL8 := Lib.hid (addZ_length R seats j HRL.out HS.out hj)
        by_cases hlt8 : j < 8
        · have cR := (HR.out.cell j).trans (wcs_at _ j (by rw [HL8.out]; exact hlt8))
          rw [addZ_at R seats j HRL.out HS.out hlt8] at cR
          have cS := (HA.out.cell j).trans (wcs_at _ j (by rw [HS.out]; exact hlt8))
          have fz := HR.out.frozen j
          have HN : Hid (Arr (wr.drew.setCell ⟨s6, j, none⟩ (.int .u32 ((((R.getD j 0).toNat : Int) + ((seats.getD j 0).toNat : Int)) % 4294967296))) s6 30 (wcs (addZ R seats (j + 1)))) := by
            show Arr _ _ _ _
            have := HR.out.drew.set j (u32v (R.getD j 0 + seats.getD j 0))
            rw [wcs_set, addZ_set R seats j HRL.out HS.out hlt8] at this
            rw [add_mod]
            exact this
          generalize R.getD j 0 = x at *
          generalize seats.getD j 0 = y at *
          have aj : (j : Int) < 8 := by omega
          have aj0 : (0 : Int) ≤ (j : Int) := by omega
          have cR' : wr.drew.cell? ⟨s6, j, none⟩ = some (.int .u32 (x.toNat : Int)) := cR
          have cS' : wr.drew.cell? ⟨w.heap.size, j, none⟩ = some (.int .u32 (y.toNat : Int)) := cS
          have fz' : wr.drew.frozen? ⟨s6, j, none⟩ = false := fz
          go_wp2_with fail
          go_still_tail 8, (by kernel_rfl)
          go_wp2_with fail
          go_roundw
          case rel => exact ⟨j + 1, by omega, by go_num, Lib.hid (HA.out.drew.other ⟨s6, j, none⟩ _ (by show w.heap.size ≠ s6; omega)), Lib.hid (HZ.out.drew.other ⟨s6, j, none⟩ _ (by show w.heap.size + 1 ≠ s6; omega)), HN, hbr.drew.setCell (by show w.heap.size ≤ s6; omega) _⟩
          case measure => simp [intOf]; omega
        · have hge8 : decide ((j : Int) < 8) = false := by simp; omega
          have H8 : Unit → j = 8 := fun _ => by omega
          go_wp2_with (first
            | (refine wpList_load_row rfl _ _ rfl s6 rfl _ _ _ _ HR.out Tryd.underlying30 rfl (by rw [wcs_size, HL8.out]; kernel_rfl) ?_)
            | (refine wpList_store_row rfl _ _ _ rfl (w.heap.size + 1) _ rfl rfl _ _ HZ.out (by rw [wcs_size, HL8.out]; kernel_rfl) (by rw [wcs_size, wcs_size, HL8.out]; rfl) (wcs_one _) ?_))
          refine bodyPost_ret (v := .agg (wcs (addZ R seats j))) (results_cell_row rfl _ _ (w.heap.size + 1) _ _ _ _ rfl (HZ.out.row _) Tryd.underlying30 rfl (by rw [wcs_size, HL8.out]; kernel_rfl)) rfl ⟨?_, Below.setRow hbr (by omega) _⟩
          rw [HE (), H8 ()]
end Go.Proofs.YtgdcjealhbfnaaaDoor

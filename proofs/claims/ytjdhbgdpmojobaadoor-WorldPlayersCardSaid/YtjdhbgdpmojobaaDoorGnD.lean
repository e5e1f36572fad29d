/-
  The world at first: a chunk. No statement of the seat is proved here.
-/
import Derived.Test.YtjdhbgdpmojobaaDoorGnC
import Derived.Test.YtjdhbgdpmojobaaDoorChG
import Derived.Deep.AppendLies
import Derived.Deep.RegionLaw
namespace Go.Proofs.YtjdhbgdpmojobaaDoor
open Go.RowKit Go.Deep

/-- The cells of a chunk, row by row. -/
def cellsL (s : W64) (X Y : Nat) : List Nat := (List.range 64).map fun k => cellN s (X * 8 + k % 8) (Y * 8 + k / 8)
theorem cellsL_len (s : W64) (X Y : Nat) : (cellsL s X Y).length = 64 := by simp [cellsL]
theorem cellsL_at (s : W64) (X Y : Nat) {k : Nat} (h : k < 64) : (cellsL s X Y)[k]? = some (cellN s (X * 8 + k % 8) (Y * 8 + k / 8)) := by
  unfold cellsL
  rw [List.getElem?_map, List.getElem?_range h]
  rfl
theorem cellsL_take (s : W64) (X Y : Nat) {k : Nat} (h : k < 64) : (cellsL s X Y).take (k + 1) = (cellsL s X Y).take k ++ [cellN s (X * 8 + k % 8) (Y * 8 + k / 8)] := by
  rw [List.take_add_one, cellsL_at s X Y h]
  rfl
theorem cellsL_tlen (s : W64) (X Y : Nat) {k : Nat} (h : k ≤ 64) : ((cellsL s X Y).take k).length = k := by rw [List.length_take, cellsL_len]; omega
/-- Where a chunk's work stands: its cells up to here, in memory of the call's own. -/
def GnI (w wr : World) (R P G H : Nat) (s : W64) (h : Nat) (X Y : Int) (L : List Nat) (n : Nat) (A : Option Addr) (c : Nat) : Prop :=
  Fr No w wr ∧ wr.heap[R]? = some (.cells #[.int .i64 0, .int .i64 0, .slice none 0 0, .slice none 0 0, .slice none 0 0] 31 (0, 0)) ∧
  wr.heap[P]? = some (.cells #[.int .i64 X, .int .i64 Y, .slice A n c, .slice none 0 0, .slice none 0 0] 31 (0, 0)) ∧ Gcl wr G H s h ∧ wr.ownsRow w.heap.size 50 1 (.slice A n c) n (itL L)
section
variable {w w' : World} {lo : Nat} {s : W64}
set_option maxRecDepth 100000 in
/-- One item appended, in a region that draws its order. -/
theorem step_append_i1 (W : World) {ops : Array Oper} {o : Oper} {a : Act} {K : Act → World → Prop} {Q : Exit → Act → World → Prop} {E : Prop} (hgd : o.guard = none) (s x : Operand)
    (ho : o.op = .call { callee := .builtin .append, args := #[s, x], argTypes := #[27, 27] })
    {A : Option Addr} {n c : Nat} {cells : List Value} (hs : a.eval s = .slice A n c) (hown : W.ownsRow lo 50 1 (.slice A n c) n cells) (i : Nat) {G : Nat} (hb : W.heap[G]? = some (.cells #[.int .u8 (i : Int)] 50 (0, 0))) (hx : a.eval x = .slice (some ⟨G, 0, none⟩) 1 1) (hlen : n ≤ 100000) (hbase : lo ≤ W.heap.size)
    (h : ∀ A' c' w', w'.ownsRow lo 50 1 (.slice A' (n + 1) c') (n + 1) (cells ++ [.int .u8 (i : Int)]) → Fr (fun k => (Value.slice A n c).ownBlock = some k) W w' → K (a.put o.dst (.slice A' (n + 1) c')) w') :
    if Region.wanted o (yielded ops a.tmps) = true then Oper.wp Tryd.prog o a W K Q else E := by
  obtain ⟨i0, hi, hz0, hz1, hz2⟩ := info_parts info_itm
  refine step_append_lies _ hgd s x 27 ho lo 50 i0 _ 1 1 Tryd.underlying27 hi hz0 hz1 hz2 rfl (by omega) (.slice A n c) n cells hs hown ⟨G, 0, none⟩ 1 1 [.int .u8 (i : Int)] hx rfl (World.news_of_block hb) (fun u hu => by simp at hu; rcases hu with rfl; rfl) (by omega) (by unfold maxLen; omega) (by omega) hbase _ rfl ?_
  intro g cap w' ho' hg hat _
  exact h _ _ w' ho' (Fr.grown hg (fun k hk => hk))
theorem GnI.step {w wr W2 w5 : World} {R P G H h n : Nat} {X Y : Int} {L : List Nat} {A A' : Option Addr} {c c' i : Nat} (hi : GnI w wr R P G H s h X Y L n A c) (hf2 : Fr No wr W2) (hf : Fr (fun k => (Value.slice A n c).ownBlock = some k) W2 w5)
    (ho : w5.ownsRow w.heap.size 50 1 (.slice A' (n + 1) c') (n + 1) (itL L ++ [.int .u8 (i : Int)])) (hP : w.heap.size ≤ P) (hR : R < P) (hG : G < P) (hH : H < P) : GnI w (w5.setCell ⟨P, 2, none⟩ (.slice A' (n + 1) c')) R P G H s h X Y (L ++ [i]) (n + 1) A' c' := by
  obtain ⟨h1, h2, h3, h4, h5⟩ := hi
  have o2 := own_no h5 hf2
  have k1 := hf.blk (blk_no hf2 h2) (own_not o2 (blk_no hf2 h2) (by decide))
  have k3 := hf.blk (blk_no hf2 h3) (own_not o2 (blk_no hf2 h3) (by decide))
  have k4 := hf.blk (blk_no hf2 h4.1) (own_not o2 (blk_no hf2 h4.1) (by decide))
  have k5 := hf.blk (blk_no hf2 h4.2) (own_not o2 (blk_no hf2 h4.2) (by decide))
  have hs : Fr (fun i => i = P) w5 (w5.setCell ⟨P, 2, none⟩ (.slice A' (n + 1) c')) := Fr.setCell w5 ⟨P, 2, none⟩ _ rfl
  refine ⟨((h1.no_trans hf2).then_new hf (fun i hi => (o2.lt i hi).1)).then_new hs (fun i e => by have e' : i = P := e; omega), hs.blk k1 (fun e => by have e' : R = P := e; omega), ?_, ⟨hs.blk k4 (fun e => by have e' : G = P := e; omega), hs.blk k5 (fun e => by have e' : H = P := e; omega)⟩, ?_⟩
  · rw [heap_cells_set w5 P 2 _ _ _ k3]
    rfl
  · have e : itL (L ++ [i]) = itL L ++ [.int .u8 (i : Int)] := by rw [itL_append]; rfl
    rw [e]
    exact own_fr ho hs (fun q hq e => by have e' : q = P := e; rw [e'] at hq; exact own_not ho k3 (by decide) hq)
set_option maxRecDepth 100000 in
set_option maxHeartbeats 1600000 in
theorem gchunk_in (w : World) (s : W64) (X Y : Nat) (hX : X < 16) (hY : Y < 16) : Calls Tryd.prog 26 #[u64v s, .int .i64 (X : Int), .int .i64 (Y : Int)] w
    fun e w' => ∃ A c, e = .returned (.agg #[.int .i64 (X : Int), .int .i64 (Y : Int), .slice A 64 c, .slice none 0 0, .slice none 0 0]) ∧ w'.ownsRow w.heap.size 50 1 (.slice A 64 c) 64 (itL (cellsL s X Y)) ∧ Fr No w w' := by
  have HW1 : Hid (∀ W, Calls Tryd.prog 45 #[.int .i64 (X : Int), .int .i64 16] W fun e w' => e = .returned (.bool true) ∧ w' = W) := Lib.hid (fun W => by have := gwithin_any (X : Int) 16 W; rw [decide_eq_true (show 0 ≤ (X : Int) ∧ (X : Int) < 16 by omega)] at this; exact this)
  have HW2 : Hid (∀ W, Calls Tryd.prog 45 #[.int .i64 (Y : Int), .int .i64 16] W fun e w' => e = .returned (.bool true) ∧ w' = W) := Lib.hid (fun W => by have := gwithin_any (Y : Int) 16 W; rw [decide_eq_true (show 0 ≤ (Y : Int) ∧ (Y : Int) < 16 by omega)] at this; exact this)
  have HCL := Lib.hid (fun W => gcells_any W s X hX)
  have hb0 := heap_alloc_new w (.cells #[.int .i64 0, .int .i64 0, .slice none 0 0, .slice none 0 0, .slice none 0 0] 31)
  have f0 := Fr.alloc No w (.cells #[.int .i64 0, .int .i64 0, .slice none 0 0, .slice none 0 0, .slice none 0 0] 31)
  unfold u64v at *
  go_enter Tryd.func26, Tryd.ntmps26
  go_upto_region 1 with fail
  obtain ⟨R, hR⟩ : ∃ R, w.heap.size = R := ⟨_, rfl⟩
  rw [hR] at hb0 ⊢
  generalize w.alloc (.cells #[.int .i64 0, .int .i64 0, .slice none 0 0, .slice none 0 0, .slice none 0 0] 31) = w1 at *
  have HF1 := Lib.hid f0
  have HB0 := Lib.hid hb0
  clear f0 hb0
  go_wp2_with fail
  refine (HW1.out _).mono ?_
  rintro e w2 ⟨rfl, rfl⟩
  go_wp2_with fail
  refine (HW2.out _).mono ?_
  rintro e w3 ⟨rfl, rfl⟩
  go_wp2_with fail
  refine (HCL.out _).mono ?_
  rintro e w4 ⟨rfl, hg, hf⟩
  have HG4 := Lib.hid hg
  have HF4 := Lib.hid (HF1.out.no_trans hf)
  have HB4 := Lib.hid (blk_no hf HB0.out)
  have HS4 := Lib.hid hf.size
  clear hg hf HF1 HB0 HCL HW1 HW2
  obtain ⟨G, hG⟩ : ∃ G, w3.heap.size = G := ⟨_, rfl⟩
  rw [hG] at HG4 ⊢
  obtain ⟨i0, hi, hz0, hz1, hz2⟩ := info_parts info_itm
  have hmk : ∀ W : World, (Instr.makeSlice 27 (.int .i64 0) (.int .i64 64)).run Tryd.prog W = .ok (.slice (some ⟨W.heap.size, 0, none⟩) 0 64) (W.alloc (.cells (madeCells #[.int .u8 0] (64 * 1)) 50)) := fun W => by
    have hr := run_make (P := Tryd.prog) W 27 50 i0 _ Tryd.underlying27 hi hz0 .i64 .i64 0 64 (by omega) (by omega) (by rw [hz2]; omega) (by omega)
    rw [hz1] at hr
    exact hr
  have hcsz : (madeCells #[Value.int .u8 0] (64 * 1)).size = 64 := by kernel_rfl
  clear hi hz0 hz1 hz2
  generalize madeCells #[Value.int .u8 0] (64 * 1) = cs at *
  have ho5 : Hid ((w4.alloc (.cells cs 50)).ownsRow w.heap.size 50 1 (.slice (some ⟨w4.heap.size, 0, none⟩) 0 64) 0 (itL [])) := Lib.hid (World.ownsRow_made w4 cs 64 HF4.out.size (by unfold maxLen; omega) (by rw [hcsz]))
  have hb6 := heap_alloc_new (w4.alloc (.cells cs 50)) (.cells #[.int .i64 (X : Int), .int .i64 (Y : Int), .slice (some ⟨w4.heap.size, 0, none⟩) 0 64, .slice none 0 0, .slice none 0 0] 31)
  have f5 := Fr.alloc No w4 (.cells cs 50)
  have f6 := Fr.alloc No (w4.alloc (.cells cs 50)) (.cells #[.int .i64 (X : Int), .int .i64 (Y : Int), .slice (some ⟨w4.heap.size, 0, none⟩) 0 64, .slice none 0 0, .slice none 0 0] 31)
  rw [World.size_alloc] at hb6
  have hPsz : w.heap.size ≤ w4.heap.size + 1 := Nat.le_trans HF4.out.size (Nat.le_add_right _ _)
  have hRP : R < w4.heap.size + 1 := by have := (Array.getElem?_eq_some_iff.1 HB4.out).1; omega
  have HGP : Hid (G < w4.heap.size + 1 ∧ G + 1 < w4.heap.size + 1) := Lib.hid (by have h1 := (Array.getElem?_eq_some_iff.1 HG4.out.1).1; have h2 := (Array.getElem?_eq_some_iff.1 HG4.out.2).1; omega)
  go_upto_region 5 with fail
  have HI : Hid (GnI w ((w4.alloc (.cells cs 50)).alloc (.cells #[.int .i64 (X : Int), .int .i64 (Y : Int), .slice (some ⟨w4.heap.size, 0, none⟩) 0 64, .slice none 0 0, .slice none 0 0] 31)) R (w4.heap.size + 1) G (G + 1) s (hgtN s X) X Y [] 0 (some ⟨w4.heap.size, 0, none⟩) 64) := Lib.hid ⟨HF4.out.no_trans (f5.no_trans f6), blk_no (f5.no_trans f6) HB4.out, hb6, HG4.out.no (f5.no_trans f6), own_no ho5.out f6⟩
  generalize (w4.alloc (.cells cs 50)).alloc (.cells #[.int .i64 (X : Int), .int .i64 (Y : Int), .slice (some ⟨w4.heap.size, 0, none⟩) 0 64, .slice none 0 0, .slice none 0 0] 31) = wl at *
  clear hb6 f5 f6 ho5 hmk hcsz HG4 HF4 HB4 HS4
  obtain ⟨P, hP⟩ : ∃ P, w4.heap.size + 1 = P := ⟨_, rfl⟩
  rw [hP] at HI HGP hPsz hRP ⊢
  have HP := Lib.hid hPsz
  have HRP := Lib.hid hRP
  clear hPsz hRP hP
  go_wp2_with fail
  go_loopw [27] (fun v27 wr => ∃ (r : Nat) (A : Option Addr) (c : Nat), r ≤ 8 ∧ v27 = .int .i64 (r : Int) ∧ GnI w wr R P G (G + 1) s (hgtN s X) X Y ((cellsL s X Y).take (r * 8)) (r * 8) A c) (fun v27 _ => 8 - (intOf v27).toNat)
  case atStart => exact ⟨0, _, _, by omega, rfl, HI.out⟩
  case round =>
    obtain ⟨r, A0, c0, hr, rfl, hi⟩ := hrel
    have HI0 := Lib.hid hi
    clear hi
    by_cases hlt : r < 8
    · have hwr : IntKind.i64.wrap ((r : Int) + 1) = ((r + 1 : Nat) : Int) := by
        rw [show ((r : Int) + 1) = ((r + 1 : Nat) : Int) by omega]
        exact IntWalk.i64_in _ (by omega)
      go_wp2_with fail
      obtain ⟨b8, hb8⟩ : ∃ b8, decide ((r : Int) < 8) = b8 := ⟨_, rfl⟩
      rw [hb8]
      clear hb8
      go_loopw [30] (fun v30 wr => ∃ (k : Nat) (A : Option Addr) (c : Nat), k ≤ 8 ∧ v30 = .int .i64 (k : Int) ∧ GnI w wr R P G (G + 1) s (hgtN s X) X Y ((cellsL s X Y).take (r * 8 + k)) (r * 8 + k) A c) (fun v30 _ => 8 - (intOf v30).toNat)
      case atStart => exact ⟨0, _, _, by omega, rfl, HI0.out⟩
      case round =>
        obtain ⟨k, A, c, hk, rfl, hi⟩ := hrel
        have HI1 := Lib.hid hi
        clear hi
        by_cases hkl : k < 8
        · have hwk : IntKind.i64.wrap ((k : Int) + 1) = ((k + 1 : Nat) : Int) := by
            rw [show ((k : Int) + 1) = ((k + 1 : Nat) : Int) by omega]
            exact IntWalk.i64_in _ (by omega)
          have hi := HI1.out
          obtain ⟨hf1, hbR, hbP, hg1, ho1⟩ := hi
          have HF1 := Lib.hid hf1
          have HBR := Lib.hid hbR
          have HBP := Lib.hid hbP
          have HO1 := Lib.hid ho1
          have HCF := Lib.hid (fun W (hW : Fr No wr W) => cellf_any (hg1.no hW) (hgt_in s X) (X * 8 + k) (Y * 8 + r) (by omega) (by omega))
          have HG1 := Lib.hid hg1
          obtain ⟨p1, hp1⟩ : ∃ p : Int, (X : Int) * 8 = p := ⟨_, rfl⟩
          obtain ⟨q1, hq1⟩ : ∃ p : Int, (Y : Int) * 8 = p := ⟨_, rfl⟩
          obtain ⟨p2, hp2⟩ : ∃ p : Int, ((X * 8 + k : Nat) : Int) = p := ⟨_, rfl⟩
          obtain ⟨q2, hq2⟩ : ∃ p : Int, ((Y * 8 + r : Nat) : Int) = p := ⟨_, rfl⟩
          rw [hp2, hq2] at HCF
          have w1 : IntKind.i64.wrap ((X : Int) * 8) = p1 := by rw [IntWalk.i64_in _ (by omega)]; omega
          have w2 : IntKind.i64.wrap (p1 + (k : Int)) = p2 := by rw [IntWalk.i64_in _ (by omega)]; omega
          have w3 : IntKind.i64.wrap ((Y : Int) * 8) = q1 := by rw [IntWalk.i64_in _ (by omega)]; omega
          have w4 : IntKind.i64.wrap (q1 + (r : Int)) = q2 := by rw [IntWalk.i64_in _ (by omega)]; omega
          have htk := cellsL_take s X Y (k := r * 8 + k) (by omega)
          rw [show X * 8 + (r * 8 + k) % 8 = X * 8 + k by omega, show Y * 8 + (r * 8 + k) / 8 = Y * 8 + r by omega] at htk
          have hcel : celN (hgtN s X) (mixB s (BitVec.ofNat 64 ((Y * 8 + r) * 128 + (X * 8 + k)))).toNat (Y * 8 + r) = cellN s (X * 8 + k) (Y * 8 + r) := by
            unfold cellN
            rw [show (X * 8 + k) / 8 = X by omega]
          rw [hcel] at HCF
          have HTK := Lib.hid htk
          generalize cellN s (X * 8 + k) (Y * 8 + r) = cel at *
          clear hp1 hq1 hp2 hq2 htk hcel hf1 hbR hg1 ho1
          have hhs := (Array.getElem?_eq_some_iff.1 hbP).1
          obtain ⟨g0, g1, g2, g3, g4⟩ := cells5 hbP
          obtain ⟨z0, z1, z2, z3, z4⟩ := free5 hbP
          have HZ : Hid (∀ W, Fr No wr W → W.cell? ⟨P, 2, none⟩ = some (.slice A (r * 8 + k) c) ∧ W.frozen? ⟨P, 2, none⟩ = false) := Lib.hid (fun W hW => ⟨(cells5 (blk_no hW HBP.out)).2.2.1, (free5 (blk_no hW HBP.out)).2.2.1⟩)
          have fa1 := Fr.drew No wr
          have fa2 := (Fr.alloc No wr (.cells #[.int .u8 (cel : Int)] 50)).no_trans (Fr.drew No _)
          have y1 := (HZ.out _ fa1).1
          have y2 := (HZ.out _ fa2).1
          have hbn := blk_no (Fr.drew No _) (heap_alloc_new wr (.cells #[.int .u8 (cel : Int)] 50))
          have HFA2 := Lib.hid fa2
          go_upto_region 11 with fail
          go_region_law (first
            | ((with_reducible refine step_append_i1 (lo := w.heap.size) _ rfl (.tmp 34) (.tmp 45) rfl (A := A) (n := r * 8 + k) (c := c) ?hs (own_no HO1.out HFA2.out) cel hbn ?hx ?hl ?hb ?_); (case hs => rfl); (case hx => rfl); (case hl => omega); (case hb => exact Nat.le_trans HF1.out.size HFA2.out.size); intro A' c' w5 ho hf; have HO5 := Lib.hid ho; have HF5 := Lib.hid hf; have hb5 := hf.blk (blk_no HFA2.out HBP.out) (own_not (own_no HO1.out HFA2.out) (blk_no HFA2.out HBP.out) (by decide)); have x5 := (cells5 hb5).2.2.1; have x6 := (free5 hb5).2.2.1; clear ho hf)
            | (go_simp; go_at_call 83; refine (HCF.out _ fa1).mono ?_; rintro e w6 ⟨rfl, rfl⟩))
          all_goals (
            have HN := Lib.hid (GnI.step (i := cel) HI1.out HFA2.out HF5.out HO5.out HP.out HRP.out HGP.out.1 HGP.out.2)
            rw [← HTK.out] at HN
            clear x5 x6 hb5
            go_wp2_with fail
            go_roundw
            case rel => exact ⟨k + 1, A', c', by omega, by go_num, HN.out⟩
            case measure => simp [intOf]; omega)
        · have hk8 : k = 8 := by omega
          subst hk8
          have HI2 : Hid (GnI w _ R P G (G + 1) s (hgtN s X) X Y ((cellsL s X Y).take ((r + 1) * 8)) ((r + 1) * 8) A c) := Lib.hid (by have := HI1.out; rw [show r * 8 + 8 = (r + 1) * 8 by omega] at this; exact this)
          go_wp2_with fail
          go_roundw
          case rel => exact ⟨r + 1, A, c, by omega, by go_num, HI2.out⟩
          case measure => simp [intOf]; omega
    · have hr8 : r = 8 := by omega
      subst hr8
      have HI2 := HI0.out
      rw [show (cellsL s X Y).take (8 * 8) = cellsL s X Y from List.take_of_length_le (by rw [cellsL_len]; decide)] at HI2
      obtain ⟨hf, hbR, hbP, hg, ho⟩ := HI2
      have HFw := Lib.hid hf
      have HBR := Lib.hid hbR
      have HOw := Lib.hid ho
      obtain ⟨g0, g1, g2, g3, g4⟩ := cells5 hbP
      obtain ⟨k0, k1, k2, k3, k4⟩ := cells5 hbR
      obtain ⟨z0, z1, z2, z3, z4⟩ := free5 hbR
      clear hf hbR hbP hg ho HI0
      go_wp2_with fail
      refine bodyPost_ret (results_cell_row (p := 6) rfl _ _ R 31 #[.int .i64 (X : Int), .int .i64 (Y : Int), .slice A0 (8 * 8) c0, .slice none 0 0, .slice none 0 0] (0, 0) _ rfl (set5_heap HBR.out _ _ _ _ _) Tryd.underlying31 rfl (by kernel_rfl)) rfl ?_
      have hs := set5_fr wr R (.int .i64 (X : Int)) (.int .i64 (Y : Int)) (.slice A0 (8 * 8) c0) (.slice none 0 0) (.slice none 0 0)
      refine ⟨A0, c0, rfl, own_fr HOw.out hs (fun q hq e => by have e' : q = R := e; rw [e'] at hq; exact own_not HOw.out HBR.out (by decide) hq), HFw.out.then_new hs (fun i e => by have e' : i = R := e; omega)⟩
end
end Go.Proofs.YtjdhbgdpmojobaaDoor

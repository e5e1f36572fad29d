/-
  The walk of ChunkLimits. No statement of the seat is proved here.
-/
import Derived.Test.YtepmclcbaipebaaDoorChV
namespace Go.Proofs.YtepmclcbaipebaaDoor
open Go.RowKit Go.Deep

/-- An empty chunk with so many heaps of one kind. -/
def ckL (h : Hp) (L : Nat) : Ck := ⟨0, 0, List.replicate 64 0, List.replicate L h, []⟩
theorem ckL_r {h : Hp} {L : Nat} (hL : L ≤ 32) (hh : L = 0 ∨ hpC h = true) : rgtC (ckL h L) = true := by
  rw [rgt_iff]
  refine ⟨Int.le_refl 0, show (0 : Int) < 16 by decide, Int.le_refl 0, show (0 : Int) < 16 by decide, ?_, ?_, ?_, ?_, ?_, ?_⟩
  · exact List.length_replicate
  · intro i hi
    rw [(List.mem_replicate.1 hi).2]
    rfl
  · show (List.replicate L h).length ≤ 32
    rw [List.length_replicate]
    exact hL
  · intro x hx
    obtain ⟨h0, rfl⟩ := List.mem_replicate.1 hx
    rcases hh with h1 | h1
    · exact absurd h1 h0
    · exact h1
  · show [] = chs 0 (List.replicate 64 0)
    decide +kernel
  · intro b hb
    cases hb
theorem ckL_b {h : Hp} {L : Nat} (hi : h.2.1 < 256) : ByC (ckL h L) := by
  refine ⟨fun i hi => ?_, fun x hx => ?_, fun b hb => by cases hb⟩
  · rw [(List.mem_replicate.1 hi).2]
    decide
  · rw [(List.mem_replicate.1 hx).2]
    exact hi
theorem ckL_e (h : Hp) (L : Nat) : dropE (ckL h L) h.1 h.2 = if plcC h.1 = false then 102 else if someC h.2 = false then 111 else if L = 32 then 104 else 0 := by
  unfold dropE
  rw [show (ckL h L).hs.length = L from List.length_replicate]
theorem ckL_l (h : Hp) (L : Nat) : dropL (ckL h L) h.1 h.2 = ckL h (if dropE (ckL h L) h.1 h.2 = 0 then L + 1 else L) := by
  unfold dropL
  split
  · have e : List.replicate (L + 1) h = List.replicate L h ++ [h] := List.replicate_succ'
    unfold ckL
    rw [e]
  · rfl
section
variable {w w' : World} {lo : Nat} {C : Ch}
theorem chawake_w (ht : ItT w) : ∀ W, Fr No w W → Calls Tryd.prog 9 #[] W fun e w' => e = .returned (.bool true) ∧ Fr No w w' :=
  fun _ hW => (chawake_any (ht.no hW)).mono (fun _ _ ⟨h1, h2⟩ => ⟨h1, hW.no_trans h2⟩)
set_option maxRecDepth 100000 in
set_option maxHeartbeats 6400000 in
theorem limits_walk (ht : ItT w) (n : Nat) (hn : n < 256) (s : Nat) (hs : s < 256) (m cell : Int) : Calls Tryd.prog 7 #[.int .u8 (n : Int), .agg #[.int .u8 (s : Int), .int .i64 m], .int .i64 cell] w fun e w' => e = .returned (.bool true) ∧ Below w.heap.size w w' := by
  have HA := Lib.hid (chawake_w ht)
  have HEM := Lib.hid (fun W => empty_any (w := W))
  obtain ⟨st, hst⟩ : ∃ x, stI s = x := ⟨_, rfl⟩
  have HSK := Lib.hid (stack_w ht hs hst)
  have hsm : someC (s, m) = (decide (1 ≤ m) && decide (m ≤ st)) := by rw [← hst]; rfl
  have HDR : Hid (∀ W C lo L, Fr No w W → C.ck = ckL (cell, (s, m)) L → OwC lo W C → L ≤ 32 → (L = 0 ∨ hpC (cell, (s, m)) = true) → Calls Tryd.prog 15 #[C.val, .int .i64 cell, .agg #[.int .u8 (s : Int), .int .i64 m]] W (CkE W (ckL (cell, (s, m)) (if dropE (ckL (cell, (s, m)) L) cell (s, m) = 0 then L + 1 else L)) (dropE (ckL (cell, (s, m)) L) cell (s, m)))) := Lib.hid (fun W C lo L hW hc ho hL hh => by
    have := drop_any (C := C) (ht.no hW) (ho.inC (by rw [hc]; exact ckL_b hs)) (by rw [hc]; exact ckL_r hL hh) cell hs m
    rw [hc] at this
    rw [ckL_l (cell, (s, m)) L] at this
    exact this)
  have HRI : Hid (∀ W C lo L, Fr No w W → C.ck = ckL (cell, (s, m)) L → OwC lo W C → L ≤ 32 → (L = 0 ∨ hpC (cell, (s, m)) = true) → Calls Tryd.prog 13 #[C.val] W fun e w' => e = .returned (.bool true) ∧ Fr No W w') := Lib.hid (fun W C lo L hW hc ho hL hh => by
    have hin : InC W C := ho.inC (by rw [hc]; exact ckL_b hs)
    have := cright_any (C := C) (ht.no hW) hin.rd hin.bt hin.sm hin.cap
    rw [hc, ckL_r hL hh] at this
    exact this)
  have HEQ := Lib.hid (fun L => ckL_e (cell, (s, m)) L)
  have HHP : Hid (hpC (cell, (s, m)) = (plcC cell && someC (s, m))) := Lib.hid rfl
  obtain ⟨r9, hr9, hr9l⟩ : ∃ q, n % 9 = q ∧ q < 9 := ⟨_, rfl, Nat.mod_lt _ (by omega)⟩
  have t1 : (n : Int).tmod 9 = (r9 : Int) := by rw [Int.tmod_eq_emod_of_nonneg (by omega)]; omega
  have hw1 : IntKind.i64.wrap (r9 : Int) = (r9 : Int) := IntWalk.i64_in _ (by omega)
  have hw2 : IntKind.i64.wrap (28 + (r9 : Int)) = 28 + (r9 : Int) := IntWalk.i64_in _ (by omega)
  clear ht hr9 hst
  -- the variables
  have hbS := heap_alloc_new w (.cells #[.int .u8 (s : Int), .int .i64 m] 29)
  have HF0 := Lib.hid (Fr.alloc No w (.cells #[.int .u8 (s : Int), .int .i64 m] 29))
  go_enter Tryd.func7, Tryd.ntmps7
  go_wp2_with fail
  refine (HEM.out _).mono ?_
  rintro e w1 ⟨b1, rfl, ho, hf⟩
  dsimp only [Ch.val]
  have HO1 := Lib.hid (ho.low HF0.out.size)
  have HF1 := Lib.hid (HF0.out.no_trans hf)
  have hbS1 := blk_no hf hbS
  clear ho hf hbS HEM
  have hfa := Fr.alloc No w1 (.cells #[.int .i64 0, .int .i64 0, .slice (some ⟨b1, 0, none⟩) 64 64, .slice none 0 0, .slice none 0 0] 26)
  have hbT := heap_alloc_new w1 (.cells #[.int .i64 0, .int .i64 0, .slice (some ⟨b1, 0, none⟩) 64 64, .slice none 0 0, .slice none 0 0] 26)
  have HO2 := Lib.hid (HO1.out.no hfa)
  have HF2 := Lib.hid (HF1.out.no_trans hfa)
  have hbS2 := blk_no hfa hbS1
  have hST : w.heap.size < w1.heap.size := (Array.getElem?_eq_some_iff.1 hbS1).1
  go_upto_region 2 with fail
  obtain ⟨S, hS⟩ : ∃ S, w.heap.size = S := ⟨_, rfl⟩
  obtain ⟨T, hT⟩ : ∃ T, w1.heap.size = T := ⟨_, rfl⟩
  rw [hT] at hbT hST ⊢
  rw [hS] at hST hbS2 ⊢
  have HSW := Lib.hid hS
  generalize w1.alloc (.cells #[.int .i64 0, .int .i64 0, .slice (some ⟨b1, 0, none⟩) 64 64, .slice none 0 0, .slice none 0 0] 26) = w2 at *
  clear hfa hbS1 HO1 HF1 hT hS
  have HBS := Lib.hid hbS2
  have HBT := Lib.hid hbT
  clear hbS2 hbT
  go_wp2_with fail
  go_loopw [9, 19] (fun v9 v19 wr => ∃ (k L : Nat) (C : Ch), k ≤ 28 + r9 ∧ L ≤ 32 ∧ v19 = .int .i64 (k : Int) ∧ v9 = .int .i64 (L : Int) ∧ (L = 0 ∨ hpC (cell, (s, m)) = true) ∧ C.ck = ckL (cell, (s, m)) L ∧ OwC w.heap.size wr C ∧ wr.heap[T]? = some (.cells #[.int .i64 C.x, .int .i64 C.y, .slice C.A1 C.n1 C.c1, .slice C.A2 C.n2 C.c2, .slice C.A3 C.n3 C.c3] 26 (0, 0)) ∧ Fr (fun i => i = T) w2 wr) (fun _ v19 _ => 28 + r9 - (intOf v19).toNat)
  case atStart => exact ⟨0, 0, _, by omega, by omega, rfl, rfl, .inl rfl, rfl, HO2.out, HBT.out, Fr.refl _ _⟩
  case round =>
    obtain ⟨k, L, C, hk, hL, rfl, rfl, hh, hck, ho, hbc, hf⟩ := hrel
    obtain ⟨x, y, A1, n1, c1, cs, A2, n2, c2, hps, A3, n3, c3, bs⟩ := C
    dsimp only at hbc
    have hTw : w.heap.size ≤ T := by have := HSW.out; omega
    have HFr := Lib.hid (HF2.out.then_new hf (fun i hi => by have e : i = T := hi; rw [e]; exact hTw))
    have HO := Lib.hid ho
    have HB := Lib.hid hbc
    have HFT := Lib.hid hf
    have HCK := Lib.hid hck
    have HH := Lib.hid hh
    have HBSr := Lib.hid (hf.blk HBS.out (fun (e : S = T) => by omega))
    obtain ⟨g0, g1, g2, g3, g4⟩ := cells5 hbc
    clear ho hbc hf hck hh
    by_cases hlt : k < 28 + r9
    · have hlt' : (k : Int) < 28 + (r9 : Int) := by omega
      have s0 := (blk_cell HBSr.out 0).trans (by simp : _ = some (.int .u8 (s : Int)))
      have s1 := (blk_cell HBSr.out 1).trans (by simp : _ = some (.int .i64 m))
      have hwk : IntKind.i64.wrap ((k : Int) + 1) = ((k + 1 : Nat) : Int) := by
        rw [show ((k : Int) + 1) = ((k + 1 : Nat) : Int) by omega]
        exact IntWalk.i64_in _ (by omega)
      have hwl : IntKind.i64.wrap ((L : Int) + 1) = ((L + 1 : Nat) : Int) := by
        rw [show ((L : Int) + 1) = ((L + 1 : Nat) : Int) by omega]
        exact IntWalk.i64_in _ (by omega)
      have HDP := Lib.hid (HDR.out wr ⟨x, y, A1, n1, c1, cs, A2, n2, c2, hps, A3, n3, c3, bs⟩ _ L HFr.out HCK.out HO.out hL HH.out)
      obtain ⟨EE, hEE⟩ : ∃ EE, dropE (ckL (cell, (s, m)) L) cell (s, m) = EE := ⟨_, rfl⟩
      obtain ⟨L', hL'⟩ : ∃ L', (if EE = 0 then L + 1 else L) = L' := ⟨_, rfl⟩
      have HEQ2 : Hid (EE = if plcC cell = false then 102 else if someC (s, m) = false then 111 else if L = 32 then 104 else 0) := Lib.hid (by rw [← hEE]; exact HEQ.out L)
      rw [hEE, hL'] at HDP
      have HLH : Hid (L' ≤ 32 ∧ (L' = 0 ∨ hpC (cell, (s, m)) = true)) := Lib.hid (by
        rw [← hL']
        by_cases h0 : EE = 0
        · rw [if_pos h0]
          have h1 := HEQ2.out
          rw [h0] at h1
          by_cases hp : plcC cell = false
          · rw [if_pos hp] at h1; exact absurd h1 (by decide)
          · rw [if_neg hp] at h1
            by_cases hq : someC (s, m) = false
            · rw [if_pos hq] at h1; exact absurd h1 (by decide)
            · rw [if_neg hq] at h1
              by_cases h32 : L = 32
              · rw [if_pos h32] at h1; exact absurd h1 (by decide)
              · refine ⟨by omega, .inr ?_⟩
                rw [HHP.out]
                simp at hp hq
                rw [hp, hq]
                rfl
        · rw [if_neg h0]
          exact ⟨hL, HH.out⟩)
      have HLE := Lib.hid hL'
      clear hEE hL'
      go_wp2_with fail
      refine HDP.out.mono ?_
      rintro e w3 ⟨⟨x', y', A1', n1', c1', cs', A2', n2', c2', hps', A3', n3', c3', bs'⟩, rfl, hc3, ho3, hf3⟩
      have HC3 := Lib.hid hc3
      have hfa := Fr.alloc No w3 (.cells #[.int .i64 x', .int .i64 y', .slice A1' n1' c1', .slice A2' n2' c2', .slice A3' n3' c3'] 26)
      have hbX := heap_alloc_new w3 (.cells #[.int .i64 x', .int .i64 y', .slice A1' n1' c1', .slice A2' n2' c2', .slice A3' n3' c3'] 26)
      have HO4 := Lib.hid ((ho3.low HFr.out.size).no hfa)
      have HF4 := Lib.hid (hf3.no_trans hfa)
      have HXT : Hid (w3.heap.size ≠ T) := Lib.hid (by
        have h1 := (Array.getElem?_eq_some_iff.1 (blk_no hf3 HB.out)).1
        omega)
      clear ho3 hc3 hf3 hfa g0 g1 g2 g3 g4 s0 s1 HDP
      dsimp only [Ch.val]
      go_upto_region 7 with fail
      obtain ⟨X, hX⟩ : ∃ X, w3.heap.size = X := ⟨_, rfl⟩
      rw [hX] at hbX HXT ⊢
      generalize w3.alloc (.cells #[.int .i64 x', .int .i64 y', .slice A1' n1' c1', .slice A2' n2' c2', .slice A3' n3' c3'] 26) = w4 at *
      clear hX
      have HBX := Lib.hid hbX
      clear hbX
      have HK : Hid (∀ W, Fr No w4 W → W.heap[X]? = some (.cells #[.int .i64 x', .int .i64 y', .slice A1' n1' c1', .slice A2' n2' c2', .slice A3' n3' c3'] 26 (0, 0)) ∧ W.heap[T]? = some (.cells #[.int .i64 x, .int .i64 y, .slice A1 n1 c1, .slice A2 n2 c2, .slice A3 n3 c3] 26 (0, 0)) ∧ W.heap[S]? = some (.cells #[.int .u8 (s : Int), .int .i64 m] 29 (0, 0)) ∧ Fr (fun i => i = T) w2 W ∧ Fr No w W) := Lib.hid (fun W hW => ⟨blk_no hW HBX.out, blk_no (HF4.out.no_trans hW) HB.out, blk_no (HF4.out.no_trans hW) HBSr.out, HFT.out.then_no (HF4.out.no_trans hW), HFr.out.no_trans (HF4.out.no_trans hW)⟩)
      have HREL : Hid (∀ W, Fr No w4 W → ∃ (k_1 L_1 : Nat) (C : Ch), k_1 ≤ 28 + r9 ∧ L_1 ≤ 32 ∧ Value.int .i64 ((k + 1 : Nat) : Int) = .int .i64 (k_1 : Int) ∧ Value.int .i64 (L' : Int) = .int .i64 (L_1 : Int) ∧ (L_1 = 0 ∨ hpC (cell, (s, m)) = true) ∧ C.ck = ckL (cell, (s, m)) L_1 ∧ OwC w.heap.size (set5 W T (.int .i64 x') (.int .i64 y') (.slice A1' n1' c1') (.slice A2' n2' c2') (.slice A3' n3' c3')) C ∧ (set5 W T (.int .i64 x') (.int .i64 y') (.slice A1' n1' c1') (.slice A2' n2' c2') (.slice A3' n3' c3')).heap[T]? = some (.cells #[.int .i64 C.x, .int .i64 C.y, .slice C.A1 C.n1 C.c1, .slice C.A2 C.n2 C.c2, .slice C.A3 C.n3 C.c3] 26 (0, 0)) ∧ Fr (fun i => i = T) w2 (set5 W T (.int .i64 x') (.int .i64 y') (.slice A1' n1' c1') (.slice A2' n2' c2') (.slice A3' n3' c3'))) := Lib.hid (fun W hW => by
        obtain ⟨_, h2, _, h4, _⟩ := HK.out W hW
        exact ⟨k + 1, L', ⟨x', y', A1', n1', c1', cs', A2', n2', c2', hps', A3', n3', c3', bs'⟩, by omega, HLH.out.1, rfl, rfl, HLH.out.2, HC3.out, (HO4.out.no hW).at_ h2 (set5_fr _ _ _ _ _ _ _), set5_heap h2 _ _ _ _ _, h4.trans (set5_fr _ _ _ _ _ _ _) (fun _ _ e => e)⟩)
      have HRX := Lib.hid (fun W (hW : Fr No w4 W) => HRI.out W ⟨x', y', A1', n1', c1', cs', A2', n2', c2', hps', A3', n3', c3', bs'⟩ _ L' (HK.out W hW).2.2.2.2 HC3.out (HO4.out.no hW) HLH.out.1 HLH.out.2)
      dsimp only [Ch.val] at HRX
      have HR4 := Lib.hid (Fr.refl No w4)
      by_cases hp : plcC cell = false
      · have hpc : cell < 0 ∨ (¬ cell < 0 ∧ 63 < cell) := by
          unfold plcC at hp
          simp at hp
          omega
        have e1 : EE = 102 := by rw [HEQ2.out]; rw [if_pos hp]
        have e2 : L' = L := by rw [← HLE.out, e1]; rfl
        subst e1 e2
        clear HEQ2 HLE HLH hp HEQ
        rcases hpc with h1 | ⟨h1, h2⟩
        · obtain ⟨hx, hT', -, -, -⟩ := HK.out w4 HR4.out
          obtain ⟨k0, k1, k2, k3, k4⟩ := cells5 hx
          clear hx hT'
          go_wp2_with fail
          refine (HRX.out _ HR4.out).mono ?_
          rintro e w6 ⟨rfl, hf⟩
          have HW6 := Lib.hid (HR4.out.no_trans hf)
          clear hf k0 k1 k2 k3 k4
          obtain ⟨hx, hT', -, -, -⟩ := HK.out w6 HW6.out
          obtain ⟨k0, k1, k2, k3, k4⟩ := cells5 hx
          obtain ⟨r0, r1, r2, r3, r4⟩ := cells5 hT'
          obtain ⟨z0, z1, z2, z3, z4⟩ := free5 hT'
          clear hx hT'
          have HRL := Lib.hid (HREL.out w6 HW6.out)
          go_wp2_with fail
          go_roundw
          case rel => exact HRL.out
          case measure => simp [intOf]; omega
        · obtain ⟨hx, hT', -, -, -⟩ := HK.out w4 HR4.out
          obtain ⟨k0, k1, k2, k3, k4⟩ := cells5 hx
          clear hx hT'
          go_wp2_with fail
          refine (HRX.out _ HR4.out).mono ?_
          rintro e w6 ⟨rfl, hf⟩
          have HW6 := Lib.hid (HR4.out.no_trans hf)
          clear hf k0 k1 k2 k3 k4
          obtain ⟨hx, hT', -, -, -⟩ := HK.out w6 HW6.out
          obtain ⟨k0, k1, k2, k3, k4⟩ := cells5 hx
          obtain ⟨r0, r1, r2, r3, r4⟩ := cells5 hT'
          obtain ⟨z0, z1, z2, z3, z4⟩ := free5 hT'
          clear hx hT'
          have HRL := Lib.hid (HREL.out w6 HW6.out)
          go_wp2_with fail
          go_roundw
          case rel => exact HRL.out
          case measure => simp [intOf]; omega
      · have hpc : ¬ cell < 0 ∧ ¬ 63 < cell := by
          unfold plcC at hp
          simp at hp
          omega
        obtain ⟨h1, h2⟩ := hpc
        obtain ⟨-, -, hS4, -, -⟩ := HK.out w4 HR4.out
        have d0 := (blk_cell hS4 0).trans (by simp : _ = some (.int .u8 (s : Int)))
        have d1 := (blk_cell hS4 1).trans (by simp : _ = some (.int .i64 m))
        have hWS : Hid (∀ W, Fr No w4 W → W.cell? ⟨S, 0, none⟩ = some (.int .u8 (s : Int)) ∧ W.cell? ⟨S, 1, none⟩ = some (.int .i64 m)) := Lib.hid (fun W hW => ⟨(blk_cell (blk_no hW hS4) 0).trans (by simp), (blk_cell (blk_no hW hS4) 1).trans (by simp)⟩)
        clear hS4
        go_upto_region 10 with fail
        by_cases hm1 : m < 1
        · have hq : someC (s, m) = false := by rw [hsm, decide_eq_false (by omega)]; rfl
          have e1 : EE = 111 := by rw [HEQ2.out]; rw [if_neg hp, if_pos hq]
          have e2 : L' = L := by rw [← HLE.out, e1]; rfl
          subst e1 e2
          have b1 : decide (m < 1) = true := decide_eq_true hm1
          clear HEQ2 HLE HLH hp HEQ hq
          go_quiet (fail)
          generalize hw5 : w4.drewN _ = w5
          have HW5 : Hid (Fr No w4 w5) := Lib.hid (by rw [← hw5]; exact Fr.drewN No w4 _)
          clear hw5 d0 d1
          obtain ⟨hx, hT', -, -, -⟩ := HK.out w5 HW5.out
          obtain ⟨k0, k1, k2, k3, k4⟩ := cells5 hx
          clear hx hT'
          go_wp2_with fail
          refine (HRX.out _ HW5.out).mono ?_
          rintro e w6 ⟨rfl, hf⟩
          have HW6 := Lib.hid (HW5.out.no_trans hf)
          clear hf k0 k1 k2 k3 k4
          obtain ⟨hx, hT', -, -, -⟩ := HK.out w6 HW6.out
          obtain ⟨k0, k1, k2, k3, k4⟩ := cells5 hx
          obtain ⟨r0, r1, r2, r3, r4⟩ := cells5 hT'
          obtain ⟨z0, z1, z2, z3, z4⟩ := free5 hT'
          clear hx hT'
          have HRL := Lib.hid (HREL.out w6 HW6.out)
          go_wp2_with fail
          go_roundw
          case rel => exact HRL.out
          case measure => simp [intOf]; omega
        · have b1 : decide (m < 1) = false := decide_eq_false hm1
          have dd := hWS.out w4.drew (Fr.drew No w4)
          have HFA := Lib.hid ((HK.out w4 HR4.out).2.2.2.2.no_trans (Fr.drew No w4))
          by_cases hms : st < m
          · have hq : someC (s, m) = false := by rw [hsm, decide_eq_true (by omega), decide_eq_false (by omega)]; rfl
            have e1 : EE = 111 := by rw [HEQ2.out]; rw [if_neg hp, if_pos hq]
            have e2 : L' = L := by rw [← HLE.out, e1]; rfl
            subst e1 e2
            clear HEQ2 HLE HLH hp HEQ hq
            go_region_held3 (fun W => W.cell? ⟨S, 0, none⟩ = some (.int .u8 (s : Int)) ∧ W.cell? ⟨S, 1, none⟩ = some (.int .i64 m))
              (first | exact d5 | exact dd | exact ⟨d0, d1⟩)
              (first
                | (go_at_call 25; refine (HSK.out _ (HFA.out)).mono ?_; rintro e w5 ⟨rfl, _, hf⟩; have HW5 := Lib.hid ((Fr.drew No w4).no_trans hf); have d5 := hWS.out w5 HW5.out; clear hf))
            clear d0 d1 dd d5
            obtain ⟨hx, hT', -, -, -⟩ := HK.out w5 HW5.out
            obtain ⟨k0, k1, k2, k3, k4⟩ := cells5 hx
            clear hx hT'
            go_wp2_with fail
            refine (HRX.out _ HW5.out).mono ?_
            rintro e w6 ⟨rfl, hf⟩
            have HW6 := Lib.hid (HW5.out.no_trans hf)
            clear hf k0 k1 k2 k3 k4
            obtain ⟨hx, hT', -, -, -⟩ := HK.out w6 HW6.out
            obtain ⟨k0, k1, k2, k3, k4⟩ := cells5 hx
            obtain ⟨r0, r1, r2, r3, r4⟩ := cells5 hT'
            obtain ⟨z0, z1, z2, z3, z4⟩ := free5 hT'
            clear hx hT'
            have HRL := Lib.hid (HREL.out w6 HW6.out)
            go_wp2_with fail
            go_roundw
            case rel => exact HRL.out
            case measure => simp [intOf]; omega
          · have hq : someC (s, m) = true := by rw [hsm, decide_eq_true (by omega), decide_eq_true (by omega)]; rfl
            by_cases h32 : L = 32
            · have h32' : ((L : Int) == 32) = true := by rw [h32]; rfl
              have e1 : EE = 104 := by rw [HEQ2.out]; rw [if_neg hp, if_neg (by rw [hq]; decide), if_pos h32]
              have e2 : L' = L := by rw [← HLE.out, e1]; rfl
              subst e1 e2
              clear HEQ2 HLE HLH hp HEQ hq h32
              go_region_held3 (fun W => W.cell? ⟨S, 0, none⟩ = some (.int .u8 (s : Int)) ∧ W.cell? ⟨S, 1, none⟩ = some (.int .i64 m))
                (first | exact d5 | exact dd | exact ⟨d0, d1⟩)
                (first
                  | (go_at_call 25; refine (HSK.out _ (HFA.out)).mono ?_; rintro e w5 ⟨rfl, _, hf⟩; have HW5 := Lib.hid ((Fr.drew No w4).no_trans hf); have d5 := hWS.out w5 HW5.out; clear hf))
              clear d0 d1 dd d5
              obtain ⟨hx, hT', -, -, -⟩ := HK.out w5 HW5.out
              obtain ⟨k0, k1, k2, k3, k4⟩ := cells5 hx
              clear hx hT'
              go_wp2_with fail
              refine (HRX.out _ HW5.out).mono ?_
              rintro e w6 ⟨rfl, hf⟩
              have HW6 := Lib.hid (HW5.out.no_trans hf)
              clear hf k0 k1 k2 k3 k4
              obtain ⟨hx, hT', -, -, -⟩ := HK.out w6 HW6.out
              obtain ⟨k0, k1, k2, k3, k4⟩ := cells5 hx
              obtain ⟨r0, r1, r2, r3, r4⟩ := cells5 hT'
              obtain ⟨z0, z1, z2, z3, z4⟩ := free5 hT'
              clear hx hT'
              have HRL := Lib.hid (HREL.out w6 HW6.out)
              go_wp2_with fail
              go_roundw
              case rel => exact HRL.out
              case measure => simp [intOf]; omega
            · have h32' : ((L : Int) == 32) = false := by rw [beq_eq_false_iff_ne]; omega
              have e1 : EE = 0 := by rw [HEQ2.out]; rw [if_neg hp, if_neg (by rw [hq]; decide), if_neg h32]
              have e2 : L' = L + 1 := by rw [← HLE.out, e1]; rfl
              subst e1 e2
              clear HEQ2 HLE HLH hp HEQ hq h32
              go_region_held3 (fun W => W.cell? ⟨S, 0, none⟩ = some (.int .u8 (s : Int)) ∧ W.cell? ⟨S, 1, none⟩ = some (.int .i64 m))
                (first | exact d5 | exact dd | exact ⟨d0, d1⟩)
                (first
                  | (go_at_call 25; refine (HSK.out _ (HFA.out)).mono ?_; rintro e w5 ⟨rfl, _, hf⟩; have HW5 := Lib.hid ((Fr.drew No w4).no_trans hf); have d5 := hWS.out w5 HW5.out; clear hf))
              clear d0 d1 dd d5
              obtain ⟨hx, hT', -, -, -⟩ := HK.out w5 HW5.out
              obtain ⟨k0, k1, k2, k3, k4⟩ := cells5 hx
              clear hx hT'
              go_wp2_with fail
              refine (HRX.out _ HW5.out).mono ?_
              rintro e w6 ⟨rfl, hf⟩
              have HW6 := Lib.hid (HW5.out.no_trans hf)
              clear hf k0 k1 k2 k3 k4
              obtain ⟨hx, hT', -, -, -⟩ := HK.out w6 HW6.out
              obtain ⟨k0, k1, k2, k3, k4⟩ := cells5 hx
              obtain ⟨r0, r1, r2, r3, r4⟩ := cells5 hT'
              obtain ⟨z0, z1, z2, z3, z4⟩ := free5 hT'
              clear hx hT'
              have HRL := Lib.hid (HREL.out w6 HW6.out)
              go_wp2_with fail
              go_roundw
              case rel => exact HRL.out
              case measure => simp [intOf]; omega
    · have hlt' : ¬ (k : Int) < 28 + (r9 : Int) := by omega
      have hl2 : hps.length = L := by
        have e := congrArg (fun d : Ck => d.hs.length) HCK.out
        have e2 : (ckL (cell, (s, m)) L).hs.length = L := List.length_replicate
        exact e.trans e2
      have hn2 : n2 = L := by
        have := HO.out.rd.r2.1
        dsimp only at this
        omega
      subst hn2
      have hL' : (n2 : Int) ≤ 32 := by omega
      have e0 : ((n2 : Int) == (n2 : Int)) = true := by simp
      clear hl2
      go_wp2_with (refine (HA.out _ HFr.out).mono ?_; rintro e w9 ⟨rfl, hf⟩; have HF9 := Lib.hid hf; clear hf)
      go_ret
      exact ⟨rfl, HF9.out.noBelow⟩
end
end Go.Proofs.YtepmclcbaipebaaDoor

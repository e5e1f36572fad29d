/-
  Bags: fill, put. No statement of the seat is proved here.
-/
import Derived.Test.YtmallcjhccbgdaaDoorBgC
namespace Go.Proofs.YtmallcjhccbgdaaDoor
open Go.RowKit Go.Deep

/-- The block of a slice. -/
def Bk (A : Option Addr) (i : Nat) : Prop := ∃ b, A = some b ∧ b.block = i
theorem heap_other (w : World) (b k P : Nat) {v : Value} (h : b ≠ P) : (w.setCell ⟨b, k, none⟩ v).heap[P]? = w.heap[P]? := Below.heap_setCell _ _ _ _ (fun e => h e.symm)
theorem getElem_mid (l : List (Nat × Int)) (r : List (Nat × Int)) (k : Nat) (hk : k < l.length) (hr : r.length = k) : (r ++ l.drop k)[k]'(by rw [List.length_append, List.length_drop]; omega) = l[k] := by
  rw [List.getElem_append_right (by omega), List.getElem_drop]
  simp only [hr, Nat.sub_self, Nat.add_zero]
theorem set_mid (l : List (Nat × Int)) (r : List (Nat × Int)) (k : Nat) (hk : k < l.length) (hr : r.length = k) (s : Nat × Int) : (r ++ l.drop k).set k s = (r ++ [s]) ++ l.drop (k + 1) := by
  rw [List.set_append_right _ _ (by omega), hr, Nat.sub_self, List.drop_eq_getElem_cons hk, List.set_cons_zero, List.append_assoc]
  rfl
theorem keep_mid (l : List (Nat × Int)) (r : List (Nat × Int)) (k : Nat) (hk : k < l.length) : r ++ l.drop k = (r ++ [l[k]]) ++ l.drop (k + 1) := by
  rw [List.drop_eq_getElem_cons hk, List.append_assoc]
  rfl
section
variable {w : World} {A : Option Addr} {n c lo : Nat} {l : List (Nat × Int)}
set_option maxRecDepth 100000 in
set_option maxHeartbeats 4000000 in
/-- fill, with the closure number 1. -/
theorem fill1_any (ht : ItT w) (hA : ∀ b, A = some b → 0 ≠ b.block) (ho : OwS lo w (.slice A n c) l) {i : Nat} (hi : i < 256) {st : Int} (hst : stI i = st) (hs16 : st ≤ 16) (hby : By l) (hp : ∀ s ∈ l, (fun a => a == i) s.1 = true → 0 ≤ s.2 ∧ s.2 ≤ st) (hn : n ≤ 100000) {m : Int} (h0 : 0 ≤ m) (hm : m ≤ 9223372036854775807) {P : Nat} (hP : w.heap[P]? = some (.cells #[.int .u8 (i : Int)] 32 (0, 0))) (hPA : ¬ Bk A P) :
    Calls Tryd.prog 39 #[.slice A n c, .int .u8 (i : Int), .int .i64 m, .func (.func 40) #[] #[.pointer (some ⟨P, 0, none⟩)]] w fun e w' => e = .returned (.int .i64 (fillL (fun a => a == i) i st l m).2) ∧ OwS lo w' (.slice A n c) (fillL (fun a => a == i) i st l m).1 ∧ Fr (Bk A) w w' := by
  have hl : l.length = n := ho.rd.1
  have hst0 : 0 ≤ st := by
    rw [← hst]
    by_cases h : i < 13
    · have : ∀ j : Fin 13, 0 ≤ stI j.val := by decide
      exact this ⟨i, h⟩
    · unfold stI
      rw [List.getD_eq_getElem?_getD, List.getElem?_eq_none (by simp; omega)]
      decide
  have HLN := Lib.hid hl
  have HOW := Lib.hid ho
  have HT := Lib.hid (fun W (hW : Fr (Bk A) w W) => (fun j hj => by
    have e : ∀ k, W.cell? ⟨0, k, none⟩ = w.cell? ⟨0, k, none⟩ := fun k => hW.cell ht.pos (fun ⟨b, hb, e⟩ => hA b hb e.symm)
    rw [e, e, e, e]
    exact ht j hj : ItT W))
  have HST := Lib.hid (And.intro hst (And.intro hst0 hs16))
  have HP := Lib.hid hp
  have HBY := Lib.hid hby
  have HMB := Lib.hid (And.intro h0 hm)
  have HPP := Lib.hid hP
  have HPA := Lib.hid hPA
  clear ht hA ho hby hp h0 hm hst hst0 hs16 hl hP hPA
  go_enter Tryd.func39, Tryd.ntmps39
  go_wp2_with fail
  go_loopw [2, 14] (fun v2 v14 wr => ∃ k : Nat, k ≤ n ∧ v14 = .int .i64 (k : Int) ∧ v2 = .int .i64 (fillL (fun a => a == i) i st (l.take k) m).2 ∧ OwS lo wr (.slice A n c) ((fillL (fun a => a == i) i st (l.take k) m).1 ++ l.drop k) ∧ Fr (Bk A) w wr ∧ wr.heap[P]? = some (.cells #[.int .u8 (i : Int)] 32 (0, 0))) (fun _ v14 _ => n - (intOf v14).toNat)
  case atStart => exact ⟨0, by omega, rfl, rfl, by simpa [fillL] using HOW.out, Fr.refl _ _, HPP.out⟩
  case round =>
    obtain ⟨k, hk, rfl, rfl, ho, hf, hP⟩ := hrel
    have HF := Lib.hid hf
    have HO := Lib.hid ho
    have HPR := Lib.hid hP
    clear ho hf hP
    by_cases hlt : k < n
    · have hkl : k < l.length := by rw [HLN.out]; exact hlt
      have hwk : IntKind.i64.wrap ((k : Int) + 1) = ((k + 1 : Nat) : Int) := by
        rw [show ((k : Int) + 1) = ((k + 1 : Nat) : Int) by omega]
        exact IntWalk.i64_in _ (by omega)
      have hleft := fillL_left (l := l.take k) (p := fun a => a == i) (i := i) (st := st) HMB.out.1 (fun s hs h => HP.out s (List.mem_of_mem_take hs) h)
      have hlen := fillL_len (p := fun a => a == i) (i := i) (st := st) (l.take k) m
      have hstep := fillL_step (p := fun a => a == i) (i := i) (st := st) (n := m) k hkl
      have hps := HP.out l[k] (List.getElem_mem hkl)
      obtain ⟨r, hr⟩ : ∃ r, fillL (fun a => a == i) i st (l.take k) m = r := ⟨_, rfl⟩
      rw [hr] at hleft hlen hstep HO ⊢
      obtain ⟨r1, r2⟩ := r
      dsimp only at hleft hlen HO ⊢
      have hlen' : r1.length = k := by rw [hlen, List.length_take]; omega
      have hkr : k < (r1 ++ l.drop k).length := by rw [List.length_append, List.length_drop]; omega
      obtain ⟨b, hAb, hlob, hbw, _, _, c0, c1, _⟩ := HO.out.set k hkr
      have hmid := getElem_mid l r1 k hkl hlen'
      rw [hmid] at c0 c1
      subst hAb
      have HSET : Hid (∀ W, Fr No wr W → W.frozen? ⟨b, k * 2, none⟩ = false ∧ W.frozen? ⟨b, k * 2 + 1, none⟩ = false ∧ W.cell? ⟨b, k * 2, none⟩ = some (.int .u8 (l[k].1 : Int)) ∧ W.cell? ⟨b, k * 2 + 1, none⟩ = some (.int .i64 l[k].2) ∧ ∀ (x : Nat) (y : Int), OwS lo ((W.setCell ⟨b, k * 2, none⟩ (.int .u8 (x : Int))).setCell ⟨b, k * 2 + 1, none⟩ (.int .i64 y)) (.slice (some ⟨b, 0, none⟩) n c) ((r1 ++ [(x, y)]) ++ l.drop (k + 1))) := fun W hW => by
        obtain ⟨b', e, _, _, z0, z1, d0, d1, hs⟩ := (HO.out.no hW).set k hkr
        injection e with e
        injection e with e _
        subst e
        rw [hmid] at d0 d1
        refine ⟨z0, z1, d0, d1, fun x y => ?_⟩
        have := hs x y
        rw [set_mid l r1 k hkl hlen'] at this
        exact this
      have hkeep : OwS lo wr (.slice (some ⟨b, 0, none⟩) n c) ((r1 ++ [l[k]]) ++ l.drop (k + 1)) := by
        rw [← keep_mid l r1 k hkl]
        exact HO.out
      have HK := Lib.hid hkeep
      have HBB := Lib.hid (And.intro hbw hlob)
      have HSTEP := Lib.hid hstep
      have HPS := Lib.hid hps
      have HLEFT := Lib.hid hleft
      have hx256 := HBY.out.at k hkl
      clear hr hlen hlen' hkr hmid hkeep HO hstep hbw hlob hps hleft
      obtain ⟨s, hs⟩ : ∃ s, l[k] = s := ⟨_, rfl⟩
      rw [hs] at HK HSTEP HPS HSET c0 c1 hx256
      clear hs
      obtain ⟨x, y⟩ := s
      dsimp only at HPS HSET c0 c1 hx256
      have hS : Hid (∀ W, Fr No wr W → Calls Tryd.prog 31 #[.int .u8 (i : Int)] W fun e w' => e = .returned (.int .i64 st) ∧ Fr No wr w' ∧ Fr No W w') := stack_w (HT.out wr HF.out) hi HST.out.1
      have cp := blk_cell (blk_no ((Fr.alloc No wr (.cells #[.int .u8 (x : Int), .int .i64 y] 34)).no_trans (Fr.alloc No _ (.cells #[.int .u8 (x : Int), .int .i64 y] 34))) HPR.out) 0
      simp at cp
      by_cases hr0 : 0 < r2
      · by_cases hpx : (fun a => a == i) x = true
        · have e1 : ((x : Int) == (i : Int)) = true := by
            have : (fun a => a == i) x = true := hpx
            simp at this
            simp [this]
          have hlast := HPS.out hpx
          have HE := Lib.hid (show fillL (fun a => a == i) i st (l.take (k + 1)) m = (r1 ++ [(i, y + min r2 (st - y))], r2 - min r2 (st - y)) by rw [HSTEP.out]; unfold fillS; rw [if_pos ⟨hr0, hpx⟩])
          have HWD := Lib.hid ((Fr.alloc No wr (.cells #[.int .u8 (x : Int), .int .i64 y] 34)).no_trans (Fr.alloc No _ (.cells #[.int .u8 (x : Int), .int .i64 y] 34)))
          clear hpx
          go_wp2
          have hD := blk_no (Fr.alloc No _ (.cells #[.int .u8 (x : Int), .int .i64 y] 34)) (heap_alloc_new wr (.cells #[.int .u8 (x : Int), .int .i64 y] 34))
          obtain ⟨D, hDD⟩ : ∃ D, wr.heap.size = D := ⟨_, rfl⟩
          have hbD : b < D := by have := HBB.out.1; omega
          rw [hDD] at hD ⊢
          clear hDD
          generalize (wr.alloc (.cells #[.int .u8 (x : Int), .int .i64 y] 34)).alloc (.cells #[.int .u8 (x : Int), .int .i64 y] 34) = wd at *
          have HDW : Hid (∀ W, Fr No wd W → W.cell? ⟨D, 1, none⟩ = some (.int .i64 y)) := fun W hW => (blk_cell (blk_no hW hD) 1).trans (by simp)
          have d1 := HDW.out wd (Fr.refl No wd)
          have dd := HDW.out wd.drew (Fr.drew No wd)
          have hst3 := HST.out
          have hw1 : IntKind.i64.wrap (st - y) = st - y := IntWalk.i64_in _ (by omega)
          clear hD hst3
          go_region_held3 (fun W => W.cell? ⟨D, 1, none⟩ = some (.int .i64 y))
            (first | exact d5 | exact dd | exact d1)
            (first
              | (go_at_call 31; refine (hS.out _ (HWD.out.no_trans (Fr.drew No wd))).mono ?_; rintro e w5 ⟨rfl, hf, hg⟩; have HF5 := Lib.hid hf; have d5 := HDW.out w5 ((Fr.drew No wd).no_trans hg); clear hf hg))
          obtain ⟨q, hq⟩ : ∃ q, (if st - y < r2 then st - y else r2) = q := ⟨_, rfl⟩
          rw [hq]
          have hq2 : q = min r2 (st - y) ∧ 0 ≤ q ∧ q ≤ r2 ∧ y + q ≤ 16 := by
            have := HST.out
            rw [← hq]
            split <;> omega
          have hst3 := HLEFT.out
          have hmb := HMB.out
          have hw2 : IntKind.i64.wrap (y + q) = y + q := IntWalk.i64_in _ (by omega)
          have hw3 : IntKind.i64.wrap (r2 - q) = r2 - q := IntWalk.i64_in _ (by omega)
          have HQ := Lib.hid hq2
          obtain ⟨z0, z1, f0, f1, hset⟩ := HSET.out w5 HF5.out
          have HS5 := Lib.hid (hset i (y + q))
          clear hst3 hmb hq hq2 hset d1 dd d5 hw1 c0 c1
          go_wp2_with fail
          go_roundw
          case rel => exact ⟨k + 1, by omega, by go_num, by rw [HE.out, HQ.out.1], by rw [HE.out, ← HQ.out.1]; exact HS5.out, (HF.out.then_no HF5.out).trans ((Fr.setCell (F := Bk (some ⟨b, 0, none⟩)) w5 ⟨b, k * 2, none⟩ _ ⟨_, rfl, rfl⟩).trans (Fr.setCell (F := Bk (some ⟨b, 0, none⟩)) _ ⟨b, k * 2 + 1, none⟩ _ ⟨_, rfl, rfl⟩) (fun _ _ e => e)) (fun _ _ e => e), by have h := (blk_no HF5.out HPR.out); rw [heap_other _ _ _ _ (fun e => HPA.out ⟨_, rfl, e⟩), heap_other _ _ _ _ (fun e => HPA.out ⟨_, rfl, e⟩)]; exact h⟩
          case measure => simp [intOf]; omega
        · have e1 : ((x : Int) == (i : Int)) = false := by
            rw [beq_eq_false_iff_ne]
            intro e
            exact hpx (by simp; omega)
          have HE := Lib.hid (show fillL (fun a => a == i) i st (l.take (k + 1)) m = (r1 ++ [(x, y)], r2) by rw [HSTEP.out]; unfold fillS; rw [if_neg (fun h => hpx h.2)])
          clear hpx
          go_wp2
          go_roundw
          case rel => exact ⟨k + 1, by omega, by go_num, by rw [HE.out], by rw [HE.out]; exact HK.out.no ((Fr.alloc No _ _).no_trans (Fr.alloc No _ _)), HF.out.then_no ((Fr.alloc No _ _).no_trans (Fr.alloc No _ _)), blk_no ((Fr.alloc No _ _).no_trans (Fr.alloc No _ _)) HPR.out⟩
          case measure => simp [intOf]; omega
      · have HE := Lib.hid (show fillL (fun a => a == i) i st (l.take (k + 1)) m = (r1 ++ [(x, y)], r2) by rw [HSTEP.out]; unfold fillS; rw [if_neg (fun h => hr0 h.1)])
        go_wp2_with fail
        go_roundw
        case rel => exact ⟨k + 1, by omega, by go_num, by rw [HE.out], by rw [HE.out]; exact HK.out.no (Fr.alloc No _ _), HF.out.then_no (Fr.alloc No _ _), blk_no (Fr.alloc No _ _) HPR.out⟩
        case measure => simp [intOf]; omega
    · have hkn : k = n := by omega
      subst hkn
      rw [List.take_of_length_le (by rw [HLN.out]; exact Nat.le_refl _), List.drop_eq_nil_of_le (by rw [HLN.out]; exact Nat.le_refl _), List.append_nil] at HO
      have e : l.take k = l := List.take_of_length_le (by rw [HLN.out]; exact Nat.le_refl _)
      rw [e]
      clear e
      go_wp2_with fail
      go_ret
      exact ⟨rfl, HO.out, HF.out⟩
set_option maxRecDepth 100000 in
set_option maxHeartbeats 4000000 in
/-- fill, with the closure number 2. -/
theorem fill2_any (ht : ItT w) (hA : ∀ b, A = some b → 0 ≠ b.block) (ho : OwS lo w (.slice A n c) l) {i : Nat} (hi : i < 256) {st : Int} (hst : stI i = st) (hs16 : st ≤ 16) (hby : By l) (hp : ∀ s ∈ l, (fun a => a == 0) s.1 = true → 0 ≤ s.2 ∧ s.2 ≤ st) (hn : n ≤ 100000) {m : Int} (h0 : 0 ≤ m) (hm : m ≤ 9223372036854775807) :
    Calls Tryd.prog 39 #[.slice A n c, .int .u8 (i : Int), .int .i64 m, .func (.func 41) #[] #[]] w fun e w' => e = .returned (.int .i64 (fillL (fun a => a == 0) i st l m).2) ∧ OwS lo w' (.slice A n c) (fillL (fun a => a == 0) i st l m).1 ∧ Fr (Bk A) w w' := by
  have hl : l.length = n := ho.rd.1
  have hst0 : 0 ≤ st := by
    rw [← hst]
    by_cases h : i < 13
    · have : ∀ j : Fin 13, 0 ≤ stI j.val := by decide
      exact this ⟨i, h⟩
    · unfold stI
      rw [List.getD_eq_getElem?_getD, List.getElem?_eq_none (by simp; omega)]
      decide
  have HLN := Lib.hid hl
  have HOW := Lib.hid ho
  have HT := Lib.hid (fun W (hW : Fr (Bk A) w W) => (fun j hj => by
    have e : ∀ k, W.cell? ⟨0, k, none⟩ = w.cell? ⟨0, k, none⟩ := fun k => hW.cell ht.pos (fun ⟨b, hb, e⟩ => hA b hb e.symm)
    rw [e, e, e, e]
    exact ht j hj : ItT W))
  have HST := Lib.hid (And.intro hst (And.intro hst0 hs16))
  have HP := Lib.hid hp
  have HBY := Lib.hid hby
  have HMB := Lib.hid (And.intro h0 hm)
  clear ht hA ho hby hp h0 hm hst hst0 hs16 hl
  go_enter Tryd.func39, Tryd.ntmps39
  go_wp2_with fail
  go_loopw [2, 14] (fun v2 v14 wr => ∃ k : Nat, k ≤ n ∧ v14 = .int .i64 (k : Int) ∧ v2 = .int .i64 (fillL (fun a => a == 0) i st (l.take k) m).2 ∧ OwS lo wr (.slice A n c) ((fillL (fun a => a == 0) i st (l.take k) m).1 ++ l.drop k) ∧ Fr (Bk A) w wr) (fun _ v14 _ => n - (intOf v14).toNat)
  case atStart => exact ⟨0, by omega, rfl, rfl, by simpa [fillL] using HOW.out, Fr.refl _ _⟩
  case round =>
    obtain ⟨k, hk, rfl, rfl, ho, hf⟩ := hrel
    have HF := Lib.hid hf
    have HO := Lib.hid ho
    clear ho hf
    by_cases hlt : k < n
    · have hkl : k < l.length := by rw [HLN.out]; exact hlt
      have hwk : IntKind.i64.wrap ((k : Int) + 1) = ((k + 1 : Nat) : Int) := by
        rw [show ((k : Int) + 1) = ((k + 1 : Nat) : Int) by omega]
        exact IntWalk.i64_in _ (by omega)
      have hleft := fillL_left (l := l.take k) (p := fun a => a == 0) (i := i) (st := st) HMB.out.1 (fun s hs h => HP.out s (List.mem_of_mem_take hs) h)
      have hlen := fillL_len (p := fun a => a == 0) (i := i) (st := st) (l.take k) m
      have hstep := fillL_step (p := fun a => a == 0) (i := i) (st := st) (n := m) k hkl
      have hps := HP.out l[k] (List.getElem_mem hkl)
      obtain ⟨r, hr⟩ : ∃ r, fillL (fun a => a == 0) i st (l.take k) m = r := ⟨_, rfl⟩
      rw [hr] at hleft hlen hstep HO ⊢
      obtain ⟨r1, r2⟩ := r
      dsimp only at hleft hlen HO ⊢
      have hlen' : r1.length = k := by rw [hlen, List.length_take]; omega
      have hkr : k < (r1 ++ l.drop k).length := by rw [List.length_append, List.length_drop]; omega
      obtain ⟨b, hAb, hlob, hbw, _, _, c0, c1, _⟩ := HO.out.set k hkr
      have hmid := getElem_mid l r1 k hkl hlen'
      rw [hmid] at c0 c1
      subst hAb
      have HSET : Hid (∀ W, Fr No wr W → W.frozen? ⟨b, k * 2, none⟩ = false ∧ W.frozen? ⟨b, k * 2 + 1, none⟩ = false ∧ W.cell? ⟨b, k * 2, none⟩ = some (.int .u8 (l[k].1 : Int)) ∧ W.cell? ⟨b, k * 2 + 1, none⟩ = some (.int .i64 l[k].2) ∧ ∀ (x : Nat) (y : Int), OwS lo ((W.setCell ⟨b, k * 2, none⟩ (.int .u8 (x : Int))).setCell ⟨b, k * 2 + 1, none⟩ (.int .i64 y)) (.slice (some ⟨b, 0, none⟩) n c) ((r1 ++ [(x, y)]) ++ l.drop (k + 1))) := fun W hW => by
        obtain ⟨b', e, _, _, z0, z1, d0, d1, hs⟩ := (HO.out.no hW).set k hkr
        injection e with e
        injection e with e _
        subst e
        rw [hmid] at d0 d1
        refine ⟨z0, z1, d0, d1, fun x y => ?_⟩
        have := hs x y
        rw [set_mid l r1 k hkl hlen'] at this
        exact this
      have hkeep : OwS lo wr (.slice (some ⟨b, 0, none⟩) n c) ((r1 ++ [l[k]]) ++ l.drop (k + 1)) := by
        rw [← keep_mid l r1 k hkl]
        exact HO.out
      have HK := Lib.hid hkeep
      have HBB := Lib.hid (And.intro hbw hlob)
      have HSTEP := Lib.hid hstep
      have HPS := Lib.hid hps
      have HLEFT := Lib.hid hleft
      have hx256 := HBY.out.at k hkl
      clear hr hlen hlen' hkr hmid hkeep HO hstep hbw hlob hps hleft
      obtain ⟨s, hs⟩ : ∃ s, l[k] = s := ⟨_, rfl⟩
      rw [hs] at HK HSTEP HPS HSET c0 c1 hx256
      clear hs
      obtain ⟨x, y⟩ := s
      dsimp only at HPS HSET c0 c1 hx256
      have hS : Hid (∀ W, Fr No wr W → Calls Tryd.prog 31 #[.int .u8 (i : Int)] W fun e w' => e = .returned (.int .i64 st) ∧ Fr No wr w' ∧ Fr No W w') := stack_w (HT.out wr HF.out) hi HST.out.1
      by_cases hr0 : 0 < r2
      · by_cases hpx : (fun a => a == 0) x = true
        · have e1 : ((x : Int) == 0) = true := by
            have : (fun a => a == 0) x = true := hpx
            simp at this
            simp [this]
          have hlast := HPS.out hpx
          have HE := Lib.hid (show fillL (fun a => a == 0) i st (l.take (k + 1)) m = (r1 ++ [(i, y + min r2 (st - y))], r2 - min r2 (st - y)) by rw [HSTEP.out]; unfold fillS; rw [if_pos ⟨hr0, hpx⟩])
          have HWD := Lib.hid ((Fr.alloc No wr (.cells #[.int .u8 (x : Int), .int .i64 y] 34)).no_trans (Fr.alloc No _ (.cells #[.int .u8 (x : Int), .int .i64 y] 34)))
          clear hpx
          go_wp2
          have hD := blk_no (Fr.alloc No _ (.cells #[.int .u8 (x : Int), .int .i64 y] 34)) (heap_alloc_new wr (.cells #[.int .u8 (x : Int), .int .i64 y] 34))
          obtain ⟨D, hDD⟩ : ∃ D, wr.heap.size = D := ⟨_, rfl⟩
          have hbD : b < D := by have := HBB.out.1; omega
          rw [hDD] at hD ⊢
          clear hDD
          generalize (wr.alloc (.cells #[.int .u8 (x : Int), .int .i64 y] 34)).alloc (.cells #[.int .u8 (x : Int), .int .i64 y] 34) = wd at *
          have HDW : Hid (∀ W, Fr No wd W → W.cell? ⟨D, 1, none⟩ = some (.int .i64 y)) := fun W hW => (blk_cell (blk_no hW hD) 1).trans (by simp)
          have d1 := HDW.out wd (Fr.refl No wd)
          have dd := HDW.out wd.drew (Fr.drew No wd)
          have hst3 := HST.out
          have hw1 : IntKind.i64.wrap (st - y) = st - y := IntWalk.i64_in _ (by omega)
          clear hD hst3
          go_region_held3 (fun W => W.cell? ⟨D, 1, none⟩ = some (.int .i64 y))
            (first | exact d5 | exact dd | exact d1)
            (first
              | (go_at_call 31; refine (hS.out _ (HWD.out.no_trans (Fr.drew No wd))).mono ?_; rintro e w5 ⟨rfl, hf, hg⟩; have HF5 := Lib.hid hf; have d5 := HDW.out w5 ((Fr.drew No wd).no_trans hg); clear hf hg))
          obtain ⟨q, hq⟩ : ∃ q, (if st - y < r2 then st - y else r2) = q := ⟨_, rfl⟩
          rw [hq]
          have hq2 : q = min r2 (st - y) ∧ 0 ≤ q ∧ q ≤ r2 ∧ y + q ≤ 16 := by
            have := HST.out
            rw [← hq]
            split <;> omega
          have hst3 := HLEFT.out
          have hmb := HMB.out
          have hw2 : IntKind.i64.wrap (y + q) = y + q := IntWalk.i64_in _ (by omega)
          have hw3 : IntKind.i64.wrap (r2 - q) = r2 - q := IntWalk.i64_in _ (by omega)
          have HQ := Lib.hid hq2
          obtain ⟨z0, z1, f0, f1, hset⟩ := HSET.out w5 HF5.out
          have HS5 := Lib.hid (hset i (y + q))
          clear hst3 hmb hq hq2 hset d1 dd d5 hw1 c0 c1
          go_wp2_with fail
          go_roundw
          case rel => exact ⟨k + 1, by omega, by go_num, by rw [HE.out, HQ.out.1], by rw [HE.out, ← HQ.out.1]; exact HS5.out, (HF.out.then_no HF5.out).trans ((Fr.setCell (F := Bk (some ⟨b, 0, none⟩)) w5 ⟨b, k * 2, none⟩ _ ⟨_, rfl, rfl⟩).trans (Fr.setCell (F := Bk (some ⟨b, 0, none⟩)) _ ⟨b, k * 2 + 1, none⟩ _ ⟨_, rfl, rfl⟩) (fun _ _ e => e)) (fun _ _ e => e)⟩
          case measure => simp [intOf]; omega
        · have e1 : ((x : Int) == 0) = false := by
            rw [beq_eq_false_iff_ne]
            intro e
            exact hpx (by simp; omega)
          have HE := Lib.hid (show fillL (fun a => a == 0) i st (l.take (k + 1)) m = (r1 ++ [(x, y)], r2) by rw [HSTEP.out]; unfold fillS; rw [if_neg (fun h => hpx h.2)])
          clear hpx
          go_wp2
          go_roundw
          case rel => exact ⟨k + 1, by omega, by go_num, by rw [HE.out], by rw [HE.out]; exact HK.out.no ((Fr.alloc No _ _).no_trans (Fr.alloc No _ _)), HF.out.then_no ((Fr.alloc No _ _).no_trans (Fr.alloc No _ _))⟩
          case measure => simp [intOf]; omega
      · have HE := Lib.hid (show fillL (fun a => a == 0) i st (l.take (k + 1)) m = (r1 ++ [(x, y)], r2) by rw [HSTEP.out]; unfold fillS; rw [if_neg (fun h => hr0 h.1)])
        go_wp2_with fail
        go_roundw
        case rel => exact ⟨k + 1, by omega, by go_num, by rw [HE.out], by rw [HE.out]; exact HK.out.no (Fr.alloc No _ _), HF.out.then_no (Fr.alloc No _ _)⟩
        case measure => simp [intOf]; omega
    · have hkn : k = n := by omega
      subst hkn
      rw [List.take_of_length_le (by rw [HLN.out]; exact Nat.le_refl _), List.drop_eq_nil_of_le (by rw [HLN.out]; exact Nat.le_refl _), List.append_nil] at HO
      have e : l.take k = l := List.take_of_length_le (by rw [HLN.out]; exact Nat.le_refl _)
      rw [e]
      clear e
      go_wp2_with fail
      go_ret
      exact ⟨rfl, HO.out, HF.out⟩
end
end Go.Proofs.YtmallcjhccbgdaaDoor

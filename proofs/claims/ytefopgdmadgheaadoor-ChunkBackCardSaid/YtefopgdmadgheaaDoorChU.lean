/-
  Bytes of any chunk. No statement of the seat is proved here.
-/
import Derived.Test.YtefopgdmadgheaaDoorChT
namespace Go.Proofs.YtefopgdmadgheaaDoor
open Go.RowKit Go.Deep

theorem flat_len {α : Type} (f : α → List UInt8) (m : Nat) : ∀ l : List α, (∀ x ∈ l, (f x).length ≤ m) → (l.flatMap f).length ≤ m * l.length
  | [], _ => by simp
  | x :: l, h => by
    have h1 := h x (List.mem_cons_self)
    have h2 := flat_len f m l (fun y hy => h y (List.mem_cons_of_mem _ hy))
    rw [List.flatMap_cons, List.length_append, List.length_cons, Nat.mul_add]
    omega
theorem flat_step {α : Type} (f : α → List UInt8) (l : List α) (k : Nat) (hk : k < l.length) : (l.take (k + 1)).flatMap f = (l.take k).flatMap f ++ f l[k] := by
  rw [List.take_add_one, List.getElem?_eq_getElem hk, List.flatMap_append]
  simp
theorem slB_len {s : Nat × Int} (h1 : s.1 < 256) (h2 : s.2.toNat < 2 ^ 64) : (slB s).length ≤ 20 := by
  unfold slB
  have := varint_len_ten (show s.1 < 2 ^ 64 by omega)
  have := varint_len_ten h2
  rw [List.length_append]
  omega
theorem some_lt {s : Nat × Int} (h : someC s = true) : 1 ≤ s.2 ∧ s.2 ≤ 16 := by
  unfold someC at h
  simp at h
  have h16 : ∀ i, stI i ≤ 16 := fun i => by
    unfold stI
    rw [List.getD_eq_getElem?_getD]
    by_cases hi : i < 13
    · match i, hi with
      | 0, _ => decide
      | 1, _ => decide
      | 2, _ => decide
      | 3, _ => decide
      | 4, _ => decide
      | 5, _ => decide
      | 6, _ => decide
      | 7, _ => decide
      | 8, _ => decide
      | 9, _ => decide
      | 10, _ => decide
      | 11, _ => decide
      | 12, _ => decide
    · rw [List.getElem?_eq_none (by simpa using hi)]
      decide
  have := h16 s.1
  omega
theorem hpC_lt {h : Hp} (hh : hpC h = true) : 0 ≤ h.1 ∧ h.1 < 64 ∧ 1 ≤ h.2.2 ∧ h.2.2 ≤ 16 := by
  unfold hpC plcC at hh
  simp at hh
  have := some_lt hh.2
  exact ⟨hh.1.1, hh.1.2, this.1, this.2⟩
theorem rgt_lt {l : List (Nat × Int)} (h : rgt l = true) : ∀ s ∈ l, 0 ≤ s.2 ∧ s.2 ≤ 16 := fun s hs => by
  unfold rgt at h
  rw [List.all_eq_true] at h
  have := h s hs
  unfold wrg at this
  by_cases h0 : s.1 = 0 ∧ s.2 = 0
  · omega
  · have e : (s.1 == 0 && s.2 == 0) = false := by
      rw [Bool.eq_false_iff]
      intro e
      simp at e
      exact h0 e
    rw [e] at this
    simp at this
    have hs2 : someC s = true := by unfold someC; simp; omega
    have := some_lt hs2
    omega
section
variable {w0 w w' W : World} {T : Nat} {l : List UInt8} {C : Ch}
set_option maxRecDepth 100000 in
/-- One byte put behind. -/
theorem wpList_byte (wr : World) {ops : Array Oper} {rest : List Oper} {o : Oper} {a : Act} {Q : Exit → Act → World → Prop} (hgd : o.guard = none) (s x : Operand)
    (ho : o.op = .call { callee := .builtin .append, args := #[s, x], argTypes := #[31, 31] })
    (h : Bst w0 T l wr) {v : Value} (hv : wr.heap[T]? = some (.cells #[v] 31 (0, 0))) (how : wr.ownsRow w0.heap.size 5 1 v l.length (bvs l)) (hs : a.eval s = v) (i : Nat) (hi : i < 256) {G : Nat} (hG : wr.heap.size = G) (hx : a.eval x = .slice (some ⟨G, 0, none⟩) 1 1) (hlen : l.length ≤ 19000)
    (hk : ∀ A' c' n w', n = l.length + 1 → w'.heap[T]? = some (.cells #[v] 31 (0, 0)) → Bst w0 T (l ++ [UInt8.ofNat i]) (w'.setCell ⟨T, 0, none⟩ (.slice A' n c')) → wpList Tryd.prog ops Q rest (a.put o.dst (.slice A' n c')) w') :
    wpList Tryd.prog ops Q (o :: rest) a (wr.alloc (.cells #[.int .u8 (i : Int)] 5)) := by
  subst hG
  obtain ⟨i0, hi0, hz0, hz1, hz2⟩ := info_parts info_u8
  refine wpList_append_lies _ hgd s x 31 ho w0.heap.size 5 i0 (.int .u8 0) 1 1 Tryd.underlying31 hi0 hz0 hz1 hz2 rfl (by omega) v l.length (bvs l) hs (how.alloc _) ⟨wr.heap.size, 0, none⟩ 1 1 [.int .u8 (i : Int)] hx rfl (cell_new _ _ _) (one_new _) (by omega) (by unfold maxLen; omega) (by omega) (by have := h.fr.size; simp; omega) (wr.heap.size + 1) (by simp) ?_
  intro g cap w1 hown' hgrow hat _
  have hown2 := own_snoc (x := UInt8.ofNat i) (by rw [toNat_ofNat_lt hi]) hown'
  have hg2 : wr.grownBy w1 v.ownBlock := grown_trans (World.grownBy_alloc wr (.cells #[.int .u8 (i : Int)] 5) v.ownBlock) hgrow (Or.inl rfl)
  obtain ⟨h1, h2, _⟩ := h.put hv how hown2 hg2
  exact hk _ _ _ w1 rfl h1 h2
set_option maxRecDepth 100000 in
theorem bytes_no (ht : ItT w) (h : InC w C) (hr : rgtC C.ck = false) : Calls Tryd.prog 7 #[C.val] w fun e w' => e = .returned (.tuple #[.slice none 0 0, .int .i64 101]) ∧ Fr No w w' := by
  have HRT : Hid (∀ W, Fr No w W → Calls Tryd.prog 9 #[C.val] W fun e w' => e = .returned (.bool false) ∧ Fr No W w') := Lib.hid (fun W hW => by
    have := cright_any (ht.no hW) (h.no hW).rd h.bt h.sm h.cap
    rw [hr] at this
    exact this)
  clear ht h hr
  obtain ⟨x, y, A1, n1, c1, cs, A2, n2, c2, hps, A3, n3, c3, bs⟩ := C
  dsimp only [Ch.val] at *
  have HF0 := Lib.hid (Fr.alloc No w (.cells #[.int .i64 x, .int .i64 y, .slice A1 n1 c1, .slice A2 n2 c2, .slice A3 n3 c3] 26))
  go_enter Tryd.func7, Tryd.ntmps7
  go_wp2_with (refine (HRT.out _ HF0.out).mono ?_; rintro e w1 ⟨rfl, hf⟩; have HF1 := Lib.hid hf; clear hf)
  refine bodyPost_ret (results_tmp2 rfl _ _ _) rfl ?_
  exact ⟨rfl, HF0.out.no_trans HF1.out⟩
/-- What Bytes leaves of a right chunk. -/
def BytP (w : World) (d : Ck) (e : Ending) (w' : World) : Prop := ∃ A n c, e = .returned (.tuple #[.slice A n c, .int .i64 0]) ∧ n = (ckB d).length ∧ w'.ownsRow w.heap.size 5 1 (.slice A n c) (ckB d).length (bvs (ckB d)) ∧ Fr No w w'
set_option maxRecDepth 100000 in
set_option maxHeartbeats 6400000 in
theorem bytes_ok (ht : ItT w) (h : InC w C) (hr : rgtC C.ck = true) : Calls Tryd.prog 7 #[C.val] w (BytP w C.ck) := by
  have r := rgt_iff.1 hr
  have HRT : Hid (∀ W, Fr No w W → Calls Tryd.prog 9 #[C.val] W fun e w' => e = .returned (.bool true) ∧ Fr No W w') := Lib.hid (fun W hW => by
    have := cright_any (ht.no hW) (h.no hW).rd h.bt h.sm h.cap
    rw [hr] at this
    exact this)
  have HX := Lib.hid (fun W (hW : Fr No w W) => h.rd.no hW)
  have HR := Lib.hid r
  have HBT := Lib.hid h.bt
  have HSM := Lib.hid (h.small r)
  have HL1 := Lib.hid h.rd.r1.1
  have HL2 := Lib.hid h.rd.r2.1
  have HL3 := Lib.hid h.rd.r3.1
  clear ht h hr r
  obtain ⟨x, y, A1, n1, c1, cs, A2, n2, c2, hps, A3, n3, c3, bs⟩ := C
  dsimp only [Ch.val, Ch.ck] at *
  have hx0 : 0 ≤ x := HR.out.x0
  have hx1 : x < 16 := HR.out.x1
  have hy0 : 0 ≤ y := HR.out.y0
  have hy1 : y < 16 := HR.out.y1
  obtain ⟨xn, rfl⟩ := Int.eq_ofNat_of_zero_le hx0
  obtain ⟨yn, rfl⟩ := Int.eq_ofNat_of_zero_le hy0
  have hb1 := heap_alloc_new w (.cells #[.int .i64 (xn : Int), .int .i64 (yn : Int), .slice A1 n1 c1, .slice A2 n2 c2, .slice A3 n3 c3] 26)
  have HF0 := Lib.hid (Fr.alloc No w (.cells #[.int .i64 (xn : Int), .int .i64 (yn : Int), .slice A1 n1 c1, .slice A2 n2 c2, .slice A3 n3 c3] 26))
  go_enter Tryd.func7, Tryd.ntmps7
  go_upto_region 1 with fail
  obtain ⟨D, hD⟩ : ∃ D, w.heap.size = D := ⟨_, rfl⟩
  rw [hD] at hb1 ⊢
  generalize w.alloc (.cells #[.int .i64 (xn : Int), .int .i64 (yn : Int), .slice A1 n1 c1, .slice A2 n2 c2, .slice A3 n3 c3] 26) = w1 at *
  have HB1 := Lib.hid hb1
  obtain ⟨g0, g1, g2, g3, g4⟩ := cells5 hb1
  clear hb1
  go_wp2_with fail
  refine (HRT.out _ HF0.out).mono ?_
  rintro e w2 ⟨rfl, hf⟩
  have HF2 := Lib.hid (HF0.out.no_trans hf)
  have hb2 := blk_no hf HB1.out
  clear g0 g1 g2 g3 g4 HRT hf
  obtain ⟨T, hTT⟩ : ∃ T, w2.heap.size = T := ⟨_, rfl⟩
  have hT := heap_alloc_new w2 (.cells #[.slice none 0 0] 31)
  have hV := heap_alloc_new (w2.alloc (.cells #[.slice none 0 0] 31)) (.cells #[Value.nilFunc] 60)
  have f3 := Fr.alloc No w2 (.cells #[.slice none 0 0] 31)
  have f4 := Fr.alloc No (w2.alloc (.cells #[.slice none 0 0] 31)) (.cells #[Value.nilFunc] 60)
  rw [World.size_alloc, hTT] at hV
  rw [hTT] at hT
  replace hT := blk_no f4 hT
  have hb0 := blk_no (f3.no_trans f4) hb2
  have hDT : D < T := by rw [← hTT]; exact (Array.getElem?_eq_some_iff.1 hb2).1
  have hTw : w.heap.size ≤ T := by rw [← hTT]; exact HF2.out.size
  have HFV := Lib.hid (HF2.out.no_trans (f3.no_trans f4))
  go_upto_region 6 with fail
  obtain ⟨wv, hwv⟩ : ∃ wv, (w2.alloc (.cells #[.slice none 0 0] 31)).alloc (.cells #[Value.nilFunc] 60) = wv := ⟨_, rfl⟩
  rw [hwv] at hT hV hb0 HFV ⊢
  have hst : (store ⟨T + 1, 0, none⟩ (.func (.func 20) #[] #[.pointer (some ⟨T, 0, none⟩)])).run Tryd.prog wv = .ok () (wv.setCell ⟨T + 1, 0, none⟩ (.func (.func 20) #[] #[.pointer (some ⟨T, 0, none⟩)])) := by
    rw [run_store Tryd.prog wv _ _ _ rfl, (blk_cell hV 0).trans (by simp : _ = some Value.nilFunc)]
    simp [blk_free hV]
  rw [hst]
  have qV : Fr (fun i => i = T + 1) wv (wv.setCell ⟨T + 1, 0, none⟩ (.func (.func 20) #[] #[.pointer (some ⟨T, 0, none⟩)])) := Fr.setCell _ _ _ rfl
  have hV0 : (wv.setCell ⟨T + 1, 0, none⟩ (.func (.func 20) #[] #[.pointer (some ⟨T, 0, none⟩)])).heap[T + 1]? = some (.cells #[.func (.func 20) #[] #[.pointer (some ⟨T, 0, none⟩)]] 60 (0, 0)) := by
    rw [heap_cells_set _ (T + 1) 0 _ _ _ hV]
    rfl
  have hT0 := qV.blk hT (fun (e : T = T + 1) => by omega)
  have hbD := qV.blk hb0 (fun (e : D = T + 1) => by omega)
  have HFW := Lib.hid (HFV.out.then_new qV (fun i hi => by have e : i = T + 1 := hi; omega))
  clear hT hV f3 f4 hb0 hb2 qV hst hwv HB1 hTT HF2 HFV
  generalize wv.setCell ⟨T + 1, 0, none⟩ (.func (.func 20) #[] #[.pointer (some ⟨T, 0, none⟩)]) = w0 at *
  -- the bytes at first, and what stays
  have HB : Hid (Bst w0 T [] w0) := Lib.hid ⟨⟨_, hT0, World.ownsRow_nil _ _ _ _⟩, Fr.refl _ _⟩
  have HKEEP : Hid (∀ W l, Bst w0 T l W → W.heap[D]? = some (.cells #[.int .i64 (xn : Int), .int .i64 (yn : Int), .slice A1 n1 c1, .slice A2 n2 c2, .slice A3 n3 c3] 26 (0, 0)) ∧ W.heap[T + 1]? = some (.cells #[.func (.func 20) #[] #[.pointer (some ⟨T, 0, none⟩)]] 60 (0, 0)) ∧ Fr No w W) := Lib.hid (fun W l hB => ⟨hB.fr.blk hbD (fun (e : D = T) => by omega), hB.fr.blk hV0 (fun (e : T + 1 = T) => by omega), HFW.out.then_new hB.fr (fun i hi => by have e : i = T := hi; omega)⟩)
  clear hT0 hbD hV0
  have HLX := Lib.hid (varint_len_ten (show xn < 2 ^ 64 by omega))
  have HLY := Lib.hid (varint_len_ten (show yn < 2 ^ 64 by omega))
  obtain ⟨hd, hv, -⟩ := HKEEP.out _ _ HB.out
  obtain ⟨g0, g1, g2, g3, g4⟩ := cells5 hd
  have gV := (blk_cell hv 0).trans (by simp : _ = some (.func (.func 20) #[] #[.pointer (some ⟨T, 0, none⟩)]))
  clear hd hv
  go_wp2_with fail
  refine (number_any HB.out xn (by omega) (by simp)).mono ?_
  rintro e w3 ⟨rfl, hB, -⟩
  rw [List.nil_append] at hB
  have HB1 := Lib.hid hB
  clear hB HB g0 g1 g2 g3 g4 gV
  obtain ⟨hd, hv, -⟩ := HKEEP.out _ _ HB1.out
  obtain ⟨g0, g1, g2, g3, g4⟩ := cells5 hd
  have gV := (blk_cell hv 0).trans (by simp : _ = some (.func (.func 20) #[] #[.pointer (some ⟨T, 0, none⟩)]))
  clear hd hv
  go_wp2_with fail
  refine (number_any HB1.out yn (by omega) (by have := HLX.out; omega)).mono ?_
  rintro e w4 ⟨rfl, hB, -⟩
  have HB2 := Lib.hid hB
  clear hB HB1 g0 g1 g2 g3 g4 gV
  obtain ⟨hd, hv, -⟩ := HKEEP.out _ _ HB2.out
  obtain ⟨g0, g1, g2, g3, g4⟩ := cells5 hd
  have gV := (blk_cell hv 0).trans (by simp : _ = some (.func (.func 20) #[] #[.pointer (some ⟨T, 0, none⟩)]))
  clear hd hv
  go_wp2_with fail
  obtain ⟨P1, hP1⟩ : ∃ P, varint xn ++ varint yn = P := ⟨_, rfl⟩
  have HP1 : Hid (P1.length ≤ 20) := Lib.hid (by rw [← hP1, List.length_append]; have := HLX.out; have := HLY.out; omega)
  rw [hP1] at HB2
  clear g0 g1 g2 g3 g4 gV
  go_loopw [31] (fun v31 wr => ∃ k : Nat, k ≤ n1 ∧ v31 = .int .i64 (k : Int) ∧ Bst w0 T (P1 ++ csB (cs.take k)) wr) (fun v31 _ => n1 - (intOf v31).toNat)
  case atStart => exact ⟨0, by omega, rfl, by simpa [csB] using HB2.out⟩
  case round =>
    obtain ⟨k, hk, rfl, hB⟩ := hrel
    have HBk := Lib.hid hB
    clear hB
    by_cases hlt : k < n1
    · have hkl : k < cs.length := by rw [HL1.out]; exact hlt
      obtain ⟨b, o, rfl, _, hc⟩ := (HX.out wr (HKEEP.out _ _ HBk.out).2.2).r1.2 (show 0 < n1 by omega)
      have x0 : wr.cell? ⟨b, o + k, none⟩ = some (.int .u8 (cs[k] : Int)) := by
        have := hc k hkl
        rw [Nat.mul_one] at this
        exact this
      have hi := HBT.out.b1 _ (List.getElem_mem hkl)
      have hst : csB (cs.take (k + 1)) = csB (cs.take k) ++ [UInt8.ofNat cs[k]] := by
        unfold csB
        rw [List.take_add_one, List.getElem?_eq_getElem hkl, List.map_append]
        rfl
      have hwk : IntKind.i64.wrap ((k : Int) + 1) = ((k + 1 : Nat) : Int) := by
        rw [show ((k : Int) + 1) = ((k + 1 : Nat) : Int) by omega]
        exact IntWalk.i64_in _ (by have := HSM.out.1; omega)
      have hlen : (P1 ++ csB (cs.take k)).length ≤ 19000 := by
        have := HP1.out
        have := HSM.out.1
        unfold csB
        simp
        omega
      obtain ⟨v, hv, ho⟩ := HBk.out.ex
      obtain ⟨A', c', rfl, _⟩ := own_slice ho
      have gT := (blk_cell hv 0).trans (by simp : _ = some (.slice A' (P1 ++ csB (cs.take k)).length c'))
      obtain ⟨L, hL⟩ : ∃ L, (P1 ++ csB (cs.take k)).length = L := ⟨_, rfl⟩
      have HST : Hid (csB (cs.take (k + 1)) = csB (cs.take k) ++ [UInt8.ofNat cs[k]]) := Lib.hid hst
      have HBY := Lib.hid (And.intro hv (And.intro ho (And.intro hlen hi)))
      rw [hL] at gT
      have hv' := hv
      have ho' := ho
      rw [hL] at hv' 
      have HO' : Hid (wr.ownsRow w0.heap.size 5 1 (.slice A' L c') (P1 ++ csB (cs.take k)).length (bvs (P1 ++ csB (cs.take k)))) := Lib.hid (by rw [← hL]; exact ho)
      have HV' := Lib.hid hv'
      clear hc hst hv ho hv' ho' hL
      generalize hci : cs[k] = ci at *
      clear hci
      go_wp2_with (at_builtin; refine wpList_byte wr rfl (.tmp 35) (.tmp 37) rfl HBk.out HV'.out HO'.out rfl ci HBY.out.2.2.2 rfl rfl HBY.out.2.2.1 ?_; intro A2' c2' n' w5 hn' hT5 hB5; have HB5 := Lib.hid hB5; have y0 := (blk_cell hT5 0).trans (by simp : _ = some (.slice A' L c')); have z0 := blk_free hT5 0; clear hT5 hB5 hn')
      go_roundw
      case rel => exact ⟨k + 1, by omega, by go_num, by rw [HST.out, ← List.append_assoc]; exact HB5.out⟩
      case measure => simp [intOf]; omega
    · have hkn : k = n1 := by omega
      subst hkn
      have hB := HBk.out
      rw [List.take_of_length_le (by rw [HL1.out]; exact Nat.le_refl _)] at hB
      obtain ⟨P2, hP2⟩ : ∃ P, P1 ++ csB cs = P := ⟨_, rfl⟩
      have HP2 : Hid (P2.length ≤ 84) := Lib.hid (by rw [← hP2, List.length_append]; have := HP1.out; have := HSM.out.1; unfold csB; rw [List.length_map]; have := HL1.out; omega)
      rw [hP2] at hB
      have HB3 := Lib.hid hB
      clear hB HBk HB2
      obtain ⟨hd, hv, -⟩ := HKEEP.out _ _ HB3.out
      obtain ⟨g0, g1, g2, g3, g4⟩ := cells5 hd
      have gV := (blk_cell hv 0).trans (by simp : _ = some (.func (.func 20) #[] #[.pointer (some ⟨T, 0, none⟩)]))
      clear hd hv
      have hn2 : (n2 : Int) = ((n2 : Nat) : Int) := rfl
      have HLH := Lib.hid (varint_len_ten (show n2 < 2 ^ 64 by have := HSM.out.2.1; omega))
      go_wp2_with fail
      refine (number_any HB3.out n2 (by have := HSM.out.2.1; omega) (by have := HP2.out; omega)).mono ?_
      rintro e w5 ⟨rfl, hB, -⟩
      obtain ⟨P3, hP3⟩ : ∃ P, P2 ++ varint n2 = P := ⟨_, rfl⟩
      have HP3 : Hid (P3.length ≤ 94) := Lib.hid (by rw [← hP3, List.length_append]; have := HP2.out; have := HLH.out; omega)
      rw [hP3] at hB
      have HB4 := Lib.hid hB
      clear hB HB3 hn2 g0 g1 g2 g3 g4 gV
      obtain ⟨hd, hv, -⟩ := HKEEP.out _ _ HB4.out
      obtain ⟨g0, g1, g2, g3, g4⟩ := cells5 hd
      have gV := (blk_cell hv 0).trans (by simp : _ = some (.func (.func 20) #[] #[.pointer (some ⟨T, 0, none⟩)]))
      clear hd hv
      have HHL : Hid (∀ x ∈ hps, (hpB x).length ≤ 30) := Lib.hid (fun x hx => by
        have h1 := hpC_lt (HR.out.hm x hx)
        have h2 := slB_len (s := x.2) (HBT.out.b2 x hx) (by omega)
        have h3 := varint_len_ten (show x.1.toNat < 2 ^ 64 by omega)
        unfold hpB
        rw [List.length_append]
        omega)
      go_wp2_with fail
      clear g0 g1 g2 g3 g4 gV
      go_loopw [48] (fun v48 wr => ∃ k : Nat, k ≤ n2 ∧ v48 = .int .i64 (k : Int) ∧ Bst w0 T (P3 ++ (hps.take k).flatMap hpB) wr) (fun v48 _ => n2 - (intOf v48).toNat)
      case atStart => exact ⟨0, by omega, rfl, by simpa using HB4.out⟩
      case round =>
        obtain ⟨k, hk, rfl, hB⟩ := hrel
        have HBk := Lib.hid hB
        clear hB
        have hn32 := HSM.out.2.1
        by_cases hlt : k < n2
        · have hkl : k < hps.length := by rw [HL2.out]; exact hlt
          obtain ⟨b, o, rfl, _, hc⟩ := (HX.out wr (HKEEP.out _ _ HBk.out).2.2).r2.2 (show 0 < n2 by omega)
          obtain ⟨x0, x1, x2⟩ := hc k hkl
          rw [Addr.add_lit] at x1 x2
          have hi := HBT.out.b2 _ (List.getElem_mem hkl)
          have hlts := hpC_lt (HR.out.hm _ (List.getElem_mem hkl))
          have hst := flat_step hpB hps k hkl
          have hlen : (P3 ++ (hps.take k).flatMap hpB).length ≤ 1054 := by
            have h1 := flat_len hpB 30 (hps.take k) (fun x hx => HHL.out x (List.mem_of_mem_take hx))
            have h2 := HP3.out
            rw [List.length_take] at h1
            rw [List.length_append]
            have : 30 * min k hps.length ≤ 30 * 32 := Nat.mul_le_mul_left 30 (by omega)
            omega
          have hwk : IntKind.i64.wrap ((k : Int) + 1) = ((k + 1 : Nat) : Int) := by
            rw [show ((k : Int) + 1) = ((k + 1 : Nat) : Int) by omega]
            exact IntWalk.i64_in _ (by omega)
          have HST := Lib.hid hst
          have HLN := Lib.hid hlen
          clear hc hst hlen
          obtain ⟨hp, hhp⟩ : ∃ h, hps[k] = h := ⟨_, rfl⟩
          rw [hhp] at x0 x1 x2 hi hlts HST
          clear hhp
          obtain ⟨hcell, hitm, hcnt⟩ := hp
          dsimp only at x0 x1 x2 hi hlts
          obtain ⟨hh1, hh2, hh3, hh4⟩ := hlts
          obtain ⟨cn, rfl⟩ := Int.eq_ofNat_of_zero_le hh1
          obtain ⟨mn, rfl⟩ := Int.eq_ofNat_of_zero_le (show 0 ≤ hcnt by omega)
          have hfa := Fr.alloc No wr (.cells #[.int .i64 (cn : Int), .int .u8 (hitm : Int), .int .i64 (mn : Int)] 63)
          have hE := heap_alloc_new wr (.cells #[.int .i64 (cn : Int), .int .u8 (hitm : Int), .int .i64 (mn : Int)] 63)
          have HBa := Lib.hid (HBk.out.no hfa)
          have hET : wr.heap.size ≠ T := fun e => by
            obtain ⟨v, hv, _⟩ := HBk.out.ex
            have := (Array.getElem?_eq_some_iff.1 hv).1
            omega
          clear hfa
          go_upto_region 17 with fail
          obtain ⟨E, hEE⟩ : ∃ E, wr.heap.size = E := ⟨_, rfl⟩
          rw [hEE] at hE hET ⊢
          clear hEE
          generalize wr.alloc (.cells #[.int .i64 (cn : Int), .int .u8 (hitm : Int), .int .i64 (mn : Int)] 63) = wa at *
          have HEb := Lib.hid hE
          have e0 := (blk_cell hE 0).trans (by simp : _ = some (.int .i64 (cn : Int)))
          clear hE x0 x1 x2
          obtain ⟨hd, hv, -⟩ := HKEEP.out _ _ HBa.out
          obtain ⟨g0, g1, g2, g3, g4⟩ := cells5 hd
          have gV := (blk_cell hv 0).trans (by simp : _ = some (.func (.func 20) #[] #[.pointer (some ⟨T, 0, none⟩)]))
          clear hd hv
          go_wp2_with fail
          refine (number_any HBa.out cn (by omega) (by have := HLN.out; omega)).mono ?_
          rintro e w6 ⟨rfl, hB, hF⟩
          have hE6 := hF.blk HEb.out (NumF.not HEb.out hET (by decide))
          have e1 := (blk_cell hE6 1).trans (by simp : _ = some (.int .u8 (hitm : Int)))
          have e2 := (blk_cell hE6 2).trans (by simp : _ = some (.int .i64 (mn : Int)))
          have HB6 := Lib.hid hB
          clear hB hF hE6 e0 g0 g1 g2 g3 g4 gV
          have hcl := varint_len_ten (show cn < 2 ^ 64 by omega)
          go_wp2_with fail
          refine (slot_any HB6.out (HKEEP.out _ _ HB6.out).2.1 hitm hi mn (by omega) (by rw [List.length_append]; have := HLN.out; omega)).mono ?_
          rintro e w7 ⟨rfl, hB, -⟩
          have HB7 := Lib.hid hB
          clear hB e1 e2 hcl
          go_wp2_with fail
          go_roundw
          case rel =>
            refine ⟨k + 1, by omega, by go_num, ?_⟩
            rw [HST.out, ← List.append_assoc]
            have := HB7.out
            rw [List.append_assoc] at this
            exact this
          case measure => simp [intOf]; omega
        · have hkn : k = n2 := by omega
          subst hkn
          have hB := HBk.out
          rw [List.take_of_length_le (by rw [HL2.out]; exact Nat.le_refl _)] at hB
          have hl4 : (P3 ++ hps.flatMap hpB).length ≤ 1054 := by
            have h1 := flat_len hpB 30 hps HHL.out
            have h2 := HP3.out
            rw [List.length_append]
            have h3 : hps.length ≤ 32 := by rw [HL2.out]; exact hn32
            have : 30 * hps.length ≤ 30 * 32 := Nat.mul_le_mul_left 30 h3
            omega
          obtain ⟨P4, hP4⟩ : ∃ P, P3 ++ hps.flatMap hpB = P := ⟨_, rfl⟩
          rw [hP4] at hB hl4
          have HP4 := Lib.hid hl4
          have HB5 := Lib.hid hB
          clear hB hl4 HBk HB4
          have HBL : Hid (∀ x ∈ bs.map Bx.bp, (bgB x.2).length ≤ 120) := Lib.hid (fun x hx => by
            have h6 := HR.out.br x hx
            have h1 := flat_len slB 20 x.2 (fun s hs => slB_len (HBT.out.b3 x hx s hs) (by have := rgt_lt h6.2 s hs; omega))
            rw [h6.1] at h1
            exact h1)
          obtain ⟨hd, hv, -⟩ := HKEEP.out _ _ HB5.out
          obtain ⟨g0, g1, g2, g3, g4⟩ := cells5 hd
          have gV := (blk_cell hv 0).trans (by simp : _ = some (.func (.func 20) #[] #[.pointer (some ⟨T, 0, none⟩)]))
          clear hd hv
          go_wp2_with fail
          clear g0 g1 g2 g3 g4 gV
          go_loopw [64] (fun v64 wr => ∃ k : Nat, k ≤ n3 ∧ v64 = .int .i64 (k : Int) ∧ Bst w0 T (P4 ++ ((bs.map Bx.bp).take k).flatMap (fun b => bgB b.2)) wr) (fun v64 _ => n3 - (intOf v64).toNat)
          case atStart => exact ⟨0, by omega, rfl, by simpa using HB5.out⟩
          case round =>
            obtain ⟨k3, hk3, rfl, hB⟩ := hrel
            have HBk := Lib.hid hB
            clear hB
            have hn64 := HSM.out.2.2.1
            by_cases hlt3 : k3 < n3
            · have hkl : k3 < bs.length := by rw [HL3.out]; exact hlt3
              obtain ⟨b, o, hA3, _, hc⟩ := (HX.out wr (HKEEP.out _ _ HBk.out).2.2).r3.2 (show 0 < n3 by omega)
              dsimp only at hA3
              subst hA3
              obtain ⟨x0, x1, _⟩ := hc k3 hkl
              rw [Addr.add_lit] at x1
              have hkm : k3 < (bs.map Bx.bp).length := by rw [List.length_map]; exact hkl
              have hgm : (bs.map Bx.bp)[k3] = bs[k3].bp := List.getElem_map _
              have hst := flat_step (fun b : Bp => bgB b.2) (bs.map Bx.bp) k3 hkm
              rw [hgm] at hst
              have HBB : Hid (By bs[k3].l ∧ rgt bs[k3].l = true ∧ bs[k3].l.length = 6 ∧ bs[k3].n = 6) := Lib.hid ⟨HBT.out.b3 _ (List.mem_map_of_mem (List.getElem_mem hkl)), (HR.out.br _ (List.mem_map_of_mem (List.getElem_mem hkl))).2, (HR.out.br _ (List.mem_map_of_mem (List.getElem_mem hkl))).1, HSM.out.2.2.2 _ (List.getElem_mem hkl)⟩
              have HRB : Hid (∀ W, Fr No w W → RdS W bs[k3].A bs[k3].n bs[k3].l) := Lib.hid (fun W hW => by
                obtain ⟨_, _, _, _, hcc⟩ := (HX.out W hW).r3.2 (show 0 < n3 by omega)
                exact (hcc k3 hkl).2.2)
              have hlen : (P4 ++ ((bs.map Bx.bp).take k3).flatMap (fun b => bgB b.2)).length ≤ 8734 := by
                have h1 := flat_len (fun b : Bp => bgB b.2) 120 ((bs.map Bx.bp).take k3) (fun x hx => HBL.out x (List.mem_of_mem_take hx))
                have h2 := HP4.out
                rw [List.length_take] at h1
                rw [List.length_append]
                have : 120 * min k3 (bs.map Bx.bp).length ≤ 120 * 64 := Nat.mul_le_mul_left 120 (by omega)
                omega
              have hwk : IntKind.i64.wrap ((k3 : Int) + 1) = ((k3 + 1 : Nat) : Int) := by
                rw [show ((k3 : Int) + 1) = ((k3 + 1 : Nat) : Int) by omega]
                exact IntWalk.i64_in _ (by omega)
              have HST : Hid (((bs.map Bx.bp).take (k3 + 1)).flatMap (fun b => bgB b.2) = ((bs.map Bx.bp).take k3).flatMap (fun b => bgB b.2) ++ bgB bs[k3].l) := Lib.hid hst
              have HLN := Lib.hid hlen
              clear hc hst hlen hgm hkm
              obtain ⟨bxx, hbx⟩ : ∃ h, bs[k3] = h := ⟨_, rfl⟩
              rw [hbx] at x0 x1 HBB HRB HST
              clear hbx
              obtain ⟨bcl, bA, bn, bcp, bl⟩ := bxx
              dsimp only at x0 x1 HBB HRB HST
              obtain ⟨P5, hP5⟩ : ∃ P, P4 ++ ((bs.map Bx.bp).take k3).flatMap (fun b => bgB b.2) = P := ⟨_, rfl⟩
              rw [hP5] at HBk HLN
              have HS5 := Lib.hid hP5
              have HBa := Lib.hid (HBk.out.no (Fr.alloc No wr (.cells #[.int .i64 bcl, .slice bA bn bcp] 49)))
              have hE := heap_alloc_new wr (.cells #[.int .i64 bcl, .slice bA bn bcp] 49)
              clear hP5
              go_upto_region 23 with fail
              obtain ⟨E, hEE⟩ : ∃ E, wr.heap.size = E := ⟨_, rfl⟩
              rw [hEE] at hE ⊢
              clear hEE
              generalize wr.alloc (.cells #[.int .i64 bcl, .slice bA bn bcp] 49) = wa at *
              have e1 := (blk_cell hE 1).trans (by simp : _ = some (.slice bA bn bcp))
              clear hE x0 x1
              go_wp2_with fail
              clear e1
              go_loopw [71] (fun v71 wr => ∃ j : Nat, j ≤ bn ∧ v71 = .int .i64 (j : Int) ∧ Bst w0 T (P5 ++ (bl.take j).flatMap slB) wr) (fun v71 _ => bn - (intOf v71).toNat)
              case atStart => exact ⟨0, by omega, rfl, by simpa using HBa.out⟩
              case round =>
                obtain ⟨j, hj, rfl, hB⟩ := hrel
                have HBj := Lib.hid hB
                clear hB
                by_cases hltj : j < bn
                · have hjl : j < bl.length := by have := HBB.out.2.2.1; have := HBB.out.2.2.2; omega
                  obtain ⟨b2, o2, hbA, _, hcc⟩ := (HRB.out wr (HKEEP.out _ _ HBj.out).2.2).2 (by omega)
                  subst hbA
                  obtain ⟨x0, x1⟩ := hcc j hjl
                  have hi := HBB.out.1.at j hjl
                  have hlts := rgt_lt HBB.out.2.1 _ (List.getElem_mem hjl)
                  have HSJ := Lib.hid (flat_step slB bl j hjl)
                  have hlen : (P5 ++ (bl.take j).flatMap slB).length ≤ 8854 := by
                    have h1 := flat_len slB 20 (bl.take j) (fun s hs => slB_len (HBB.out.1 s (List.mem_of_mem_take hs)) (by have := rgt_lt HBB.out.2.1 s (List.mem_of_mem_take hs); omega))
                    have h2 := HLN.out
                    have h3 := HBB.out.2.2.1
                    rw [List.length_take] at h1
                    rw [List.length_append]
                    have : 20 * min j bl.length ≤ 20 * 6 := Nat.mul_le_mul_left 20 (by omega)
                    omega
                  have hwj : IntKind.i64.wrap ((j : Int) + 1) = ((j + 1 : Nat) : Int) := by
                    rw [show ((j : Int) + 1) = ((j + 1 : Nat) : Int) by omega]
                    exact IntWalk.i64_in _ (by have := HBB.out.2.2.2; omega)
                  have HLJ := Lib.hid hlen
                  clear hcc hlen
                  obtain ⟨sl, hsl⟩ : ∃ s, bl[j] = s := ⟨_, rfl⟩
                  rw [hsl] at x0 x1 hi hlts HSJ
                  clear hsl
                  obtain ⟨si, sn⟩ := sl
                  dsimp only at x0 x1 hi hlts
                  obtain ⟨mn, rfl⟩ := Int.eq_ofNat_of_zero_le hlts.1
                  have hfa := Fr.alloc No wr (.cells #[.int .u8 (si : Int), .int .i64 (mn : Int)] 29)
                  have hE := heap_alloc_new wr (.cells #[.int .u8 (si : Int), .int .i64 (mn : Int)] 29)
                  have HBs := Lib.hid (HBj.out.no hfa)
                  clear hfa
                  go_upto_region 26 with fail
                  obtain ⟨E3, hE3⟩ : ∃ E, wr.heap.size = E := ⟨_, rfl⟩
                  rw [hE3] at hE ⊢
                  clear hE3
                  generalize wr.alloc (.cells #[.int .u8 (si : Int), .int .i64 (mn : Int)] 29) = ws at *
                  have e0 := (blk_cell hE 0).trans (by simp : _ = some (.int .u8 (si : Int)))
                  have e1 := (blk_cell hE 1).trans (by simp : _ = some (.int .i64 (mn : Int)))
                  clear hE x0 x1
                  go_wp2_with fail
                  refine (slot_any HBs.out (HKEEP.out _ _ HBs.out).2.1 si hi mn (by omega) (by have := HLJ.out; omega)).mono ?_
                  rintro e w7 ⟨rfl, hB, -⟩
                  have HB7 := Lib.hid hB
                  clear hB e0 e1
                  go_wp2_with fail
                  go_roundw
                  case rel => exact ⟨j + 1, by omega, by go_num, by rw [HSJ.out, ← List.append_assoc]; exact HB7.out⟩
                  case measure => simp [intOf]; omega
                · have hjn : j = bn := by omega
                  subst hjn
                  have hB := HBj.out
                  rw [List.take_of_length_le (by have := HBB.out.2.2.1; have := HBB.out.2.2.2; omega)] at hB
                  have HB8 : Hid (Bst w0 T (P4 ++ ((bs.map Bx.bp).take (k3 + 1)).flatMap (fun b => bgB b.2)) wr) := Lib.hid (by
                    rw [HST.out, ← List.append_assoc, HS5.out]
                    exact hB)
                  clear hB
                  go_wp2_with fail
                  go_roundw
                  case rel => exact ⟨k3 + 1, by omega, by go_num, HB8.out⟩
                  case measure => simp [intOf]; omega
            · have hkn : k3 = n3 := by omega
              subst hkn
              have hB := HBk.out
              rw [List.take_of_length_le (by rw [List.length_map, HL3.out]; exact Nat.le_refl _), ← hP4, ← hP3, ← hP2, ← hP1] at hB
              have hall : varint xn ++ varint yn ++ csB cs ++ varint (hps.length) ++ hps.flatMap hpB ++ (bs.map Bx.bp).flatMap (fun b => bgB b.2) = ckB ⟨(xn : Int), (yn : Int), cs, hps, bs.map Bx.bp⟩ := by
                unfold ckB
                simp only [List.append_assoc]
                rfl
              rw [show varint k = varint hps.length by rw [HL2.out], hall] at hB
              have HBF := Lib.hid hB
              obtain ⟨v, hv, ho⟩ := hB.ex
              obtain ⟨A', c', rfl, _⟩ := own_slice ho
              obtain ⟨L, hL⟩ : ∃ L, (ckB ⟨(xn : Int), (yn : Int), cs, hps, bs.map Bx.bp⟩).length = L := ⟨_, rfl⟩
              have HPO : Hid (BytP w ⟨(xn : Int), (yn : Int), cs, hps, bs.map Bx.bp⟩ (.returned (.tuple #[.slice A' L c', .int .i64 0])) wr) := Lib.hid ⟨A', L, c', rfl, hL.symm, by rw [← hL]; exact own_low ho HFW.out.size, (HKEEP.out _ _ HBF.out).2.2⟩
              have gT := (blk_cell hv 0).trans (by simp : _ = some (.slice A' (ckB ⟨(xn : Int), (yn : Int), cs, hps, bs.map Bx.bp⟩).length c'))
              rw [hL] at gT
              clear hv ho hL hB hall hP4 hP3 hP2 hP1
              go_wp2_with fail
              refine bodyPost_ret (results_tmp2 rfl _ _ _) rfl ?_
              exact HPO.out
end
end Go.Proofs.YtefopgdmadgheaaDoor

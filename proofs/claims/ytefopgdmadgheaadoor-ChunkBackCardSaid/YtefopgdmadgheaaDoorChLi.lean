/-
  Lift of any cell of a right chunk. No statement of the seat is proved here.
-/
import Derived.Test.YtefopgdmadgheaaDoorChQ
namespace Go.Proofs.YtefopgdmadgheaaDoor
open Go.RowKit Go.Deep

/-- A chunk less the heaps of a cell; what they had. -/
def liftL (d : Ck) (cell : Int) : Ck := { d with hs := d.hs.filter (fun h => !(h.1 == cell)) }
def liftS (d : Ck) (cell : Int) : List (Nat × Int) := (d.hs.filter (fun h => h.1 == cell)).map Prod.snd
/-- What Lift leaves. -/
def LiftP (w : World) (d : Ck) (l : List (Nat × Int)) (e : Ending) (w' : World) : Prop := ∃ (D : Ch) (A : Option Addr) (n c : Nat), e = .returned (.tuple #[D.val, .slice A n c]) ∧ n = l.length ∧ D.ck = d ∧ OwC w.heap.size w' D ∧ OwS w.heap.size w' (.slice A n c) l ∧ Fr No w w'
section
variable {w w' : World} {lo : Nat} {C : Ch}
set_option maxRecDepth 100000 in
/-- One slot appended to slots of the call's own. -/
theorem wpList_append_l1 (wr : World) {ops : Array Oper} {rest : List Oper} {o : Oper} {a : Act} {Q : Exit → Act → World → Prop} (hgd : o.guard = none) (s x : Operand)
    (ho : o.op = .call { callee := .builtin .append, args := #[s, x], argTypes := #[30, 30] })
    {A : Option Addr} {n c : Nat} {l : List (Nat × Int)} (hs : a.eval s = .slice A n c) (hln : l.length = n) (hown : OwS lo wr (.slice A n c) l) (z : Int) (i : Nat) {G : Nat} (hG : wr.heap.size = G) (hx : a.eval x = .slice (some ⟨G, 0, none⟩) 1 1) (hlen : n ≤ 100000) (hbase : lo ≤ wr.heap.size)
    (h : ∀ A' c' w', OwS lo w' (.slice A' (n + 1) c') (l ++ [(i, z)]) → Fr (fun k => (Value.slice A n c).ownBlock = some k) wr w' → wpList Tryd.prog ops Q rest (a.put o.dst (.slice A' (n + 1) c')) w') :
    wpList Tryd.prog ops Q (o :: rest) a (wr.alloc (.cells #[.int .u8 (i : Int), .int .i64 z] 29)) := by
  subst hG hln
  obtain ⟨i0, hi, hz0, hz1, hz2⟩ := info_parts info_sl
  have hA : (wr.alloc (.cells #[.int .u8 (i : Int), .int .i64 z] 29)).ownsRow lo 29 2 (.slice A l.length c) l.length (slC l) := own_no hown (Fr.alloc No wr (.cells #[.int .u8 (i : Int), .int .i64 z] 29))
  refine wpList_append_lies _ hgd s x 30 ho lo 29 i0 _ 2 16 Tryd.underlying30 hi hz0 hz1 hz2 rfl (by omega) (.slice A l.length c) l.length (slC l) hs hA ⟨wr.heap.size, 0, none⟩ 1 1 [.int .u8 (i : Int), .int .i64 z] hx rfl (fun j u hu => by
    rw [Addr.add_lit, Nat.zero_add, World.cell?_alloc_mark, List.getElem?_toArray]
    exact hu) (fun u hu => by simp at hu; rcases hu with rfl | rfl <;> rfl) (by omega) (by unfold maxLen; omega) (by omega) (by rw [World.size_alloc]; omega) _ rfl ?_
  intro g cap w' ho' hg hat _
  refine h _ _ w' ?_ ((Fr.alloc (fun k => (Value.slice A l.length c).ownBlock = some k) wr _).trans (Fr.grown hg (fun k hk => hk)) (fun _ _ e => e))
  have e : slC (l ++ [(i, z)]) = slC l ++ [.int .u8 (i : Int), .int .i64 z] := by rw [slC_append]; rfl
  unfold OwS
  rw [e, List.length_append]
  exact ho'
set_option maxRecDepth 100000 in
set_option maxHeartbeats 6400000 in
theorem lift_any (ht : ItT w) (h : InC w C) (hr : rgtC C.ck = true) (cell : Int) : Calls Tryd.prog 12 #[C.val, .int .i64 cell] w (LiftP w (liftL C.ck cell) (liftS C.ck cell)) := by
  have r := rgt_iff.1 hr
  obtain ⟨-, hn2, -, -⟩ := h.small r
  have HOW := Lib.hid (fun W (hW : Fr No w W) => own_x (h.no hW) r)
  have HRT : Hid (∀ W, Fr No w W → Calls Tryd.prog 9 #[C.val] W fun e w' => e = .returned (.bool true) ∧ Fr No W w') := Lib.hid (fun W hW => by
    have := cright_any (ht.no hW) (h.no hW).rd h.bt h.sm h.cap
    rw [hr] at this
    exact this)
  have HX2 := Lib.hid (fun W (hW : Fr No w W) => (h.rd.no hW).r2)
  have HL2 := Lib.hid h.rd.r2.1
  have HIB := Lib.hid h.bt.b2
  clear ht h hr r
  obtain ⟨x, y, A1, n1, c1, cs, A2, n2, c2, hps, A3, n3, c3, bs⟩ := C
  dsimp only [Ch.val, Ch.ck] at *
  have hb1 := heap_alloc_new w (.cells #[.int .i64 x, .int .i64 y, .slice A1 n1 c1, .slice A2 n2 c2, .slice A3 n3 c3] 26)
  have f1 := Fr.alloc No w (.cells #[.int .i64 x, .int .i64 y, .slice A1 n1 c1, .slice A2 n2 c2, .slice A3 n3 c3] 26)
  have hb3 := heap_alloc_new (w.alloc (.cells #[.int .i64 x, .int .i64 y, .slice A1 n1 c1, .slice A2 n2 c2, .slice A3 n3 c3] 26)) (.cells #[.int .i64 0, .int .i64 0, .slice none 0 0, .slice none 0 0, .slice none 0 0] 26)
  have f3 := Fr.alloc No (w.alloc (.cells #[.int .i64 x, .int .i64 y, .slice A1 n1 c1, .slice A2 n2 c2, .slice A3 n3 c3] 26)) (.cells #[.int .i64 0, .int .i64 0, .slice none 0 0, .slice none 0 0, .slice none 0 0] 26)
  rw [World.size_alloc] at hb3
  replace hb1 := blk_no f3 hb1
  have HF := Lib.hid (f1.no_trans f3)
  clear f1 f3
  go_enter Tryd.func12, Tryd.ntmps12
  go_upto_region 1 with fail
  obtain ⟨D, hD⟩ : ∃ D, w.heap.size = D := ⟨_, rfl⟩
  rw [hD] at hb1 hb3 ⊢
  generalize (w.alloc (.cells #[.int .i64 x, .int .i64 y, .slice A1 n1 c1, .slice A2 n2 c2, .slice A3 n3 c3] 26)).alloc (.cells #[.int .i64 0, .int .i64 0, .slice none 0 0, .slice none 0 0, .slice none 0 0] 26) = w1 at *
  obtain ⟨g0, g1, g2, g3, g4⟩ := cells5 hb1
  have HB1 := Lib.hid hb1
  have HB3 := Lib.hid hb3
  clear hb1 hb3
  go_wp2_with fail
  refine (HOW.out _ HF.out).mono ?_
  rintro e w2 ⟨B1, d1, B2, d2, B3, d3, bk, rfl, hbp, ho, hf⟩
  have HB3o : Hid (w2.heap[D + 1]? = some (.cells #[.int .i64 0, .int .i64 0, .slice none 0 0, .slice none 0 0, .slice none 0 0] 26 (0, 0))) := Lib.hid (blk_no hf HB3.out)
  have HB1w2 : Hid (w2.heap[D]? = some (.cells #[.int .i64 x, .int .i64 y, .slice A1 n1 c1, .slice A2 n2 c2, .slice A3 n3 c3] 26 (0, 0))) := Lib.hid (blk_no hf HB1.out)
  have HO2 := Lib.hid ho
  have HBP := Lib.hid hbp
  have HF2 := Lib.hid (HF.out.no_trans hf)
  have HF12 := Lib.hid hf
  clear g0 g1 g2 g3 g4 ho hbp hf HOW
  have hb4 := heap_alloc_new w2 (.cells #[.int .i64 x, .int .i64 y, .slice B1 n1 d1, .slice B2 n2 d2, .slice B3 n3 d3] 26)
  have f4 := Fr.alloc No w2 (.cells #[.int .i64 x, .int .i64 y, .slice B1 n1 d1, .slice B2 n2 d2, .slice B3 n3 d3] 26)
  have hb1 := blk_no (HF12.out.no_trans f4) HB1.out
  have hb3 := blk_no (HF12.out.no_trans f4) HB3.out
  have HSZ := Lib.hid (HF2.out.size)
  have HF3 := Lib.hid (HF2.out.no_trans f4)
  have HO3 := Lib.hid ((HO2.out.low HF.out.size).no f4)
  go_upto_region 2 with fail
  obtain ⟨G, hG⟩ : ∃ G, w2.heap.size = G := ⟨_, rfl⟩
  rw [hG] at hb4 ⊢
  generalize w2.alloc (.cells #[.int .i64 x, .int .i64 y, .slice B1 n1 d1, .slice B2 n2 d2, .slice B3 n3 d3] 26) = w3 at *
  clear HB1 HB3 HF12 HO2 f4
  have HB1 := Lib.hid hb1
  have HB3 := Lib.hid hb3
  have HB4 := Lib.hid hb4
  have hGR : D + 1 ≠ G := by
    have h1 := (Array.getElem?_eq_some_iff.1 HB3o.out).1
    omega
  obtain ⟨g0, g1, g2, g3, g4⟩ := cells5 hb1
  clear hb1 hb3 hb4
  go_wp2_with fail
  refine (HRT.out _ HF3.out).mono ?_
  rintro e w4 ⟨rfl, hf⟩
  have HFa := Lib.hid hf
  clear hf g0 g1 g2 g3 g4 HRT
  obtain ⟨k0, k1, k2, k3, k4⟩ := cells5 (blk_no HFa.out HB4.out)
  obtain ⟨y0, y1, y2, y3, y4⟩ := free5 (blk_no HFa.out HB4.out)
  obtain ⟨g0, g1, g2, g3, g4⟩ := cells5 (blk_no HFa.out HB1.out)
  have q5 : Fr (fun i => i = G) w4 (w4.setCell ⟨G, 3, none⟩ (.slice none 0 0)) := Fr.setCell _ _ _ rfl
  have hb4' := heap_cells_set w4 G 3 _ _ (.slice none 0 0) (blk_no HFa.out HB4.out)
  have HB5 : Hid ((w4.setCell ⟨G, 3, none⟩ (.slice none 0 0)).heap[G]? = some (.cells #[.int .i64 x, .int .i64 y, .slice B1 n1 d1, .slice none 0 0, .slice B3 n3 d3] 26 (0, 0))) := Lib.hid hb4'
  have HF5 := Lib.hid ((HFa.out.any (F := fun i => i = G)).trans q5 (fun _ _ e => e))
  clear q5 hb4'
  go_upto_region 6 with fail
  generalize w4.setCell ⟨G, 3, none⟩ (.slice none 0 0) = w5 at *
  clear k0 k1 k2 k3 k4 y0 y1 y2 y3 y4 g0 g1 g2 g3 g4
  have hDG : D ≠ G := fun e => by
    have h1 := (Array.getElem?_eq_some_iff.1 HB1w2.out).1
    omega
  obtain ⟨g0, g1, g2, g3, g4⟩ := cells5 (HF5.out.blk HB1.out hDG)
  go_wp2_with fail
  clear g0 g1 g2 g3 g4
  go_loopw [7, 20] (fun v7 v20 wr => ∃ (k : Nat) (A' : Option Addr) (c' : Nat) (Av : Option Addr) (cv : Nat), k ≤ n2 ∧ v20 = .int .i64 (k : Int) ∧ v7 = .slice Av ((hps.take k).filter (fun h => h.1 == cell)).length cv ∧ OwS w3.heap.size wr (.slice Av ((hps.take k).filter (fun h => h.1 == cell)).length cv) (((hps.take k).filter (fun h => h.1 == cell)).map Prod.snd) ∧
    wr.ownsRow w3.heap.size 63 3 (.slice A' ((hps.take k).filter (fun h => !(h.1 == cell))).length c') ((hps.take k).filter (fun h => !(h.1 == cell))).length (hpL ((hps.take k).filter (fun h => !(h.1 == cell)))) ∧
    wr.heap[G]? = some (.cells #[.int .i64 x, .int .i64 y, .slice B1 n1 d1, .slice A' ((hps.take k).filter (fun h => !(h.1 == cell))).length c', .slice B3 n3 d3] 26 (0, 0)) ∧ Fr (fun i => i = G) w3 wr) (fun _ v20 _ => n2 - (intOf v20).toNat)
  case atStart => exact ⟨0, none, 0, none, 0, by omega, rfl, rfl, OwS.nil _ _, World.ownsRow_nil _ _ _ _, HB5.out, HF5.out⟩
  case round =>
    obtain ⟨k, A', c', Av, cv, hk, rfl, rfl, hos, hoh, hbg, hf⟩ := hrel
    obtain ⟨AvR, hAvR⟩ : ∃ a, a = Av := ⟨_, rfl⟩
    obtain ⟨cvR, hcvR⟩ : ∃ a, a = cv := ⟨_, rfl⟩
    subst hAvR hcvR
    have HOS := Lib.hid hos
    have HOH := Lib.hid hoh
    have HBG := Lib.hid hbg
    have HFr := Lib.hid hf
    have HFW : Hid (Fr No w wr) := Lib.hid (HF3.out.then_new hf (fun i hi => by have e : i = G := hi; rw [e, ← hG]; exact HSZ.out))
    have HSW : Hid (w3.heap.size ≤ wr.heap.size) := Lib.hid hf.size
    clear hos hoh hbg hf
    by_cases hlt : k < n2
    · have hkl : k < hps.length := by have := HL2.out; omega
      obtain ⟨b, o, rfl, _, hc⟩ := (HX2.out wr HFW.out).2 (by omega)
      obtain ⟨z0, z1, z2⟩ := hc k hkl
      rw [Addr.add_lit] at z1 z2
      have hi := HIB.out _ (List.getElem_mem hkl)
      have hst : hps.take (k + 1) = hps.take k ++ [hps[k]] := by rw [List.take_add_one, List.getElem?_eq_getElem hkl]; rfl
      have HST := Lib.hid hst
      have hla := List.length_filter_le (fun h : Hp => h.1 == cell) (hps.take k)
      have hlb := List.length_filter_le (fun h : Hp => !(h.1 == cell)) (hps.take k)
      rw [List.length_take] at hla hlb
      have HLA : Hid (((hps.take k).filter (fun h => h.1 == cell)).length ≤ 100000) := Lib.hid (by omega)
      have HLB : Hid (((hps.take k).filter (fun h => !(h.1 == cell))).length ≤ 100000) := Lib.hid (by omega)
      clear hc hst hla hlb
      obtain ⟨hp, hhp⟩ : ∃ h, hps[k] = h := ⟨_, rfl⟩
      rw [hhp] at z0 z1 z2 hi HST
      clear hhp
      obtain ⟨p, q, s⟩ := hp
      dsimp only at z0 z1 z2 hi
      have hwk : IntKind.i64.wrap ((k : Int) + 1) = ((k + 1 : Nat) : Int) := by
        rw [show ((k : Int) + 1) = ((k + 1 : Nat) : Int) by omega]
        exact IntWalk.i64_in _ (by omega)
      obtain ⟨FA, hFA⟩ : ∃ l, (hps.take k).filter (fun h => h.1 == cell) = l := ⟨_, rfl⟩
      obtain ⟨FB, hFB⟩ : ∃ l, (hps.take k).filter (fun h => !(h.1 == cell)) = l := ⟨_, rfl⟩
      rw [hFA] at HOS HLA ⊢
      rw [hFB] at HOH HBG HLB
      have HFA := Lib.hid hFA
      have HFB := Lib.hid hFB
      clear hFA hFB
      have hfa := Fr.alloc No wr (.cells #[.int .i64 p, .int .u8 (q : Int), .int .i64 s] 63)
      have hbE := heap_alloc_new wr (.cells #[.int .i64 p, .int .u8 (q : Int), .int .i64 s] 63)
      have HOS1 := Lib.hid (OwS.no HOS.out hfa)
      have HOH1 := Lib.hid (own_no HOH.out hfa)
      have HBG1 := Lib.hid (blk_no hfa HBG.out)
      have HFr1 := Lib.hid (HFr.out.then_no hfa)
      have HSW1 := Lib.hid (Nat.le_trans HSW.out hfa.size)
      go_upto_region 9 with fail
      obtain ⟨E, hE⟩ : ∃ E, wr.heap.size = E := ⟨_, rfl⟩
      rw [hE] at hbE ⊢
      generalize wr.alloc (.cells #[.int .i64 p, .int .u8 (q : Int), .int .i64 s] 63) = wa at *
      clear hE hfa HOS HOH HBG HFr HSW HFW z0 z1 z2
      have e0 := (blk_cell hbE 0).trans (by simp : _ = some (.int .i64 p))
      have e1 := (blk_cell hbE 1).trans (by simp : _ = some (.int .u8 (q : Int)))
      have e2 := (blk_cell hbE 2).trans (by simp : _ = some (.int .i64 s))
      obtain ⟨k0, k1, k2, k3, k4⟩ := cells5 HBG1.out
      clear hbE
      by_cases hpc : p = cell
      · have hpe : (p == cell) = true := by simp [hpc]
        have hl1 : ((hps.take (k + 1)).filter (fun h => h.1 == cell)) = FA ++ [(p, q, s)] := by rw [HST.out, List.filter_append, HFA.out]; simp [hpc]
        have hl2 : ((hps.take (k + 1)).filter (fun h => !(h.1 == cell))) = FB := by rw [HST.out, List.filter_append, HFB.out]; simp [hpc]
        have HREL : Hid (∀ A2 c2' w', OwS w3.heap.size w' (.slice A2 (FA.length + 1) c2') (FA.map Prod.snd ++ [(q, s)]) → Fr (fun k => (Value.slice AvR FA.length cvR).ownBlock = some k) wa w' → ∃ (k_1 : Nat) (A' : Option Addr) (c' : Nat) (Av : Option Addr) (cv : Nat), k_1 ≤ n2 ∧ Value.int .i64 ((k + 1 : Nat) : Int) = .int .i64 (k_1 : Int) ∧ Value.slice A2 (FA.length + 1) c2' = .slice Av ((hps.take k_1).filter (fun h => h.1 == cell)).length cv ∧ OwS w3.heap.size w' (.slice Av ((hps.take k_1).filter (fun h => h.1 == cell)).length cv) (((hps.take k_1).filter (fun h => h.1 == cell)).map Prod.snd) ∧
            w'.ownsRow w3.heap.size 63 3 (.slice A' ((hps.take k_1).filter (fun h => !(h.1 == cell))).length c') ((hps.take k_1).filter (fun h => !(h.1 == cell))).length (hpL ((hps.take k_1).filter (fun h => !(h.1 == cell)))) ∧
            w'.heap[G]? = some (.cells #[.int .i64 x, .int .i64 y, .slice B1 n1 d1, .slice A' ((hps.take k_1).filter (fun h => !(h.1 == cell))).length c', .slice B3 n3 d3] 26 (0, 0)) ∧ Fr (fun i => i = G) w3 w') := Lib.hid (fun A2 c2' w' ho hf => by
          have hos : wa.ownsRow w3.heap.size 29 2 (.slice AvR FA.length cvR) (FA.map Prod.snd).length (slC (FA.map Prod.snd)) := HOS1.out
          refine ⟨k + 1, A', c', A2, c2', by omega, rfl, ?_, ?_, ?_, ?_, HFr1.out.then_new hf (fun i hi => (hos.lt i hi).1)⟩
          · rw [hl1, List.length_append]; rfl
          · rw [hl1, List.length_append, List.map_append]; exact ho
          · rw [hl2]; exact own_fr HOH1.out hf (own_apart HOH1.out hos (by decide))
          · rw [hl2]; exact hf.blk HBG1.out (own_not hos HBG1.out (by decide)))
        have HLM : Hid ((FA.map Prod.snd).length = FA.length) := Lib.hid (List.length_map _)
        clear hl1 hl2 hpc
        go_wp2_with (at_builtin; refine wpList_append_l1 (lo := w3.heap.size) wa rfl (.tmp 28) (.tmp 31) rfl rfl HLM.out HOS1.out s q rfl rfl HLA.out HSW1.out ?_; intro A2 c2' w' ho hf; have HRL := Lib.hid (HREL.out A2 c2' w' ho hf); clear ho hf)
        go_roundw
        case rel => exact HRL.out
        case measure => simp [intOf]; omega
      · have hpe : (p == cell) = false := by rw [beq_eq_false_iff_ne]; exact hpc
        have hl1 : ((hps.take (k + 1)).filter (fun h => h.1 == cell)) = FA := by rw [HST.out, List.filter_append, HFA.out]; simp [hpc]
        have hl2 : ((hps.take (k + 1)).filter (fun h => !(h.1 == cell))) = FB ++ [(p, q, s)] := by rw [HST.out, List.filter_append, HFB.out]; simp [hpc]
        have HREL : Hid (∀ A2 c2' w', w'.ownsRow w3.heap.size 63 3 (.slice A2 (FB.length + 1) c2') (FB.length + 1) (hpL FB ++ [.int .i64 p, .int .u8 (q : Int), .int .i64 s]) → Fr (fun k => (Value.slice A' FB.length c').ownBlock = some k) wa w' → w'.heap[G]? = some (.cells #[.int .i64 x, .int .i64 y, .slice B1 n1 d1, .slice A' FB.length c', .slice B3 n3 d3] 26 (0, 0)) ∧ ∃ (k_1 : Nat) (A' : Option Addr) (c' : Nat) (Av : Option Addr) (cv' : Nat), k_1 ≤ n2 ∧ Value.int .i64 ((k + 1 : Nat) : Int) = .int .i64 (k_1 : Int) ∧ Value.slice AvR FA.length cvR = .slice Av ((hps.take k_1).filter (fun h => h.1 == cell)).length cv' ∧ OwS w3.heap.size (w'.setCell ⟨G, 3, none⟩ (.slice A2 (FB.length + 1) c2')) (.slice Av ((hps.take k_1).filter (fun h => h.1 == cell)).length cv') (((hps.take k_1).filter (fun h => h.1 == cell)).map Prod.snd) ∧
            (w'.setCell ⟨G, 3, none⟩ (.slice A2 (FB.length + 1) c2')).ownsRow w3.heap.size 63 3 (.slice A' ((hps.take k_1).filter (fun h => !(h.1 == cell))).length c') ((hps.take k_1).filter (fun h => !(h.1 == cell))).length (hpL ((hps.take k_1).filter (fun h => !(h.1 == cell)))) ∧
            (w'.setCell ⟨G, 3, none⟩ (.slice A2 (FB.length + 1) c2')).heap[G]? = some (.cells #[.int .i64 x, .int .i64 y, .slice B1 n1 d1, .slice A' ((hps.take k_1).filter (fun h => !(h.1 == cell))).length c', .slice B3 n3 d3] 26 (0, 0)) ∧ Fr (fun i => i = G) w3 (w'.setCell ⟨G, 3, none⟩ (.slice A2 (FB.length + 1) c2'))) := Lib.hid (fun A2 c2' w' ho hf => by
          have hos : wa.ownsRow w3.heap.size 29 2 (.slice AvR FA.length cvR) (FA.map Prod.snd).length (slC (FA.map Prod.snd)) := HOS1.out
          have hg := hf.blk HBG1.out (own_not HOH1.out HBG1.out (by decide))
          have q : Fr (fun i => i = G) w' (w'.setCell ⟨G, 3, none⟩ (.slice A2 (FB.length + 1) c2')) := Fr.setCell _ _ _ rfl
          have hos' := own_fr hos hf (own_apart hos HOH1.out (by decide))
          refine ⟨hg, k + 1, A2, c2', AvR, cvR, by omega, rfl, ?_, ?_, ?_, ?_, (HFr1.out.then_new hf (fun i hi => (HOH1.out.lt i hi).1)).trans q (fun _ _ e => e)⟩
          · rw [hl1]
          · rw [hl1]; exact own_fr hos' q (fun i hi e => own_not hos' hg (by decide) (by rw [e] at hi; exact hi))
          · rw [hl2, hpL_append, List.length_append]; exact own_fr ho q (fun i hi e => own_not ho hg (by decide) (by rw [e] at hi; exact hi))
          · rw [hl2, List.length_append, heap_cells_set _ G 3 _ _ _ hg]; rfl)
        clear hl1 hl2 hpc
        go_wp2_with (at_builtin; refine wpList_append_h1 (lo := w3.heap.size) wa rfl (.tmp 34) (.tmp 36) rfl rfl HOH1.out p s q rfl rfl HLB.out HSW1.out ?_; intro A2 c2' w' ho hf; obtain ⟨hg, hrl⟩ := HREL.out A2 c2' w' ho hf; have HRL := Lib.hid hrl; have m3 := (cells5 hg).2.2.2.1; have n3' := (free5 hg).2.2.2.1; clear ho hf hg hrl)
        go_roundw
        case rel => exact HRL.out
        case measure => simp [intOf]; omega
    · have hkn : k = n2 := by omega
      subst hkn
      have hlk : hps.take k = hps := List.take_of_length_le (by rw [HL2.out]; exact Nat.le_refl _)
      rw [hlk] at HOS HOH HBG ⊢
      obtain ⟨k0, k1, k2, k3, k4⟩ := cells5 HBG.out
      have hR := HFr.out.blk HB3.out hGR
      obtain ⟨r0, r1, r2, r3, r4⟩ := cells5 hR
      obtain ⟨z0, z1, z2, z3, z4⟩ := free5 hR
      have ap : ∀ {e : TypeId} {size m lo' : Nat} {v : Value} {L : List Value}, e ≠ 26 → w3.ownsRow lo' e size v m L → ∀ q, v.ownBlock = some q → ¬ q = G := fun hne h' q hq e => own_not h' HB4.out hne (by rw [e] at hq; exact hq)
      have hoc : OwC w.heap.size wr ⟨x, y, B1, n1, d1, cs, A', (hps.filter (fun h => !(h.1 == cell))).length, c', hps.filter (fun h => !(h.1 == cell)), B3, n3, d3, bk⟩ := ⟨own_fr HO3.out.o1 HFr.out (ap (by decide) HO3.out.o1), own_low HOH.out HF3.out.size, own_fr HO3.out.o3 HFr.out (ap (by decide) HO3.out.o3), fun b hb => ⟨(HO3.out.o4 b hb).1, own_fr (HO3.out.o4 b hb).2 HFr.out (ap (by decide) (HO3.out.o4 b hb).2)⟩⟩
      have HFI := Lib.hid (And.intro (hoc.at_ hR (set5_fr wr (D + 1) (.int .i64 x) (.int .i64 y) (.slice B1 n1 d1) (.slice A' (hps.filter (fun h => !(h.1 == cell))).length c') (.slice B3 n3 d3))) (And.intro (set5_heap hR (.int .i64 x) (.int .i64 y) (.slice B1 n1 d1) (.slice A' (hps.filter (fun h => !(h.1 == cell))).length c') (.slice B3 n3 d3)) (And.intro (HFW.out.then_new (set5_fr wr (D + 1) (.int .i64 x) (.int .i64 y) (.slice B1 n1 d1) (.slice A' (hps.filter (fun h => !(h.1 == cell))).length c') (.slice B3 n3 d3)) (fun i hi => by have e : i = D + 1 := hi; rw [e, hD]; omega)) (own_fr (own_low HOS.out HF3.out.size) (set5_fr wr (D + 1) (.int .i64 x) (.int .i64 y) (.slice B1 n1 d1) (.slice A' (hps.filter (fun h => !(h.1 == cell))).length c') (.slice B3 n3 d3)) (fun i hi e => own_not HOS.out hR (by decide) (by rw [e] at hi; exact hi))))))
      clear hR hoc hlk
      obtain ⟨NA, hNA⟩ : ∃ n, (hps.filter (fun h => h.1 == cell)).length = n := ⟨_, rfl⟩
      obtain ⟨NB, hNB⟩ : ∃ n, (hps.filter (fun h => !(h.1 == cell))).length = n := ⟨_, rfl⟩
      have HNA : Hid (NA = (liftS ⟨x, y, cs, hps, bs.map Bx.bp⟩ cell).length) := Lib.hid (by rw [← hNA]; exact (List.length_map _).symm)
      rw [hNA] at HFI ⊢
      rw [hNB] at HFI k3
      clear hNA hNB
      go_wp2_with fail
      refine bodyPost_ret (results_cell_tmp_rowC (p := 4) rfl _ _ (D + 1) 26 #[.int .i64 x, .int .i64 y, .slice B1 n1 d1, .slice A' NB c', .slice B3 n3 d3] (0, 0) _ rfl HFI.out.2.1 Tryd.underlying26 rfl (by kernel_rfl)) rfl ?_
      refine ⟨⟨x, y, B1, n1, d1, cs, A', NB, c', hps.filter (fun h => !(h.1 == cell)), B3, n3, d3, bk⟩, AvR, NA, cvR, rfl, HNA.out, ?_, HFI.out.1, HFI.out.2.2.2, HFI.out.2.2.1⟩
      show Ck.mk x y cs (hps.filter (fun h => !(h.1 == cell))) (bk.map Bx.bp) = Ck.mk x y cs (hps.filter (fun h => !(h.1 == cell))) (bs.map Bx.bp)
      rw [HBP.out]
end
end Go.Proofs.YtefopgdmadgheaaDoor

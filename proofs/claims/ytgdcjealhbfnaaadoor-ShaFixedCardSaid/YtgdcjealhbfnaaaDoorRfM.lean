/-
  The contract of the document's Of. No statement of the seat is proved here.
-/
import Derived.Test.YtgdcjealhbfnaaaDoorRfL
import Derived.Test.YtgdcjealhbfnaaaDoorRfF
import Derived.Test.YtgdcjealhbfnaaaDoorRfI
import Derived.Deep.AppendLies
namespace Go.Proofs.YtgdcjealhbfnaaaDoor
open Go.RowKit

/-- The words at first, of which so many are laid. -/
def frZ (i : Nat) : List (BitVec 32) := seats0.take i ++ List.replicate (8 - i) 0
theorem frZ_length (i : Nat) (h : i ≤ 8) : (frZ i).length = 8 := by
  have : seats0.length = 8 := rfl
  simp [frZ]; omega
theorem frZ_set (i : Nat) (h : i < 8) : (frZ i).set i (seats0.getD i 0) = frZ (i + 1) := by
  have hl : seats0.length = 8 := rfl
  unfold frZ
  rw [show 8 - i = (8 - (i + 1)) + 1 by omega, List.replicate_succ, List.set_append_right _ _ (by simp; omega), List.length_take, Nat.min_eq_left (by omega), Nat.sub_self, List.set_cons_zero, List.take_succ_eq_append_getElem (by omega), List.append_assoc, List.getD_eq_getElem?_getD, List.getElem?_eq_getElem (by omega)]
  rfl
theorem frZ_start : frZ 0 = zw 8 := rfl
theorem frZ_end : frZ 8 = seats0 := rfl
theorem wcs_toList (l : List (BitVec 32)) : (wcs l).toList = l.map u32v := by simp [wcs]
theorem words_oneCell (l : List (BitVec 32)) : ∀ u ∈ l.map u32v, u.oneCell' = true := by
  intro u hu
  simp only [List.mem_map] at hu
  obtain ⟨x, _, rfl⟩ := hu
  rfl
/-- Words of the call's own, in memory from block B on. -/
def Ow (w : World) (B g c : Nat) (l : List (BitVec 32)) : Prop := w.ownsRow B 29 1 (.slice (some ⟨g, 0, none⟩) l.length c) l.length (l.map u32v)
theorem Ow.ge {w : World} {B g c : Nat} {l : List (BitVec 32)} (h : Ow w B g c l) : B ≤ g ∧ g < w.heap.size := World.ownsRow.lt h g rfl
theorem Ow.arr {w : World} {B g c : Nat} {l : List (BitVec 32)} (h : Ow w B g c l) : ∃ cur, Arr w g 29 cur ∧ cur.toList.take l.length = l.map u32v ∧ cur.size = c ∧ l.length ≤ c := by
  rcases h.2 with ⟨hv, _⟩ | ⟨g', cap, cur, hv, _, hh, h1, _, hs, ht⟩
  · cases hv
  · injection hv with e1 e2 e3
    injection e1 with e1
    injection e1 with e1
    subst e1 e3
    rw [Nat.mul_one] at hs ht
    exact ⟨cur, hh, ht, hs, h1⟩
theorem Ow.cell {w : World} {B g c : Nat} {l : List (BitVec 32)} (h : Ow w B g c l) (j : Nat) (hj : j < l.length) : w.cell? ⟨g, j, none⟩ = some (.int .u32 ((l.getD j 0).toNat : Int)) := by
  obtain ⟨cur, ha, ht, _, _⟩ := h.arr
  rw [ha.cell j, ← Array.getElem?_toList]
  have : (cur.toList.take l.length)[j]? = cur.toList[j]? := by rw [List.getElem?_take, if_pos hj]
  rw [← this, ht, List.getElem?_map, List.getD_eq_getElem?_getD, List.getElem?_eq_getElem hj]
  rfl
theorem Ow.frozen {w : World} {B g c : Nat} {l : List (BitVec 32)} (h : Ow w B g c l) (j : Nat) : w.frozen? ⟨g, j, none⟩ = false := by
  obtain ⟨cur, ha, _⟩ := h.arr
  exact ha.frozen j
theorem Ow.drewN {w : World} {B g c : Nat} {l : List (BitVec 32)} (h : Ow w B g c l) (n : Nat) : Ow (w.drewN n) B g c l := h
theorem Ow.set {w : World} {B g c : Nat} {l : List (BitVec 32)} (h : Ow w B g c l) (j : Nat) (x : BitVec 32) : Ow (w.setCell ⟨g, j, none⟩ (u32v x)) B g c (l.set j x) := by
  obtain ⟨cur, ha, ht, hs, hc⟩ := h.arr
  have hmx : c ≤ maxLen := by
    rcases h.2 with ⟨hv, _⟩ | ⟨g', cap, cur, hv, _, hh, h1, h2, _⟩
    · cases hv
    · injection hv with e1 e2 e3
      subst e3
      exact h2
  refine ⟨by simp, .inr ⟨g, c, cur.setIfInBounds j (u32v x), by simp, h.ge.1, ha.set j _, by simpa using hc, hmx, by simpa using hs, ?_⟩⟩
  rw [Array.toList_setIfInBounds, Nat.mul_one, List.length_set, List.take_set, ht, List.map_set]
theorem Ow.of {w : World} {B : Nat} {v : Value} {n : Nat} {l : List (BitVec 32)} (h : w.ownsRow B 29 1 v n (l.map u32v)) (hn : l.length = n) (h0 : 0 < n) : ∃ g c, v = .slice (some ⟨g, 0, none⟩) n c ∧ n ≤ c ∧ Ow w B g c l := by
  subst hn
  obtain ⟨g, c, hv, hc, _, _⟩ := own_shape_pos h h0
  subst hv
  exact ⟨g, c, rfl, hc, h⟩

set_option maxRecDepth 100000 in
/-- Words appended to words of the call's own. -/
theorem wpList_append_w (w : World) {ops : Array Oper} {rest : List Oper} {o : Oper} {a : Act} {Q : Exit → Act → World → Prop} (hgd : o.guard = none) (s x : Operand)
    (ho : o.op = .call { callee := .builtin .append, args := #[s, x], argTypes := #[36, 36] })
    (B : Nat) (v : Value) (n : Nat) (xs : List Value) (hs : a.eval s = v) (hown : w.ownsRow B 29 1 v n xs) (ad : Addr) (m c : Nat) (l : List (BitVec 32)) (hx : a.eval x = .slice (some ad) m c) (hl : l.length = m)
    (hnews : ∀ j u, (l.map u32v)[j]? = some u → w.cell? (ad.add j) = some u) (hm : 0 < m) (h63 : n + m ≤ 100000) (hbase : B ≤ w.heap.size)
    (h : ∀ g cap w', w'.ownsRow B 29 1 (.slice (some ⟨g, 0, none⟩) (n + m) cap) (n + m) (xs ++ l.map u32v) → w.grownBy w' v.ownBlock → wpList Tryd.prog ops Q rest (a.put o.dst (.slice (some ⟨g, 0, none⟩) (n + m) cap)) w') : wpList Tryd.prog ops Q (o :: rest) a w := by
  obtain ⟨iW, hiW, hzW0, hzW1, hzW2⟩ := info_parts info_u32
  exact wpList_append_lies w hgd s x 36 ho B 29 iW (.int .u32 0) 1 4 Tryd.underlying36 hiW hzW0 hzW1 hzW2 rfl (by omega) v n xs hs hown ad m c (l.map u32v) hx (by rw [List.length_map, hl, Nat.mul_one]) hnews (words_oneCell _) hm (by unfold maxLen; omega) (by omega) hbase _ rfl
    (fun g cap w' h1 h2 _ _ => h g cap w' h1 h2)
set_option maxRecDepth 100000 in
theorem rx_eq (a4 a5 a6 a7 cw wk : BitVec 32) : (((a7.toNat : Int) + bits .xor .u32 (bits .xor .u32 ((rotr a4 6).toNat : Int) ((rotr a4 11).toNat : Int)) ((rotr a4 25).toNat : Int) + (cw.toNat : Int) + (wk.toNat : Int)) % 4294967296 + ((chv a4 a5 a6).toNat : Int)) % 4294967296 = ((stX a4 a5 a6 a7 cw wk).toNat : Int) := by
  rw [xor3_words]
  unfold stX sR
  rw [← add_mod _ (chv a4 a5 a6), ← add_mod _ wk, ← add_mod _ cw, ← add_mod a7]
  generalize ((chv a4 a5 a6).toNat : Int) = z
  generalize ((rotr a4 6 ^^^ rotr a4 11 ^^^ rotr a4 25).toNat : Int) = y
  generalize (a7.toNat : Int) = a
  generalize (cw.toNat : Int) = b
  generalize (wk.toNat : Int) = d
  omega
set_option maxRecDepth 100000 in
theorem ry_eq (a0 a1 a2 : BitVec 32) : (bits .xor .u32 (bits .xor .u32 ((rotr a0 2).toNat : Int) ((rotr a0 13).toNat : Int)) ((rotr a0 22).toNat : Int) + ((majv a0 a1 a2).toNat : Int)) % 4294967296 = ((stY a0 a1 a2).toNat : Int) := by
  rw [xor3_words]
  unfold stY sR
  rw [← add_mod]
theorem own_one (w : World) (B : Nat) (z : Int) (hB : B ≤ w.heap.size) : (w.alloc (.cells #[.int .u32 z] 29)).ownsRow B 29 1 (.slice (some ⟨w.heap.size, 0, none⟩) 1 1) 1 [.int .u32 z] :=
  ⟨rfl, .inr ⟨w.heap.size, 1, #[.int .u32 z], rfl, hB, heap_alloc_new w _, Nat.le_refl _, by unfold maxLen; omega, rfl, rfl⟩⟩
set_option maxRecDepth 100000 in
theorem pre7 (g c : Nat) (hc : 8 ≤ c) (W : World) : (Instr.slice 36 (.slice (some ⟨g, 0, none⟩) 8 c) none (some (.int .i64 7)) none).run Tryd.prog W = .ok (.slice (some ⟨g, 0, none⟩) 7 c) W := by
  obtain ⟨i0, hi0, hz0, hz1, hz2⟩ := info_parts info_u32
  rw [run_slice_h W 36 (some ⟨g, 0, none⟩) 8 c Tryd.underlying36 .i64 7 (by omega) (by omega)]
  have he : Tryd.prog.elem 36 = 29 := by simp [Program.elem, Tryd.underlying36]
  rw [he]
  simp [sizeOf, typeInfo, hi0, hz1, sliced, Addr.add_lit]

set_option maxRecDepth 100000 in
/-- The new words of a step: one ahead of the first seven. -/
theorem wpList_step_w (w0 W : World) {ops : Array Oper} {rest : List Oper} {o : Oper} {a : Act} {Q : Exit → Act → World → Prop} (hgd : o.guard = none) (s x : Operand)
    (ho : o.op = .call { callee := .builtin .append, args := #[s, x], argTypes := #[36, 36] })
    (B g c : Nat) (z : Int) (y a0 a1 a2 a3 a4 a5 a6 a7 : BitVec 32) (hz : Hid (z = (y.toNat : Int))) (hb : Below B w0 W) (hB : B ≤ w0.heap.size) (hO : Ow W B g c [a0, a1, a2, a3, a4, a5, a6, a7])
    (hs : a.eval s = .slice (some ⟨W.heap.size, 0, none⟩) 1 1) (hx : a.eval x = .slice (some ⟨g, 0, none⟩) 7 c)
    (h : ∀ g2 c2 W4, 8 ≤ c2 → Hid (Ow W4 B g2 c2 [y, a0, a1, a2, a3, a4, a5, a6]) → Below B w0 W4 → W4.cell? ⟨g2, 4, none⟩ = some (.int .u32 (a3.toNat : Int)) → W4.frozen? ⟨g2, 4, none⟩ = false →
      wpList Tryd.prog ops Q rest (a.put o.dst (.slice (some ⟨g2, 0, none⟩) 8 c2)) W4) :
    wpList Tryd.prog ops Q (o :: rest) a (W.alloc (.cells #[.int .u32 z] 29)) := by
  have hzB := hb.size
  have H1 := own_one W B z (by omega)
  have hnw : ∀ k u, ([a0, a1, a2, a3, a4, a5, a6].map u32v)[k]? = some u → (W.alloc (.cells #[.int .u32 z] 29)).cell? ((⟨g, 0, none⟩ : Addr).add k) = some u := fun k u hu => by
    rw [Addr.add_lit, Nat.zero_add, World.cell?_alloc_lt _ _ _ (by show g < _; exact hO.ge.2)]
    have hk : k < 7 := by have := (List.getElem?_eq_some_iff.1 hu).1; simpa using this
    rw [hO.cell k (by show k < 8; omega), ← hu]
    match k, hk with
    | 0, _ => rfl
    | 1, _ => rfl
    | 2, _ => rfl
    | 3, _ => rfl
    | 4, _ => rfl
    | 5, _ => rfl
    | 6, _ => rfl
  refine wpList_append_w _ hgd s x ho B _ 1 _ hs H1 ⟨g, 0, none⟩ 7 c [a0, a1, a2, a3, a4, a5, a6] hx rfl hnw (by omega) (by omega) (by rw [World.size_alloc]; omega) ?_
  intro g2 c2 W4 hown hgrow
  have hO4 : Ow W4 B g2 c2 [y, a0, a1, a2, a3, a4, a5, a6] := by
    rw [hz.out] at hown
    exact hown
  have hb4 : Below B w0 W4 := (hb.alloc (by omega) _).grown hgrow (by rw [World.size_alloc]; omega) (fun k hk => (H1.lt k hk).1)
  refine h g2 c2 W4 ?_ hO4 hb4 (hO4.cell 4 (by show 4 < 8; omega)) (hO4.frozen 4)
  obtain ⟨_, _, _, _, h⟩ := hO4.arr
  exact h

set_option maxHeartbeats 3200000 in
set_option maxRecDepth 100000 in
theorem rof_any (A : Option Addr) (n c : Nat) (l : List UInt8) (w : World) (h : Rd w w.heap.size A n l) (hn : n ≤ 90000) :
    Calls Tryd.prog 6 #[.slice A n c] w fun e w' => e = .returned (.agg (bcs (sha l))) ∧ Below w.heap.size w w' := by
  have hmk := fun W => make_words 8 (by omega) 8 rfl W
  have HLN := Lib.hid h.len
  obtain ⟨w0, hw0⟩ : ∃ w0, w.alloc (.cells (bcs (List.replicate 32 0)) 23) = w0 := ⟨_, rfl⟩
  have hB0 : Below w.heap.size w w0 := by rw [← hw0]; exact (Below.refl _ _).alloc (Nat.le_refl _) _
  have hwM : w.heap.size < w0.heap.size := by rw [← hw0]; simp
  have HA0 := Lib.hid (show Arr w0 w.heap.size 23 (bcs (List.replicate 32 0)) by rw [← hw0]; exact Arr.new _ _ _)
  have HM := message_any A n c l w0 ((h.below hB0).more hB0.size) (by omega)
  rw [← hw0] at HM
  have HM := Lib.hid HM
  rw [hw0] at HM
  have HW0 := Lib.hid hw0
  clear h hw0
  go_enter Tryd.func6, Tryd.ntmps6
  go_wp2_with fail
  have HM2 := HM.out
  rw [← HW0.out] at HM2
  refine HM2.mono ?_
  rw [HW0.out]
  clear HM2
  rintro e w1 ⟨N, hN, rfl, hM, hb1⟩
  have hMB : w0.heap.size < w1.heap.size := hM.lt
  have hA1 := HA0.out.below hb1 hwM
  have hB1 : Below w.heap.size w w1 := hB0.trans (hb1.mono hB0.size)
  clear HM HW0 HA0 hb1 hB0
  have HM1 := Lib.hid hM
  have HA1 := Lib.hid hA1
  clear hM hA1
  generalize w0.heap.size = M at *
  have HSH := Lib.hid (sha_padded l)
  obtain ⟨nb, HNB⟩ : ∃ nb, Hid ((padded l).length / 64 = nb ∧ N = 64 * nb) := ⟨_, rfl, by rw [hN]; have := padded_blocks l; omega⟩
  have hNle : N ≤ 100000 := by rw [hN, padded_length]; have := padN_lt l.length; rw [HLN.out] at *; omega
  have HSH2 : Hid (sha l = seatB (absorb nb seats0 (padded l))) := by show _ = _; rw [HSH.out, HNB.out.1]
  have HNP := Lib.hid hN
  have HNE : Hid (N = 64 * nb) := HNB.out.2
  clear HSH HNB hN
  generalize padded l = P at *
  obtain ⟨S, hS⟩ : ∃ S, w1.heap.size = S := ⟨_, rfl⟩
  have hB2 : Below S w1 (w1.alloc (.cells (wcs (zw 8)) 29)) := (Below.refl _ _).alloc (by rw [hS]; exact Nat.le_refl _) _
  have hA2 : Arr (w1.alloc (.cells (wcs (zw 8)) 29)) S 29 (wcs (frZ 0)) := by rw [frZ_start]; exact Arr.newAt _ _ _ _ hS.symm
  have HA2 := Lib.hid hA2
  clear hA2
  go_wp2_with fail
  go_loopw [5] (fun i wr => ∃ k : Nat, k ≤ 8 ∧ i = .int .i64 (k : Int) ∧ Hid (Arr wr S 29 (wcs (frZ k))) ∧ Below S w1 wr) (fun i _ => 8 - (intOf i).toNat)
  case atStart => exact ⟨0, by omega, rfl, HA2, hB2⟩
  case round =>
    clear HA2 hB2
    obtain ⟨i, hi, rfl, HW, hbr⟩ := hrel
    by_cases hlt : i < 8
    · have HL := Lib.hid (frZ_length i hi)
      have hdst := (HW.out.cell i).trans (wcs_at _ i (by rw [HL.out]; exact hlt))
      have hfz := HW.out.frozen i
      have HNX := Lib.hid (show Arr (wr.setCell ⟨S, i, none⟩ (.int .u32 ((seats0.getD i 0).toNat : Int))) S 29 (wcs (frZ (i + 1))) by
        rw [← frZ_set i hlt, ← wcs_set]
        exact HW.out.set i _)
      have C := fun (s : ByteArray) (h : s.data.toList = dsQ.map hexDigit) => square_any s h i wr hlt
      generalize seats0.getD i 0 = x at *
      go_wp2_with (go_at_call 17; refine (C _ (by decide +kernel)).mono ?_; rintro e w' ⟨rfl, rfl⟩)
      go_roundw
      case rel => exact ⟨i + 1, by omega, by go_num, HNX, hbr.setCell (Nat.le_refl _) _⟩
      case measure => simp [intOf]; omega
    · have hge : decide ((i : Int) < 8) = false := by simp; omega
      have HFX := Lib.hid (show Arr wr S 29 (wcs (absorb 0 seats0 P)) by
        have := HW.out
        rw [show i = 8 by omega, frZ_end] at this
        exact this)
      clear HW
      go_wp2_with fail
      have hzS : ∀ wr, Below S w1 wr → S ≤ wr.heap.size := fun wr hb => by have := hb.size; omega
      have HZS := Lib.hid hzS
      have hMS : M < S := by omega
      clear hzS hS hge
      go_loopw [6] (fun u wr => ∃ p j : Nat, Hid (p = 64 * j) ∧ p ≤ N ∧ u = .int .i64 (p : Int) ∧ Hid (Arr wr S 29 (wcs (absorb j seats0 P))) ∧ Below S w1 wr) (fun u _ => N - (intOf u).toNat)
      case atStart => exact ⟨0, 0, rfl, by omega, rfl, HFX, hbr⟩
      case round =>
        clear HFX hbr
        obtain ⟨p, j, HP, hpN, rfl, HW, hbr⟩ := hrel
        by_cases hlt : p < N
        · have hp64 : p + 64 ≤ N := by have := HP.out; have := HNE.out; omega
          have HLJ := Lib.hid (absorb_length j seats0 P)
          have HNXT := Lib.hid (absorb_snoc j seats0 P)
          have hRd := (HM1.out.below hbr hMS).rd 0 N (by rw [Nat.zero_add]; exact HNP.out)
          rw [List.drop_zero] at hRd
          obtain ⟨A', c', hsl, hrd, hc'⟩ := cut_rule ((p : Int) + 64) (p := p) (hi := p + 64) (by omega) hRd (Nat.le_refl N) (by omega) hp64
          rw [show p + 64 - p = 64 by omega] at hsl hrd hc'
          rw [← HP.out] at HNXT
          have HQ := Lib.hid hrd.len
          obtain ⟨b', o', rfl, hb', hcell'⟩ := hrd.2 (by omega)
          generalize (P.drop p).take 64 = q at *
          generalize absorb j seats0 P = sj at *
          have C1 := Lib.hid (rolled_any b' o' c' q wr (by have := HZS.out wr hbr; omega) HQ.out (fun k hk => by
            rw [List.getD_eq_getElem?_getD, List.getElem?_eq_getElem (by rw [HQ.out]; exact hk)]
            exact hcell' k (by rw [HQ.out]; exact hk)))
          clear hcell' hrd hRd
          go_wp2_with fail
          refine C1.out.mono ?_
          rintro e w3 ⟨rfl, hR, hb3⟩
          have hSr := HZS.out wr hbr
          have hHS3 : Arr w3 S 29 (wcs sj) := HW.out.below hb3 HW.out.lt
          have hB3 : Below S w1 w3 := hbr.trans (hb3.mono hSr)
          have hR3 := hR.lt
          have HR := Lib.hid hR
          have HS3 := Lib.hid hHS3
          have HLW := Lib.hid (rollW_length q 64)
          have HWK := Lib.hid (work_now sj q HLJ.out)
          have HLJ8 : Unit → sj.length = 8 := fun _ => HLJ.out
          clear hR hHS3 HW C1 hb3 hbr
          generalize wr.heap.size = R at *
          have hOP : ∀ m, Unit → rollW q m = rollW q m := fun _ _ => rfl
          clear hOP
          generalize rollW q 64 = ws at *
          have HOE := Lib.hid (show (w3.alloc (.cells #[] 29)).ownsRow w3.heap.size 29 1 (.slice (some ⟨w3.heap.size, 0, none⟩) 0 0) 0 [] from World.ownsRow_made w3 #[] 0 (Nat.le_refl _) (by unfold maxLen; omega) rfl)
          have hnews : ∀ k u, (sj.map u32v)[k]? = some u → (w3.alloc (.cells #[] 29)).cell? ((⟨S, 0, none⟩ : Addr).add k) = some u := fun k u hu => by
            have hSA := (HS3.out.alloc (.cells #[] 29)).cell k
            rw [Addr.add_lit, Nat.zero_add, hSA, ← Array.getElem?_toList, wcs_toList]
            exact hu
          have HNW := Lib.hid hnews
          clear hnews
          go_wp2_with (at_builtin; refine wpList_append_w _ rfl (.tmp 41) (.tmp 42) rfl w3.heap.size _ 0 [] rfl HOE.out ⟨S, 0, none⟩ 8 8 sj rfl HLJ.out HNW.out (by omega) (by omega) (by simp) ?_; intro g cap w4 hown hgrow)
          have hb4 : Below w3.heap.size w3 w4 := ((Below.refl _ _).alloc (Nat.le_refl _) _).grown hgrow (by simp) (fun k hk => (HOE.out.lt k hk).1)
          have HOW := Lib.hid (show Ow w4 w3.heap.size g cap (nowL sj ws 0) by
            rw [nowL_zero sj ws HLJ.out]
            unfold Ow
            rw [HLJ.out]
            simp only [Nat.zero_add, List.nil_append] at hown
            exact hown)
          have hc8 : 8 ≤ cap := by obtain ⟨_, _, _, _, h⟩ := HOW.out.arr; exact h
          clear hown hgrow HOE HNW
          generalize hB3s : w3.heap.size = B3 at *
          have HR4 := Lib.hid (HR.out.below hb4 hR3)
          have HS4 := Lib.hid (HS3.out.below hb4 (by omega))
          have hBS4 : Below S w1 w4 := hB3.trans (hb4.mono (by omega))
          have hz4 := hb4.size
          clear HR HS3 hB3 hb4
          rw [hB3s] at hz4
          clear hB3s
          have hb0 : Below B3 w4 w4 := Below.refl _ _
          go_loopw [8, 9] (fun v i wr => ∃ t g cap : Nat, t ≤ 64 ∧ i = .int .i64 (t : Int) ∧ v = .slice (some ⟨g, 0, none⟩) 8 cap ∧ 8 ≤ cap ∧ Hid (Ow wr B3 g cap (nowL sj ws t)) ∧ Below B3 w4 wr) (fun _ i _ => 64 - (intOf i).toNat)
          case atStart => exact ⟨0, g, cap, by omega, rfl, rfl, hc8, HOW, hb0⟩
          case round =>
            clear HOW hb0 hc8
            obtain ⟨t, g, cap, ht, rfl, rfl, hc8, HO, hbr⟩ := hrel
            by_cases hlt : t < 64
            · obtain ⟨a0, a1, a2, a3, a4, a5, a6, a7, E⟩ : ∃ a0 a1 a2 a3 a4 a5 a6 a7, Hid (nowL sj ws t = [a0, a1, a2, a3, a4, a5, a6, a7]) := ⟨_, _, _, _, _, _, _, _, rfl⟩
              have HSC := Lib.hid (nowL_succ sj ws HLJ.out t hlt a0 a1 a2 a3 a4 a5 a6 a7 E.out)
              rw [E.out] at HO
              have HG := fun (W : World) (h : Ow W B3 g cap [a0, a1, a2, a3, a4, a5, a6, a7]) (k : Nat) (hk : k < 8) => h.cell k hk
              obtain ⟨cw, CW⟩ : ∃ x, Unit → cubes.getD t 0 = x := ⟨_, fun _ => rfl⟩
              obtain ⟨wk, WK⟩ : ∃ x, Unit → ws.getD t 0 = x := ⟨_, fun _ => rfl⟩
              have HRr := Lib.hid (HR4.out.below hbr hR3)
              have c4 : wr.cell? ⟨g, 4, none⟩ = some (.int .u32 (a4.toNat : Int)) := HG wr HO.out 4 (by omega)
              have c0 : wr.cell? ⟨g, 0, none⟩ = some (.int .u32 (a0.toNat : Int)) := HG wr HO.out 0 (by omega)
              go_wp2_with fail
              go_quiet (fail)
              clear c4 c0
              obtain ⟨W1, hW1⟩ : ∃ W, wr.drewN nq = W := ⟨_, rfl⟩
              have HO1 := Lib.hid (show Ow W1 B3 g cap [a0, a1, a2, a3, a4, a5, a6, a7] by rw [← hW1]; exact HO.out.drewN _)
              have HR1 := Lib.hid (show Arr W1 R 29 (wcs ws) by rw [← hW1]; exact HRr.out.drewN _)
              have hB1 : Below B3 w4 W1 := by rw [← hW1]; exact Below.drewN hbr _
              rw [hW1]
              clear hW1 HO HRr hbr
              have c5 : W1.cell? ⟨g, 5, none⟩ = some (.int .u32 (a5.toNat : Int)) := HG W1 HO1.out 5 (by omega)
              have c6 : W1.cell? ⟨g, 6, none⟩ = some (.int .u32 (a6.toNat : Int)) := HG W1 HO1.out 6 (by omega)
              have c7 : W1.cell? ⟨g, 7, none⟩ = some (.int .u32 (a7.toNat : Int)) := HG W1 HO1.out 7 (by omega)
              have ck := (HR1.out.cell t).trans (wcs_at _ t (by rw [HLW.out]; exact hlt))
              rw [WK ()] at ck
              have ak : (t : Int) < 64 := by omega
              have ak0 : (0 : Int) ≤ (t : Int) := by omega
              have CC := fun (s : ByteArray) (h : s.data.toList = dsC.map hexDigit) W => cube_any s h t W hlt
              rw [CW ()] at CC
              go_wp2_with fail
              have T6 := fun W => rturned_any a4 6 6 rfl W (by omega) (by omega)
              have T11 := fun W => rturned_any a4 11 11 rfl W (by omega) (by omega)
              have T25 := fun W => rturned_any a4 25 25 rfl W (by omega) (by omega)
              have TB := fun W => bits_yes a4 a5 a6 W
              go_quiet (first
                | (go_at_call 19; first | with_reducible exact quiet_eq (T6 _) | with_reducible exact quiet_eq (T11 _) | with_reducible exact quiet_eq (T25 _))
                | (go_at_call 17; exact quiet_eq (CC _ (by decide +kernel) _))
                | (go_at_call 20; with_reducible exact quiet_eq (TB _)))
              clear c5 c6 c7 ck ak ak0 CC T6 T11 T25 TB
              rw [rx_eq]
              have HX : Unit → stX a4 a5 a6 a7 cw wk = stX a4 a5 a6 a7 (cubes.getD t 0) (ws.getD t 0) := fun _ => by rw [CW (), WK ()]
              obtain ⟨X, HXX⟩ : ∃ X, Unit → stX a4 a5 a6 a7 cw wk = X := ⟨_, fun _ => rfl⟩
              rw [HXX ()] at HX ⊢
              obtain ⟨W2, hW2⟩ : ∃ W, W1.drewN nq = W := ⟨_, rfl⟩
              have HO2 := Lib.hid (show Ow W2 B3 g cap [a0, a1, a2, a3, a4, a5, a6, a7] by rw [← hW2]; exact HO1.out.drewN _)
              have hB2 : Below B3 w4 W2 := by rw [← hW2]; exact Below.drewN hB1 _
              rw [hW2]
              clear hW2 HO1 hB1 HR1
              have c1 : W2.cell? ⟨g, 1, none⟩ = some (.int .u32 (a1.toNat : Int)) := HG W2 HO2.out 1 (by omega)
              have c2 : W2.cell? ⟨g, 2, none⟩ = some (.int .u32 (a2.toNat : Int)) := HG W2 HO2.out 2 (by omega)
              have T2 := fun W => rturned_any a0 2 2 rfl W (by omega) (by omega)
              have T13 := fun W => rturned_any a0 13 13 rfl W (by omega) (by omega)
              have T22 := fun W => rturned_any a0 22 22 rfl W (by omega) (by omega)
              have TB := fun W => bits_no a0 a1 a2 W
              go_wp2_with fail
              go_quiet (first
                | (go_at_call 19; first | with_reducible exact quiet_eq (T2 _) | with_reducible exact quiet_eq (T13 _) | with_reducible exact quiet_eq (T22 _))
                | (go_at_call 20; with_reducible exact quiet_eq (TB _)))
              clear c1 c2 T2 T13 T22 TB
              rw [ry_eq]
              obtain ⟨Y, HYY⟩ : ∃ X, Unit → stY a0 a1 a2 = X := ⟨_, fun _ => rfl⟩
              rw [HYY ()]
              obtain ⟨W3, hW3⟩ : ∃ W, W2.drewN nq = W := ⟨_, rfl⟩
              have HO3 := Lib.hid (show Ow W3 B3 g cap [a0, a1, a2, a3, a4, a5, a6, a7] by rw [← hW3]; exact HO2.out.drewN _)
              have hB3 : Below B3 w4 W3 := by rw [← hW3]; exact Below.drewN hB2 _
              rw [hW3]
              clear hW3 HO2 hB2
              have HAM := Lib.hid (add_mod X Y)
              have HAM2 := Lib.hid (add_mod a3 X)
              have hp7 := pre7 g cap hc8
              clear HG
              go_wp2_with (at_builtin; refine wpList_step_w w4 W3 rfl (.tmp 103) (.tmp 105) rfl B3 g cap _ (X + Y) a0 a1 a2 a3 a4 a5 a6 a7 HAM hB3 hz4 HO3.out rfl rfl ?_; intro g2 cap2 W4 hc82 HO4 hb4 c4 f4; clear HO3 hB3 hp7)
              have HO5 := Lib.hid (show Ow (W4.setCell ⟨g2, 4, none⟩ (.int .u32 (((a3.toNat : Int) + (X.toNat : Int)) % 4294967296))) B3 g2 cap2 (nowL sj ws (t + 1)) by
                rw [HSC.out, ← HX (), HYY (), HAM2.out]
                exact HO4.out.set 4 (a3 + X))
              go_roundw
              case rel => exact ⟨t + 1, g2, cap2, by omega, by go_num, rfl, hc82, HO5, hb4.setCell (by have := HO4.out.ge.1; omega) _⟩
              case measure => simp [intOf]; omega
            · have hge : decide ((t : Int) < 64) = false := by simp; omega
              have HON := Lib.hid (show Ow wr B3 g cap (nowL sj ws 64) by
                have := HO.out
                rw [show t = 64 by omega] at this
                exact this)
              have HLN8 : Unit → (nowL sj ws 64).length = 8 := fun _ => rfl
              have HS5 := Lib.hid (show Arr wr S 29 (wcs (addZ sj (nowL sj ws 64) 0)) by rw [addZ_zero]; exact HS4.out.below hbr (by omega))
              have hbS : Below S w1 wr := hBS4.trans (hbr.mono (by omega))
              have hgS : S < g := by have := HON.out.ge.1; omega
              clear HO hbr HS4 HR4
              generalize nowL sj ws 64 = nw at *
              go_wp2_with fail
              go_loopw [14] (fun i wr => ∃ k : Nat, k ≤ 8 ∧ i = .int .i64 (k : Int) ∧ Hid (Arr wr S 29 (wcs (addZ sj nw k))) ∧ Hid (Ow wr B3 g cap nw) ∧ Below S w1 wr) (fun i _ => 8 - (intOf i).toNat)
              case atStart => exact ⟨0, by omega, rfl, HS5, HON, hbS⟩
              case round =>
                clear HS5 HON hbS hge
                obtain ⟨k, hk, rfl, HZ, HO, hbr⟩ := hrel
                have HL8 := Lib.hid (addZ_length sj nw k HLJ.out (HLN8 ()) hk)
                by_cases hlt8 : k < 8
                · have cR := (HZ.out.cell k).trans (wcs_at _ k (by rw [HL8.out]; exact hlt8))
                  rw [addZ_at sj nw k HLJ.out (HLN8 ()) hlt8] at cR
                  have cS := HO.out.cell k (by rw [HLN8 ()]; exact hlt8)
                  have fz := HZ.out.frozen k
                  have HN : Hid (Arr (wr.drew.setCell ⟨S, k, none⟩ (.int .u32 ((((sj.getD k 0).toNat : Int) + ((nw.getD k 0).toNat : Int)) % 4294967296))) S 29 (wcs (addZ sj nw (k + 1)))) := by
                    show Arr _ _ _ _
                    have := HZ.out.drew.set k (u32v (sj.getD k 0 + nw.getD k 0))
                    rw [wcs_set, addZ_set sj nw k HLJ.out (HLN8 ()) hlt8] at this
                    rw [add_mod]
                    exact this
                  generalize sj.getD k 0 = x at *
                  generalize nw.getD k 0 = y at *
                  have aj : (k : Int) < 8 := by omega
                  have aj0 : (0 : Int) ≤ (k : Int) := by omega
                  have cR' : wr.drew.cell? ⟨S, k, none⟩ = some (.int .u32 (x.toNat : Int)) := cR
                  have cS' : wr.drew.cell? ⟨g, k, none⟩ = some (.int .u32 (y.toNat : Int)) := cS
                  have fz' : wr.drew.frozen? ⟨S, k, none⟩ = false := fz
                  go_wp2_with fail
                  go_still_tail 12, (by kernel_rfl)
                  go_wp2_with fail
                  have HOX := fun v => Lib.hid (show Ow (wr.drew.setCell ⟨S, k, none⟩ v) B3 g cap nw from World.ownsRow.kept (w := wr.drew) HO.out (grown_set wr.drew S k v) (Or.inr (by show some g ≠ some S; intro e; injection e with e; omega)))
                  go_roundw
                  case rel => exact ⟨k + 1, by omega, by go_num, HN, HOX _, hbr.drew.setCell (Nat.le_refl _) _⟩
                  case measure => simp [intOf]; omega
                · have hge8 : decide ((k : Int) < 8) = false := by simp; omega
                  have HSX := Lib.hid (show Arr wr S 29 (wcs (absorb (j + 1) seats0 P)) by
                    have := HZ.out
                    rw [show k = 8 by omega, HWK.out, ← HNXT.out] at this
                    exact this)
                  clear HZ HO
                  go_wp2_with fail
                  go_roundw
                  case rel => exact ⟨p + 64, j + 1, by have := HP.out; show _ = _; omega, by omega, by go_num, HSX, hbr⟩
                  case measure => simp [intOf]; omega
        · have hge : decide (p < N) = false := by simpa using hlt
          have HFS := Lib.hid (show Arr wr S 29 (wcs (szL (absorb nb seats0 P) 32)) by
            have := HW.out
            rw [show j = nb by have := HP.out; have := HNE.out; omega] at this
            rw [szL_start _ (absorb_length nb seats0 P)]
            exact this)
          have HL8 := Lib.hid (absorb_length nb seats0 P)
          clear HW
          generalize absorb nb seats0 P = sf at *
          obtain ⟨O, hO⟩ : ∃ O, wr.heap.size = O := ⟨_, rfl⟩
          have hSO : S < O := by have := HFS.out.lt; omega
          have HF6 := Lib.hid (show Arr (wr.alloc (.cells (bcs (List.replicate 32 0)) 23)) S 29 (wcs (szL sf 32)) from HFS.out.alloc _)
          have HO6 := Lib.hid (show Arr (wr.alloc (.cells (bcs (List.replicate 32 0)) 23)) O 23 (bcs (outZ sf 32)) by rw [outZ_start sf HL8.out]; exact Arr.newAt _ _ _ _ hO.symm)
          have HB6 := Lib.hid (show Below S w1 (wr.alloc (.cells (bcs (List.replicate 32 0)) 23)) from hbr.alloc (by omega) _)
          clear HFS hbr
          go_wp2_with fail
          clear hO
          go_loopw [16] (fun u wr => ∃ k : Nat, k ≤ 32 ∧ u = .int .i64 ((k : Int) - 1) ∧ Hid (Arr wr O 23 (bcs (outZ sf k))) ∧ Hid (Arr wr S 29 (wcs (szL sf k))) ∧ Below S w1 wr) (fun u _ => (intOf u + 1).toNat)
          case atStart => exact ⟨32, by omega, rfl, HO6, HF6, HB6.out⟩
          case round =>
            clear HO6 HF6 HB6 hge
            obtain ⟨k, hk, rfl, HOU, HZ, hbr⟩ := hrel
            by_cases hk0 : k = 0
            · subst hk0
              have HL0 := Lib.hid (outZ_length sf 0 HL8.out (by omega))
              have HRES := Lib.hid (HA1.out.below hbr (by omega))
              have HFIN := Lib.hid (show Below w.heap.size w wr from hB1.trans (hbr.mono (by omega)))
              clear HZ hbr
              go_wp2_with (first
                | (refine wpList_load_row rfl _ _ rfl O rfl _ _ _ _ HOU.out Tryd.underlying23 rfl (by rw [bcs_size, HL0.out]; kernel_rfl) ?_)
                | (refine wpList_store_row rfl _ _ _ rfl w.heap.size _ rfl rfl _ _ HRES.out (by rw [bcs_size, HL0.out]; kernel_rfl) (by rw [bcs_size, bcs_size, HL0.out]; rfl) (bcs_one _) ?_))
              refine bodyPost_ret (v := .agg (bcs (outZ sf 0))) (results_cell_row rfl _ _ w.heap.size _ _ _ _ rfl (HRES.out.row _) Tryd.underlying23 rfl (by rw [bcs_size, HL0.out]; kernel_rfl)) rfl ⟨?_, Below.setRow HFIN.out (Nat.le_refl _) _⟩
              rw [HSH2.out, outZ_end]
            · obtain ⟨m, rfl⟩ : ∃ m, k = m + 1 := ⟨k - 1, by omega⟩
              have em : ((m + 1 : Nat) : Int) - 1 = (m : Int) := by omega
              rw [em]
              have HOL := Lib.hid (outZ_length sf (m + 1) HL8.out hk)
              have HAT := Lib.hid (seatB_at sf m HL8.out (by omega))
              have HOS := Lib.hid (outZ_set sf m HL8.out (by omega))
              have HZS2 := Lib.hid (szL_set sf m)
              obtain ⟨q, HQQ⟩ : ∃ q, Unit → m / 4 = q := ⟨_, fun _ => rfl⟩
              have hq8 : q < 8 := by rw [← HQQ ()]; omega
              have d1 : (m : Int).tdiv 4 = (q : Int) := by rw [← HQQ (), Int.tdiv_eq_ediv_of_nonneg (by omega)]; omega
              have d2 : (m : Int) / 4 = (q : Int) := by rw [← HQQ ()]; omega
              have cz := (HZ.out.cell q).trans (wcs_at _ q (by rw [szL_length]; exact hq8))
              rw [szL_at sf (m + 1) q hq8] at cz
              rw [HQQ ()] at HAT HZS2
              have co := (HOU.out.cell m).trans (bcs_at _ m (by rw [HOL.out]; omega))
              have fo := HOU.out.frozen m
              have HN1 := Lib.hid (show Arr (wr.setCell ⟨O, m, none⟩ (.int .u8 (((szA sf (m + 1) q).toNat : Int) % 256))) O 23 (bcs (outZ sf m)) by
                have := HOU.out.set m (.int .u8 (((seatB sf).getD m 0).toNat : Int))
                rw [bcs_set, HOS.out, HAT.out] at this
                rw [show ((UInt8.ofNat (szA sf (m + 1) q).toNat).toNat : Int) = ((szA sf (m + 1) q).toNat : Int) % 256 by rw [UInt8.toNat_ofNat']; omega] at this
                exact this)
              have HZ1 := fun v => Lib.hid (show Arr (wr.setCell ⟨O, m, none⟩ v) S 29 (wcs (szL sf (m + 1))) from HZ.out.other _ _ (by show S ≠ O; omega))
              have hdiv : (BitVec.ofNat 32 ((szA sf (m + 1) q).toNat / 256)).toNat = (szA sf (m + 1) q).toNat / 256 := by
                rw [BitVec.toNat_ofNat, Nat.mod_eq_of_lt (Nat.lt_of_le_of_lt (Nat.div_le_self _ _) (szA sf (m + 1) q).isLt)]
              have HD := Lib.hid hdiv
              have hx := (szA sf (m + 1) q).isLt
              have HXL := Lib.hid hx
              clear hdiv hx
              have cz1 := fun v => ((HZ1 v).out.cell q).trans (wcs_at _ q (by rw [szL_length]; exact hq8))
              have fz1 := fun v => (HZ1 v).out.frozen q
              rw [szL_at sf (m + 1) q hq8] at cz1
              have HN2 := fun v => Lib.hid (show Arr ((wr.setCell ⟨O, m, none⟩ v).setCell ⟨S, q, none⟩ (.int .u32 (((szA sf (m + 1) q).toNat : Int) / 256))) S 29 (wcs (szL sf m)) by
                have := (HZ1 v).out.set q (u32v (BitVec.ofNat 32 ((szA sf (m + 1) q).toNat / 256)))
                rw [wcs_set, HZS2.out] at this
                unfold u32v at this
                rw [HD.out] at this
                exact this)
              generalize (szA sf (m + 1) q).toNat = x at *
              have hm32 : (m : Int) < 32 := by omega
              have hx1 : x < 4294967296 := HXL.out
              go_wp2_with fail
              go_roundw
              case rel => exact ⟨m, by omega, rfl, Lib.hid ((HN1.out).other ⟨S, q, none⟩ _ (by show O ≠ S; omega)), HN2 _, (hbr.setCell (by show S ≤ O; omega) _).setCell (Nat.le_refl _) _⟩
              case measure => simp [intOf]
end Go.Proofs.YtgdcjealhbfnaaaDoor

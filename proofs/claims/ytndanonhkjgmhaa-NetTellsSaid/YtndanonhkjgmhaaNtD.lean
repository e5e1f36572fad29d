/-
  What has datagrams leave a net's row: leave, Drop, Forget, Take. No statement of the seat is proved here.
-/
import Derived.Test.YtndanonhkjgmhaaNtC
namespace Go.Proofs.Ytndanonhkjgmhaa
open Go.RowKit

/-! ### who stays -/
/-- Those of whom p does not say that they go, each with its place. -/
def stay (p : Nat → Gm → Bool) : Nat → List Gm → List Gm
  | _, [] => []
  | i, g :: r => if p i g then stay p (i + 1) r else g :: stay p (i + 1) r
theorem stay_append (p : Nat → Gm → Bool) : ∀ (l m : List Gm) (i : Nat), stay p i (l ++ m) = stay p i l ++ stay p (i + l.length) m
  | [], m, i => by simp [stay]
  | g :: r, m, i => by
    have ih := stay_append p r m (i + 1)
    rw [List.cons_append]
    simp only [stay]
    rw [ih, List.length_cons, show i + 1 + r.length = i + (r.length + 1) by omega]
    cases p i g <;> simp
theorem stay_length (p : Nat → Gm → Bool) : ∀ (l : List Gm) (i : Nat), (stay p i l).length ≤ l.length
  | [], _ => Nat.le_refl _
  | g :: r, i => by
    have ih := stay_length p r (i + 1)
    simp only [stay]
    cases p i g <;> simp <;> omega
theorem stay_snoc (p : Nat → Gm → Bool) (l : List Gm) (k : Nat) {g : Gm} (hg : l[k]? = some g) : stay p 0 (l.take (k + 1)) = stay p 0 (l.take k) ++ (if p k g then [] else [g]) := by
  have hk := (List.getElem?_eq_some_iff.1 hg).1
  rw [List.take_add_one, hg, stay_append, List.length_take, Nat.min_eq_left (by omega), Nat.zero_add]
  simp only [Option.toList, stay]

set_option maxRecDepth 100000 in
theorem under_row : Try.prog.underlying 55 = some (.slice 78) := Try.underlying55
set_option maxRecDepth 100000 in
theorem zero_gm (w : World) : (zeroValue 78).run Try.prog w = .ok (.agg #[.int .i64 0, .int .i64 0, .string ⟨#[]⟩]) w := by
  obtain ⟨i0, hi, hz0, hz1, hz2⟩ := info_parts info_gm
  simp [zeroValue, typeInfo, hi, hz0]
theorem Fr.setRow (w : World) (G : Nat) (cs : Array Value) : Fr (fun i => i = G) w (w.setRow G cs) := ⟨rfl, rfl, rfl, by simp [World.setRow], fun i _ hi => setRow_other w G i cs hi⟩
/-- Cells of a row's block written over behind the first ones. -/
theorem clear_gm (w : World) (ty : TypeId) (G m k cap c : Nat) (cur : Array Value) (hg : w.heap[G]? = some (.cells cur 78 (0, 0))) (hfit : (m + k) * 3 ≤ cur.size) (hc : cap = m → k = 0) :
    ∃ w' cur', (Builtin.clear_ #[55] ty #[.slice (if cap = m then some ⟨G, 0, none⟩ else some ⟨G, m * 3, none⟩) k c]).run Try.prog w = .ok (.tuple #[]) w' ∧
      w'.heap[G]? = some (.cells cur' 78 (0, 0)) ∧ cur'.size = cur.size ∧ cur'.toList.take (m * 3) = cur.toList.take (m * 3) ∧ Fr (fun i => i = G) w w' := by
  cases k with
  | zero =>
    refine ⟨w, cur, ?_, hg, rfl, rfl, Fr.refl _ _⟩
    by_cases h : cap = m
    · rw [if_pos h]
      simp [Builtin.clear_, run_underlying under_row]
    · rw [if_neg h]
      simp [Builtin.clear_, run_underlying under_row]
  | succ k =>
    rw [if_neg (fun h => by have := hc h; omega)]
    have hzl : (Builtin.zeroCells (Value.agg #[.int .i64 0, .int .i64 0, .string ⟨#[]⟩]).cells (k + 1)).toList.length = (k + 1) * 3 := by
      simp [Builtin.zeroCells, Value.cells]
    have hz1 : ∀ v ∈ (Builtin.zeroCells (Value.agg #[.int .i64 0, .int .i64 0, .string ⟨#[]⟩]).cells (k + 1)).toList, v.oneCell' = true := by
      intro v hv
      simp only [Builtin.zeroCells, Array.toList_map, List.mem_map] at hv
      obtain ⟨j, _, rfl⟩ := hv
      have hj : j % (Value.agg #[.int .i64 0, .int .i64 0, .string ⟨#[]⟩]).cells.size < 3 := Nat.mod_lt _ (by decide)
      generalize j % (Value.agg #[.int .i64 0, .int .i64 0, .string ⟨#[]⟩]).cells.size = q at hj
      match q, hj with
      | 0, _ => rfl
      | 1, _ => rfl
      | 2, _ => rfl
    have hzd : ∀ W : World, (zeroValue 78).run Try.prog W = .ok (.agg #[.int .i64 0, .int .i64 0, .string ⟨#[]⟩]) W := zero_gm
    generalize hzs : (Builtin.zeroCells (Value.agg #[.int .i64 0, .int .i64 0, .string ⟨#[]⟩]).cells (k + 1)).toList = zs at hzl hz1
    have hst := run_storeCells_at Try.prog G (m * 3) 78 zs 0 cur w hg (by rw [hzl]; omega) hz1
    simp only [Nat.add_zero] at hst
    refine ⟨_, (cur.toList.take (m * 3) ++ zs ++ cur.toList.drop (m * 3 + zs.length)).toArray, ?_, setRow_heap w G cur (cur.toList.take (m * 3) ++ zs ++ cur.toList.drop (m * 3 + zs.length)).toArray _ _ hg, ?_, ?_, ⟨rfl, rfl, rfl, by simp [World.setRow], fun i _ hi => setRow_other w G i _ hi⟩⟩
    · simp only [Builtin.clear_]
      simp [run_underlying under_row, hzd, hzs, hst]
    · simp only [List.size_toArray, List.length_append, List.length_take, List.length_drop, Array.length_toList, hzl]
      omega
    · have : m * 3 ≤ cur.toList.length := by rw [Array.length_toList]; omega
      simp only [List.append_assoc]
      rw [List.take_append_of_le_length (by rw [List.length_take]; omega), List.take_take, Nat.min_self]
theorem clear_nil (w : World) (ty : TypeId) : (Builtin.clear_ #[55] ty #[.slice none 0 0]).run Try.prog w = .ok (.tuple #[]) w := by
  simp [Builtin.clear_, run_underlying under_row]
/-- The row's block while its datagrams leave: those that stay so far, then what stood there. -/
structure Lv (w wr : World) (G : Nat) (cur0 : Array Value) (K : List Gm) : Prop where
  ex : ∃ cur, wr.heap[G]? = some (.cells cur 78 (0, 0)) ∧ cur.toList = gsCells K ++ cur0.toList.drop (K.length * 3)
  fr : Fr (fun i => i = G) w wr
section
variable {w wr wx : World} {G : Nat} {cur0 : Array Value} {K : List Gm}
theorem Lv.no (h : Lv w wr G cur0 K) (hf : Fr No wr wx) : Lv w wx G cur0 K := by
  obtain ⟨cur, hg, hc⟩ := h.ex
  exact ⟨⟨cur, blk_no hf hg, hc⟩, h.fr.then_no hf⟩
/-- A place that is not behind those that stay reads as it did. -/
theorem Lv.old (h : Lv w wr G cur0 K) {j : Nat} (hj : K.length * 3 ≤ j) : wr.cell? ⟨G, j, none⟩ = cur0[j]? := by
  obtain ⟨cur, hg, hc⟩ := h.ex
  rw [blk_cell hg, ← Array.getElem?_toList, hc, List.getElem?_append_right (by rw [gsCells_length]; exact hj), gsCells_length, List.getElem?_drop, show K.length * 3 + (j - K.length * 3) = j by omega, Array.getElem?_toList]
set_option maxRecDepth 100000 in
/-- One more stays. -/
theorem wpList_stay (h : Lv w wx G cur0 K) {ops : Array Oper} {rest : List Oper} {o : Oper} {a : Act} {Q : Exit → Act → World → Prop} (hgd : o.guard = none) (s x : Operand)
    (ho : o.op = .call { callee := .builtin .append, args := #[s, x], argTypes := #[55, 55] })
    (g : Gm) (H m cap : Nat) (hm : K.length = m) (hfit : (m + 1) * 3 ≤ cur0.size) (hcap : m + 1 ≤ cap) (hb : wx.heap[H]? = some (.cells #[.int .i64 g.fr, .int .i64 g.to, .string g.ds] 78 (0, 0)))
    (hs : a.eval s = .slice (some ⟨G, 0, none⟩) m cap) (hx : a.eval x = .slice (some ⟨H, 0, none⟩) 1 1)
    (hk : ∀ w', Lv w w' G cur0 (K ++ [g]) → wpList Try.prog ops Q rest (a.put o.dst (.slice (some ⟨G, 0, none⟩) (m + 1) cap)) w') : wpList Try.prog ops Q (o :: rest) a wx := by
  subst hm
  obtain ⟨i0, hi, hz0, hz1, hz2⟩ := info_parts info_gm
  obtain ⟨cur, hg, hc⟩ := h.ex
  have hsz : cur.size = cur0.size := by
    rw [← Array.length_toList (xs := cur), hc, List.length_append, gsCells_length, List.length_drop, Array.length_toList (xs := cur0)]
    omega
  have hr := run_append_room (P := Try.prog) wx 55 o.type 78 i0 under_row hi G K.length cap cur hg ⟨H, 0, none⟩ 1 1 (gCells g) (by rw [hz1]; rfl) (fun j u hu => by
    rw [Addr.add_lit, Nat.zero_add, blk_cell hb j]
    show (gCells g).toArray[j]? = _
    rw [List.getElem?_toArray]
    exact hu) (gCells_one g) hcap (by rw [hz1]; show K.length * 3 + 3 ≤ _; omega)
  refine Lib.wpList_append_run wx hgd s x 55 55 ho _ _ hs hx _ _ hr (hk _ ⟨⟨_, setRow_heap wx G cur _ _ _ hg, ?_⟩, ?_⟩)
  · rw [hz1]
    show (cur.toList.take (K.length * 3) ++ gCells g ++ cur.toList.drop (K.length * 3 + 3)) = _
    rw [hc, List.take_append_of_le_length (by rw [gsCells_length]; omega), List.take_of_length_le (by rw [gsCells_length]; omega), gsCells_append, List.drop_append, List.drop_of_length_le (by rw [gsCells_length]; omega), gsCells_length, List.nil_append, List.drop_drop, List.length_append]
    have e : gsCells [g] = gCells g := by simp [gsCells]
    rw [e]
    congr 2
    simp
    omega
  · exact h.fr.trans (Fr.setRow wx G _) (fun _ _ e => e)
end
set_option maxRecDepth 100000 in
theorem rleave_drop {w : World} {P : Nat} {n : Int} {v : Value} {l : List Gm} (h : Ntw w P n v l) (C : Nat) (cv : Value) (hC : w.cell? ⟨C, 0, none⟩ = some cv) (hCf : ¬ foot P v C) (p : Nat → Gm → Bool)
    (hp : ∀ (k : Nat) (g : Gm) (W : World), W.cell? ⟨C, 0, none⟩ = some cv → Calls Try.prog 38 #[.int .i64 (k : Int), .agg #[.int .i64 g.fr, .int .i64 g.to, .string g.ds], .pointer (some ⟨C, 0, none⟩)] W fun e W' => e = .returned (.bool (p k g)) ∧ Fr No W W') :
    Calls Try.prog 46 #[.pointer (some ⟨P, 2, none⟩), .func (.func 38) #[] #[.pointer (some ⟨C, 0, none⟩)]] w fun e w' =>
      e = .returned (.int .i64 ((l.length - (stay p 0 l).length : Nat) : Int)) ∧ ∃ v', Ntw w' P n v' (stay p 0 l) ∧ Nx P v w w' v' ∧ v'.ownBlock = v.ownBlock := by
  rcases h.row.2 with ⟨rfl, h0⟩ | ⟨G, cap, cur0, rfl, _, hg, hc, hm, hsz, htk⟩
  · have hl : l = [] := List.eq_nil_of_length_eq_zero h0
    subst hl
    have c2 := h.c2
    have f2 := h.unfrozen 2
    go_enter Try.func46, Try.ntmps46
    go_wp2_with fail
    go_loopw [5, 17] (fun v5 v17 wr => v5 = .slice none 0 0 ∧ v17 = .int .i64 0 ∧ wr = w) (fun _ _ _ => 0)
    case atStart => exact ⟨rfl, rfl, rfl⟩
    case round =>
      obtain ⟨rfl, rfl, rfl⟩ := hrel
      have hcl := fun W => clear_nil W 0
      go_wp2_with fail
      go_ret
      have hb := heap_cells_set _ P 2 _ _ (.slice none 0 0) h.blk
      refine ⟨rfl, .slice none 0 0, ⟨hb, World.ownsRow_nil _ _ _ _, by simp [stay]⟩, ⟨Fr.setCell (F := foot P _) _ ⟨P, 2, none⟩ _ (.inl rfl), .inl rfl⟩, rfl⟩
  · have hs0 : ∀ W : World, (Instr.slice 55 (.slice (some ⟨G, 0, none⟩) l.length cap) none (some (.int .i64 0)) none).run Try.prog W = .ok (.slice (some ⟨G, 0, none⟩) 0 cap) W := fun W => by
      obtain ⟨i0, hi, hz0, hz1, hz2⟩ := info_parts info_gm
      rw [run_slice_h W 55 _ _ _ under_row .i64 0 (by omega) (by omega)]
      have he : Try.prog.elem 55 = 78 := by simp [Program.elem]
      rw [he]
      simp [sizeOf, typeInfo, hi, hz1, sliced, Addr.add]
    have hs1 : ∀ (W : World) (m : Nat), m ≤ l.length → (Instr.slice 55 (.slice (some ⟨G, 0, none⟩) l.length cap) (some (.int .i64 (m : Int))) none none).run Try.prog W = .ok (.slice (if cap = m then some ⟨G, 0, none⟩ else some ⟨G, m * 3, none⟩) (l.length - m) (cap - m)) W := fun W m hml => by
      obtain ⟨i0, hi, hz0, hz1, hz2⟩ := info_parts info_gm
      rw [run_slice_l W 55 _ _ _ under_row .i64 (m : Int) (by omega) (by omega)]
      have he : Try.prog.elem 55 = 78 := by simp [Program.elem]
      rw [he]
      simp [sizeOf, typeInfo, hi, hz1, sliced, Addr.add_lit]
    have H := Lib.hid h
    have HC := Lib.hid hC
    have HPP := Lib.hid hp
    have HS1 := Lib.hid hs1
    have HL0 : Hid (Lv w w G cur0 []) := ⟨⟨cur0, hg, by simp [gsCells]⟩, Fr.refl _ _⟩
    have HOLD : Hid (∀ j u, (gsCells l)[j]? = some u → cur0[j]? = some u) := fun j u hu => by
      have hj : j < l.length * 3 := by rw [← gsCells_length]; exact (List.getElem?_eq_some_iff.1 hu).1
      rw [← htk, List.getElem?_take, if_pos hj] at hu
      rw [← Array.getElem?_toList]
      exact hu
    have HSZ := Lib.hid hsz
    have HCAP := Lib.hid hc
    have HMX := Lib.hid hm
    have c2 := h.c2
    have hGP : G ≠ P := h.ne rfl
    have hCG : Hid (C ≠ G) := fun e => hCf (.inr (by rw [e]; rfl))
    have hCP : Hid (C ≠ P) := fun e => hCf (.inl e)
    have HCL : Hid (C < w.heap.size) := World.block_lt_of_cell? w _ hC
    have HFEW := Lib.hid h.few
    obtain ⟨N, HN⟩ : ∃ N, Hid (l.length = N) := ⟨_, rfl⟩
    rw [HN.out] at HFEW HCAP HS1 hs0 c2 ⊢
    clear h hC hp hs1 hsz hc hm htk hg hCf
    go_enter Try.func46, Try.ntmps46
    go_wp2_with fail
    go_loopw [5, 17] (fun v5 v17 wr => ∃ k : Nat, k ≤ N ∧ v5 = .slice (some ⟨G, 0, none⟩) (stay p 0 (l.take k)).length cap ∧ v17 = .int .i64 (k : Int) ∧ Lv w wr G cur0 (stay p 0 (l.take k))) (fun _ v17 _ => N - (intOf v17).toNat)
    case atStart => exact ⟨0, by omega, rfl, rfl, HL0.out⟩
    case round =>
      obtain ⟨k, hk, rfl, rfl, hlv⟩ := hrel
      have HLV := Lib.hid hlv
      clear hlv
      have HKL : Hid ((stay p 0 (l.take k)).length ≤ k) := by
        have := stay_length p (l.take k) 0
        rw [List.length_take] at this
        show _ ≤ _
        omega
      obtain ⟨m, HM⟩ : ∃ m, Hid ((stay p 0 (l.take k)).length = m) := ⟨_, rfl⟩
      rw [HM.out] at HKL ⊢
      by_cases hlt : k < N
      · obtain ⟨g, hg⟩ : ∃ g, l[k]? = some g := ⟨_, List.getElem?_eq_getElem (by rw [HN.out]; exact hlt)⟩
        have HG := Lib.hid hg
        have d0 := (HLV.out.old (j := k * 3) (by rw [HM.out]; have := HKL.out; omega)).trans (HOLD.out _ _ ((gsCells_at l k 0 hg (by omega)).trans rfl))
        have d1 := (HLV.out.old (j := k * 3 + 1) (by rw [HM.out]; have := HKL.out; omega)).trans (HOLD.out _ _ ((gsCells_at l k 1 hg (by omega)).trans rfl))
        have d2 := (HLV.out.old (j := k * 3 + 2) (by rw [HM.out]; have := HKL.out; omega)).trans (HOLD.out _ _ ((gsCells_at l k 2 hg (by omega)).trans rfl))
        have hin : (k : Int) < (N : Int) := by omega
        have hk0 : (0 : Int) ≤ (k : Int) := by omega
        have hwi : IntKind.i64.wrap ((k : Int) + 1) = ((k + 1 : Nat) : Int) := by
          have := HFEW.out
          rw [show ((k : Int) + 1) = ((k + 1 : Nat) : Int) by omega]
          exact IntWalk.i64_in _ (by omega)
        clear hg
        have HCK : Hid ((wr.alloc (.cells #[.int .i64 g.fr, .int .i64 g.to, .string g.ds] 78)).cell? ⟨C, 0, none⟩ = some cv) :=
          (HLV.out.fr.then_no (Fr.alloc No _ _)).cell HCL.out hCG.out |>.trans HC.out
        cases hpk : p k g with
        | true =>
          have HT : Hid (stay p 0 (l.take (k + 1)) = stay p 0 (l.take k)) := by
            show _ = _
            rw [stay_snoc p l k HG.out, hpk]
            simp
          have HPK := Lib.hid (HPP.out k g _ HCK.out)
          rw [hpk] at HPK
          clear hpk
          go_wp2_with (go_at_call 38; refine HPK.out.mono ?_; rintro e w2 ⟨rfl, hf⟩; have HL2 := Lib.hid ((HLV.out.no (Fr.alloc No _ _)).no hf); clear hf d0 d1 d2)
          go_roundw
          case rel => exact ⟨k + 1, by omega, by rw [HT.out, HM.out], by go_num, by rw [HT.out]; exact HL2.out⟩
          case measure => simp [intOf]; omega
        | false =>
          have HT : Hid (stay p 0 (l.take (k + 1)) = stay p 0 (l.take k) ++ [g]) := by
            show _ = _
            rw [stay_snoc p l k HG.out, hpk]
            simp
          have HPK := Lib.hid (HPP.out k g _ HCK.out)
          rw [hpk] at HPK
          clear hpk
          have HFIT : Hid ((m + 1) * 3 ≤ cur0.size ∧ m + 1 ≤ cap) := ⟨by rw [HSZ.out]; have := HKL.out; have := HCAP.out; omega, by have := HKL.out; have := HCAP.out; omega⟩
          go_wp2_with (first
            | (go_at_call 38; refine HPK.out.mono ?_; rintro e w2 ⟨rfl, hf⟩; have HL2 := Lib.hid ((HLV.out.no (Fr.alloc No _ _)).no hf); have HB2 := Lib.hid (blk_no hf (heap_alloc_new wr _)); have e0 := blk_cell HB2.out 0; have e1 := blk_cell HB2.out 1; have e2 := blk_cell HB2.out 2; clear hf d0 d1 d2)
            | (at_builtin; refine wpList_stay (HL2.out.no (Fr.alloc No _ _)) rfl (.tmp 27) (.tmp 29) rfl g w2.heap.size m cap HM.out HFIT.out.1 HFIT.out.2 (heap_alloc_new w2 _) rfl rfl ?_; intro w3 hl3; have HL3 := Lib.hid hl3; clear hl3))
          go_roundw
          case rel => exact ⟨k + 1, by omega, by rw [HT.out, List.length_append, HM.out]; rfl, by go_num, by rw [HT.out]; exact HL3.out⟩
          case measure => simp [intOf]; omega
      · have hkN : k = N := by omega
        subst hkN
        have HT : Hid (l.take k = l) := List.take_of_length_le (by rw [HN.out]; exact Nat.le_refl _)
        rw [HT.out] at HM HLV
        obtain ⟨cur, hgc, hcc⟩ := HLV.out.ex
        have hcs : cur.size = cap * 3 := by
          rw [← Array.length_toList (xs := cur), hcc, List.length_append, gsCells_length, List.length_drop, Array.length_toList (xs := cur0), HSZ.out, HM.out]
          have := HKL.out
          have := HCAP.out
          omega
        obtain ⟨A2, HA2⟩ : ∃ A2, Hid ((if cap = m then some ⟨G, 0, none⟩ else some ⟨G, m * 3, none⟩ : Option Addr) = A2) := ⟨_, rfl⟩
        obtain ⟨q, HQ⟩ : ∃ q, Hid (k - m = q) := ⟨_, rfl⟩
        have hs2 := fun W => HS1.out W m HKL.out
        obtain ⟨w4, cur4, hcl, hg4, hs4, ht4, hf4⟩ := clear_gm wr 0 G m (k - m) cap (cap - m) cur hgc (by rw [hcs]; have := HKL.out; have := HCAP.out; omega) (by have := HKL.out; have := HCAP.out; omega)
        rw [HA2.out, HQ.out] at hcl
        simp only [HA2.out, HQ.out] at hs2
        have HG4 := Lib.hid hg4
        have HS4 := Lib.hid (hs4.trans hcs)
        have HT4 := Lib.hid (show cur4.toList.take (m * 3) = gsCells (stay p 0 l) by
          rw [ht4, hcc, List.take_append_of_le_length (by rw [gsCells_length, HM.out]; omega), List.take_of_length_le (by rw [gsCells_length, HM.out]; omega)])
        have HF4 := Lib.hid (HLV.out.fr.trans hf4 (fun _ _ e => e))
        have HP4 := Lib.hid ((HF4.out.block P (H.out.lt (.inl rfl)) (fun e => hGP e.symm)).trans H.out.blk)
        have c4 := blk_cell HP4.out 2
        have f4 := blk_free HP4.out 2
        have c22 := ((HLV.out.fr.cell (p := ⟨P, 2, none⟩) (H.out.lt (.inl rfl)) (fun e => hGP e.symm))).trans c2
        clear hgc hcc hcs hg4 hs4 ht4 hf4 c2
        go_wp2_with fail
        go_ret
        refine ⟨by show Ending.returned (.int .i64 (q : Int)) = _; rw [HM.out, HQ.out], .slice (some ⟨G, 0, none⟩) m cap, ⟨heap_cells_set _ P 2 _ _ (.slice (some ⟨G, 0, none⟩) m cap) HP4.out, ?_, by have := HKL.out; have := HFEW.out; rw [HM.out]; omega⟩, ⟨?_, .inl rfl⟩, rfl⟩
        · rw [HM.out]
          refine ⟨by rw [gsCells_length, HM.out], .inr ⟨G, cap, cur4, rfl, Nat.zero_le _, ?_, by have := HKL.out; have := HCAP.out; omega, HMX.out, HS4.out, HT4.out⟩⟩
          exact (Below.heap_setCell _ _ _ _ (fun e => hGP e)).trans HG4.out
        · exact (HF4.out.mono (fun i _ e => .inr (by rw [e]; rfl))).trans (Fr.setCell (F := foot P _) _ ⟨P, 2, none⟩ _ (.inl rfl)) (fun _ _ e => e)
set_option maxRecDepth 100000 in
theorem rleave_forget {w : World} {P : Nat} {n : Int} {v : Value} {l : List Gm} (h : Ntw w P n v l) (C : Nat) (cv : Value) (hC : w.cell? ⟨C, 0, none⟩ = some cv) (hCf : ¬ foot P v C) (p : Nat → Gm → Bool)
    (hp : ∀ (k : Nat) (g : Gm) (W : World), W.cell? ⟨C, 0, none⟩ = some cv → Calls Try.prog 40 #[.int .i64 (k : Int), .agg #[.int .i64 g.fr, .int .i64 g.to, .string g.ds], .pointer (some ⟨C, 0, none⟩)] W fun e W' => e = .returned (.bool (p k g)) ∧ Fr No W W') :
    Calls Try.prog 46 #[.pointer (some ⟨P, 2, none⟩), .func (.func 40) #[] #[.pointer (some ⟨C, 0, none⟩)]] w fun e w' =>
      e = .returned (.int .i64 ((l.length - (stay p 0 l).length : Nat) : Int)) ∧ ∃ v', Ntw w' P n v' (stay p 0 l) ∧ Nx P v w w' v' ∧ v'.ownBlock = v.ownBlock := by
  rcases h.row.2 with ⟨rfl, h0⟩ | ⟨G, cap, cur0, rfl, _, hg, hc, hm, hsz, htk⟩
  · have hl : l = [] := List.eq_nil_of_length_eq_zero h0
    subst hl
    have c2 := h.c2
    have f2 := h.unfrozen 2
    go_enter Try.func46, Try.ntmps46
    go_wp2_with fail
    go_loopw [5, 17] (fun v5 v17 wr => v5 = .slice none 0 0 ∧ v17 = .int .i64 0 ∧ wr = w) (fun _ _ _ => 0)
    case atStart => exact ⟨rfl, rfl, rfl⟩
    case round =>
      obtain ⟨rfl, rfl, rfl⟩ := hrel
      have hcl := fun W => clear_nil W 0
      go_wp2_with fail
      go_ret
      have hb := heap_cells_set _ P 2 _ _ (.slice none 0 0) h.blk
      refine ⟨rfl, .slice none 0 0, ⟨hb, World.ownsRow_nil _ _ _ _, by simp [stay]⟩, ⟨Fr.setCell (F := foot P _) _ ⟨P, 2, none⟩ _ (.inl rfl), .inl rfl⟩, rfl⟩
  · have hs0 : ∀ W : World, (Instr.slice 55 (.slice (some ⟨G, 0, none⟩) l.length cap) none (some (.int .i64 0)) none).run Try.prog W = .ok (.slice (some ⟨G, 0, none⟩) 0 cap) W := fun W => by
      obtain ⟨i0, hi, hz0, hz1, hz2⟩ := info_parts info_gm
      rw [run_slice_h W 55 _ _ _ under_row .i64 0 (by omega) (by omega)]
      have he : Try.prog.elem 55 = 78 := by simp [Program.elem]
      rw [he]
      simp [sizeOf, typeInfo, hi, hz1, sliced, Addr.add]
    have hs1 : ∀ (W : World) (m : Nat), m ≤ l.length → (Instr.slice 55 (.slice (some ⟨G, 0, none⟩) l.length cap) (some (.int .i64 (m : Int))) none none).run Try.prog W = .ok (.slice (if cap = m then some ⟨G, 0, none⟩ else some ⟨G, m * 3, none⟩) (l.length - m) (cap - m)) W := fun W m hml => by
      obtain ⟨i0, hi, hz0, hz1, hz2⟩ := info_parts info_gm
      rw [run_slice_l W 55 _ _ _ under_row .i64 (m : Int) (by omega) (by omega)]
      have he : Try.prog.elem 55 = 78 := by simp [Program.elem]
      rw [he]
      simp [sizeOf, typeInfo, hi, hz1, sliced, Addr.add_lit]
    have H := Lib.hid h
    have HC := Lib.hid hC
    have HPP := Lib.hid hp
    have HS1 := Lib.hid hs1
    have HL0 : Hid (Lv w w G cur0 []) := ⟨⟨cur0, hg, by simp [gsCells]⟩, Fr.refl _ _⟩
    have HOLD : Hid (∀ j u, (gsCells l)[j]? = some u → cur0[j]? = some u) := fun j u hu => by
      have hj : j < l.length * 3 := by rw [← gsCells_length]; exact (List.getElem?_eq_some_iff.1 hu).1
      rw [← htk, List.getElem?_take, if_pos hj] at hu
      rw [← Array.getElem?_toList]
      exact hu
    have HSZ := Lib.hid hsz
    have HCAP := Lib.hid hc
    have HMX := Lib.hid hm
    have c2 := h.c2
    have hGP : G ≠ P := h.ne rfl
    have hCG : Hid (C ≠ G) := fun e => hCf (.inr (by rw [e]; rfl))
    have hCP : Hid (C ≠ P) := fun e => hCf (.inl e)
    have HCL : Hid (C < w.heap.size) := World.block_lt_of_cell? w _ hC
    have HFEW := Lib.hid h.few
    obtain ⟨N, HN⟩ : ∃ N, Hid (l.length = N) := ⟨_, rfl⟩
    rw [HN.out] at HFEW HCAP HS1 hs0 c2 ⊢
    clear h hC hp hs1 hsz hc hm htk hg hCf
    go_enter Try.func46, Try.ntmps46
    go_wp2_with fail
    go_loopw [5, 17] (fun v5 v17 wr => ∃ k : Nat, k ≤ N ∧ v5 = .slice (some ⟨G, 0, none⟩) (stay p 0 (l.take k)).length cap ∧ v17 = .int .i64 (k : Int) ∧ Lv w wr G cur0 (stay p 0 (l.take k))) (fun _ v17 _ => N - (intOf v17).toNat)
    case atStart => exact ⟨0, by omega, rfl, rfl, HL0.out⟩
    case round =>
      obtain ⟨k, hk, rfl, rfl, hlv⟩ := hrel
      have HLV := Lib.hid hlv
      clear hlv
      have HKL : Hid ((stay p 0 (l.take k)).length ≤ k) := by
        have := stay_length p (l.take k) 0
        rw [List.length_take] at this
        show _ ≤ _
        omega
      obtain ⟨m, HM⟩ : ∃ m, Hid ((stay p 0 (l.take k)).length = m) := ⟨_, rfl⟩
      rw [HM.out] at HKL ⊢
      by_cases hlt : k < N
      · obtain ⟨g, hg⟩ : ∃ g, l[k]? = some g := ⟨_, List.getElem?_eq_getElem (by rw [HN.out]; exact hlt)⟩
        have HG := Lib.hid hg
        have d0 := (HLV.out.old (j := k * 3) (by rw [HM.out]; have := HKL.out; omega)).trans (HOLD.out _ _ ((gsCells_at l k 0 hg (by omega)).trans rfl))
        have d1 := (HLV.out.old (j := k * 3 + 1) (by rw [HM.out]; have := HKL.out; omega)).trans (HOLD.out _ _ ((gsCells_at l k 1 hg (by omega)).trans rfl))
        have d2 := (HLV.out.old (j := k * 3 + 2) (by rw [HM.out]; have := HKL.out; omega)).trans (HOLD.out _ _ ((gsCells_at l k 2 hg (by omega)).trans rfl))
        have hin : (k : Int) < (N : Int) := by omega
        have hk0 : (0 : Int) ≤ (k : Int) := by omega
        have hwi : IntKind.i64.wrap ((k : Int) + 1) = ((k + 1 : Nat) : Int) := by
          have := HFEW.out
          rw [show ((k : Int) + 1) = ((k + 1 : Nat) : Int) by omega]
          exact IntWalk.i64_in _ (by omega)
        clear hg
        have HCK : Hid ((wr.alloc (.cells #[.int .i64 g.fr, .int .i64 g.to, .string g.ds] 78)).cell? ⟨C, 0, none⟩ = some cv) :=
          (HLV.out.fr.then_no (Fr.alloc No _ _)).cell HCL.out hCG.out |>.trans HC.out
        cases hpk : p k g with
        | true =>
          have HT : Hid (stay p 0 (l.take (k + 1)) = stay p 0 (l.take k)) := by
            show _ = _
            rw [stay_snoc p l k HG.out, hpk]
            simp
          have HPK := Lib.hid (HPP.out k g _ HCK.out)
          rw [hpk] at HPK
          clear hpk
          go_wp2_with (go_at_call 40; refine HPK.out.mono ?_; rintro e w2 ⟨rfl, hf⟩; have HL2 := Lib.hid ((HLV.out.no (Fr.alloc No _ _)).no hf); clear hf d0 d1 d2)
          go_roundw
          case rel => exact ⟨k + 1, by omega, by rw [HT.out, HM.out], by go_num, by rw [HT.out]; exact HL2.out⟩
          case measure => simp [intOf]; omega
        | false =>
          have HT : Hid (stay p 0 (l.take (k + 1)) = stay p 0 (l.take k) ++ [g]) := by
            show _ = _
            rw [stay_snoc p l k HG.out, hpk]
            simp
          have HPK := Lib.hid (HPP.out k g _ HCK.out)
          rw [hpk] at HPK
          clear hpk
          have HFIT : Hid ((m + 1) * 3 ≤ cur0.size ∧ m + 1 ≤ cap) := ⟨by rw [HSZ.out]; have := HKL.out; have := HCAP.out; omega, by have := HKL.out; have := HCAP.out; omega⟩
          go_wp2_with (first
            | (go_at_call 40; refine HPK.out.mono ?_; rintro e w2 ⟨rfl, hf⟩; have HL2 := Lib.hid ((HLV.out.no (Fr.alloc No _ _)).no hf); have HB2 := Lib.hid (blk_no hf (heap_alloc_new wr _)); have e0 := blk_cell HB2.out 0; have e1 := blk_cell HB2.out 1; have e2 := blk_cell HB2.out 2; clear hf d0 d1 d2)
            | (at_builtin; refine wpList_stay (HL2.out.no (Fr.alloc No _ _)) rfl (.tmp 27) (.tmp 29) rfl g w2.heap.size m cap HM.out HFIT.out.1 HFIT.out.2 (heap_alloc_new w2 _) rfl rfl ?_; intro w3 hl3; have HL3 := Lib.hid hl3; clear hl3))
          go_roundw
          case rel => exact ⟨k + 1, by omega, by rw [HT.out, List.length_append, HM.out]; rfl, by go_num, by rw [HT.out]; exact HL3.out⟩
          case measure => simp [intOf]; omega
      · have hkN : k = N := by omega
        subst hkN
        have HT : Hid (l.take k = l) := List.take_of_length_le (by rw [HN.out]; exact Nat.le_refl _)
        rw [HT.out] at HM HLV
        obtain ⟨cur, hgc, hcc⟩ := HLV.out.ex
        have hcs : cur.size = cap * 3 := by
          rw [← Array.length_toList (xs := cur), hcc, List.length_append, gsCells_length, List.length_drop, Array.length_toList (xs := cur0), HSZ.out, HM.out]
          have := HKL.out
          have := HCAP.out
          omega
        obtain ⟨A2, HA2⟩ : ∃ A2, Hid ((if cap = m then some ⟨G, 0, none⟩ else some ⟨G, m * 3, none⟩ : Option Addr) = A2) := ⟨_, rfl⟩
        obtain ⟨q, HQ⟩ : ∃ q, Hid (k - m = q) := ⟨_, rfl⟩
        have hs2 := fun W => HS1.out W m HKL.out
        obtain ⟨w4, cur4, hcl, hg4, hs4, ht4, hf4⟩ := clear_gm wr 0 G m (k - m) cap (cap - m) cur hgc (by rw [hcs]; have := HKL.out; have := HCAP.out; omega) (by have := HKL.out; have := HCAP.out; omega)
        rw [HA2.out, HQ.out] at hcl
        simp only [HA2.out, HQ.out] at hs2
        have HG4 := Lib.hid hg4
        have HS4 := Lib.hid (hs4.trans hcs)
        have HT4 := Lib.hid (show cur4.toList.take (m * 3) = gsCells (stay p 0 l) by
          rw [ht4, hcc, List.take_append_of_le_length (by rw [gsCells_length, HM.out]; omega), List.take_of_length_le (by rw [gsCells_length, HM.out]; omega)])
        have HF4 := Lib.hid (HLV.out.fr.trans hf4 (fun _ _ e => e))
        have HP4 := Lib.hid ((HF4.out.block P (H.out.lt (.inl rfl)) (fun e => hGP e.symm)).trans H.out.blk)
        have c4 := blk_cell HP4.out 2
        have f4 := blk_free HP4.out 2
        have c22 := ((HLV.out.fr.cell (p := ⟨P, 2, none⟩) (H.out.lt (.inl rfl)) (fun e => hGP e.symm))).trans c2
        clear hgc hcc hcs hg4 hs4 ht4 hf4 c2
        go_wp2_with fail
        go_ret
        refine ⟨by show Ending.returned (.int .i64 (q : Int)) = _; rw [HM.out, HQ.out], .slice (some ⟨G, 0, none⟩) m cap, ⟨heap_cells_set _ P 2 _ _ (.slice (some ⟨G, 0, none⟩) m cap) HP4.out, ?_, by have := HKL.out; have := HFEW.out; rw [HM.out]; omega⟩, ⟨?_, .inl rfl⟩, rfl⟩
        · rw [HM.out]
          refine ⟨by rw [gsCells_length, HM.out], .inr ⟨G, cap, cur4, rfl, Nat.zero_le _, ?_, by have := HKL.out; have := HCAP.out; omega, HMX.out, HS4.out, HT4.out⟩⟩
          exact (Below.heap_setCell _ _ _ _ (fun e => hGP e)).trans HG4.out
        · exact (HF4.out.mono (fun i _ e => .inr (by rw [e]; rfl))).trans (Fr.setCell (F := foot P _) _ ⟨P, 2, none⟩ _ (.inl rfl)) (fun _ _ e => e)
end Go.Proofs.Ytndanonhkjgmhaa

/-
  What asks a net: made, isNode, at, told, Look, Flying. No statement of the seat is proved here.
-/
import Derived.Test.YtndanonhkjgmhaaNtA
import Derived.LaidEqlPtr
import Derived.Laws.ResultCell
namespace Go.Proofs.Ytndanonhkjgmhaa
open Go.RowKit

theorem eql_self (a : Addr) (W : World) :
    (binOp .eql 23 (.pointer (some a)) (.pointer (some a))).run Try.prog W = .ok (.bool true) W := by
  have := run_eql_ptr_same (P := Try.prog) (w := W) (tp := 23) (te := 57) a (by kernel_rfl) rfl
  exact this
theorem eql_none (a : Addr) (W : World) :
    (binOp .eql 23 (.pointer none) (.pointer (some a))).run Try.prog W = .ok (.bool false) W := by
  have h : ∀ d : Nat, (Op.equalIn (d + 1) 23 (.pointer none) (.pointer (some a))).run Try.prog W = .ok false W := fun d => by
    simp [Op.equalIn, run_underlying Try.underlying23]
  simp only [binOp]
  simp [Op.equal, Op.maxDepth, h 9999]
/-- Two results, the first of which lies in a cell. -/
theorem results_cell_tmp_row {P : Program} {fn : Func} {p u : Tmp} {ty : TypeId} (h : fn.results = #[.cell p ty, .tmp u]) (tmps : Array Value) (w : World) (g : Nat) (t : TypeId) (cs : Array Value) (fr : Nat × Nat) (d : TypeDesc)
    (hp : tmps.getD p undef = .pointer (some ⟨g, 0, none⟩)) (hg : w.heap[g]? = some (.cells cs t fr))
    (hu : P.underlying ty = some d) (hd : (match d with | .struct _ | .array _ _ => true | _ => false) = true) (hi : (P.info? ty).map (·.size) = some cs.size) :
    (results fn tmps).run P w = .ok (.tuple #[.agg cs, tmps.getD u undef]) w := by
  rw [results_cell_tmp h, hp]
  simp [asAddr, run_loadVar_row w g t ty cs fr d hg hu hd hi]
set_option maxRecDepth 100000 in
theorem made_any (P : Nat) (w : World) (h : w.cell? ⟨P, 0, none⟩ = some (.pointer (some ⟨P, 0, none⟩))) :
    Calls Try.prog 34 #[.pointer (some ⟨P, 0, none⟩)] w fun e w' => e = .returned (.bool true) ∧ w = w' := by
  have he := fun W => eql_self ⟨P, 0, none⟩ W
  go_enter Try.func34, Try.ntmps34
  go_wp2_with fail
  go_ret
  exact ⟨rfl, rfl⟩
set_option maxRecDepth 100000 in
theorem made_nil (w : World) :
    Calls Try.prog 34 #[.pointer none] w fun e w' => e = .returned (.bool false) ∧ w = w' := by
  go_enter Try.func34, Try.ntmps34
  go_wp2_with fail
  go_ret
  exact ⟨rfl, rfl⟩
set_option maxRecDepth 100000 in
theorem made_zero (P : Nat) (w : World) (h : w.cell? ⟨P, 0, none⟩ = some (.pointer none)) :
    Calls Try.prog 34 #[.pointer (some ⟨P, 0, none⟩)] w fun e w' => e = .returned (.bool false) ∧ w = w' := by
  have he := fun W => eql_none ⟨P, 0, none⟩ W
  go_enter Try.func34, Try.ntmps34
  go_wp2_with fail
  go_ret
  exact ⟨rfl, rfl⟩
/-- Is that a node's number? -/
def isN (n x : Int) : Bool := decide (0 ≤ x) && decide (x < n)
set_option maxRecDepth 100000 in
theorem node_any (P : Nat) (n x : Int) (w : World) (h : w.cell? ⟨P, 1, none⟩ = some (.int .i64 n)) :
    Calls Try.prog 35 #[.pointer (some ⟨P, 0, none⟩), .int .i64 x] w fun e w' => e = .returned (.bool (isN n x)) ∧ w = w' := by
  by_cases hx : 0 ≤ x
  · have HX : Hid (isN n x = decide (x < n)) := by show _ = _; unfold isN; rw [decide_eq_true hx, Bool.true_and]
    rw [HX.out]
    go_enter Try.func35, Try.ntmps35
    go_wp2_with fail
    go_ret
    exact ⟨rfl, rfl⟩
  · have HX : Hid (isN n x = false) := by show _ = _; unfold isN; rw [decide_eq_false hx, Bool.false_and]
    rw [HX.out]
    go_enter Try.func35, Try.ntmps35
    go_wp2_with fail
    go_ret
    exact ⟨rfl, rfl⟩
/-- What stands at a place. -/
def look (l : List Gm) (i : Int) : Option Gm := if 0 ≤ i then l[i.toNat]? else none
theorem look_some {l : List Gm} {i : Int} {g : Gm} (h : look l i = some g) : ∃ k : Nat, i = (k : Int) ∧ k < l.length ∧ l[k]? = some g := by
  unfold look at h
  split at h
  · exact ⟨i.toNat, by omega, (List.getElem?_eq_some_iff.1 h).1, h⟩
  · cases h
theorem look_none {l : List Gm} {i : Int} (h : look l i = none) : i < 0 ∨ (l.length : Int) ≤ i := by
  unfold look at h
  split at h
  · right
    have := List.getElem?_eq_none_iff.1 h
    omega
  · left; omega
theorem look_nat (l : List Gm) (k : Nat) : look l (k : Int) = l[k]? := by
  unfold look
  rw [if_pos (by omega)]
  rfl
set_option maxRecDepth 100000 in
theorem rat_some {w : World} {l : List Gm} {A : Option Addr} {c : Nat} (h : w.ownsRow 0 78 3 (.slice A l.length c) l.length (gsCells l)) {i : Int} {g : Gm} (hg : look l i = some g) :
    Calls Try.prog 47 #[.slice A l.length c, .int .i64 i] w fun e w' => e = .returned (.tuple #[.agg #[.int .i64 g.fr, .int .i64 g.to, .string g.ds], .bool true]) ∧ Fr No w w' := by
  obtain ⟨k, rfl, hk, hkg⟩ := look_some hg
  obtain ⟨G, rfl, _, hG, hc⟩ := row_cells (w := w.alloc (.cells #[.int .i64 0, .int .i64 0, .string ⟨#[]⟩] 78)) (h.alloc _) (j := k * 3) (by rw [gsCells_length]; omega)
  have d0 := hc (k * 3) _ ((gsCells_at l k 0 hkg (by omega)).trans rfl)
  have d1 := hc (k * 3 + 1) _ ((gsCells_at l k 1 hkg (by omega)).trans rfl)
  have d2 := hc (k * 3 + 2) _ ((gsCells_at l k 2 hkg (by omega)).trans rfl)
  have hkl : (k : Int) < (l.length : Int) := by omega
  have hk0 : (0 : Int) ≤ (k : Int) := by omega
  generalize l.length = m at *
  clear h hc hg hkg
  go_enter Try.func47, Try.ntmps47
  go_wp2_with fail
  refine bodyPost_ret (results_cell_tmp_row (p := 4) rfl _ _ w.heap.size 78 #[.int .i64 g.fr, .int .i64 g.to, .string g.ds] (0, 0) _ rfl (heap_alloc_new w _) Try.underlying78 rfl (by kernel_rfl)) rfl ?_
  exact ⟨rfl, Fr.alloc _ _ _⟩
set_option maxRecDepth 100000 in
theorem rat_none {w : World} {l : List Gm} {A : Option Addr} {c : Nat} {i : Int} (hg : look l i = none) :
    Calls Try.prog 47 #[.slice A l.length c, .int .i64 i] w fun e w' => e = .returned (.tuple #[.agg #[.int .i64 0, .int .i64 0, .string ⟨#[]⟩], .bool false]) ∧ Fr No w w' := by
  have hi := look_none hg
  generalize l.length = m at *
  clear hg
  rcases hi with hi | hi
  · have hi' : ¬ (0 ≤ i) := by omega
    go_enter Try.func47, Try.ntmps47
    go_wp2_with fail
    refine bodyPost_ret (results_cell_tmp_row (p := 4) rfl _ _ w.heap.size 78 #[.int .i64 0, .int .i64 0, .string ⟨#[]⟩] (0, 0) _ rfl ((Below.heap_alloc _ _ _ (by simp)).trans (heap_alloc_new w _)) Try.underlying78 rfl (by kernel_rfl)) rfl ?_
    exact ⟨rfl, (Fr.alloc _ _ _).no_trans (Fr.alloc _ _ _)⟩
  · have hi' : 0 ≤ i := by omega
    go_enter Try.func47, Try.ntmps47
    go_wp2_with fail
    refine bodyPost_ret (results_cell_tmp_row (p := 4) rfl _ _ w.heap.size 78 #[.int .i64 0, .int .i64 0, .string ⟨#[]⟩] (0, 0) _ rfl ((Below.heap_alloc _ _ _ (by simp)).trans (heap_alloc_new w _)) Try.underlying78 rfl (by kernel_rfl)) rfl ?_
    exact ⟨rfl, (Fr.alloc _ _ _).no_trans (Fr.alloc _ _ _)⟩
section
variable {w : World} {P : Nat} {n : Int} {v : Value} {l : List Gm}
set_option maxRecDepth 100000 in
theorem at_some (h : Ntw w P n v l) {i : Int} {g : Gm} (hg : look l i = some g) :
    Calls Try.prog 39 #[.pointer (some ⟨P, 0, none⟩), .int .i64 i] w fun e w' => e = .returned (.tuple #[.agg #[.int .i64 g.fr, .int .i64 g.to, .string g.ds], .bool true]) ∧ Fr No w w' := by
  have h1 := h.no (Fr.alloc No w (.cells #[.int .i64 0, .int .i64 0, .string ⟨#[]⟩] 78))
  obtain ⟨A, c, rfl, _⟩ := h.sl
  have HM := Lib.hid (made_any P _ h1.c0)
  have HR := Lib.hid (rat_some h1.row hg)
  have c2 := h1.c2
  clear h h1 hg
  go_enter Try.func39, Try.ntmps39
  go_wp2_with fail
  refine HM.out.mono ?_
  rintro e w1 ⟨rfl, rfl⟩
  go_wp2_with fail
  refine HR.out.mono ?_
  rintro e w1 ⟨rfl, hf⟩
  have HF := Lib.hid hf
  have HB := Lib.hid (blk_no HF.out (heap_alloc_new w _))
  have q0 := blk_cell HB.out 0
  have q1 := blk_cell HB.out 1
  have q2 := blk_cell HB.out 2
  have f0 := blk_free HB.out 0
  have f1 := blk_free HB.out 1
  have f2 := blk_free HB.out 2
  go_wp2_with fail
  refine bodyPost_ret (results_cell_tmp_row (p := 4) rfl _ _ w.heap.size 78 #[.int .i64 g.fr, .int .i64 g.to, .string g.ds] (0, 0) _ rfl (set3_blk HB.out _ _ _) Try.underlying78 rfl (by kernel_rfl)) rfl ?_
  exact ⟨rfl, ((Fr.alloc _ _ _).no_trans HF.out).then_new (set3_fr _ _ _ _ _) (fun i hi => by rw [hi]; exact Nat.le_refl _)⟩
set_option maxRecDepth 100000 in
theorem at_none (h : Ntw w P n v l) {i : Int} (hg : look l i = none) :
    Calls Try.prog 39 #[.pointer (some ⟨P, 0, none⟩), .int .i64 i] w fun e w' => e = .returned (.tuple #[.agg #[.int .i64 0, .int .i64 0, .string ⟨#[]⟩], .bool false]) ∧ Fr No w w' := by
  have h1 := h.no (Fr.alloc No w (.cells #[.int .i64 0, .int .i64 0, .string ⟨#[]⟩] 78))
  obtain ⟨A, c, rfl, _⟩ := h.sl
  have HM := Lib.hid (made_any P _ h1.c0)
  have HR := Lib.hid (rat_none (w := w.alloc (.cells #[.int .i64 0, .int .i64 0, .string ⟨#[]⟩] 78)) (A := A) (c := c) hg)
  have c2 := h1.c2
  clear h h1 hg
  go_enter Try.func39, Try.ntmps39
  go_wp2_with fail
  refine HM.out.mono ?_
  rintro e w1 ⟨rfl, rfl⟩
  go_wp2_with fail
  refine HR.out.mono ?_
  rintro e w1 ⟨rfl, hf⟩
  have HF := Lib.hid hf
  have HB := Lib.hid (blk_no HF.out (heap_alloc_new w _))
  have q0 := blk_cell HB.out 0
  have q1 := blk_cell HB.out 1
  have q2 := blk_cell HB.out 2
  have f0 := blk_free HB.out 0
  have f1 := blk_free HB.out 1
  have f2 := blk_free HB.out 2
  go_wp2_with fail
  refine bodyPost_ret (results_cell_tmp_row (p := 4) rfl _ _ w.heap.size 78 #[.int .i64 0, .int .i64 0, .string ⟨#[]⟩] (0, 0) _ rfl (set3_blk HB.out _ _ _) Try.underlying78 rfl (by kernel_rfl)) rfl ?_
  exact ⟨rfl, ((Fr.alloc _ _ _).no_trans HF.out).then_new (set3_fr _ _ _ _ _) (fun i hi => by rw [hi]; exact Nat.le_refl _)⟩
end
set_option maxRecDepth 100000 in
theorem told_any (g : Gm) (w : World) :
    Calls Try.prog 43 #[.agg #[.int .i64 g.fr, .int .i64 g.to, .string g.ds]] w fun e w' => ∃ A c, e = .returned (.agg #[.int .i64 g.fr, .int .i64 g.to, .slice A g.ds.size c]) ∧ g.ds.size ≤ c ∧ Bx w.heap.size w' A g.ds.size g.ds.data.toList ∧ Fr No w w' := by
  obtain ⟨c, w', hcv, hc, hx, hf⟩ := bytes_of ((w.alloc (.cells #[.int .i64 g.fr, .int .i64 g.to, .string g.ds] 78)).alloc (.cells #[.int .i64 0, .int .i64 0, .slice none 0 0] 30)) g.ds
  have HX := Lib.hid hx
  have HF := Lib.hid hf
  have HB := Lib.hid (show w'.heap[w.heap.size + 1]? = some (.cells #[.int .i64 0, .int .i64 0, .slice none 0 0] 30 (0, 0)) from blk_no HF.out (heap2 w _ _))
  clear hx hf
  have q0 := blk_cell HB.out 0
  have q1 := blk_cell HB.out 1
  have q2 := blk_cell HB.out 2
  have f0 := blk_free HB.out 0
  have f1 := blk_free HB.out 1
  have f2 := blk_free HB.out 2
  go_enter Try.func43, Try.ntmps43
  go_wp2_with fail
  refine bodyPost_ret (results_cell_row (p := 2) rfl _ _ (w.heap.size + 1) 30 #[.int .i64 g.fr, .int .i64 g.to, .slice (some ⟨w.heap.size + 1 + 1, 0, none⟩) g.ds.size c] (0, 0) _ rfl (set3_blk HB.out _ _ _) Try.underlying30 rfl (by kernel_rfl)) rfl ?_
  have h2 : ((w.alloc (.cells #[.int .i64 g.fr, .int .i64 g.to, .string g.ds] 78)).alloc (.cells #[.int .i64 0, .int .i64 0, .slice none 0 0] 30)).heap.size = w.heap.size + 1 + 1 := by simp
  refine ⟨_, c, rfl, hc, ?_, (((Fr.alloc No _ _).no_trans (Fr.alloc No _ _)).no_trans HF.out).then_new (set3_fr _ _ _ _ _) (fun i hi => by rw [hi]; omega)⟩
  have hx := HX.out.keep (set3_fr w' (w.heap.size + 1) (.int .i64 g.fr) (.int .i64 g.to) (.slice (some ⟨w.heap.size + 1 + 1, 0, none⟩) g.ds.size c)) (fun k hk _ e => by rw [h2] at hk; omega)
  rw [h2] at hx
  exact hx.lo (by omega)
set_option maxRecDepth 100000 in
theorem look_yes {w : World} {P : Nat} {n : Int} {v : Value} {l : List Gm} (h : Ntw w P n v l) {i : Int} {g : Gm} (hg : look l i = some g) :
    Calls Try.prog 25 #[.pointer (some ⟨P, 0, none⟩), .int .i64 i] w fun e w' => ∃ A c, e = .returned (.tuple #[.agg #[.int .i64 g.fr, .int .i64 g.to, .slice A g.ds.size c], .bool true]) ∧ g.ds.size ≤ c ∧ Bx w.heap.size w' A g.ds.size g.ds.data.toList ∧ Fr No w w' := by
  have HA := Lib.hid (at_some (h.no (Fr.alloc No w (.cells #[.int .i64 0, .int .i64 0, .slice none 0 0] 30))) hg)
  have HT := Lib.hid (told_any g)
  clear h hg
  go_enter Try.func25, Try.ntmps25
  go_wp2_with fail
  refine HA.out.mono ?_
  rintro e w1 ⟨rfl, hf⟩
  have HF := Lib.hid hf
  clear hf
  go_wp2_with fail
  refine (HT.out _).mono ?_
  rintro e w2 ⟨A, c, rfl, hc, hx, hf⟩
  have HX := Lib.hid hx
  have HF2 := Lib.hid (((Fr.alloc No w1 (.cells #[.int .i64 g.fr, .int .i64 g.to, .string g.ds] 78))).no_trans hf)
  clear hx hf
  have HB := Lib.hid (blk_no HF2.out (blk_no HF.out (heap_alloc_new w _)))
  have q0 := blk_cell HB.out 0
  have q1 := blk_cell HB.out 1
  have q2 := blk_cell HB.out 2
  have f0 := blk_free HB.out 0
  have f1 := blk_free HB.out 1
  have f2 := blk_free HB.out 2
  go_wp2_with fail
  refine bodyPost_ret (results_cell_tmp_row (p := 4) rfl _ _ w.heap.size 30 #[.int .i64 g.fr, .int .i64 g.to, .slice A g.ds.size c] (0, 0) _ rfl (set3_blk HB.out _ _ _) Try.underlying30 rfl (by kernel_rfl)) rfl ?_
  have hs1 := HF.out.size
  rw [World.size_alloc] at hs1
  have hx := HX.out.keep (set3_fr w2 w.heap.size (.int .i64 g.fr) (.int .i64 g.to) (.slice A g.ds.size c)) (fun k hk _ e => by rw [World.size_alloc] at hk; omega)
  rw [World.size_alloc] at hx
  exact ⟨A, c, rfl, hc, hx.lo (by omega), (((Fr.alloc No _ _).no_trans HF.out).no_trans HF2.out).then_new (set3_fr _ _ _ _ _) (fun i hi => by rw [hi]; exact Nat.le_refl _)⟩
set_option maxRecDepth 100000 in
theorem look_no {w : World} {P : Nat} {n : Int} {v : Value} {l : List Gm} (h : Ntw w P n v l) {i : Int} (hg : look l i = none) :
    Calls Try.prog 25 #[.pointer (some ⟨P, 0, none⟩), .int .i64 i] w fun e w' => e = .returned (.tuple #[.agg #[.int .i64 0, .int .i64 0, .slice none 0 0], .bool false]) ∧ Fr No w w' := by
  have HA := Lib.hid (at_none (h.no (Fr.alloc No w (.cells #[.int .i64 0, .int .i64 0, .slice none 0 0] 30))) hg)
  clear h hg
  go_enter Try.func25, Try.ntmps25
  go_wp2_with fail
  refine HA.out.mono ?_
  rintro e w1 ⟨rfl, hf⟩
  have HF := Lib.hid hf
  clear hf
  have HB := Lib.hid (blk_no HF.out (heap_alloc_new w _))
  have HB2 := Lib.hid (blk_no (Fr.alloc No w1 (.cells #[.int .i64 0, .int .i64 0, .string ⟨#[]⟩] 78)) HB.out)
  have q0 := blk_cell HB2.out 0
  have q1 := blk_cell HB2.out 1
  have q2 := blk_cell HB2.out 2
  have f0 := blk_free HB2.out 0
  have f1 := blk_free HB2.out 1
  have f2 := blk_free HB2.out 2
  go_wp2_with fail
  refine bodyPost_ret (results_cell_tmp_row (p := 4) rfl _ _ w.heap.size 30 #[.int .i64 0, .int .i64 0, .slice none 0 0] (0, 0) _ rfl (set3_blk HB2.out _ _ _) Try.underlying30 rfl (by kernel_rfl)) rfl ?_
  exact ⟨rfl, (((Fr.alloc No _ _).no_trans HF.out).no_trans (Fr.alloc No _ _)).then_new (set3_fr _ _ _ _ _) (fun i hi => by rw [hi]; exact Nat.le_refl _)⟩
set_option maxRecDepth 100000 in
theorem flying_any {w : World} {P : Nat} {n : Int} {v : Value} {l : List Gm} (h : Ntw w P n v l) :
    Calls Try.prog 16 #[.pointer (some ⟨P, 0, none⟩)] w fun e w' => e = .returned (.int .i64 (l.length : Int)) ∧ w = w' := by
  have HM := Lib.hid (made_any P _ h.c0)
  have c2 := h.c2
  obtain ⟨A, c, rfl, _⟩ := h.sl
  clear h
  go_enter Try.func16, Try.ntmps16
  go_wp2_with fail
  refine HM.out.mono ?_
  rintro e w1 ⟨rfl, rfl⟩
  go_wp2_with fail
  go_ret
  exact ⟨rfl, rfl⟩
end Go.Proofs.Ytndanonhkjgmhaa

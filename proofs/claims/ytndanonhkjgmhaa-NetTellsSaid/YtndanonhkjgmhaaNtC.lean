/-
  What has a datagram join a net's row: join, Send, Copy; New. No statement of the seat is proved here.
-/
import Derived.Test.YtndanonhkjgmhaaNtB
import Derived.Deep.RegionLaw
import Derived.BigQuiet
namespace Go.Proofs.Ytndanonhkjgmhaa
open Go.RowKit

set_option maxRecDepth 100000 in
/-- A datagram appended to a row. -/
theorem step_append_gm (wx : World) {ops : Array Oper} {o : Oper} {a : Act} {K : Act → World → Prop} {Q : Exit → Act → World → Prop} {E : Prop} (hgd : o.guard = none) (s x : Operand)
    (ho : o.op = .call { callee := .builtin .append, args := #[s, x], argTypes := #[55, 55] })
    {v : Value} {l : List Gm} (hown : wx.ownsRow 0 78 3 v l.length (gsCells l)) (hl : l.length ≤ 4096) (g : Gm) (H : Nat) (hb : wx.heap[H]? = some (.cells #[.int .i64 g.fr, .int .i64 g.to, .string g.ds] 78 (0, 0)))
    (hs : a.eval s = v) (hx : a.eval x = .slice (some ⟨H, 0, none⟩) 1 1)
    (hk : ∀ G cap w', w'.ownsRow 0 78 3 (.slice (some ⟨G, 0, none⟩) (l.length + 1) cap) (l ++ [g]).length (gsCells (l ++ [g])) → wx.grownBy w' v.ownBlock → (v.ownBlock = some G ∨ G = wx.heap.size) → K (a.put o.dst (.slice (some ⟨G, 0, none⟩) (l.length + 1) cap)) w') :
    if Region.wanted o (yielded ops a.tmps) = true then Oper.wp Try.prog o a wx K Q else E := by
  obtain ⟨i0, hi, hz0, hz1, hz2⟩ := info_parts info_gm
  refine step_append_lies _ hgd s x 55 ho 0 78 i0 _ 3 32 Try.underlying55 hi hz0 hz1 hz2 rfl (by omega) v l.length (gsCells l) hs hown ⟨H, 0, none⟩ 1 1 (gCells g) hx rfl (fun j u hu => by
    rw [Addr.add_lit, Nat.zero_add, blk_cell hb j]
    show (gCells g).toArray[j]? = _
    rw [List.getElem?_toArray]
    exact hu) (gCells_one g) (by omega) (by unfold maxLen; omega) (by omega) (Nat.zero_le _) _ rfl ?_
  intro G cap w' hown' hg hat _
  refine hk G cap w' ?_ hg hat
  rw [gsCells_append, List.length_append]
  have e : gsCells [g] = gCells g := by simp [gsCells]
  rw [e]
  exact hown'
set_option maxRecDepth 100000 in
/-- The row put back into the net's block. -/
theorem joined {w wx w2 : World} {P : Nat} {n : Int} {v : Value} {l l' : List Gm} {G m cap : Nat} (h : Ntw w P n v l) (hw : Fr No w wx) (ho : w2.ownsRow 0 78 3 (.slice (some ⟨G, 0, none⟩) m cap) l'.length (gsCells l')) (hl : l'.length ≤ 4096)
    (hg : wx.grownBy w2 v.ownBlock) (hat : v.ownBlock = some G ∨ G = wx.heap.size) :
    Ntw (w2.setCell ⟨P, 2, none⟩ (.slice (some ⟨G, 0, none⟩) m cap)) P n (.slice (some ⟨G, 0, none⟩) m cap) l' ∧ Nx P v w (w2.setCell ⟨P, 2, none⟩ (.slice (some ⟨G, 0, none⟩) m cap)) (.slice (some ⟨G, 0, none⟩) m cap) := by
  have hP := h.lt (k := P) (.inl rfl)
  have hPx : P < wx.heap.size := Nat.lt_of_lt_of_le hP hw.size
  have hb : w2.heap[P]? = w.heap[P]? := (hg.block P hPx (fun e => h.ne e.symm rfl)).trans (hw.block P hP (fun e => e))
  have hGP : G ≠ P := by
    rcases hat with e | e
    · exact h.ne e
    · omega
  refine ⟨⟨?_, ?_, hl⟩, ?_, ?_⟩
  · have := heap_cells_set w2 P 2 _ _ (.slice (some ⟨G, 0, none⟩) m cap) (hb.trans h.blk)
    exact this
  · exact own_keep ho (fun k hk => Below.heap_setCell _ _ _ _ (fun e => by
      have : G = k := by injection hk
      subst this
      exact hGP e))
  · refine (hw.any.trans (Fr.grown (F := foot P v) hg (fun k hk => .inr hk)) (fun _ _ e => e)).trans (Fr.setCell (F := foot P v) _ ⟨P, 2, none⟩ _ (.inl rfl)) (fun _ _ e => e)
  · rcases hat with e | e
    · left; exact e.symm
    · right
      intro k hk
      have : G = k := by injection hk
      have := hw.size
      omega
set_option maxRecDepth 100000 in
theorem rjoin_any {w : World} {P : Nat} {n : Int} {v : Value} {l : List Gm} (h : Ntw w P n v l) (hl : l.length < 4096) (g : Gm) :
    Calls Try.prog 45 #[.pointer (some ⟨P, 2, none⟩), .agg #[.int .i64 g.fr, .int .i64 g.to, .string g.ds]] w fun e w' => e = .returned (.tuple #[]) ∧ ∃ v', Ntw w' P n v' (l ++ [g]) ∧ Nx P v w w' v' := by
  have h1 := h.no (Fr.alloc No w (.cells #[.int .i64 g.fr, .int .i64 g.to, .string g.ds] 78))
  have c2 := h1.c2
  have f2 := h1.unfrozen 2
  have H := Lib.hid h
  have H1 := Lib.hid h1
  clear h h1
  go_enter Try.func45, Try.ntmps45
  go_wp2_with fail
  have HZ : ∀ W W' k, W.grownBy W' v.ownBlock → Fr No w W → W'.cell? ⟨P, k, none⟩ = W.cell? ⟨P, k, none⟩ ∧ W'.frozen? ⟨P, k, none⟩ = W.frozen? ⟨P, k, none⟩ := fun W W' k hg hf => by
    have e := hg.block P (Nat.lt_of_lt_of_le (H.out.lt (.inl rfl)) hf.size) (fun e => H.out.ne e.symm rfl)
    exact ⟨World.cell?_of_block (a := ⟨P, k, none⟩) e, World.frozen?_of_block (a := ⟨P, k, none⟩) e⟩
  have HW : Hid (Fr No w ((w.alloc (.cells #[.int .i64 g.fr, .int .i64 g.to, .string g.ds] 78)).alloc (.cells #[.int .i64 g.fr, .int .i64 g.to, .string g.ds] 78)).drew) := ((Fr.alloc No _ _).no_trans (Fr.alloc No _ _)).no_trans (Fr.drew No _)
  have HZ' := Lib.hid HZ
  have c22 := (H.out.no HW.out).c2
  clear HZ
  go_region_law (refine step_append_gm _ rfl (.tmp 7) (.tmp 9) rfl (v := v) (l := l) ?ho (by omega) g (w.heap.size + 1) ?hb (by rfl) (by rfl) ?_; (case ho => exact (H.out.no HW.out).row); (case hb => exact heap2 w _ _); intro G cap w2 ho hg hat; have c3 := (HZ'.out _ _ 2 hg HW.out).1.trans (H.out.no HW.out).c2; have f3 := (HZ'.out _ _ 2 hg HW.out).2.trans ((H.out.no HW.out).unfrozen 2); have HO := Lib.hid ho; have HG := Lib.hid hg; have HAT := Lib.hid hat; clear ho hg hat)
  all_goals (
    go_wp2_with fail
    go_end0
    refine ⟨rfl, ?_⟩
    have hj := joined H.out HW.out HO.out (by rw [List.length_append]; simp; omega) HG.out HAT.out
    exact ⟨_, hj.1, hj.2⟩)
set_option maxRecDepth 100000 in
theorem join_any {w : World} {P : Nat} {n : Int} {v : Value} {l : List Gm} (h : Ntw w P n v l) (hl : l.length < 4096) (g : Gm) :
    Calls Try.prog 36 #[.pointer (some ⟨P, 0, none⟩), .agg #[.int .i64 g.fr, .int .i64 g.to, .string g.ds]] w fun e w' => e = .returned (.int .i64 0) ∧ ∃ v', Ntw w' P n v' (l ++ [g]) ∧ Nx P v w w' v' := by
  have h1 := h.no (Fr.alloc No w (.cells #[.int .i64 g.fr, .int .i64 g.to, .string g.ds] 78))
  have c2 := h1.c2
  have f2 := h1.unfrozen 2
  obtain ⟨A, c, rfl, _⟩ := h.sl
  have HJ := Lib.hid (fun W (hW : Fr No w W) => rjoin_any (h.no hW) hl g)
  have HW : Hid (Fr No w ((w.alloc (.cells #[.int .i64 g.fr, .int .i64 g.to, .string g.ds] 78)).drew)) := (Fr.alloc No _ _).no_trans (Fr.drew No _)
  have HL := Lib.hid hl
  have hl' : ¬ ((l.length : Int) ≥ 4096) := by omega
  have hl2 : (l.length : Int) < 4096 := by omega
  generalize hm : l.length = m at *
  clear h h1 hl
  go_enter Try.func36, Try.ntmps36
  go_wp2_with fail
  go_region_with (go_at_call 45; (refine (HJ.out _ HW.out).mono ?_); rintro e w2 ⟨rfl, v', hn, hx⟩; have HN := Lib.hid hn; have HX := Lib.hid hx; clear hn hx)
  go_wp2_with fail
  go_ret
  exact ⟨rfl, v', HN.out, ((Nx.of_no (Fr.alloc No _ _)).then_no (Fr.drew No _)).trans HX.out⟩
set_option maxRecDepth 100000 in
theorem join_full {w : World} {P : Nat} {n : Int} {v : Value} {l : List Gm} (h : Ntw w P n v l) (hl : l.length = 4096) (g : Gm) :
    Calls Try.prog 36 #[.pointer (some ⟨P, 0, none⟩), .agg #[.int .i64 g.fr, .int .i64 g.to, .string g.ds]] w fun e w' => e = .returned (.int .i64 5) ∧ Fr No w w' := by
  have h1 := h.no (Fr.alloc No w (.cells #[.int .i64 g.fr, .int .i64 g.to, .string g.ds] 78))
  have c2 := h1.c2
  obtain ⟨A, c, rfl, _⟩ := h.sl
  clear h h1
  rw [hl] at c2
  clear hl
  go_enter Try.func36, Try.ntmps36
  go_wp2_with fail
  go_ret
  exact ⟨rfl, Fr.alloc No _ _⟩
section
variable {w : World} {P : Nat} {n : Int} {v : Value} {l : List Gm}
set_option maxRecDepth 100000 in
theorem send_arg (h : Ntw w P n v l) (fr to : Int) (hn : (isN n fr && isN n to) = false) (A : Option Addr) (m c : Nat) :
    Calls Try.prog 12 #[.pointer (some ⟨P, 0, none⟩), .int .i64 fr, .int .i64 to, .slice A m c] w fun e w' => e = .returned (.int .i64 2) ∧ w = w' := by
  have HM := Lib.hid (made_any P w h.c0)
  have HA := Lib.hid (node_any P n fr w h.c1)
  have HB := Lib.hid (node_any P n to w h.c1)
  clear h
  cases hx : isN n fr with
  | false =>
    rw [hx] at HA
    clear hx hn
    go_enter Try.func12, Try.ntmps12
    go_wp2_with fail
    refine HM.out.mono ?_
    rintro e w1 ⟨rfl, rfl⟩
    go_wp2_with fail
    refine HA.out.mono ?_
    rintro e w1 ⟨rfl, rfl⟩
    go_wp2_with fail
    go_ret
    exact ⟨rfl, rfl⟩
  | true =>
    rw [hx, Bool.true_and] at hn
    rw [hx] at HA
    rw [hn] at HB
    clear hx hn
    go_enter Try.func12, Try.ntmps12
    go_wp2_with fail
    refine HM.out.mono ?_
    rintro e w1 ⟨rfl, rfl⟩
    go_wp2_with fail
    refine HA.out.mono ?_
    rintro e w1 ⟨rfl, rfl⟩
    go_wp2_with fail
    refine HB.out.mono ?_
    rintro e w1 ⟨rfl, rfl⟩
    go_wp2_with fail
    go_ret
    exact ⟨rfl, rfl⟩
set_option maxRecDepth 100000 in
theorem send_long (h : Ntw w P n v l) (fr to : Int) (hx : isN n fr = true) (hy : isN n to = true) (A : Option Addr) (m c : Nat) (hm : 1048576 < m) :
    Calls Try.prog 12 #[.pointer (some ⟨P, 0, none⟩), .int .i64 fr, .int .i64 to, .slice A m c] w fun e w' => e = .returned (.int .i64 3) ∧ w = w' := by
  have HM := Lib.hid (made_any P w h.c0)
  have HA := Lib.hid (node_any P n fr w h.c1)
  have HB := Lib.hid (node_any P n to w h.c1)
  have hm' : (1048576 : Int) < (m : Int) := by omega
  rw [hx] at HA
  rw [hy] at HB
  clear h hx hy
  go_enter Try.func12, Try.ntmps12
  go_wp2_with fail
  refine HM.out.mono ?_
  rintro e w1 ⟨rfl, rfl⟩
  go_wp2_with fail
  refine HA.out.mono ?_
  rintro e w1 ⟨rfl, rfl⟩
  go_wp2_with fail
  refine HB.out.mono ?_
  rintro e w1 ⟨rfl, rfl⟩
  go_wp2_with fail
  go_ret
  exact ⟨rfl, rfl⟩
set_option maxRecDepth 100000 in
theorem send_full (h : Ntw w P n v l) (hl : l.length = 4096) (fr to : Int) (hx : isN n fr = true) (hy : isN n to = true) (A : Option Addr) (m c : Nat) (hm : m ≤ 1048576) (bs : List UInt8) (hr : Rd w w.heap.size A m bs) :
    Calls Try.prog 12 #[.pointer (some ⟨P, 0, none⟩), .int .i64 fr, .int .i64 to, .slice A m c] w fun e w' => e = .returned (.int .i64 5) ∧ Fr No w w' := by
  have HM := Lib.hid (made_any P w h.c0)
  have HA := Lib.hid (node_any P n fr w h.c1)
  have HB := Lib.hid (node_any P n to w h.c1)
  have HJ := Lib.hid (join_full h hl ⟨fr, to, ⟨bs.toArray⟩⟩)
  have hst := str_rule c hr
  have hm' : ¬ ((1048576 : Int) < (m : Int)) := by omega
  rw [hx] at HA
  rw [hy] at HB
  clear h hx hy hr hl
  go_enter Try.func12, Try.ntmps12
  go_wp2_with fail
  refine HM.out.mono ?_
  rintro e w1 ⟨rfl, rfl⟩
  go_wp2_with fail
  refine HA.out.mono ?_
  rintro e w1 ⟨rfl, rfl⟩
  go_wp2_with fail
  refine HB.out.mono ?_
  rintro e w1 ⟨rfl, rfl⟩
  go_wp2_with fail
  refine HJ.out.mono ?_
  rintro e w1 ⟨rfl, hf⟩
  have HF := Lib.hid hf
  clear hf
  go_wp2_with fail
  go_ret
  exact ⟨rfl, HF.out⟩
set_option maxRecDepth 100000 in
theorem send_ok (h : Ntw w P n v l) (hl : l.length < 4096) (fr to : Int) (hx : isN n fr = true) (hy : isN n to = true) (A : Option Addr) (m c : Nat) (hm : m ≤ 1048576) (bs : List UInt8) (hr : Rd w w.heap.size A m bs) :
    Calls Try.prog 12 #[.pointer (some ⟨P, 0, none⟩), .int .i64 fr, .int .i64 to, .slice A m c] w fun e w' => e = .returned (.int .i64 0) ∧ ∃ v', Ntw w' P n v' (l ++ [⟨fr, to, ⟨bs.toArray⟩⟩]) ∧ Nx P v w w' v' := by
  have HM := Lib.hid (made_any P w h.c0)
  have HA := Lib.hid (node_any P n fr w h.c1)
  have HB := Lib.hid (node_any P n to w h.c1)
  have HJ := Lib.hid (join_any h hl ⟨fr, to, ⟨bs.toArray⟩⟩)
  have hst := str_rule c hr
  have hm' : ¬ ((1048576 : Int) < (m : Int)) := by omega
  rw [hx] at HA
  rw [hy] at HB
  clear h hx hy hr hl
  go_enter Try.func12, Try.ntmps12
  go_wp2_with fail
  refine HM.out.mono ?_
  rintro e w1 ⟨rfl, rfl⟩
  go_wp2_with fail
  refine HA.out.mono ?_
  rintro e w1 ⟨rfl, rfl⟩
  go_wp2_with fail
  refine HB.out.mono ?_
  rintro e w1 ⟨rfl, rfl⟩
  go_wp2_with fail
  refine HJ.out.mono ?_
  rintro e w1 ⟨rfl, v', hn, hx⟩
  have HN := Lib.hid hn
  have HX := Lib.hid hx
  clear hn hx
  go_wp2_with fail
  go_ret
  exact ⟨rfl, v', HN.out, HX.out⟩
set_option maxRecDepth 100000 in
theorem copy_none (h : Ntw w P n v l) {i : Int} (hg : look l i = none) :
    Calls Try.prog 15 #[.pointer (some ⟨P, 0, none⟩), .int .i64 i] w fun e w' => e = .returned (.int .i64 2) ∧ Fr No w w' := by
  have HM := Lib.hid (made_any P w h.c0)
  have HA := Lib.hid (at_none h hg)
  clear h hg
  go_enter Try.func15, Try.ntmps15
  go_wp2_with fail
  refine HM.out.mono ?_
  rintro e w1 ⟨rfl, rfl⟩
  go_wp2_with fail
  refine HA.out.mono ?_
  rintro e w1 ⟨rfl, hf⟩
  have HF := Lib.hid hf
  clear hf
  go_wp2_with fail
  go_ret
  exact ⟨rfl, HF.out.no_trans (Fr.alloc No _ _)⟩
set_option maxRecDepth 100000 in
theorem copy_full (h : Ntw w P n v l) (hl : l.length = 4096) {i : Int} {g : Gm} (hg : look l i = some g) :
    Calls Try.prog 15 #[.pointer (some ⟨P, 0, none⟩), .int .i64 i] w fun e w' => e = .returned (.int .i64 5) ∧ Fr No w w' := by
  have HM := Lib.hid (made_any P w h.c0)
  have HA := Lib.hid (at_some h hg)
  have HJ := Lib.hid (fun W (hW : Fr No w W) => join_full (h.no hW) hl g)
  clear h hg hl
  go_enter Try.func15, Try.ntmps15
  go_wp2_with fail
  refine HM.out.mono ?_
  rintro e w1 ⟨rfl, rfl⟩
  go_wp2_with fail
  refine HA.out.mono ?_
  rintro e w1 ⟨rfl, hf⟩
  have HF := Lib.hid hf
  clear hf
  go_wp2_with fail
  refine (HJ.out _ (HF.out.no_trans (Fr.alloc No _ _))).mono ?_
  rintro e w2 ⟨rfl, hf⟩
  have HF2 := Lib.hid hf
  clear hf
  go_wp2_with fail
  go_ret
  exact ⟨rfl, (HF.out.no_trans (Fr.alloc No _ _)).no_trans HF2.out⟩
set_option maxRecDepth 100000 in
theorem copy_ok (h : Ntw w P n v l) (hl : l.length < 4096) {i : Int} {g : Gm} (hg : look l i = some g) :
    Calls Try.prog 15 #[.pointer (some ⟨P, 0, none⟩), .int .i64 i] w fun e w' => e = .returned (.int .i64 0) ∧ ∃ v', Ntw w' P n v' (l ++ [g]) ∧ Nx P v w w' v' := by
  have HM := Lib.hid (made_any P w h.c0)
  have HA := Lib.hid (at_some h hg)
  have HJ := Lib.hid (fun W (hW : Fr No w W) => join_any (h.no hW) hl g)
  clear h hg hl
  go_enter Try.func15, Try.ntmps15
  go_wp2_with fail
  refine HM.out.mono ?_
  rintro e w1 ⟨rfl, rfl⟩
  go_wp2_with fail
  refine HA.out.mono ?_
  rintro e w1 ⟨rfl, hf⟩
  have HF := Lib.hid hf
  clear hf
  go_wp2_with fail
  refine (HJ.out _ (HF.out.no_trans (Fr.alloc No _ _))).mono ?_
  rintro e w2 ⟨rfl, v', hn, hx⟩
  have HN := Lib.hid hn
  have HX := Lib.hid hx
  clear hn hx
  go_wp2_with fail
  go_ret
  exact ⟨rfl, v', HN.out, (Nx.of_no (HF.out.no_trans (Fr.alloc No _ _))).trans HX.out⟩
end
set_option maxRecDepth 100000 in
theorem new_bad (n : Int) (w : World) (h : n < 1 ∨ 64 < n) :
    Calls Try.prog 11 #[.int .i64 n] w fun e w' => e = .returned (.tuple #[.pointer none, .int .i64 2]) ∧ w = w' := by
  rcases h with h | h
  · go_enter Try.func11, Try.ntmps11
    go_wp2_with fail
    go_ret2
    exact ⟨rfl, rfl⟩
  · have h' : ¬ (n < 1) := by omega
    go_enter Try.func11, Try.ntmps11
    go_wp2_with fail
    go_ret2
    exact ⟨rfl, rfl⟩
set_option maxRecDepth 100000 in
theorem new_ok (n : Int) (w : World) (h1 : 1 ≤ n) (h2 : n ≤ 64) :
    Calls Try.prog 11 #[.int .i64 n] w fun e w' => e = .returned (.tuple #[.pointer (some ⟨w.heap.size, 0, none⟩), .int .i64 0]) ∧ Ntw w' w.heap.size n (.slice none 0 0) [] ∧ Fr No w w' := by
  have h3 : ¬ (n < 1) := by omega
  have h4 : ¬ (64 < n) := by omega
  go_enter Try.func11, Try.ntmps11
  go_wp2_with fail
  go_ret2
  exact ⟨rfl, ⟨heap_alloc_new w _, World.ownsRow_nil _ _ _ _, by simp⟩, Fr.alloc No _ _⟩
end Go.Proofs.Ytndanonhkjgmhaa

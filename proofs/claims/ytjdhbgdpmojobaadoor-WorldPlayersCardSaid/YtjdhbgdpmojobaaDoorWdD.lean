/-
  Rows of chunks and of players in memory of their own; a player in memory of its own. No statement of the seat is proved here.
-/
import Derived.Test.YtjdhbgdpmojobaaDoorWdA
import Derived.Test.YtjdhbgdpmojobaaDoorWdB
import Derived.Test.YtjdhbgdpmojobaaDoorWdC
namespace Go.Proofs.YtjdhbgdpmojobaaDoor
open Go.RowKit Go.Deep

section
variable {w w' : World} {lo : Nat}
set_option maxRecDepth 100000 in
theorem fresh_ck {A : Option Addr} {n : Nat} {cells : List Value} (hr : Rc w 5 A n cells) (h1 : ∀ u ∈ cells, u.oneCell' = true) (c : Nat) (hn : n ≤ 1000000) :
    Calls Tryd.prog 57 #[.slice A n c] w fun e w' => ∃ A' c', e = .returned (.slice A' n c') ∧ w'.ownsRow w.heap.size 31 5 (.slice A' n c') n cells ∧ Fr No w w' := by
  obtain ⟨A', c', w', hrun, ho, hf⟩ := run_fresh_k w 23 23 31 Tryd.underlying23 info_ck rfl (by decide) (by decide) A n c cells hr h1 hn
  have HO := Lib.hid ho
  have HF := Lib.hid hf
  clear ho hf hr h1
  go_enter Tryd.func57, Tryd.ntmps57
  go_wp2_with (at_builtin; refine Lib.wpList_append_run w rfl (.const (.slice none 0 0)) (.tmp 3) 23 23 rfl _ _ rfl rfl _ _ hrun ?_)
  go_ret
  exact ⟨A', c', rfl, HO.out, HF.out⟩
set_option maxRecDepth 100000 in
theorem fresh_py {A : Option Addr} {n : Nat} {cells : List Value} (hr : Rc w 7 A n cells) (h1 : ∀ u ∈ cells, u.oneCell' = true) (c : Nat) (hn : n ≤ 1000000) :
    Calls Tryd.prog 58 #[.slice A n c] w fun e w' => ∃ A' c', e = .returned (.slice A' n c') ∧ w'.ownsRow w.heap.size 35 7 (.slice A' n c') n cells ∧ Fr No w w' := by
  obtain ⟨A', c', w', hrun, ho, hf⟩ := run_fresh_k w 24 24 35 Tryd.underlying24 info_py rfl (by decide) (by decide) A n c cells hr h1 hn
  have HO := Lib.hid ho
  have HF := Lib.hid hf
  clear ho hf hr h1
  go_enter Tryd.func58, Tryd.ntmps58
  go_wp2_with (at_builtin; refine Lib.wpList_append_run w rfl (.const (.slice none 0 0)) (.tmp 3) 24 24 rfl _ _ rfl rfl _ _ hrun ?_)
  go_ret
  exact ⟨A', c', rfl, HO.out, HF.out⟩
end
/-- A player in memory of the call's own, from block lo on. -/
structure OwP (lo : Nat) (W : World) (P : Pl) : Prop where
  e1 : P.l1.length = P.n1
  e2 : P.l2.length = P.n2
  o1 : OwS lo W (.slice P.A1 P.n1 P.c1) P.l1
  o2 : OwS lo W (.slice P.A2 P.n2 P.c2) P.l2
section
variable {w w' : World} {lo : Nat} {P : Pl} {C : Ch}
theorem OwP.rd (h : OwP lo w P) : RdP w P := ⟨h.o1.rd, h.o2.rd⟩
theorem OwP.no (h : OwP lo w P) (hf : Fr No w w') : OwP lo w' P := ⟨h.e1, h.e2, h.o1.no hf, h.o2.no hf⟩
theorem OwP.low {lo' : Nat} (h : OwP lo w P) (hl : lo' ≤ lo) : OwP lo' w P := ⟨h.e1, h.e2, own_low h.o1 hl, own_low h.o2 hl⟩
/-- What happens to a block of other things leaves it. -/
theorem OwP.oth {E : Nat} {T : TypeId} {cur : Array Value} (h : OwP lo w P) (hE : w.heap[E]? = some (.cells cur T (0, 0))) (hT : T ≠ 112) (hf : Fr (fun i => i = E) w w') : OwP lo w' P := by
  have ap : ∀ {l : List (Nat × Int)} {v : Value}, OwS lo w v l → ∀ q, v.ownBlock = some q → ¬ q = E := fun h' q hq e => by
    obtain ⟨_, hc⟩ := own_type h' hq
    rw [e, hE] at hc
    injection hc with hc
    injection hc with _ hc _
    exact hT hc
  exact ⟨h.e1, h.e2, own_fr h.o1 hf (ap h.o1), own_fr h.o2 hf (ap h.o2)⟩
theorem OwC.oth {E : Nat} {T : TypeId} {cur : Array Value} (h : OwC lo w C) (hE : w.heap[E]? = some (.cells cur T (0, 0))) (hT : T ≠ 112 ∧ T ≠ 97 ∧ T ≠ 114 ∧ T ≠ 50) (hf : Fr (fun i => i = E) w w') : OwC lo w' C := by
  have ap : ∀ {e : TypeId} {size m lo' : Nat} {v : Value} {L : List Value}, T ≠ e → w.ownsRow lo' e size v m L → ∀ q, v.ownBlock = some q → ¬ q = E := fun hne h' q hq e => by
    obtain ⟨_, hc⟩ := own_type h' hq
    rw [e, hE] at hc
    injection hc with hc
    injection hc with _ hc _
    exact hne hc
  exact ⟨own_fr h.o1 hf (ap hT.2.2.2 h.o1), own_fr h.o2 hf (ap hT.2.2.1 h.o2), own_fr h.o3 hf (ap hT.2.1 h.o3), fun b hb => ⟨(h.o4 b hb).1, own_fr (h.o4 b hb).2 hf (ap hT.1 (h.o4 b hb).2)⟩⟩
/-- A row of other things is left by what happens to a block. -/
theorem own_oth {e T : TypeId} {size n E : Nat} {v : Value} {L : List Value} {cur : Array Value} (h : w.ownsRow lo e size v n L) (hE : w.heap[E]? = some (.cells cur T (0, 0))) (hT : T ≠ e) (hf : Fr (fun i => i = E) w w') : w'.ownsRow lo e size v n L :=
  own_fr h hf (fun q hq e' => by
    obtain ⟨_, hc⟩ := own_type h hq
    rw [e', hE] at hc
    injection hc with hc
    injection hc with _ hc _
    exact hT hc)
end
/-- A world in memory of the call's own. -/
structure OwW (lo : Nat) (W : World) (d : Wd) : Prop where
  e3 : d.cs.length = d.n3
  e4 : d.ps.length = d.n4
  o3 : W.ownsRow lo 31 5 (.slice d.A3 d.n3 d.c3) d.n3 (chL d.cs)
  o4 : W.ownsRow lo 35 7 (.slice d.A4 d.n4 d.c4) d.n4 (plL d.ps)
  oc : ∀ C ∈ d.cs, OwC lo W C
  op : ∀ P ∈ d.ps, OwP lo W P
section
variable {w w' : World} {lo : Nat} {d : Wd}
theorem OwW.no (h : OwW lo w d) (hf : Fr No w w') : OwW lo w' d := ⟨h.e3, h.e4, own_no h.o3 hf, own_no h.o4 hf, fun C hC => (h.oc C hC).no hf, fun P hP => (h.op P hP).no hf⟩
theorem OwW.low {lo' : Nat} (h : OwW lo w d) (hl : lo' ≤ lo) : OwW lo' w d := ⟨h.e3, h.e4, own_low h.o3 hl, own_low h.o4 hl, fun C hC => (h.oc C hC).low hl, fun P hP => (h.op P hP).low hl⟩
theorem OwW.r3 (h : OwW lo w d) : RdCs w d.A3 d.n3 d.cs := ⟨own_rc h.o3, h.e3, fun C hC => (h.oc C hC).rd⟩
theorem OwW.r4 (h : OwW lo w d) : RdPs w d.A4 d.n4 d.ps := ⟨own_rc h.o4, h.e4, fun P hP => (h.op P hP).rd⟩
/-- Items of a world's are numbers of one byte. -/
structure ByW (v : Wv) : Prop where
  c : ∀ d ∈ v.cs, ByC d
  p : ∀ p ∈ v.ps, By p.bag ∧ By p.off
theorem OwP.inP {P : Pl} (h : OwP lo w P) (b1 : By P.l1) (b2 : By P.l2) : InP w P :=
  ⟨h.rd, by have := own_max (n := P.l1.length) (by have e := h.e1; have q := h.o1; unfold OwS at q; rw [← e] at q; exact q); have := h.e1; omega, by have := own_max (n := P.l2.length) (by have e := h.e2; have q := h.o2; unfold OwS at q; rw [← e] at q; exact q); have := h.e2; omega, b1, b2⟩
theorem OwW.inW (h : OwW lo w d) (hb : ByW d.v) : InW w d :=
  ⟨h.r3, h.r4, own_max h.o3, own_max h.o4, fun C hC => (h.oc C hC).inC (hb.c C.ck (List.mem_map_of_mem hC)), fun P hP => (h.op P hP).inP (hb.p P.py (List.mem_map_of_mem hP)).1 (hb.p P.py (List.mem_map_of_mem hP)).2⟩
theorem InW.by (h : InW w d) : ByW d.v :=
  ⟨fun c hc => by
    obtain ⟨C, hC, rfl⟩ := List.mem_map.1 hc
    exact (h.ch C hC).bt, fun p hp => by
    obtain ⟨P, hP, rfl⟩ := List.mem_map.1 hp
    exact ⟨(h.pl P hP).b1, (h.pl P hP).b2⟩⟩
end
/-- What a player in memory of its own is. -/
def OwnPy (w : World) (P : Pl) (e : Ending) (w' : World) : Prop := ∃ Q : Pl, e = .returned Q.val ∧ Q.py = P.py ∧ Q.n1 = P.n1 ∧ Q.n2 = P.n2 ∧ OwP w.heap.size w' Q ∧ Fr No w w'
/-- Seven cells written over. -/
def set7 (w : World) (E : Nat) (a b c d e f g : Value) : World := ((((((w.setCell ⟨E, 0, none⟩ a).setCell ⟨E, 1, none⟩ b).setCell ⟨E, 2, none⟩ c).setCell ⟨E, 3, none⟩ d).setCell ⟨E, 4, none⟩ e).setCell ⟨E, 5, none⟩ f).setCell ⟨E, 6, none⟩ g
theorem set7_heap {w : World} {E : Nat} {a0 b0 c0 d0 e0 f0 g0 : Value} {T : TypeId} (h : w.heap[E]? = some (.cells #[a0, b0, c0, d0, e0, f0, g0] T (0, 0))) (a b c d e f g : Value) : (set7 w E a b c d e f g).heap[E]? = some (.cells #[a, b, c, d, e, f, g] T (0, 0)) := by
  unfold set7
  rw [heap_cells_set _ E 6 _ _ _ (heap_cells_set _ E 5 _ _ _ (heap_cells_set _ E 4 _ _ _ (heap_cells_set _ E 3 _ _ _ (heap_cells_set _ E 2 _ _ _ (heap_cells_set _ E 1 _ _ _ (heap_cells_set _ E 0 _ _ _ h))))))]
  rfl
theorem set7_fr (w : World) (E : Nat) (a b c d e f g : Value) : Fr (fun i => i = E) w (set7 w E a b c d e f g) := by
  have q : ∀ (W : World) (k : Nat) (u : Value), Fr (fun i => i = E) W (W.setCell ⟨E, k, none⟩ u) := fun W k u => Fr.setCell W ⟨E, k, none⟩ u rfl
  have t : ∀ {A B C : World}, Fr (fun i => i = E) A B → Fr (fun i => i = E) B C → Fr (fun i => i = E) A C := fun h1 h2 => h1.trans h2 (fun _ _ e => e)
  exact t (t (t (t (t (t (q _ _ _) (q _ _ _)) (q _ _ _)) (q _ _ _)) (q _ _ _)) (q _ _ _)) (q _ _ _)
theorem cells7 {W : World} {D : Nat} {a b c d e f g : Value} {T : TypeId} (h : W.heap[D]? = some (.cells #[a, b, c, d, e, f, g] T (0, 0))) :
    W.cell? ⟨D, 0, none⟩ = some a ∧ W.cell? ⟨D, 1, none⟩ = some b ∧ W.cell? ⟨D, 2, none⟩ = some c ∧ W.cell? ⟨D, 3, none⟩ = some d ∧ W.cell? ⟨D, 4, none⟩ = some e ∧ W.cell? ⟨D, 5, none⟩ = some f ∧ W.cell? ⟨D, 6, none⟩ = some g :=
  ⟨(blk_cell h 0).trans (by simp), (blk_cell h 1).trans (by simp), (blk_cell h 2).trans (by simp), (blk_cell h 3).trans (by simp), (blk_cell h 4).trans (by simp), (blk_cell h 5).trans (by simp), (blk_cell h 6).trans (by simp)⟩
theorem free7 {W : World} {D : Nat} {cs : Array Value} {T : TypeId} (h : W.heap[D]? = some (.cells cs T (0, 0))) :
    W.frozen? ⟨D, 0, none⟩ = false ∧ W.frozen? ⟨D, 1, none⟩ = false ∧ W.frozen? ⟨D, 2, none⟩ = false ∧ W.frozen? ⟨D, 3, none⟩ = false ∧ W.frozen? ⟨D, 4, none⟩ = false ∧ W.frozen? ⟨D, 5, none⟩ = false ∧ W.frozen? ⟨D, 6, none⟩ = false :=
  ⟨blk_free h _, blk_free h _, blk_free h _, blk_free h _, blk_free h _, blk_free h _, blk_free h _⟩
theorem pown_first {D n1 n2 c1' c2' : Nat} {wx w1 w2 : World} {id x y wi : Int} {ag : Bool} {A1 A2 B1 B2 : Option Addr} {d1 d2 : Nat} {T T1 : TypeId} {L1 L2 : List Value}
    (hb : w2.heap[D]? = some (.cells #[.int .i64 id, .int .i64 x, .int .i64 y, .slice A1 n1 c1', .int .i64 wi, .slice A2 n2 c2', .bool ag] T (0, 0)))
    (h1 : w1.ownsRow (D + 1) T1 2 (.slice B1 n1 d1) n1 L1) (h2 : w2.ownsRow (D + 1) T1 2 (.slice B2 n2 d2) n2 L2) (f2 : Fr No w1 w2) (fx : Fr No wx w2) :
    ∃ B1' d1' B2' d2', ((w2.setCell ⟨D, 3, none⟩ (.slice B1 n1 d1)).setCell ⟨D, 5, none⟩ (.slice B2 n2 d2)).heap[D]? = some (.cells #[.int .i64 id, .int .i64 x, .int .i64 y, .slice B1' n1 d1', .int .i64 wi, .slice B2' n2 d2', .bool ag] T (0, 0)) ∧
      ((w2.setCell ⟨D, 3, none⟩ (.slice B1 n1 d1)).setCell ⟨D, 5, none⟩ (.slice B2 n2 d2)).ownsRow D T1 2 (.slice B1' n1 d1') n1 L1 ∧
      ((w2.setCell ⟨D, 3, none⟩ (.slice B1 n1 d1)).setCell ⟨D, 5, none⟩ (.slice B2 n2 d2)).ownsRow D T1 2 (.slice B2' n2 d2') n2 L2 ∧
      Fr (fun i => i = D) wx ((w2.setCell ⟨D, 3, none⟩ (.slice B1 n1 d1)).setCell ⟨D, 5, none⟩ (.slice B2 n2 d2)) := by
  have q1 : Fr (fun i => i = D) w2 (w2.setCell ⟨D, 3, none⟩ (.slice B1 n1 d1)) := Fr.setCell _ _ _ rfl
  have q2 : Fr (fun i => i = D) (w2.setCell ⟨D, 3, none⟩ (.slice B1 n1 d1)) ((w2.setCell ⟨D, 3, none⟩ (.slice B1 n1 d1)).setCell ⟨D, 5, none⟩ (.slice B2 n2 d2)) := Fr.setCell _ _ _ rfl
  have q := q1.trans q2 (fun _ _ e => e)
  have ap : ∀ {W : World} {T e : TypeId} {size n : Nat} {v : Value} {L : List Value}, W.ownsRow (D + 1) e size v n L → ∀ k, v.ownBlock = some k → ¬ k = D := fun h k hk e => by have := (h.lt k hk).1; omega
  refine ⟨B1, d1, B2, d2, ?_, own_low (own_fr (own_no h1 f2) q (ap (T := T) h1)) (by omega), own_low (own_fr h2 q (ap (T := T) h2)) (by omega), (fx.any).trans q (fun _ _ e => e)⟩
  rw [heap_cells_set _ D 5 _ _ _ (heap_cells_set _ D 3 _ _ _ hb)]
  rfl
set_option maxRecDepth 100000 in
set_option maxHeartbeats 3200000 in
theorem pown_any {w : World} {P : Pl} (hx : RdP w P) (h1 : P.n1 ≤ 100000) (h2 : P.n2 ≤ 100000) : Calls Tryd.prog 39 #[P.val] w (OwnPy w P) := by
  obtain ⟨id, x, y, A1, n1, c1, l1, wi, A2, n2, c2, l2, ag⟩ := P
  have H1 := Lib.hid (fun W (hW : Fr No w W) => fresh_sl (rds_rc (hx.no hW).r1) (slC_one _) c1 (show n1 ≤ 1000000 by dsimp only at h1; omega))
  have H2 := Lib.hid (fun W (hW : Fr No w W) => fresh_sl (rds_rc (hx.no hW).r2) (slC_one _) c2 (show n2 ≤ 1000000 by dsimp only at h2; omega))
  have HL1 := Lib.hid hx.r1.1
  have HL2 := Lib.hid hx.r2.1
  dsimp only [Pl.val] at *
  clear hx h1 h2
  have hb0 := heap_alloc_new w (.cells #[.int .i64 id, .int .i64 x, .int .i64 y, .slice A1 n1 c1, .int .i64 wi, .slice A2 n2 c2, .bool ag] 35)
  have HF0 := Lib.hid (Fr.alloc No w (.cells #[.int .i64 id, .int .i64 x, .int .i64 y, .slice A1 n1 c1, .int .i64 wi, .slice A2 n2 c2, .bool ag] 35))
  go_enter Tryd.func39, Tryd.ntmps39
  go_wp2_with fail
  have hbE := heap_alloc_new (w.alloc (.cells #[.int .i64 id, .int .i64 x, .int .i64 y, .slice A1 n1 c1, .int .i64 wi, .slice A2 n2 c2, .bool ag] 35)) (.cells #[.int .i64 0, .int .i64 0, .int .i64 0, .slice none 0 0, .int .i64 0, .slice none 0 0, .bool false] 35)
  have HFE := Lib.hid (Fr.alloc No (w.alloc (.cells #[.int .i64 id, .int .i64 x, .int .i64 y, .slice A1 n1 c1, .int .i64 wi, .slice A2 n2 c2, .bool ag] 35)) (.cells #[.int .i64 0, .int .i64 0, .int .i64 0, .slice none 0 0, .int .i64 0, .slice none 0 0, .bool false] 35))
  have hbD := blk_no HFE.out hb0
  rw [World.size_alloc] at hbE
  have HFX := Lib.hid (HF0.out.no_trans HFE.out)
  clear HF0 HFE hb0
  obtain ⟨D, hD⟩ : ∃ D, w.heap.size = D := ⟨_, rfl⟩
  have HDD := Lib.hid hD
  rw [hD] at hbD hbE ⊢
  generalize (w.alloc (.cells #[.int .i64 id, .int .i64 x, .int .i64 y, .slice A1 n1 c1, .int .i64 wi, .slice A2 n2 c2, .bool ag] 35)).alloc (.cells #[.int .i64 0, .int .i64 0, .int .i64 0, .slice none 0 0, .int .i64 0, .slice none 0 0, .bool false] 35) = wx at *
  have HBE := Lib.hid hbE
  have HBD := Lib.hid hbD
  clear hbE hbD
  go_cut [3] from 3 to 11 (fun v3 wy => ∃ B1 d1 B2 d2, wy.heap[D]? = some (.cells #[.int .i64 id, .int .i64 x, .int .i64 y, .slice B1 n1 d1, .int .i64 wi, .slice B2 n2 d2, .bool ag] 35 (0, 0)) ∧ wy.ownsRow D 112 2 (.slice B1 n1 d1) n1 (slC l1) ∧ wy.ownsRow D 112 2 (.slice B2 n2 d2) n2 (slC l2) ∧ Fr (fun i => i = D) wx wy)
  case first =>
    have HFD := Lib.hid (HFX.out.no_trans (Fr.drew No wx))
    have hW : Hid (∀ W, Fr No wx W → W.heap[D]? = some (.cells #[.int .i64 id, .int .i64 x, .int .i64 y, .slice A1 n1 c1, .int .i64 wi, .slice A2 n2 c2, .bool ag] 35 (0, 0))) := Lib.hid (fun W hW => blk_no hW HBD.out)
    have hC : Hid (∀ W, Fr No wx W → W.cell? ⟨D, 3, none⟩ = some (.slice A1 n1 c1) ∧ W.cell? ⟨D, 5, none⟩ = some (.slice A2 n2 c2)) := Lib.hid (fun W h => ⟨(blk_cell (hW.out W h) 3).trans (by simp), (blk_cell (hW.out W h) 5).trans (by simp)⟩)
    obtain ⟨g3, g5⟩ := hC.out _ (Fr.drew No wx)
    have HDS : Hid (D + 1 ≤ wx.drew.heap.size) := Lib.hid (by have := (Array.getElem?_eq_some_iff.1 HBE.out).1; exact Nat.le_of_lt this)
    clear hD
    go_region_with (first
      | (go_at_call_of 69 (Value.slice A1 n1 c1); refine (H1.out _ HFD.out).mono ?_; rintro e w1 ⟨B1, d1, rfl, ho1, hf1⟩; have HO1 := Lib.hid ho1; have HF1 := Lib.hid hf1; obtain ⟨k3, k5⟩ := hC.out _ ((Fr.drew No wx).no_trans hf1); clear ho1 hf1)
      | (go_at_call_of 69 (Value.slice A2 n2 c2); refine (H2.out _ (HFD.out.no_trans HF1.out)).mono ?_; rintro e w2 ⟨B2, d2, rfl, ho2, hf2⟩; have HO2 := Lib.hid ho2; have HF2 := Lib.hid (HF1.out.no_trans hf2); have HF12 := Lib.hid hf2; have HB2 := Lib.hid (hW.out _ ((Fr.drew No wx).no_trans HF2.out)); obtain ⟨m3, m5⟩ := hC.out _ ((Fr.drew No wx).no_trans HF2.out); have z3 := blk_free HB2.out 3; have z5 := blk_free HB2.out 5; clear ho2 hf2))
    all_goals (go_wp2_with fail; go_meet; exact pown_first HB2.out (own_low HO1.out HDS.out) (own_low HO2.out (Nat.le_trans HDS.out HF1.out.size)) HF12.out ((Fr.drew No wx).no_trans HF2.out))
  case rest =>
  obtain ⟨B1, d1, B2, d2, hbD, ho1, ho2, hfx⟩ := hcut
  have hbE := (hfx.block (D + 1) (Array.getElem?_eq_some_iff.1 HBE.out).1 (fun (e : D + 1 = D) => by omega)).trans HBE.out
  have HB := Lib.hid hbE
  have HO : Hid (OwP D wc ⟨id, x, y, B1, n1, d1, l1, wi, B2, n2, d2, l2, ag⟩) := Lib.hid ⟨HL1.out, HL2.out, by unfold OwS; rw [HL1.out]; exact ho1, by unfold OwS; rw [HL2.out]; exact ho2⟩
  have HFR := Lib.hid (HFX.out.then_new hfx (fun i hi => by have e : i = D := hi; rw [e]; exact Nat.le_of_eq HDD.out))
  obtain ⟨g0, g1, g2, g3, g4, g5, g6⟩ := cells7 hbD
  obtain ⟨z0, z1, z2, z3, z4, z5, z6⟩ := free7 hbE
  obtain ⟨x0, x1, x2, x3, x4, x5, x6⟩ := cells7 hbE
  clear hbD hbE ho1 ho2 hfx HBE HBD HFX H1 H2 hD HL1 HL2
  go_wp2_with fail
  refine bodyPost_ret (results_cell_row (p := 2) rfl _ _ (D + 1) 35 #[.int .i64 id, .int .i64 x, .int .i64 y, .slice B1 n1 d1, .int .i64 wi, .slice B2 n2 d2, .bool ag] (0, 0) _ rfl (set7_heap HB.out _ _ _ _ _ _ _) Tryd.underlying35 rfl (by kernel_rfl)) rfl ?_
  refine ⟨⟨id, x, y, B1, n1, d1, l1, wi, B2, n2, d2, l2, ag⟩, rfl, rfl, rfl, rfl, ?_, HFR.out.then_new (set7_fr _ (D + 1) _ _ _ _ _ _ _) (fun i hi => by have e : i = D + 1 := hi; rw [e, HDD.out]; omega)⟩
  rw [HDD.out]
  exact HO.out.oth HB.out (by decide) (set7_fr _ (D + 1) _ _ _ _ _ _ _)
end Go.Proofs.YtjdhbgdpmojobaaDoor

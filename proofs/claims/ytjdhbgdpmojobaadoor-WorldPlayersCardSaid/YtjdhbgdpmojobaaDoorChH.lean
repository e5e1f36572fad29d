/-
  A chunk in memory of its own. No statement of the seat is proved here.
-/
import Derived.Test.YtjdhbgdpmojobaaDoorChG
import Derived.Test.YtjdhbgdpmojobaaDoorChF
import Derived.Deep.RegionWith
import Derived.Deep.CutRange
namespace Go.Proofs.YtjdhbgdpmojobaaDoor
open Go.RowKit Go.Deep

section
variable {w w' : World} {lo : Nat}
set_option maxRecDepth 100000 in
theorem fresh_it {A : Option Addr} {n : Nat} {cells : List Value} (hr : Rc w 1 A n cells) (h1 : ∀ u ∈ cells, u.oneCell' = true) (c : Nat) (hn : n ≤ 1000000) :
    Calls Tryd.prog 66 #[.slice A n c] w fun e w' => ∃ A' c', e = .returned (.slice A' n c') ∧ w'.ownsRow w.heap.size 50 1 (.slice A' n c') n cells ∧ Fr No w w' := by
  obtain ⟨A', c', w', hrun, ho, hf⟩ := run_fresh_k w 27 27 50 Tryd.underlying27 info_itm rfl (by decide) (by decide) A n c cells hr h1 hn
  have HO := Lib.hid ho
  have HF := Lib.hid hf
  clear ho hf hr h1
  go_enter Tryd.func66, Tryd.ntmps66
  go_wp2_with (at_builtin; refine Lib.wpList_append_run w rfl (.const (.slice none 0 0)) (.tmp 3) 27 27 rfl _ _ rfl rfl _ _ hrun ?_)
  go_ret
  exact ⟨A', c', rfl, HO.out, HF.out⟩
set_option maxRecDepth 100000 in
theorem fresh_hp {A : Option Addr} {n : Nat} {cells : List Value} (hr : Rc w 3 A n cells) (h1 : ∀ u ∈ cells, u.oneCell' = true) (c : Nat) (hn : n ≤ 1000000) :
    Calls Tryd.prog 67 #[.slice A n c] w fun e w' => ∃ A' c', e = .returned (.slice A' n c') ∧ w'.ownsRow w.heap.size 114 3 (.slice A' n c') n cells ∧ Fr No w w' := by
  obtain ⟨A', c', w', hrun, ho, hf⟩ := run_fresh_k w 28 28 114 Tryd.underlying28 info_hp rfl (by decide) (by decide) A n c cells hr h1 hn
  have HO := Lib.hid ho
  have HF := Lib.hid hf
  clear ho hf hr h1
  go_enter Tryd.func67, Tryd.ntmps67
  go_wp2_with (at_builtin; refine Lib.wpList_append_run w rfl (.const (.slice none 0 0)) (.tmp 3) 28 28 rfl _ _ rfl rfl _ _ hrun ?_)
  go_ret
  exact ⟨A', c', rfl, HO.out, HF.out⟩
set_option maxRecDepth 100000 in
theorem fresh_bx {A : Option Addr} {n : Nat} {cells : List Value} (hr : Rc w 2 A n cells) (h1 : ∀ u ∈ cells, u.oneCell' = true) (c : Nat) (hn : n ≤ 1000000) :
    Calls Tryd.prog 68 #[.slice A n c] w fun e w' => ∃ A' c', e = .returned (.slice A' n c') ∧ w'.ownsRow w.heap.size 97 2 (.slice A' n c') n cells ∧ Fr No w w' := by
  obtain ⟨A', c', w', hrun, ho, hf⟩ := run_fresh_k w 29 29 97 Tryd.underlying29 info_bx rfl (by decide) (by decide) A n c cells hr h1 hn
  have HO := Lib.hid ho
  have HF := Lib.hid hf
  clear ho hf hr h1
  go_enter Tryd.func68, Tryd.ntmps68
  go_wp2_with (at_builtin; refine Lib.wpList_append_run w rfl (.const (.slice none 0 0)) (.tmp 3) 29 29 rfl _ _ rfl rfl _ _ hrun ?_)
  go_ret
  exact ⟨A', c', rfl, HO.out, HF.out⟩
set_option maxRecDepth 100000 in
theorem fresh_sl {A : Option Addr} {n : Nat} {cells : List Value} (hr : Rc w 2 A n cells) (h1 : ∀ u ∈ cells, u.oneCell' = true) (c : Nat) (hn : n ≤ 1000000) :
    Calls Tryd.prog 69 #[.slice A n c] w fun e w' => ∃ A' c', e = .returned (.slice A' n c') ∧ w'.ownsRow w.heap.size 112 2 (.slice A' n c') n cells ∧ Fr No w w' := by
  obtain ⟨A', c', w', hrun, ho, hf⟩ := run_fresh_k w 33 33 112 Tryd.underlying33 info_sl rfl (by decide) (by decide) A n c cells hr h1 hn
  have HO := Lib.hid ho
  have HF := Lib.hid hf
  clear ho hf hr h1
  go_enter Tryd.func69, Tryd.ntmps69
  go_wp2_with (at_builtin; refine Lib.wpList_append_run w rfl (.const (.slice none 0 0)) (.tmp 3) 33 33 rfl _ _ rfl rfl _ _ hrun ?_)
  go_ret
  exact ⟨A', c', rfl, HO.out, HF.out⟩
theorem own_first {D n1 n2 n3 c1' c2' c3' : Nat} {wx w1 w2 w3 : World} {x y : Int} {A1 A2 A3 B1 B2 B3 : Option Addr} {d1 d2 d3 : Nat} {T T1 T2 T3 : TypeId} {L1 L2 L3 : List Value}
    (hb : w3.heap[D]? = some (.cells #[.int .i64 x, .int .i64 y, .slice A1 n1 c1', .slice A2 n2 c2', .slice A3 n3 c3'] T (0, 0)))
    (h1 : w1.ownsRow (D + 1) T1 1 (.slice B1 n1 d1) n1 L1) (h2 : w2.ownsRow (D + 1) T2 3 (.slice B2 n2 d2) n2 L2) (h3 : w3.ownsRow (D + 1) T3 2 (.slice B3 n3 d3) n3 L3)
    (f2 : Fr No w1 w2) (f3 : Fr No w2 w3) (fx : Fr No wx w3) :
    ∃ B1' d1' B2' d2' B3' d3', (((w3.setCell ⟨D, 2, none⟩ (.slice B1 n1 d1)).setCell ⟨D, 3, none⟩ (.slice B2 n2 d2)).setCell ⟨D, 4, none⟩ (.slice B3 n3 d3)).heap[D]? = some (.cells #[.int .i64 x, .int .i64 y, .slice B1' n1 d1', .slice B2' n2 d2', .slice B3' n3 d3'] T (0, 0)) ∧
      (((w3.setCell ⟨D, 2, none⟩ (.slice B1 n1 d1)).setCell ⟨D, 3, none⟩ (.slice B2 n2 d2)).setCell ⟨D, 4, none⟩ (.slice B3 n3 d3)).ownsRow D T1 1 (.slice B1' n1 d1') n1 L1 ∧
      (((w3.setCell ⟨D, 2, none⟩ (.slice B1 n1 d1)).setCell ⟨D, 3, none⟩ (.slice B2 n2 d2)).setCell ⟨D, 4, none⟩ (.slice B3 n3 d3)).ownsRow D T2 3 (.slice B2' n2 d2') n2 L2 ∧
      (((w3.setCell ⟨D, 2, none⟩ (.slice B1 n1 d1)).setCell ⟨D, 3, none⟩ (.slice B2 n2 d2)).setCell ⟨D, 4, none⟩ (.slice B3 n3 d3)).ownsRow D T3 2 (.slice B3' n3 d3') n3 L3 ∧
      Fr (fun i => i = D) wx (((w3.setCell ⟨D, 2, none⟩ (.slice B1 n1 d1)).setCell ⟨D, 3, none⟩ (.slice B2 n2 d2)).setCell ⟨D, 4, none⟩ (.slice B3 n3 d3)) := by
  have q1 : Fr (fun i => i = D) w3 (w3.setCell ⟨D, 2, none⟩ (.slice B1 n1 d1)) := Fr.setCell _ _ _ rfl
  have q2 : Fr (fun i => i = D) (w3.setCell ⟨D, 2, none⟩ (.slice B1 n1 d1)) ((w3.setCell ⟨D, 2, none⟩ (.slice B1 n1 d1)).setCell ⟨D, 3, none⟩ (.slice B2 n2 d2)) := Fr.setCell _ _ _ rfl
  have q3 : Fr (fun i => i = D) ((w3.setCell ⟨D, 2, none⟩ (.slice B1 n1 d1)).setCell ⟨D, 3, none⟩ (.slice B2 n2 d2)) (((w3.setCell ⟨D, 2, none⟩ (.slice B1 n1 d1)).setCell ⟨D, 3, none⟩ (.slice B2 n2 d2)).setCell ⟨D, 4, none⟩ (.slice B3 n3 d3)) := Fr.setCell _ _ _ rfl
  have q := (q1.trans q2 (fun _ _ e => e)).trans q3 (fun _ _ e => e)
  have ap : ∀ {W : World} {T e : TypeId} {size n : Nat} {v : Value} {L : List Value}, W.ownsRow (D + 1) e size v n L → ∀ k, v.ownBlock = some k → ¬ k = D := fun h k hk e => by have := (h.lt k hk).1; omega
  refine ⟨B1, d1, B2, d2, B3, d3, ?_, own_low (own_fr (own_no (own_no h1 f2) f3) q (ap (T := T) h1)) (by omega), own_low (own_fr (own_no h2 f3) q (ap (T := T) h2)) (by omega), own_low (own_fr h3 q (ap (T := T) h3)) (by omega), (fx.any).trans q (fun _ _ e => e)⟩
  rw [heap_cells_set _ D 4 _ _ _ (heap_cells_set _ D 3 _ _ _ (heap_cells_set _ D 2 _ _ _ hb))]
  rfl
/-- While the bags get memory of their own: those of the first k boxes have it. -/
structure Owl (w : World) (D : Nat) (C : Ch) (B1 B2 B3 : Option Addr) (d1 d2 d3 k : Nat) (bk : List Bx) (wr : World) : Prop where
  len : bk.length = C.n3
  hD : wr.heap[D]? = some (.cells #[.int .i64 C.x, .int .i64 C.y, .slice B1 C.n1 d1, .slice B2 C.n2 d2, .slice B3 C.n3 d3] 31 (0, 0))
  hE : wr.heap[D + 1]? = some (.cells #[.int .i64 0, .int .i64 0, .slice none 0 0, .slice none 0 0, .slice none 0 0] 31 (0, 0))
  o1 : wr.ownsRow D 50 1 (.slice B1 C.n1 d1) C.n1 (itL C.cs)
  o2 : wr.ownsRow D 114 3 (.slice B2 C.n2 d2) C.n2 (hpL C.hs)
  o3 : wr.ownsRow D 97 2 (.slice B3 C.n3 d3) C.n3 (bxL bk)
  bp : bk.map Bx.bp = C.bs.map Bx.bp
  old : ∀ j (h : j < bk.length) (h' : j < C.bs.length), k ≤ j → bk[j] = C.bs[j]
  own : ∀ j (h : j < bk.length), j < k → bk[j].l.length = bk[j].n ∧ OwS D wr (.slice bk[j].A bk[j].n bk[j].c) bk[j].l
  fr : Fr No w wr
theorem Owl.no {w wr w' : World} {D d1 d2 d3 k : Nat} {C : Ch} {B1 B2 B3 : Option Addr} {bk : List Bx} (h : Owl w D C B1 B2 B3 d1 d2 d3 k bk wr) (hf : Fr No wr w') : Owl w D C B1 B2 B3 d1 d2 d3 k bk w' :=
  ⟨h.len, blk_no hf h.hD, blk_no hf h.hE, own_no h.o1 hf, own_no h.o2 hf, own_no h.o3 hf, h.bp, h.old, fun j hj hk => ⟨(h.own j hj hk).1, (h.own j hj hk).2.no hf⟩, h.fr.no_trans hf⟩
theorem Owl.step {w wr : World} {D d1 d2 d3 k : Nat} {C : Ch} {B1 B2 B3 : Option Addr} {bk : List Bx} (h : Owl w D C B1 B2 B3 d1 d2 d3 k bk wr) (hDw : w.heap.size = D) {lo : Nat} (hk : k < C.bs.length) (hlb : C.bs.length = C.n3) (hlo : D ≤ lo) {A' : Option Addr} {n c' : Nat} {g : Nat} (hg : B3 = some ⟨g, 0, none⟩)
    (hn : C.bs[k].n = n) (hl : C.bs[k].l.length = n) (ho : wr.ownsRow lo 112 2 (.slice A' n c') n (slC C.bs[k].l)) : ∃ bk', Owl w D C B1 B2 B3 d1 d2 d3 (k + 1) bk' (wr.setCell ⟨g, k * 2 + 1, none⟩ (.slice A' n c')) := by
  subst hg
  have hkb : k < bk.length := by rw [h.len]; omega
  have hbk := h.old k hkb hk (Nat.le_refl k)
  obtain ⟨b, hb, hblo, hbs, _, _, hset, hfr⟩ := own_setk h.o3 (k * 2 + 1) (by omega)
  injection hb with hb
  injection hb with hb
  subst hb
  have hf := hfr (.slice A' n c')
  have hnd : D ≠ g := fun e => by
    obtain ⟨cur, hc⟩ := own_type h.o3 (k := g) rfl
    rw [← e, h.hD] at hc
    injection hc with hc
    injection hc with _ hc _
    exact absurd hc (by decide)
  have hne : D + 1 ≠ g := fun e => by
    obtain ⟨cur, hc⟩ := own_type h.o3 (k := g) rfl
    rw [← e, h.hE] at hc
    injection hc with hc
    injection hc with _ hc _
    exact absurd hc (by decide)
  have ap : ∀ {e : TypeId} {size m lo' : Nat} {v : Value} {L : List Value}, e ≠ 97 → wr.ownsRow lo' e size v m L → ∀ q, v.ownBlock = some q → ¬ q = g := fun hne h' q hq e => own_apart h' h.o3 hne q hq (by rw [e]; rfl)
  refine ⟨bk.set k ⟨bk[k].cell, A', n, c', C.bs[k].l⟩, ⟨by rw [List.length_set]; exact h.len, ?_, ?_, own_fr h.o1 hf (ap (by decide) h.o1), own_fr h.o2 hf (ap (by decide) h.o2), ?_, ?_, ?_, ?_, ?_⟩⟩
  · exact (hf.block D (Array.getElem?_eq_some_iff.1 h.hD).1 hnd).trans h.hD
  · exact (hf.block (D + 1) (Array.getElem?_eq_some_iff.1 h.hE).1 hne).trans h.hE
  · have := hset (.slice A' n c')
    rw [bxL_set bk k hkb A' n c' C.bs[k].l] at this
    exact this
  · rw [List.map_set, h.bp]
    have hc : bk[k].cell = C.bs[k].cell := by rw [hbk]
    apply List.ext_getElem
    · simp
    · intro i h1 h2
      rw [List.getElem_set]
      split
      · rename_i e
        subst e
        rw [List.getElem_map]
        show (bk[k].cell, C.bs[k].l) = (C.bs[k].cell, C.bs[k].l)
        rw [hc]
      · rfl
  · intro j hj hj' hkj
    rw [List.getElem_set_ne (by omega)]
    exact h.old j (by rw [List.length_set] at hj; exact hj) hj' (by omega)
  · intro j hj hjk
    by_cases e : j = k
    · subst e
      rw [List.getElem_set_self]
      refine ⟨hl, ?_⟩
      have h5 := own_fr ho hf (ap (by decide) ho)
      unfold OwS
      rw [hl]
      exact own_low h5 hlo
    · rw [List.getElem_set_ne (by omega)]
      have h6 := h.own j (by rw [List.length_set] at hj; exact hj) (by omega)
      exact ⟨h6.1, own_fr h6.2 hf (ap (by decide) h6.2)⟩
  · exact h.fr.then_new hf (fun i hi => by have e : i = g := hi; rw [e, hDw]; exact hblo)
/-- What is of a chunk's row stays, whatever happens to a block of a chunk. -/
theorem OwC.at_ {lo E : Nat} {w w' : World} {C : Ch} {cur : Array Value} (h : OwC lo w C) (hE : w.heap[E]? = some (.cells cur 31 (0, 0))) (hf : Fr (fun i => i = E) w w') : OwC lo w' C := by
  have ap : ∀ {e : TypeId} {size m lo' : Nat} {v : Value} {L : List Value}, e ≠ 31 → w.ownsRow lo' e size v m L → ∀ q, v.ownBlock = some q → ¬ q = E := fun hne h' q hq e => by
    obtain ⟨_, hc⟩ := own_type h' hq
    rw [e, hE] at hc
    injection hc with hc
    injection hc with _ hc _
    exact hne hc.symm
  exact ⟨own_fr h.o1 hf (ap (by decide) h.o1), own_fr h.o2 hf (ap (by decide) h.o2), own_fr h.o3 hf (ap (by decide) h.o3), fun b hb => ⟨(h.o4 b hb).1, own_fr (h.o4 b hb).2 hf (ap (by decide) (h.o4 b hb).2)⟩⟩
/-- All bags have memory of their own. -/
theorem Owl.owc {w wr : World} {D d1 d2 d3 : Nat} {C : Ch} {B1 B2 B3 : Option Addr} {bk : List Bx} (h : Owl w D C B1 B2 B3 d1 d2 d3 C.n3 bk wr) : OwC D wr ⟨C.x, C.y, B1, C.n1, d1, C.cs, B2, C.n2, d2, C.hs, B3, C.n3, d3, bk⟩ :=
  ⟨h.o1, h.o2, h.o3, fun b hb => by
    obtain ⟨j, hj, rfl⟩ := List.getElem_of_mem hb
    have hj' : j < bk.length := hj
    exact h.own j hj' (by have := h.len; omega)⟩
/-- What is of a chunk that came in, in memory of its own. -/
def ownPost (w : World) (C : Ch) (e : Ending) (w' : World) : Prop := ∃ D : Ch, e = .returned D.val ∧ D.ck = C.ck ∧ (D.n1 = C.n1 ∧ D.n2 = C.n2 ∧ D.n3 = C.n3) ∧ OwC w.heap.size w' D ∧ Fr No w w'
set_option maxRecDepth 100000 in
set_option maxHeartbeats 3200000 in
theorem own_c {C : Ch} (hx : RdC w C) (h1 : C.n1 ≤ 100000) (h2 : C.n2 ≤ 100000) (h3 : C.n3 ≤ 100000) (h4 : ∀ b ∈ C.bs, b.n ≤ 100000) : Calls Tryd.prog 34 #[C.val] w (ownPost w C) := by
  obtain ⟨x, y, A1, n1, c1, cs, A2, n2, c2, hps, A3, n3, c3, bs⟩ := C
  have HL3 := Lib.hid hx.r3.1
  have HX3 := Lib.hid (fun W (hW : Fr No w W) => (hx.no hW).r3)
  have H61 := Lib.hid (fun W (hW : Fr No w W) => fresh_it (rk_it (hx.no hW).r1) (itL_one _) c1 (show n1 ≤ 1000000 by dsimp only at h1; omega))
  have H62 := Lib.hid (fun W (hW : Fr No w W) => fresh_hp (rk_hp (hx.no hW).r2) (hpL_one _) c2 (show n2 ≤ 1000000 by dsimp only at h2; omega))
  have H63 := Lib.hid (fun W (hW : Fr No w W) => fresh_bx (rk_bx (hx.no hW).r3) (bxL_one _) c3 (show n3 ≤ 1000000 by dsimp only at h3; omega))
  have H4 := Lib.hid h4
  dsimp only [Ch.val] at *
  clear hx h1 h2 h4
  have hb0 := heap_alloc_new w (.cells #[.int .i64 x, .int .i64 y, .slice A1 n1 c1, .slice A2 n2 c2, .slice A3 n3 c3] 31)
  have HF0 := Lib.hid (Fr.alloc No w (.cells #[.int .i64 x, .int .i64 y, .slice A1 n1 c1, .slice A2 n2 c2, .slice A3 n3 c3] 31))
  go_enter Tryd.func34, Tryd.ntmps34
  go_wp2_with fail
  have hbE := heap_alloc_new (w.alloc (.cells #[.int .i64 x, .int .i64 y, .slice A1 n1 c1, .slice A2 n2 c2, .slice A3 n3 c3] 31)) (.cells #[.int .i64 0, .int .i64 0, .slice none 0 0, .slice none 0 0, .slice none 0 0] 31)
  have HFE := Lib.hid (Fr.alloc No (w.alloc (.cells #[.int .i64 x, .int .i64 y, .slice A1 n1 c1, .slice A2 n2 c2, .slice A3 n3 c3] 31)) (.cells #[.int .i64 0, .int .i64 0, .slice none 0 0, .slice none 0 0, .slice none 0 0] 31))
  have hbD := blk_no HFE.out hb0
  rw [World.size_alloc] at hbE
  have HFX := Lib.hid (HF0.out.no_trans HFE.out)
  clear HF0 HFE hb0
  obtain ⟨D, hD⟩ : ∃ D, w.heap.size = D := ⟨_, rfl⟩
  rw [hD] at hbD hbE ⊢
  generalize (w.alloc (.cells #[.int .i64 x, .int .i64 y, .slice A1 n1 c1, .slice A2 n2 c2, .slice A3 n3 c3] 31)).alloc (.cells #[.int .i64 0, .int .i64 0, .slice none 0 0, .slice none 0 0, .slice none 0 0] 31) = wx at *
  have HBE := Lib.hid hbE
  have HBD := Lib.hid hbD
  clear hbE hbD
  go_cut [5] from 5 to 16 (fun v5 wy => ∃ B1 d1 B2 d2 B3 d3, wy.heap[D]? = some (.cells #[.int .i64 x, .int .i64 y, .slice B1 n1 d1, .slice B2 n2 d2, .slice B3 n3 d3] 31 (0, 0)) ∧ wy.ownsRow D 50 1 (.slice B1 n1 d1) n1 (itL cs) ∧ wy.ownsRow D 114 3 (.slice B2 n2 d2) n2 (hpL hps) ∧ wy.ownsRow D 97 2 (.slice B3 n3 d3) n3 (bxL bs) ∧ Fr (fun i => i = D) wx wy)
  case first =>
    have HFD := Lib.hid (HFX.out.no_trans (Fr.drew No wx))
    have hW : Hid (∀ W, Fr No wx W → W.heap[D]? = some (.cells #[.int .i64 x, .int .i64 y, .slice A1 n1 c1, .slice A2 n2 c2, .slice A3 n3 c3] 31 (0, 0))) := Lib.hid (fun W hW => blk_no hW HBD.out)
    have hC : Hid (∀ W, Fr No wx W → W.cell? ⟨D, 2, none⟩ = some (.slice A1 n1 c1) ∧ W.cell? ⟨D, 3, none⟩ = some (.slice A2 n2 c2) ∧ W.cell? ⟨D, 4, none⟩ = some (.slice A3 n3 c3)) := Lib.hid (fun W h => ⟨(blk_cell (hW.out W h) 2).trans (by simp), (blk_cell (hW.out W h) 3).trans (by simp), (blk_cell (hW.out W h) 4).trans (by simp)⟩)
    obtain ⟨g2, g3, g4⟩ := hC.out _ (Fr.drew No wx)
    have HDS : Hid (D + 1 ≤ wx.drew.heap.size) := Lib.hid (by have := (Array.getElem?_eq_some_iff.1 HBE.out).1; exact Nat.le_of_lt this)
    clear hD
    go_region_with (first
      | (go_at_call 66; refine (H61.out _ HFD.out).mono ?_; rintro e w1 ⟨B1, d1, rfl, ho1, hf1⟩; have HO1 := Lib.hid ho1; have HF1 := Lib.hid hf1; obtain ⟨k2, k3, k4⟩ := hC.out _ ((Fr.drew No wx).no_trans hf1); clear ho1 hf1)
      | (go_at_call 67; refine (H62.out _ (HFD.out.no_trans HF1.out)).mono ?_; rintro e w2 ⟨B2, d2, rfl, ho2, hf2⟩; have HO2 := Lib.hid ho2; have HF2 := Lib.hid (HF1.out.no_trans hf2); have HF12 := Lib.hid hf2; obtain ⟨l2, l3, l4⟩ := hC.out _ ((Fr.drew No wx).no_trans HF2.out); clear ho2 hf2)
      | (go_at_call 68; refine (H63.out _ (HFD.out.no_trans HF2.out)).mono ?_; rintro e w3 ⟨B3, d3, rfl, ho3, hf3⟩; have HO3 := Lib.hid ho3; have HF3 := Lib.hid (HF2.out.no_trans hf3); have HF23 := Lib.hid hf3; have HB3 := Lib.hid (hW.out _ ((Fr.drew No wx).no_trans HF3.out)); obtain ⟨m2, m3, m4⟩ := hC.out _ ((Fr.drew No wx).no_trans HF3.out); have z2 := blk_free HB3.out 2; have z3 := blk_free HB3.out 3; have z4 := blk_free HB3.out 4; clear ho3 hf3))
    all_goals (go_wp2_with fail; go_meet; exact own_first HB3.out (own_low HO1.out HDS.out) (own_low HO2.out (Nat.le_trans HDS.out HF1.out.size)) (own_low HO3.out (Nat.le_trans HDS.out HF2.out.size)) HF12.out HF23.out ((Fr.drew No wx).no_trans HF3.out))
  case rest =>
  obtain ⟨B1, d1, B2, d2, B3, d3, hbD, ho1, ho2, ho3, hfx⟩ := hcut
  have hbE := (hfx.block (D + 1) (Array.getElem?_eq_some_iff.1 HBE.out).1 (fun (e : D + 1 = D) => by omega)).trans HBE.out
  have HO : Hid (Owl w D ⟨x, y, A1, n1, c1, cs, A2, n2, c2, hps, A3, n3, c3, bs⟩ B1 B2 B3 d1 d2 d3 0 bs wc) := Lib.hid ⟨HL3.out, hbD, hbE, ho1, ho2, ho3, rfl, fun _ _ _ _ => rfl, fun _ _ h => absurd h (by omega), HFX.out.then_new hfx (fun i hi => by have e : i = D := hi; rw [e]; exact Nat.le_of_eq hD)⟩
  have g4 : wc.cell? ⟨D, 4, none⟩ = some (.slice B3 n3 d3) := (blk_cell hbD 4).trans (by simp)
  have HDW := Lib.hid hD
  clear hbD hbE ho1 ho2 ho3 hfx HBE HBD HFX H61 H62 H63 hD
  go_wp2_with fail
  go_loopw [20] (fun v20 wr => ∃ k bk, k ≤ n3 ∧ v20 = .int .i64 (k : Int) ∧ Owl w D ⟨x, y, A1, n1, c1, cs, A2, n2, c2, hps, A3, n3, c3, bs⟩ B1 B2 B3 d1 d2 d3 k bk wr) (fun v20 _ => n3 - (intOf v20).toNat)
  case atStart => exact ⟨0, bs, by omega, rfl, HO.out⟩
  case round =>
    obtain ⟨k, bk, hk, rfl, ho⟩ := hrel
    have HO := Lib.hid ho
    clear ho
    by_cases hlt : k < n3
    · have hkl : k < bs.length := by rw [HL3.out]; exact hlt
      have hkb : k < bk.length := by have h : bk.length = n3 := HO.out.len; omega
      have hbk : bk[k] = bs[k] := HO.out.old k hkb hkl (Nat.le_refl k)
      obtain ⟨g, o, hB3, hgs, hc⟩ := (own_rc HO.out.o3).2 (show 0 < n3 by omega)
      obtain ⟨g', hB3', hglo, _, hfz, ⟨uu, hcu⟩, _, _⟩ := own_setk HO.out.o3 (k * 2 + 1) (by show k * 2 + 1 < n3 * 2; omega)
      rw [hB3] at hB3'
      injection hB3' with hB3'
      injection hB3' with e1 e2
      subst e1 e2
      subst hB3
      obtain ⟨q0, q1⟩ := bxL_at bk k hkb
      have y0 := hc _ _ q0
      have y1 := hc _ _ q1
      rw [Nat.zero_add] at y0 y1
      rw [hbk] at y0 y1
      have hrk : RdS wr bs[k].A bs[k].n bs[k].l := by
        obtain ⟨b0, o0, _, _, hcc⟩ := (HX3.out wr HO.out.fr).2 (by omega)
        exact (hcc k hkl).2.2
      have HR := Lib.hid (fun W (hW : Fr No wr W) => fresh_sl (w := W) (rds_rc (hrk.no hW)) (slC_one _) bs[k].c (show bs[k].n ≤ 1000000 by have := H4.out _ (List.getElem_mem hkl); omega))
      have HLK : Hid (bs[k].l.length = bs[k].n) := Lib.hid hrk.1
      have HNK : Hid (bs[k].n = bs[k].n) := Lib.hid rfl
      have HST : Hid (∀ wz A' c' lo, Fr No wr wz → D ≤ lo → wz.ownsRow lo 112 2 (.slice A' bs[k].n c') bs[k].n (slC bs[k].l) → ∃ bk', Owl w D ⟨x, y, A1, n1, c1, cs, A2, n2, c2, hps, A3, n3, c3, bs⟩ B1 B2 (some ⟨g, 0, none⟩) d1 d2 d3 (k + 1) bk' (wz.setCell ⟨g, k * 2 + 1, none⟩ (.slice A' bs[k].n c'))) :=
        Lib.hid (fun wz A' c' lo hf hlo ho => (HO.out.no hf).step HDW.out hkl HL3.out hlo rfl rfl hrk.1 ho)
      have hwk : IntKind.i64.wrap ((k : Int) + 1) = ((k + 1 : Nat) : Int) := by
        rw [show ((k : Int) + 1) = ((k + 1 : Nat) : Int) by omega]
        exact IntWalk.i64_in _ (by omega)
      have HSZ : Hid (D ≤ wr.heap.size) := Lib.hid (by rw [← HDW.out]; exact HO.out.fr.size)
      have HDD : Hid (∀ W, Fr No wr W → W.cell? ⟨D, 4, none⟩ = some (.slice (some ⟨g, 0, none⟩) n3 d3) ∧ W.frozen? ⟨g, k * 2 + 1, none⟩ = false ∧ W.cell? ⟨g, k * 2 + 1, none⟩ = some uu) := Lib.hid (fun W hW => by
        have h1 := HO.out.no hW
        obtain ⟨g', hB3', _, _, hfz', _, _, _⟩ := own_setk h1.o3 (k * 2 + 1) (by show k * 2 + 1 < n3 * 2; omega)
        injection hB3' with hB3'
        injection hB3' with e1 e2
        subst e1
        exact ⟨(blk_cell h1.hD 4).trans (by simp), hfz', (hW.cell (p := ⟨g, k * 2 + 1, none⟩) hgs (fun e => e)).trans hcu⟩)
      clear hrk q0 q1 hc hbk hcu hfz g4
      generalize bs[k].A = bA at *
      generalize bs[k].n = bn at *
      generalize bs[k].c = bcp at *
      generalize bs[k].cell = bcl at *
      have hEE := heap_alloc_new wr (.cells #[.int .i64 bcl, .slice bA bn bcp] 97)
      have HFA := Lib.hid (Fr.alloc No wr (.cells #[.int .i64 bcl, .slice bA bn bcp] 97))
      go_upto_region 5 with fail
      obtain ⟨E, hE⟩ : ∃ E, wr.heap.size = E := ⟨_, rfl⟩
      rw [hE] at hEE ⊢
      clear hE
      generalize wr.alloc (.cells #[.int .i64 bcl, .slice bA bn bcp] 97) = wA at *
      have HEE : Hid (∀ W, Fr No wA W → W.cell? ⟨E, 1, none⟩ = some (.slice bA bn bcp)) := Lib.hid (fun W hW => (blk_cell (blk_no hW hEE) 1).trans (by simp))
      have HFD := Lib.hid (HFA.out.no_trans (Fr.drew No wA))
      have s1 := HEE.out _ (Fr.drew No wA)
      obtain ⟨s2, s3, s4⟩ := HDD.out _ HFD.out
      have hin : (k : Int) < (n3 : Int) := by omega
      have hi0 : (0 : Int) ≤ (k : Int) := by omega
      clear y0 y1 hEE
      go_region_with (go_at_call 69; (refine (HR.out _ HFD.out).mono ?_); rintro e w5 ⟨A', c', rfl, ho5, hf5⟩; have HO5 := Lib.hid ho5; have HF5 := Lib.hid (HFD.out.no_trans hf5); obtain ⟨t2, t3, t4⟩ := HDD.out _ HF5.out; clear ho5 hf5)
      all_goals (
        go_wp2_with fail
        go_roundw
        case rel =>
          obtain ⟨bk', h'⟩ := HST.out _ _ _ _ HF5.out (Nat.le_trans HSZ.out HFD.out.size) HO5.out
          exact ⟨k + 1, bk', by omega, by go_num, h'⟩
        case measure => simp [intOf]; omega)
    · have hkn : k = n3 := by omega
      subst hkn
      have u4 := HO.out.hD
      have v0 := (blk_cell u4 0).trans (by simp : _ = some (.int .i64 x))
      have v1 := (blk_cell u4 1).trans (by simp : _ = some (.int .i64 y))
      have v2 := (blk_cell u4 2).trans (by simp : _ = some (.slice B1 n1 d1))
      have v3 := (blk_cell u4 3).trans (by simp : _ = some (.slice B2 n2 d2))
      have v4 := (blk_cell u4 4).trans (by simp : _ = some (.slice B3 k d3))
      have z0 := blk_free HO.out.hE 0
      have z1 := blk_free HO.out.hE 1
      have z2 := blk_free HO.out.hE 2
      have z3 := blk_free HO.out.hE 3
      have z4 := blk_free HO.out.hE 4
      have x0 := (blk_cell HO.out.hE 0).trans (by simp : _ = some (.int .i64 0))
      have x1 := (blk_cell HO.out.hE 1).trans (by simp : _ = some (.int .i64 0))
      have x2 := (blk_cell HO.out.hE 2).trans (by simp : _ = some (.slice none 0 0))
      have x3 := (blk_cell HO.out.hE 3).trans (by simp : _ = some (.slice none 0 0))
      have x4 := (blk_cell HO.out.hE 4).trans (by simp : _ = some (.slice none 0 0))
      clear u4
      go_wp2_with fail
      refine bodyPost_ret (results_cell_row (p := 2) rfl _ _ (D + 1) 31 #[.int .i64 x, .int .i64 y, .slice B1 n1 d1, .slice B2 n2 d2, .slice B3 k d3] (0, 0) _ rfl (set5_heap HO.out.hE _ _ _ _ _) Tryd.underlying31 rfl (by kernel_rfl)) rfl ?_
      refine ⟨⟨x, y, B1, n1, d1, cs, B2, n2, d2, hps, B3, k, d3, bk⟩, rfl, ?_, ⟨rfl, rfl, rfl⟩, ?_, HO.out.fr.then_new (set5_fr wr (D + 1) _ _ _ _ _) (fun i hi => by have e : i = D + 1 := hi; rw [e, HDW.out]; omega)⟩
      · show Ck.mk x y cs hps (bk.map Bx.bp) = Ck.mk x y cs hps (bs.map Bx.bp)
        rw [HO.out.bp]
      · rw [HDW.out]
        exact HO.out.owc.at_ HO.out.hE (set5_fr wr (D + 1) _ _ _ _ _)
end
end Go.Proofs.YtjdhbgdpmojobaaDoor

/-
  The document's disk: 'first'. No statement of the seat is proved here.
-/
import Derived.Test.YtnkgcafebmacjaaDtC
namespace Go.Proofs.Ytnkgcafebmacjaa
open Go.RowKit Go.Maps

set_option maxRecDepth 100000 in
theorem make_u8n (k : Nat) (hk : k ≤ 16777216) (W : World) :
    (Instr.makeSlice 33 (.int .i64 (k : Int)) (.int .i64 (k : Int))).run Try.prog W = .ok (.slice (some ⟨W.heap.size, 0, none⟩) k k) (W.alloc (.cells (List.replicate k (Value.int .u8 0)).toArray 5)) := by
  obtain ⟨i0, hi, hz0, hz1, hz2⟩ := info_parts info_u8
  have h := run_make (P := Try.prog) W 33 5 i0 (.int .u8 0) Try.underlying33 hi hz0 .i64 .i64 (k : Int) (k : Int) (by omega) (by omega) (by rw [hz2]; omega) (by omega)
  rw [h]
  have e : madeCells (Value.int .u8 0).cells (((k : Nat) : Int).toNat * i0.size) = (List.replicate k (Value.int .u8 0)).toArray := by
    rw [hz1]
    apply Array.ext
    · simp [madeCells]
    · intro i h1 h2
      simp [madeCells, Value.cells, Nat.mod_one]
  rw [e]
  simp
/-- A block of bytes of which the first i are these; the result's block is as it was. -/
structure Cpy (w0 w : World) (P G n i : Nat) (l : List UInt8) : Prop where
  fr : Fr No w0 w
  far : w0.heap.size ≤ P ∧ w0.heap.size ≤ G ∧ P ≠ G
  res : w.heap[P]? = some (.cells #[.string ⟨#[]⟩, .slice none 0 0, .int .i64 0] 73 (0, 0))
  blk : ∃ cs : Array Value, w.heap[G]? = some (.cells cs 5 (0, 0)) ∧ cs.size = n ∧ (∀ j, j < n → ∃ v, cs[j]? = some v) ∧ (∀ j x, j < i → l[j]? = some x → cs[j]? = some (.int .u8 (x.toNat : Int)))
set_option maxRecDepth 100000 in
theorem Cpy.step {w0 w : World} {P G n i : Nat} {l : List UInt8} {x : UInt8} (h : Cpy w0 w P G n i l) (hi : i < n) (hx : l[i]? = some x) :
    Cpy w0 (w.setCell ⟨G, i, none⟩ (.int .u8 (x.toNat : Int))) P G n (i + 1) l ∧ (∃ v, w.cell? ⟨G, i, none⟩ = some v) ∧ w.frozen? ⟨G, i, none⟩ = false := by
  obtain ⟨hf, ⟨hP, hG, hne⟩, hr, cs, hb, hs, hv, hc⟩ := h
  refine ⟨⟨hf.trans (Fr.setCell w ⟨G, i, none⟩ _ (F := fun k => k = G) rfl) (fun k hk e => by omega), ⟨hP, hG, hne⟩, (Below.heap_setCell _ _ _ _ hne).trans hr, cs.setIfInBounds i (.int .u8 (x.toNat : Int)), heap_cells_set w G i cs _ _ hb, by simp [hs], fun j hj => ?_, fun j y hj hy => ?_⟩, ?_, ?_⟩
  · by_cases hji : j = i
    · subst hji
      exact ⟨_, by rw [Array.getElem?_setIfInBounds_self_of_lt (by omega)]⟩
    · obtain ⟨v, hv⟩ := hv j hj
      exact ⟨v, by rw [Array.getElem?_setIfInBounds_ne (by omega)]; exact hv⟩
  · by_cases hji : j = i
    · subst hji
      rw [hx] at hy
      injection hy with hy
      rw [Array.getElem?_setIfInBounds_self_of_lt (by omega), hy]
    · rw [Array.getElem?_setIfInBounds_ne (by omega)]
      exact hc j y (by omega) hy
  · obtain ⟨v, hv⟩ := hv i hi
    exact ⟨v, by unfold World.cell?; rw [hb]; exact hv⟩
  · unfold World.frozen?
    rw [hb]
    simp
set_option maxRecDepth 100000 in
theorem rfirst_fr {w : World} {A : Option Addr} {m c : Nat} {l : List UInt8} (h : Rd w w.heap.size A m l) (nm : ByteArray) (n : Nat) (hn : n ≤ m) (hn2 : n ≤ 16777216) (fm : Int) :
    Calls Try.prog 43 #[.string nm, .slice A m c, .int .i64 (n : Int), .int .i64 fm] w fun e w' =>
      ∃ X c', e = .returned (.agg #[.string nm, .slice X n c', .int .i64 fm]) ∧ Rd w' w'.heap.size X n (l.take n) ∧ Fr No w w' ∧ ∀ a, X = some a → w.heap.size ≤ a.block := by
  have H := Lib.hid h
  have hll := h.len
  have hmk := make_u8n n hn2
  have HLL := Lib.hid hll
  clear h hll
  go_enter Try.func43, Try.ntmps43
  go_wp2_with fail
  obtain ⟨w2, hw2⟩ : ∃ w2, (w.alloc (.cells #[.string ⟨#[]⟩, .slice none 0 0, .int .i64 0] 73)).alloc (.cells (Array.replicate n (.int .u8 0)) 5) = w2 := ⟨_, rfl⟩
  have HC0 := Lib.hid (show Cpy w w2 w.heap.size (w.heap.size + 1) n 0 l from by
    rw [← hw2]
    refine ⟨(Fr.alloc No w _).no_trans (Fr.alloc No _ _), ⟨by omega, by omega, by omega⟩, (Below.heap_alloc _ _ _ (by simp)).trans (heap_alloc_new w _), _, heap2' _ _ _, by simp, fun j hj => ⟨.int .u8 0, by simp [hj]⟩, fun j x hj => by omega⟩)
  rw [hw2]
  clear hw2 hmk
  obtain ⟨P, HP⟩ : ∃ P, Hid (w.heap.size = P) := ⟨_, rfl⟩
  obtain ⟨G, HG⟩ : ∃ G, Hid (P + 1 = G) := ⟨_, rfl⟩
  rw [HP.out, HG.out] at HC0
  rw [HP.out, HG.out]
  go_loopw [10] (fun vi wr => ∃ i : Nat, i ≤ n ∧ vi = .int .i64 (i : Int) ∧ Cpy w wr P G n i l) (fun vi _ => n - (intOf vi).toNat)
  case atStart => exact ⟨0, by omega, rfl, HC0.out⟩
  case round =>
    obtain ⟨i, hi, rfl, hC⟩ := hrel
    have HC := Lib.hid hC
    clear hC
    by_cases hlt : i < n
    · obtain ⟨x, hx⟩ : ∃ x, l[i]? = some x := ⟨_, List.getElem?_eq_getElem (by have := HLL.out; omega)⟩
      obtain ⟨b, o, rfl, hb, hcc⟩ := H.out.2 (by omega)
      have hil : i < l.length := by have := HLL.out; omega
      have hcx := hcc i hil
      have hxe : l[i] = x := by rw [List.getElem?_eq_getElem hil] at hx; injection hx
      rw [hxe] at hcx
      have q0 := HC.out.fr.cell hcx (fun e => e)
      obtain ⟨hnext, ⟨v, hv⟩, hz⟩ := HC.out.step hlt hx
      have HNX := Lib.hid hnext
      have hwi : IntKind.i64.wrap ((i : Int) + 1) = ((i + 1 : Nat) : Int) := by
        rw [show ((i : Int) + 1) = ((i + 1 : Nat) : Int) by omega]
        exact IntWalk.i64_in _ (by omega)
      have hbn : i < m := by omega
      clear hcc hil hcx hxe hx hnext
      go_wp2_with fail
      go_roundw
      case rel => exact ⟨i + 1, by omega, by go_num, HNX.out⟩
      case measure => simp [intOf]; omega
    · have hie : i = n := by omega
      subst hie
      clear hlt hi
      have hres := HC.out.res
      have HRS := Lib.hid hres
      have p0 : wr.cell? ⟨P, 0, none⟩ = some (.string ⟨#[]⟩) := by unfold World.cell?; rw [hres]; rfl
      have p1 : wr.cell? ⟨P, 1, none⟩ = some (.slice none 0 0) := by unfold World.cell?; rw [hres]; rfl
      have p2 : wr.cell? ⟨P, 2, none⟩ = some (.int .i64 0) := by unfold World.cell?; rw [hres]; rfl
      have z0 : wr.frozen? ⟨P, 0, none⟩ = false := by unfold World.frozen?; rw [hres]; simp
      have z1 : wr.frozen? ⟨P, 1, none⟩ = false := by unfold World.frozen?; rw [hres]; simp
      have z2 : wr.frozen? ⟨P, 2, none⟩ = false := by unfold World.frozen?; rw [hres]; simp
      clear hres
      go_wp2_with fail
      have hbp := heap_cells_set _ P 2 _ _ (.int .i64 fm) (heap_cells_set _ P 1 _ _ (.slice (some ⟨G, 0, none⟩) i i) (heap_cells_set _ P 0 _ _ (.string nm) HRS.out))
      refine bodyPost_ret (results_cell_row (p := 8) rfl _ _ P 73 #[.string nm, .slice (some ⟨G, 0, none⟩) i i, .int .i64 fm] (0, 0) _ rfl hbp Try.underlying73 rfl (by kernel_rfl)) rfl ?_
      obtain ⟨hf, ⟨hP, hG, hne⟩, _, cs, hb, hs, _, hc⟩ := HC.out
      have hf3 : Fr (fun k => k = P) wr (((wr.setCell ⟨P, 0, none⟩ (.string nm)).setCell ⟨P, 1, none⟩ (.slice (some ⟨G, 0, none⟩) i i)).setCell ⟨P, 2, none⟩ (.int .i64 fm)) :=
        ((Fr.setCell wr ⟨P, 0, none⟩ _ (F := fun k => k = P) rfl).trans (Fr.setCell _ ⟨P, 1, none⟩ _ (F := fun k => k = P) rfl) (fun _ _ e => e)).trans (Fr.setCell _ ⟨P, 2, none⟩ _ (F := fun k => k = P) rfl) (fun _ _ e => e)
      have hbG := (hf3.block G (Array.getElem?_eq_some_iff.1 hb).1 (fun e => hne e.symm)).trans hb
      have hll := HLL.out
      refine ⟨_, _, rfl, ⟨by rw [List.length_take]; omega, fun _ => ⟨G, 0, rfl, (Array.getElem?_eq_some_iff.1 hbG).1, fun j hj => ?_⟩⟩, hf.trans hf3 (fun k hk e => by omega), fun a ha => by injection ha with ha; subst ha; exact hG⟩
      have hj2 : j < i := by rw [List.length_take] at hj; omega
      unfold World.cell?
      rw [hbG, Nat.zero_add, List.getElem_take]
      exact hc j l[j] hj2 (List.getElem?_eq_getElem (by omega))
set_option maxRecDepth 100000 in
theorem rfirst_any {w : World} {A : Option Addr} {m c : Nat} {l : List UInt8} (h : Rd w w.heap.size A m l) (nm : ByteArray) (n : Nat) (hn : n ≤ m) (hn2 : n ≤ 16777216) (fm : Int) :
    Calls Try.prog 43 #[.string nm, .slice A m c, .int .i64 (n : Int), .int .i64 fm] w fun e w' =>
      ∃ X c', e = .returned (.agg #[.string nm, .slice X n c', .int .i64 fm]) ∧ Rd w' w'.heap.size X n (l.take n) ∧ Fr No w w' :=
  (rfirst_fr (c := c) h nm n hn hn2 fm).mono fun _ _ ⟨X, c', h1, h2, h3, _⟩ => ⟨X, c', h1, h2, h3⟩
end Go.Proofs.Ytnkgcafebmacjaa

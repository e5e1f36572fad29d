/-
  The closures of Bytes: a number, a slot put behind what is there. No statement of the seat is proved here.
-/
import Derived.Test.YtefopgdmadgheaaDoorChI
import Derived.Test.YtefopgdmadgheaaDoorUgo
namespace Go.Proofs.YtefopgdmadgheaaDoor
open Go.RowKit Go.Deep

/-- A slot as bytes. -/
def slB (s : Nat × Int) : List UInt8 := varint s.1 ++ varint s.2.toNat
def hpB (h : Hp) : List UInt8 := varint h.1.toNat ++ slB h.2
def bgB (l : List (Nat × Int)) : List UInt8 := l.flatMap slB
def csB (l : List Nat) : List UInt8 := l.map UInt8.ofNat
/-- A chunk as bytes. -/
def ckB (d : Ck) : List UInt8 := varint d.x.toNat ++ (varint d.y.toNat ++ (csB d.cs ++ (varint d.hs.length ++ (d.hs.flatMap hpB ++ d.bs.flatMap (fun b => bgB b.2)))))
/-- Bytes in a variable of the call's own. -/
structure Bst (w0 : World) (T : Nat) (l : List UInt8) (W : World) : Prop where
  ex : ∃ v, W.heap[T]? = some (.cells #[v] 31 (0, 0)) ∧ W.ownsRow w0.heap.size 5 1 v l.length (bvs l)
  fr : Fr (fun i => i = T) w0 W
/-- What a number that is put turns. -/
def NumF (T : Nat) (W : World) (i : Nat) : Prop := i = T ∨ ∃ cur fr, W.heap[i]? = some (.cells cur 5 fr)
section
variable {w0 w w' W : World} {T : Nat} {l : List UInt8}
theorem NumF.not {E : Nat} {cur : Array Value} {t : TypeId} {fr : Nat × Nat} (h : W.heap[E]? = some (.cells cur t fr)) (hT : E ≠ T) (ht : t ≠ 5) : ¬ NumF T W E := by
  rintro (e | ⟨c, f, hc⟩)
  · exact hT e
  · rw [h] at hc
    injection hc with hc
    injection hc with _ hc _
    exact ht hc
theorem Bst.no (h : Bst w0 T l w) (hf : Fr No w w') : Bst w0 T l w' := by
  obtain ⟨v, hv, ho⟩ := h.ex
  exact ⟨⟨v, blk_no hf hv, own_no ho hf⟩, h.fr.then_no hf⟩
/-- What is put behind the bytes: the variable holds it. -/
theorem Bst.put (h : Bst w0 T l w) {v v' : Value} {l' : List UInt8} (hv : w.heap[T]? = some (.cells #[v] 31 (0, 0))) (ho : w.ownsRow w0.heap.size 5 1 v l.length (bvs l)) (ho' : w'.ownsRow w0.heap.size 5 1 v' l'.length (bvs l')) (hg : w.grownBy w' v.ownBlock) :
    w'.heap[T]? = some (.cells #[v] 31 (0, 0)) ∧ Bst w0 T l' (w'.setCell ⟨T, 0, none⟩ v') ∧ Fr (NumF T w) w (w'.setCell ⟨T, 0, none⟩ v') := by
  have hf : Fr (fun k => v.ownBlock = some k) w w' := Fr.grown hg (fun k hk => hk)
  have hT' : w'.heap[T]? = some (.cells #[v] 31 (0, 0)) := hf.blk hv (own_not ho hv (by decide))
  have q : Fr (fun i => i = T) w' (w'.setCell ⟨T, 0, none⟩ v') := Fr.setCell _ _ _ rfl
  refine ⟨hT', ⟨⟨v', by rw [heap_cells_set _ T 0 _ _ _ hT']; rfl, own_fr ho' q (fun k hk e => own_not ho' hT' (by decide) (by rw [e] at hk; exact hk))⟩, ?_⟩, ?_⟩
  · refine (h.fr.then_new hf (fun i hi => (ho.lt i hi).1)).trans q (fun _ _ e => e)
  · refine (hf.mono (fun i _ hi => ?_)).trans q (fun i _ e => .inl e)
    obtain ⟨cur, hc⟩ := own_type ho hi
    exact .inr ⟨cur, _, hc⟩
set_option maxRecDepth 100000 in
set_option maxHeartbeats 1600000 in
theorem number_any (h : Bst w0 T l w) (n : Nat) (hn : n < 2 ^ 63) (hl : l.length ≤ 20000) : Calls Tryd.prog 20 #[.int .i64 (n : Int), .pointer (some ⟨T, 0, none⟩)] w fun e w' => e = .returned (.tuple #[]) ∧ Bst w0 T (l ++ varint n) w' ∧ Fr (NumF T w) w w' := by
  obtain ⟨v, hv, ho⟩ := h.ex
  have HU := Lib.hid (uint_gro w0.heap.size l n v w (by omega) h.fr.size hl ho)
  have g0 := (blk_cell hv 0).trans (by simp : _ = some v)
  have HP := Lib.hid (fun v' w' (h1 : w'.ownsRow w0.heap.size 5 1 v' (l ++ varint n).length (bvs (l ++ varint n))) (h2 : w.grownBy w' v.ownBlock) => h.put hv ho h1 h2)
  have hw : IntKind.u64.wrap (n : Int) = (n : Int) := IntWalk.u64_in _ (by omega)
  clear h hv ho hl
  go_enter Tryd.func20, Tryd.ntmps20
  go_wp2_with fail
  refine HU.out.mono ?_
  rintro e w1 ⟨v', rfl, ho', hg, _⟩
  obtain ⟨A', c', rfl, _⟩ := own_slice ho'
  obtain ⟨hT', hB, hF⟩ := HP.out _ w1 ho' hg
  have HB := Lib.hid hB
  have HFF := Lib.hid hF
  have k0 := (blk_cell hT' 0).trans (by simp : _ = some v)
  have z0 := blk_free hT' 0
  clear ho' hg hB hF hT' HP HU
  generalize (l ++ varint n).length = nn at *
  go_wp2_with fail
  refine bodyPost_end (results_none rfl _ _ _) rfl ?_
  exact ⟨rfl, HB.out, HFF.out⟩
set_option maxRecDepth 100000 in
set_option maxHeartbeats 1600000 in
/-- A slot put behind. -/
theorem slot_any {V : Nat} (h : Bst w0 T l w) (hV : w.heap[V]? = some (.cells #[.func (.func 20) #[] #[.pointer (some ⟨T, 0, none⟩)]] 60 (0, 0))) (a : Nat) (ha : a < 256) (n : Nat) (hn : n < 2 ^ 63) (hl : l.length ≤ 19000) :
    Calls Tryd.prog 22 #[.agg #[.int .u8 (a : Int), .int .i64 (n : Int)], .pointer (some ⟨V, 0, none⟩)] w fun e w' => e = .returned (.tuple #[]) ∧ Bst w0 T (l ++ slB (a, (n : Int))) w' ∧ Fr (NumF T w) w w' := by
  have hVT : V ≠ T := fun e => by
    obtain ⟨v, hv, _⟩ := h.ex
    rw [e, hv] at hV
    injection hV with hV
    injection hV with _ hV _
    exact absurd hV (by decide)
  have hten := varint_len_ten (show a < 2 ^ 64 by omega)
  have hfa := Fr.alloc No w (.cells #[.int .u8 (a : Int), .int .i64 (n : Int)] 29)
  have hE := heap_alloc_new w (.cells #[.int .u8 (a : Int), .int .i64 (n : Int)] 29)
  have hVa := blk_no hfa hV
  have HFA := Lib.hid hfa
  have H1 := Lib.hid (number_any (h.no hfa) a (by omega) (by omega))
  have HN2 := Lib.hid (fun W (hW : Bst w0 T (l ++ varint a) W) => number_any hW n hn (by rw [List.length_append]; omega))
  have gV := (blk_cell hVa 0).trans (by simp : _ = some (.func (.func 20) #[] #[.pointer (some ⟨T, 0, none⟩)]))
  have hET : w.heap.size ≠ T := fun e => by
    obtain ⟨v, hv, _⟩ := h.ex
    have := (Array.getElem?_eq_some_iff.1 hv).1
    omega
  obtain ⟨E, hEE⟩ : ∃ E, w.heap.size = E := ⟨_, rfl⟩
  rw [hEE] at hE hET
  have HVa := Lib.hid hVa
  have HEb := Lib.hid hE
  have g0 := (blk_cell hE 0).trans (by simp : _ = some (.int .u8 (a : Int)))
  have hwa : IntKind.i64.wrap (a : Int) = (a : Int) := IntWalk.i64_in _ (by omega)
  have HFB : Hid (∀ w1, Fr (NumF T (w.alloc (.cells #[.int .u8 (a : Int), .int .i64 (n : Int)] 29))) (w.alloc (.cells #[.int .u8 (a : Int), .int .i64 (n : Int)] 29)) w1 → Fr (NumF T w) w w1) := Lib.hid (fun w1 hf => by
    refine ⟨hf.os.trans hfa.os, hf.tape.trans hfa.tape, hf.output.trans hfa.output, Nat.le_trans hfa.size hf.size, fun k hk hF => (hf.block k (Nat.lt_of_lt_of_le hk hfa.size) (fun e => hF ?_)).trans (hfa.block k hk (fun e => e))⟩
    rcases e with e | ⟨cur, fr, e⟩
    · exact .inl e
    · rw [hfa.block k hk (fun e => e)] at e
      exact .inr ⟨cur, fr, e⟩)
  clear h hV hfa hE hVa hl hten
  go_enter Tryd.func22, Tryd.ntmps22
  go_upto_region 1 with fail
  clear hEE
  generalize w.alloc (.cells #[.int .u8 (a : Int), .int .i64 (n : Int)] 29) = wa at *
  go_wp2_with fail
  refine H1.out.mono ?_
  rintro e w1 ⟨rfl, hB, hF⟩
  have HB1 := Lib.hid hB
  have HF1 := Lib.hid hF
  have k1 := (blk_cell (hF.blk HEb.out (NumF.not HEb.out hET (by decide))) 1).trans (by simp : _ = some (.int .i64 (n : Int)))
  have kV := (blk_cell (hF.blk HVa.out (NumF.not HVa.out hVT (by decide))) 0).trans (by simp : _ = some (.func (.func 20) #[] #[.pointer (some ⟨T, 0, none⟩)]))
  clear hB hF H1 gV g0
  go_wp2_with fail
  refine (HN2.out _ HB1.out).mono ?_
  rintro e w2 ⟨rfl, hB, hF⟩
  have HB2 := Lib.hid hB
  have HF2 := Lib.hid hF
  clear hB hF
  go_wp2_with fail
  refine bodyPost_end (results_none rfl _ _ _) rfl ?_
  refine ⟨rfl, ?_, HFB.out w2 ?_⟩
  · have := HB2.out
    rw [List.append_assoc] at this
    exact this
  · refine ⟨HF2.out.os.trans HF1.out.os, HF2.out.tape.trans HF1.out.tape, HF2.out.output.trans HF1.out.output, Nat.le_trans HF1.out.size HF2.out.size, fun k hk hF => ?_⟩
    have h1 := HF1.out.block k hk hF
    refine (HF2.out.block k (Nat.lt_of_lt_of_le hk HF1.out.size) (fun e => hF ?_)).trans h1
    rcases e with e | ⟨cur, fr, e⟩
    · exact .inl e
    · rw [h1] at e
      exact .inr ⟨cur, fr, e⟩
end
end Go.Proofs.YtefopgdmadgheaaDoor

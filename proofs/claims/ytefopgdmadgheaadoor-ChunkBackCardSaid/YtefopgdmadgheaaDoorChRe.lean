/-
  A chunk out of numbers: read. No statement of the seat is proved here.
-/
import Derived.Test.YtefopgdmadgheaaDoorChRd
import Derived.Test.YtefopgdmadgheaaDoorChI
import Derived.Deep.AppendLies
import Derived.Deep.RegionLaw
namespace Go.Proofs.YtefopgdmadgheaaDoor
open Go.RowKit Go.Deep

/-- Where reading a chunk stands: its block, the rows of it. -/
structure RdS5 (w0 w : World) (R P : Nat) (X Y : Int) (A1 : Option Addr) (n1 c1 : Nat) (cs : List Nat) (A2 : Option Addr) (n2 c2 : Nat) (hs : List Hp) (A3 : Option Addr) (n3 c3 : Nat) (bs : List Bx) : Prop where
  r : w.heap[R]? = some (.cells #[.int .i64 0, .int .i64 0, .slice none 0 0, .slice none 0 0, .slice none 0 0] 26 (0, 0))
  p : w.heap[P]? = some (.cells #[.int .i64 X, .int .i64 Y, .slice A1 n1 c1, .slice A2 n2 c2, .slice A3 n3 c3] 26 (0, 0))
  o : OwC w0.heap.size w ⟨X, Y, A1, n1, c1, cs, A2, n2, c2, hs, A3, n3, c3, bs⟩
section
variable {w0 w w' : World} {B0 U Pa Pf Q1 Q3 n c i : Nat} {A : Option Addr} {l : List UInt8}
theorem f2_chunk {R : Nat} {cur : Array Value} (hn : NumAt w B0 U Pa Pf A n c l i) (hr : w.heap[R]? = some (.cells cur 26 (0, 0))) : ¬ F2 Pa Pf R := fun e => by
  rcases e with e | e
  · exact blk_ne hr hn.a (by decide) e
  · exact blk_ne hr hn.f (by decide) e
theorem rd_init {w3 w6 : World} {P : Nat} (hn : NumAt w6 B0 U Pa Pf A n c l i) (hf : Fr (F2 Pa Pf) w3 w6) (hb : w6.heap[P]? = some (.cells #[.int .i64 0, .int .i64 0, .slice none 0 0, .slice none 0 0, .slice none 0 0] 26 (0, 0))) (hP : w3.heap.size ≤ P) (hB : B0 ≤ P) (X Y : Int) :
    NumAt (set5 w6 P (.int .i64 X) (.int .i64 Y) (.slice none 0 0) (.slice none 0 0) (.slice none 0 0)) B0 U Pa Pf A n c l i ∧ Fr (F2 Pa Pf) w3 (set5 w6 P (.int .i64 X) (.int .i64 Y) (.slice none 0 0) (.slice none 0 0) (.slice none 0 0)) ∧ (set5 w6 P (.int .i64 X) (.int .i64 Y) (.slice none 0 0) (.slice none 0 0) (.slice none 0 0)).heap[P]? = some (.cells #[.int .i64 X, .int .i64 Y, .slice none 0 0, .slice none 0 0, .slice none 0 0] 26 (0, 0)) := by
  have q := set5_fr w6 P (.int .i64 X) (.int .i64 Y) (.slice none 0 0) (.slice none 0 0) (.slice none 0 0)
  refine ⟨hn.fr q (fun b e => ?_), hf.then_new q (fun b e => by have e' : b = P := e; omega), set5_heap hb _ _ _ _ _⟩
  have e' : b = P := e
  subst e'
  exact ⟨hB, blk_ne hb hn.u (by decide), blk_ne hb hn.a (by decide), blk_ne hb hn.f (by decide)⟩
theorem step_append_k1 {lo : Nat} (W : World) {ops : Array Oper} {o : Oper} {a : Act} {K : Act → World → Prop} {Q : Exit → Act → World → Prop} {E : Prop} (hgd : o.guard = none) (s x : Operand) (T e : TypeId)
    (ho : o.op = .call { callee := .builtin .append, args := #[s, x], argTypes := #[T, T] }) {z : Value} {size bytes : Nat} (hT : Tryd.prog.underlying T = some (.slice e)) (hinf : (Tryd.prog.info? e).map (fun i => (i.zero, i.size, i.bytes)) = some (some z, size, bytes)) (hz : z.cells.size = size) (hsz : 0 < size) (hby : bytes ≤ 100)
    {A : Option Addr} {n c : Nat} {cells : List Value} (hs : a.eval s = .slice A n c) (hown : W.ownsRow lo e size (.slice A n c) n cells) (news : Array Value) (hl : news.size = size) (h1 : ∀ u ∈ news.toList, u.oneCell' = true) {G : Nat} (hb : W.heap[G]? = some (.cells news e (0, 0))) (hx : a.eval x = .slice (some ⟨G, 0, none⟩) 1 1) (hlen : n ≤ 100000) (hbase : lo ≤ W.heap.size)
    (h : ∀ A' c' w', w'.ownsRow lo e size (.slice A' (n + 1) c') (n + 1) (cells ++ news.toList) → Fr (fun k => (Value.slice A n c).ownBlock = some k) W w' → K (a.put o.dst (.slice A' (n + 1) c')) w') :
    if Region.wanted o (yielded ops a.tmps) = true then Oper.wp Tryd.prog o a W K Q else E := by
  obtain ⟨i0, hi, hz0, hz1, hz2⟩ := info_parts hinf
  refine step_append_lies _ hgd s x T ho lo e i0 _ size bytes hT hi hz0 hz1 hz2 hz hsz (.slice A n c) n cells hs hown ⟨G, 0, none⟩ 1 1 news.toList hx (by rw [Array.length_toList, hl, Nat.one_mul]) (World.news_of_block hb) h1 (by omega) (by unfold maxLen; omega) (by have := Nat.mul_le_mul (show n + 1 ≤ 100001 by omega) hby; omega) hbase _ rfl ?_
  intro g cap w' ho' hg hat _
  exact h _ _ w' ho' (Fr.grown hg (fun k hk => hk))
/-- Reading a chunk: the readers, the result's cell, the chunk's own block. -/
structure RdI (w wr : World) (B0 U Pa Pf : Nat) (A : Option Addr) (n c : Nat) (l : List UInt8) (D P i : Nat) (a1 a2 a3 : Value) : Prop where
  n : NumAt wr B0 U Pa Pf A n c l i
  q : EnvQ wr U Pa Pf D (D + 1 + 1)
  r : wr.heap[D + 1]? = some (.cells #[.int .i64 0, .int .i64 0, .slice none 0 0, .slice none 0 0, .slice none 0 0] 26 (0, 0))
  p : wr.heap[P]? = some (.cells #[.int .i64 (vN l 0 : Int), .int .i64 (vN l 1 : Int), a1, a2, a3] 26 (0, 0))
  f : Fr (F2 Pa Pf) w wr
section
variable {wr W : World} {D P j : Nat} {a1 a2 a3 : Value}
theorem RdI.call (h : RdI w wr B0 U Pa Pf A n c l D P i a1 a2 a3) (hf : Fr (F2 Pa Pf) wr W) (hn : NumAt W B0 U Pa Pf A n c l j) : RdI w W B0 U Pa Pf A n c l D P j a1 a2 a3 :=
  ⟨hn, h.q.f2 h.n hf, hf.blk h.r (f2_chunk h.n h.r), hf.blk h.p (f2_chunk h.n h.p), h.f.trans hf (fun _ _ e => e)⟩
theorem RdI.no (h : RdI w wr B0 U Pa Pf A n c l D P i a1 a2 a3) (hf : Fr No wr W) : RdI w W B0 U Pa Pf A n c l D P i a1 a2 a3 :=
  ⟨h.n.no hf, h.q.no hf, blk_no hf h.r, blk_no hf h.p, h.f.then_no hf⟩
/-- A row of the chunk's has grown. -/
theorem RdI.own (h : RdI w wr B0 U Pa Pf A n c l D P i a1 a2 a3) {lo : Nat} {e : TypeId} {size m : Nat} {v : Value} {cells : List Value} (ho : wr.ownsRow lo e size v m cells) (hlo : w.heap.size ≤ lo) (hB : B0 ≤ lo) (he : e = 27 ∨ e = 63 ∨ e = 49) (hf : Fr (fun k => v.ownBlock = some k) wr W) : RdI w W B0 U Pa Pf A n c l D P i a1 a2 a3 := by
  have ne : ∀ {b : Nat} {cur : Array Value} {t : TypeId}, wr.heap[b]? = some (.cells cur t (0, 0)) → t ≠ 27 → t ≠ 63 → t ≠ 49 → ¬ v.ownBlock = some b := fun hb h1 h2 h3 => own_not ho hb (by rcases he with rfl | rfl | rfl; exact fun e => h1 e.symm; exact fun e => h2 e.symm; exact fun e => h3 e.symm)
  refine ⟨h.n.fr hf (fun b hb => ⟨Nat.le_trans hB (ho.lt b hb).1, fun e => ?_, fun e => ?_, fun e => ?_⟩), ⟨hf.blk h.q.1 (ne h.q.1 (by decide) (by decide) (by decide)), hf.blk h.q.2 (ne h.q.2 (by decide) (by decide) (by decide))⟩, hf.blk h.r (ne h.r (by decide) (by decide) (by decide)), hf.blk h.p (ne h.p (by decide) (by decide) (by decide)), h.f.then_new hf (fun b hb => Nat.le_trans hlo (ho.lt b hb).1)⟩
  · subst e; exact ne h.n.u (by decide) (by decide) (by decide) hb
  · subst e; exact ne h.n.a (by decide) (by decide) (by decide) hb
  · subst e; exact ne h.n.f (by decide) (by decide) (by decide) hb
/-- A cell of the chunk's block is written. -/
theorem RdI.put (h : RdI w wr B0 U Pa Pf A n c l D P i a1 a2 a3) (hP : w.heap.size ≤ P) (hB : B0 ≤ P) (h1 : P ≠ D) (h2 : P ≠ D + 1 + 1) (h3 : P ≠ D + 1) (k : Nat) (v : Value) {b1 b2 b3 : Value} (hk : (#[.int .i64 (vN l 0 : Int), .int .i64 (vN l 1 : Int), a1, a2, a3] : Array Value).setIfInBounds k v = #[.int .i64 (vN l 0 : Int), .int .i64 (vN l 1 : Int), b1, b2, b3]) : RdI w (wr.setCell ⟨P, k, none⟩ v) B0 U Pa Pf A n c l D P i b1 b2 b3 := by
  have hs : Fr (fun b => b = P) wr (wr.setCell ⟨P, k, none⟩ v) := Fr.setCell wr ⟨P, k, none⟩ v rfl
  refine ⟨h.n.fr hs (fun b e => ?_), ⟨hs.blk h.q.1 (fun e => h1 (Eq.symm e)), hs.blk h.q.2 (fun e => h2 (Eq.symm e))⟩, hs.blk h.r (fun e => h3 (Eq.symm e)), ?_, h.f.then_new hs (fun b e => by have e' : b = P := e; omega)⟩
  · have e' : b = P := e
    subst e'
    exact ⟨hB, blk_ne h.p h.n.u (by decide), blk_ne h.p h.n.a (by decide), blk_ne h.p h.n.f (by decide)⟩
  · rw [heap_cells_set wr P k _ _ _ h.p, hk]
end
theorem nine_snoc : ∀ (cs : List Nat) (i : Nat), nine (cs ++ [i]) = nine cs + (if i = 9 then 1 else 0)
  | [], i => by
    show (if i = 9 then nine [] + 1 else nine []) = nine [] + (if i = 9 then 1 else 0)
    split <;> rfl
  | x :: cs, i => by
    have ih := nine_snoc cs i
    show (if x = 9 then nine (cs ++ [i]) + 1 else nine (cs ++ [i])) = (if x = 9 then nine cs + 1 else nine cs) + _
    rw [ih]
    split <;> omega
theorem bxV_snoc (v : Nat → Nat) : ∀ (cs : List Nat) (i p k : Nat), bxV v p k (cs ++ [i]) = bxV v p k cs ++ (if i = 9 then [(((k + cs.length : Nat) : Int), bagV v (p + 12 * nine cs))] else [])
  | [], i, p, k => by
    show (if i = 9 then ((k : Int), bagV v p) :: bxV v (p + 12) (k + 1) [] else bxV v p (k + 1) []) = _
    split <;> rfl
  | x :: cs, i, p, k => by
    show (if x = 9 then ((k : Int), bagV v p) :: bxV v (p + 12) (k + 1) (cs ++ [i]) else bxV v p (k + 1) (cs ++ [i])) = (if x = 9 then ((k : Int), bagV v p) :: bxV v (p + 12) (k + 1) cs else bxV v p (k + 1) cs) ++ _
    have e1 : k + (x :: cs).length = k + 1 + cs.length := by rw [List.length_cons]; omega
    have e2 : nine (x :: cs) = if x = 9 then nine cs + 1 else nine cs := rfl
    rw [e1, e2]
    by_cases h : x = 9
    · rw [if_pos h, if_pos h, if_pos h, bxV_snoc v cs, show p + 12 * (nine cs + 1) = p + 12 + 12 * nine cs by omega]
      rfl
    · rw [if_neg h, if_neg h, if_neg h, bxV_snoc v cs]
set_option maxRecDepth 100000 in
set_option maxHeartbeats 6400000 in
theorem read_any (h : NumAt w B0 U Pa Pf A n c l 0) : Calls Tryd.prog 19 #[numF U Pa Pf] w
    fun e w' => ∃ C : Ch, e = .returned C.val ∧ C.ck = ofV (vN l) ∧ OwC w.heap.size w' C ∧ NumAt w' B0 U Pa Pf A n c l (totV (vN l)) ∧ Fr (F2 Pa Pf) w w' := by
  have hb1 := heap_alloc_new w (.cells #[numF U Pa Pf] 57)
  have f1 := Fr.alloc No w (.cells #[numF U Pa Pf] 57)
  have hb2 := heap_alloc_new (w.alloc (.cells #[numF U Pa Pf] 57)) (.cells #[.int .i64 0, .int .i64 0, .slice none 0 0, .slice none 0 0, .slice none 0 0] 26)
  have f2 := Fr.alloc No (w.alloc (.cells #[numF U Pa Pf] 57)) (.cells #[.int .i64 0, .int .i64 0, .slice none 0 0, .slice none 0 0, .slice none 0 0] 26)
  rw [World.size_alloc] at hb2
  obtain ⟨D, hD⟩ : ∃ D, w.heap.size = D := ⟨_, rfl⟩
  rw [hD] at hb1 hb2
  have hw2 : Hid (((w.alloc (.cells #[numF U Pa Pf] 57)).alloc (.cells #[.int .i64 0, .int .i64 0, .slice none 0 0, .slice none 0 0, .slice none 0 0] 26)).heap.size = D + 1 + 1) := Lib.hid (by rw [World.size_alloc, World.size_alloc, hD])
  have HF2 := Lib.hid (f1.no_trans f2)
  have HN2 := Lib.hid (h.no HF2.out)
  have HB1 := Lib.hid (blk_no f2 hb1)
  have HB2 := Lib.hid hb2
  have HDW := Lib.hid hD
  have HB0D : Hid (B0 ≤ D) := Lib.hid (by rw [← hD]; exact h.sz)
  clear h hb1 hb2 f1 f2
  unfold numF at HB1 HB2 HF2 HN2 hw2 ⊢
  go_enter Tryd.func19, Tryd.ntmps19
  go_upto_region 1 with fail
  clear hD
  generalize (w.alloc (.cells #[.func (.func 17) #[] #[.pointer (some ⟨U, 0, none⟩), .pointer (some ⟨Pa, 0, none⟩), .pointer (some ⟨Pf, 0, none⟩)]] 57)).alloc (.cells #[.int .i64 0, .int .i64 0, .slice none 0 0, .slice none 0 0, .slice none 0 0] 26) = w2 at *
  have hsz2 : w2.heap.size = D + 1 + 1 := hw2.out
  have hb3 := heap_alloc_new w2 (.cells #[.nilFunc] 83)
  have f3 := Fr.alloc No w2 (.cells #[.nilFunc] 83)
  rw [hsz2] at hb3
  have x0 := (blk_cell hb3 0).trans (by simp : _ = some .nilFunc)
  have x1 := blk_free hb3 0
  have f4 := Fr.alloc No w2 (.cells #[.func (.func 43) #[] #[.pointer (some ⟨D, 0, none⟩)]] 83)
  have hb4 := heap_alloc_new w2 (.cells #[.func (.func 43) #[] #[.pointer (some ⟨D, 0, none⟩)]] 83)
  rw [hsz2] at hb4
  have HF3 := Lib.hid (HF2.out.no_trans f4)
  have HN3 := Lib.hid (HN2.out.no f4)
  have HQ3 : Hid (EnvQ (w2.alloc (.cells #[.func (.func 43) #[] #[.pointer (some ⟨D, 0, none⟩)]] 83)) U Pa Pf D (D + 1 + 1)) := Lib.hid ⟨blk_no f4 HB1.out, hb4⟩
  have HR3 := Lib.hid (blk_no f4 HB2.out)
  go_upto_region 3 with fail
  have hst : (store ⟨D + 1 + 1, 0, none⟩ (.func (.func 43) #[] #[.pointer (some ⟨D, 0, none⟩)])).run Tryd.prog (w2.alloc (.cells #[.nilFunc] 83)) = .ok () ((w2.alloc (.cells #[.nilFunc] 83)).setCell ⟨D + 1 + 1, 0, none⟩ (.func (.func 43) #[] #[.pointer (some ⟨D, 0, none⟩)])) := by
    rw [run_store Tryd.prog _ _ _ _ rfl, x0]
    simp [x1]
  rw [hst]
  clear hb3 f3 f4 hb4 HN2 HF2 HB1 HB2 hw2 hst
  go_upto_region 3 with fail
  clear x0 x1
  generalize w2.alloc (.cells #[.func (.func 43) #[] #[.pointer (some ⟨D, 0, none⟩)]] 83) = w3 at *
  clear hsz2
  have HZ : Hid (w3.heap.size ≥ D) := Lib.hid (by have h1 := HF3.out.size; have := HDW.out; omega)
  have HNX := Lib.hid (fun W j (hW : NumAt W B0 U Pa Pf A n c l j) => num_any hW)
  have HL : Hid (∀ W, Fr (F2 Pa Pf) w3 W → W.cell? ⟨D, 0, none⟩ = some (.func (.func 17) #[] #[.pointer (some ⟨U, 0, none⟩), .pointer (some ⟨Pa, 0, none⟩), .pointer (some ⟨Pf, 0, none⟩)])) := Lib.hid (fun W hW => (blk_cell (HQ3.out.f2 HN3.out hW).1 0).trans (by simp [numF]))
  go_cut [5] from 10 to 14 (fun v5 W => ∃ P, v5 = .pointer (some ⟨P, 0, none⟩) ∧ D ≤ P ∧ P ≠ D ∧ P ≠ D + 1 + 1 ∧ P ≠ D + 1 ∧ NumAt W B0 U Pa Pf A n c l 2 ∧ Fr (F2 Pa Pf) w3 W ∧ W.heap[P]? = some (.cells #[.int .i64 (vN l 0 : Int), .int .i64 (vN l 1 : Int), .slice none 0 0, .slice none 0 0, .slice none 0 0] 26 (0, 0)))
  case first =>
    have HDL : Hid (D + 1 + 1 < w3.heap.size) := Lib.hid (Array.getElem?_eq_some_iff.1 HQ3.out.2).1
    have d0 := HL.out w3 (Fr.refl _ _)
    have dd := HL.out w3.drew (Fr.drew _ w3)
    have de := HL.out (w3.alloc (.cells #[.int .i64 0, .int .i64 0, .slice none 0 0, .slice none 0 0, .slice none 0 0] 26)).drew ((Fr.alloc _ w3 _).trans (Fr.drew _ _) (fun _ _ e => e))
    go_region_held3 (fun W => W.cell? ⟨D, 0, none⟩ = some (.func (.func 17) #[] #[.pointer (some ⟨U, 0, none⟩), .pointer (some ⟨Pa, 0, none⟩), .pointer (some ⟨Pf, 0, none⟩)]))
      (with_reducible first | exact d9 | exact d8 | exact d7 | exact d6 | exact d5 | exact de | exact dd | exact d0)
      (first
        | (go_at_call 17; with_reducible refine (HNX.out _ 1 HN5.out).mono ?_; rintro e w6 ⟨rfl, h6, hf⟩; have hbp := hf.blk HBP5.out (f2_chunk HN5.out HBP5.out); have HF6 := Lib.hid (HF5.out.trans hf (fun _ _ e => e)); have HN6 := Lib.hid h6; have d6 := HL.out w6 HF6.out; obtain ⟨x0, x1, x2, x3, x4⟩ := cells5 hbp; obtain ⟨y0, y1, y2, y3, y4⟩ := free5 hbp; have HBP6 := Lib.hid hbp; have d9 := ((set5_fr w6 w3.heap.size (.int .i64 (vN l 0 : Int)) (.int .i64 (vN l 1 : Int)) (.slice none 0 0) (.slice none 0 0) (.slice none 0 0)).cell (p := ⟨D, 0, none⟩) (World.block_lt_of_cell? w6 _ d6) (fun e => by have e' : D = w3.heap.size := e; have h1 := HDL.out; have h2 := HF5.out.size; omega)).trans d6; unfold set5 at d9; clear hbp; clear hf h6)
        | (go_at_call 17; with_reducible refine (HNX.out _ 1 HN5.out).mono ?_; rintro e w6 ⟨rfl, h6, hf⟩; have HF6 := Lib.hid (HF5.out.trans hf (fun _ _ e => e)); have HN6 := Lib.hid h6; have d6 := HL.out w6 HF6.out; have d7 := HL.out (w6.alloc (.cells #[.int .i64 0, .int .i64 0, .slice none 0 0, .slice none 0 0, .slice none 0 0] 26)) (HF6.out.then_no (Fr.alloc No _ _)); have d9 := HL.out (w6.alloc (.cells #[.int .i64 (vN l 0 : Int), .int .i64 (vN l 1 : Int), .slice none 0 0, .slice none 0 0, .slice none 0 0] 26)) (HF6.out.then_no (Fr.alloc No _ _)); clear hf h6)
        | (go_at_call 17; with_reducible refine (HNX.out _ 1 (HN5.out.no (Fr.alloc No _ _))).mono ?_; rintro e w6 ⟨rfl, h6, hf⟩; have hbp := hf.blk (heap_alloc_new w5 (.cells #[.int .i64 0, .int .i64 0, .slice none 0 0, .slice none 0 0, .slice none 0 0] 26)) (f2_chunk (HN5.out.no (Fr.alloc No _ _)) (heap_alloc_new w5 (.cells #[.int .i64 0, .int .i64 0, .slice none 0 0, .slice none 0 0, .slice none 0 0] 26))); have HF6 := Lib.hid ((HF5.out.then_no (Fr.alloc No _ _)).trans hf (fun _ _ e => e)); have HN6 := Lib.hid h6; have d6 := HL.out w6 HF6.out; obtain ⟨x0, x1, x2, x3, x4⟩ := cells5 hbp; obtain ⟨y0, y1, y2, y3, y4⟩ := free5 hbp; have HBP6 := Lib.hid hbp; have d9 := ((set5_fr w6 w5.heap.size (.int .i64 (vN l 0 : Int)) (.int .i64 (vN l 1 : Int)) (.slice none 0 0) (.slice none 0 0) (.slice none 0 0)).cell (p := ⟨D, 0, none⟩) (World.block_lt_of_cell? w6 _ d6) (fun e => by have e' : D = w5.heap.size := e; have h1 := HDL.out; have h2 := HF5.out.size; omega)).trans d6; unfold set5 at d9; clear hbp; clear hf h6)
        | (go_at_call 17; with_reducible refine (HNX.out _ 0 (HN3.out.no (Fr.drew No _))).mono ?_; rintro e w5 ⟨rfl, h5, hf⟩; have HF5 := Lib.hid (((Fr.drew No w3).any (F := F2 Pa Pf)).trans hf (fun _ _ e => e)); have HN5 := Lib.hid h5; have d5 := HL.out w5 HF5.out; have d8 := HL.out (w5.alloc (.cells #[.int .i64 0, .int .i64 0, .slice none 0 0, .slice none 0 0, .slice none 0 0] 26)) (HF5.out.then_no (Fr.alloc No _ _)); clear hf h5)
        | (go_at_call 17; with_reducible refine (HNX.out _ 0 (HN3.out.no ((Fr.alloc No _ _).no_trans (Fr.drew No _)))).mono ?_; rintro e w5 ⟨rfl, h5, hf⟩; have hbp5 := hf.blk (blk_no (Fr.drew No _) (heap_alloc_new w3 (.cells #[.int .i64 0, .int .i64 0, .slice none 0 0, .slice none 0 0, .slice none 0 0] 26))) (f2_chunk (HN3.out.no ((Fr.alloc No _ _).no_trans (Fr.drew No _))) (blk_no (Fr.drew No _) (heap_alloc_new w3 (.cells #[.int .i64 0, .int .i64 0, .slice none 0 0, .slice none 0 0, .slice none 0 0] 26)))); have HBP5 := Lib.hid hbp5; have HF5 := Lib.hid ((((Fr.alloc No w3 _).no_trans (Fr.drew No _)).any (F := F2 Pa Pf)).trans hf (fun _ _ e => e)); have HN5 := Lib.hid h5; have d5 := HL.out w5 HF5.out; clear hf h5 hbp5))
    all_goals (
      go_wp2_with fail
      go_meet
      have hd1 := HDL.out
      have hd2 := HF5.out.size
      have hd3 := HF6.out.size
      have hd4 := HN3.out.sz
      first
        | (obtain ⟨e1, e2, e3⟩ := rd_init HN6.out HF6.out HBP6.out (Nat.le_refl _) hd4 (vN l 0) (vN l 1); exact ⟨w3.heap.size, rfl, by omega, by omega, by omega, by omega, e1, e2, e3⟩)
        | (obtain ⟨e1, e2, e3⟩ := rd_init HN6.out HF6.out HBP6.out hd2 (Nat.le_trans hd4 hd2) (vN l 0) (vN l 1); exact ⟨w5.heap.size, rfl, by omega, by omega, by omega, by omega, e1, e2, e3⟩)
        | exact ⟨w6.heap.size, rfl, by omega, by omega, by omega, by omega, HN6.out.no (Fr.alloc No _ _), HF6.out.then_no (Fr.alloc No _ _), heap_alloc_new _ _⟩)
  case rest =>
  obtain ⟨P, rfl, hDP, hP1, hP2, hP3, hn, hf, hp⟩ := hcut
  have HI : Hid (RdI w wc B0 U Pa Pf A n c l D P 2 (.slice none 0 0) (.slice none 0 0) (.slice none 0 0)) := Lib.hid ⟨hn, HQ3.out.f2 HN3.out hf, hf.blk HR3.out (f2_chunk HN3.out HR3.out), hp, HF3.out.any.trans hf (fun _ _ e => e)⟩
  have HB : Hid (w.heap.size ≤ P ∧ B0 ≤ P ∧ P ≠ D ∧ P ≠ D + 1 + 1 ∧ P ≠ D + 1 ∧ w.heap.size ≤ D ∧ B0 ≤ D) := Lib.hid (by have := HDW.out; have h2 := HB0D.out; omega)
  clear hn hf hp hDP hP1 hP2 hP3 HN3 HQ3 HR3 HF3 HL HNX HZ
  go_wp2_with fail
  go_loopw [15] (fun v15 wr => ∃ (j : Nat) (A1 : Option Addr) (c1 : Nat), j ≤ 64 ∧ v15 = .int .i64 (j : Int) ∧ RdI w wr B0 U Pa Pf A n c l D P (2 + j) (.slice A1 j c1) (.slice none 0 0) (.slice none 0 0) ∧ wr.ownsRow D 27 1 (.slice A1 j c1) j (itL ((csV (vN l)).take j))) (fun v15 _ => 64 - (intOf v15).toNat)
  case atStart => exact ⟨0, none, 0, by omega, rfl, HI.out, World.ownsRow_nil _ _ _ _⟩
  case round =>
    obtain ⟨j, A1, c1, hj, rfl, hi, ho⟩ := hrel
    have HI1 := Lib.hid hi
    have HO1 := Lib.hid ho
    clear hi ho
    by_cases hlt : j < 64
    · have hwj : IntKind.i64.wrap ((j : Int) + 1) = ((j + 1 : Nat) : Int) := by
        rw [show ((j : Int) + 1) = ((j + 1 : Nat) : Int) by omega]
        exact IntWalk.i64_in _ (by omega)
      have htk : itL ((csV (vN l)).take j) ++ [.int .u8 (vN l (2 + j) : Int)] = itL ((csV (vN l)).take (j + 1)) := by
        rw [List.take_add_one, show (csV (vN l))[j]? = some (vN l (2 + j)) by unfold csV; rw [List.getElem?_map, List.getElem?_range hlt]; rfl, itL_append]
        rfl
      have HTK := Lib.hid htk
      have HIT := Lib.hid (item_any (HI1.out.n.no (Fr.drew No wr)) (HI1.out.q.no (Fr.drew No wr)).1)
      have HC : Hid (∀ W i', RdI w W B0 U Pa Pf A n c l D P i' (.slice A1 j c1) (.slice none 0 0) (.slice none 0 0) → W.cell? ⟨P, 2, none⟩ = some (.slice A1 j c1) ∧ W.frozen? ⟨P, 2, none⟩ = false ∧ W.cell? ⟨D + 1 + 1, 0, none⟩ = some (.func (.func 43) #[] #[.pointer (some ⟨D, 0, none⟩)])) := Lib.hid (fun W i' hW => ⟨(cells5 hW.p).2.2.1, (free5 hW.p).2.2.1, (blk_cell hW.q.2 0).trans (by simp [itemF])⟩)
      clear htk
      obtain ⟨vv, hvv⟩ : ∃ vv, vN l (2 + j) = vv := ⟨_, rfl⟩
      rw [hvv] at HIT HTK
      clear hvv
      obtain ⟨x1, x2, x3⟩ := HC.out _ _ HI1.out
      obtain ⟨x4, x5, x6⟩ := HC.out _ _ (HI1.out.no (Fr.drew No wr))
      go_upto_region 6 with fail
      obtain ⟨b16, hb16⟩ : ∃ b, decide ((j : Int) < 64) = b := ⟨_, rfl⟩
      rw [hb16]
      clear hb16
      go_region_law (first
        | ((with_reducible refine step_append_k1 (lo := D) _ rfl (.tmp 18) (.tmp 21) 22 27 rfl Tryd.underlying22 info_itm rfl (by decide) (by decide) (A := A1) (n := j) (c := c1) ?hs HOA.out #[.int .u8 (vv : Int)] rfl ?h1 hbn ?hx ?hl ?hb ?_); (case hs => rfl); (case h1 => (intro u hu; simp at hu; subst hu; rfl)); (case hx => rfl); (case hl => omega); (case hb => exact HDZ.out); intro A' c' w7 ho hf; have HO7 := Lib.hid ho; have HI7 := Lib.hid (HIA.out.own HOA.out HB.out.2.2.2.2.2.1 HB.out.2.2.2.2.2.2 (.inl rfl) hf); obtain ⟨u1, u2, u3⟩ := HC.out _ _ HI7.out; clear ho hf)
        | (go_simp; go_at_call 43; refine HIT.out.mono ?_; rintro e w5 ⟨rfl, hn5, hf5⟩; have hf5' := ((Fr.drew No wr).any (F := F2 Pa Pf)).trans hf5 (fun _ _ e => e); have HI5 := Lib.hid (HI1.out.call hf5' hn5); have HIA := Lib.hid (HI5.out.no (Fr.alloc No w5 (.cells #[.int .u8 (vv : Int)] 27))); have HOA := Lib.hid (own_no (own_f2 HO1.out HI1.out.n (by decide) (by decide) hf5') (Fr.alloc No w5 (.cells #[.int .u8 (vv : Int)] 27))); have hbn := heap_alloc_new w5 (.cells #[.int .u8 (vv : Int)] 27); obtain ⟨y1, y2, y3⟩ := HC.out _ _ HI5.out; obtain ⟨y4, y5, y6⟩ := HC.out _ _ HIA.out; have HDZ : Hid (D ≤ (w5.alloc (.cells #[.int .u8 (vv : Int)] 27)).heap.size) := Lib.hid (by have h1 := HIA.out.f.size; have := HDW.out; omega); clear hn5 hf5 hf5'))
      all_goals (
        have HN := Lib.hid (HI7.out.put HB.out.1 HB.out.2.1 HB.out.2.2.1 HB.out.2.2.2.1 HB.out.2.2.2.2.1 2 (.slice A' (j + 1) c') (b1 := .slice A' (j + 1) c') (b2 := .slice none 0 0) (b3 := .slice none 0 0) rfl)
        have HON : Hid ((w7.setCell ⟨P, 2, none⟩ (.slice A' (j + 1) c')).ownsRow D 27 1 (.slice A' (j + 1) c') (j + 1) (itL ((csV (vN l)).take (j + 1)))) := Lib.hid (by rw [← HTK.out]; exact own_fr HO7.out (Fr.setCell (F := fun b => b = P) w7 ⟨P, 2, none⟩ _ rfl) (fun q hq e => by have e' : q = P := e; rw [e'] at hq; exact own_not HO7.out HI7.out.p (by decide) hq))
        clear u1 u2 u3 y1 y2 y3 y4 y5 y6 hbn
        go_wp2_with fail
        go_roundw
        case rel => exact ⟨j + 1, A', c', by omega, by go_num, HN.out, HON.out⟩
        case measure => simp [intOf]; omega)
    · have hj64 : j = 64 := by omega
      subst hj64
      have HI64 := HI1
      have HO64 : Hid (wr.ownsRow D 27 1 (.slice A1 64 c1) 64 (itL (csV (vN l)))) := Lib.hid (by have := HO1.out; rw [List.take_of_length_le (by rw [csV_len]; exact Nat.le_refl _)] at this; exact this)
      have HNM := Lib.hid (num_any HI64.out.n)
      have x1 := (blk_cell HI64.out.q.1 0).trans (by simp [numF] : _ = some (.func (.func 17) #[] #[.pointer (some ⟨U, 0, none⟩), .pointer (some ⟨Pa, 0, none⟩), .pointer (some ⟨Pf, 0, none⟩)]))
      obtain ⟨kk, hkk⟩ : ∃ kk, vN l (2 + 64) = kk := ⟨_, rfl⟩
      have HKK := Lib.hid hkk
      have hk255 : kk ≤ 255 := by rw [← hkk]; exact vN_le l _
      rw [hkk] at HNM
      clear HI1 HO1 hkk
      go_wp2_with fail
      refine HNM.out.mono ?_
      rintro e w5 ⟨rfl, hn5, hf5⟩
      have HI5 : Hid (RdI w w5 B0 U Pa Pf A n c l D P 67 (.slice A1 64 c1) (.slice none 0 0) (.slice none 0 0)) := Lib.hid (HI64.out.call hf5 hn5)
      have HO5 := Lib.hid (own_f2 HO64.out HI64.out.n (by decide) (by decide) hf5)
      clear hn5 hf5 HI64 HO64 HNM x1
      go_wp2_with fail
      go_loopw [27] (fun v27 wr => ∃ (m : Nat) (A2 : Option Addr) (c2 : Nat), m ≤ kk ∧ v27 = .int .i64 (m : Int) ∧ RdI w wr B0 U Pa Pf A n c l D P (67 + 3 * m) (.slice A1 64 c1) (.slice A2 m c2) (.slice none 0 0) ∧ wr.ownsRow D 27 1 (.slice A1 64 c1) 64 (itL (csV (vN l))) ∧ wr.ownsRow D 63 3 (.slice A2 m c2) m (hpL (hsV (vN l) m))) (fun v27 _ => kk - (intOf v27).toNat)
      case atStart => exact ⟨0, none, 0, by omega, rfl, HI5.out, HO5.out, World.ownsRow_nil _ _ _ _⟩
      case round =>
        obtain ⟨m, A2, c2, hm, rfl, hi, ho1, ho2⟩ := hrel
        have HI2 := Lib.hid hi
        have HOa := Lib.hid ho1
        have HOb := Lib.hid ho2
        clear hi ho1 ho2
        by_cases hlt : m < kk
        · have hwm : IntKind.i64.wrap ((m : Int) + 1) = ((m + 1 : Nat) : Int) := by
            rw [show ((m : Int) + 1) = ((m + 1 : Nat) : Int) by omega]
            exact IntWalk.i64_in _ (by omega)
          have htk : hpL (hsV (vN l) m) ++ [.int .i64 (vN l (67 + 3 * m) : Int), .int .u8 (vN l (67 + 3 * m + 1) : Int), .int .i64 (vN l (67 + 3 * m + 1 + 1) : Int)] = hpL (hsV (vN l) (m + 1)) := by
            have : hsV (vN l) (m + 1) = hsV (vN l) m ++ [hpV (vN l) m] := by unfold hsV; rw [List.range_succ, List.map_append]; rfl
            rw [this, hpL_append]
            rfl
          have HTK := Lib.hid htk
          have HNM := Lib.hid (num_any (HI2.out.n.no (Fr.drew No wr)))
          have HSL := Lib.hid (fun W (hW : NumAt W B0 U Pa Pf A n c l (67 + 3 * m + 1)) (hq : EnvQ W U Pa Pf D (D + 1 + 1)) => rslot_any hW hq.1 hq.2)
          have HC : Hid (∀ W i', RdI w W B0 U Pa Pf A n c l D P i' (.slice A1 64 c1) (.slice A2 m c2) (.slice none 0 0) → W.cell? ⟨P, 3, none⟩ = some (.slice A2 m c2) ∧ W.frozen? ⟨P, 3, none⟩ = false ∧ W.cell? ⟨D, 0, none⟩ = some (.func (.func 17) #[] #[.pointer (some ⟨U, 0, none⟩), .pointer (some ⟨Pa, 0, none⟩), .pointer (some ⟨Pf, 0, none⟩)])) := Lib.hid (fun W i' hW => ⟨(cells5 hW.p).2.2.2.1, (free5 hW.p).2.2.2.1, (blk_cell hW.q.1 0).trans (by simp [numF])⟩)
          clear htk
          obtain ⟨va, hva⟩ : ∃ vv, vN l (67 + 3 * m) = vv := ⟨_, rfl⟩
          obtain ⟨vb, hvb⟩ : ∃ vv, vN l (67 + 3 * m + 1) = vv := ⟨_, rfl⟩
          obtain ⟨vc, hvc⟩ : ∃ vv, vN l (67 + 3 * m + 1 + 1) = vv := ⟨_, rfl⟩
          rw [hva, hvb, hvc] at HTK
          rw [hva] at HNM
          rw [hvb, hvc] at HSL
          clear hva hvb hvc
          obtain ⟨x1, x2, x3⟩ := HC.out _ _ HI2.out
          obtain ⟨x4, x5, x6⟩ := HC.out _ _ (HI2.out.no (Fr.drew No wr))
          go_upto_region 10 with fail
          obtain ⟨b28, hb28⟩ : ∃ b, decide ((m : Int) < (kk : Int)) = b := ⟨_, rfl⟩
          try rw [hb28]
          clear hb28
          go_region_law (first
            | ((with_reducible refine step_append_k1 (lo := D) _ rfl (.tmp 30) (.tmp 36) 23 63 rfl Tryd.underlying23 info_hp rfl (by decide) (by decide) (A := A2) (n := m) (c := c2) ?hs HOA.out #[.int .i64 (va : Int), .int .u8 (vb : Int), .int .i64 (vc : Int)] rfl ?h1 hbn ?hx ?hl ?hb ?_); (case hs => rfl); (case h1 => (intro u hu; simp at hu; rcases hu with rfl | rfl | rfl <;> rfl)); (case hx => rfl); (case hl => omega); (case hb => exact HDZ.out); intro A' c' w7 ho hf; have HO7 := Lib.hid ho; have HI7 := Lib.hid (HIA.out.own HOA.out HB.out.2.2.2.2.2.1 HB.out.2.2.2.2.2.2 (.inr (.inl rfl)) hf); have HP7 := Lib.hid (own_fr HPA.out hf (own_apart HPA.out HOA.out (by decide))); obtain ⟨u1, u2, u3⟩ := HC.out _ _ HI7.out; clear ho hf)
            | (go_simp; go_at_call 17; refine HNM.out.mono ?_; rintro e w5 ⟨rfl, hn5, hf5⟩; have hf5' := ((Fr.drew No wr).any (F := F2 Pa Pf)).trans hf5 (fun _ _ e => e); have HI5 := Lib.hid (HI2.out.call hf5' hn5); have HPa5 := Lib.hid (own_f2 HOa.out HI2.out.n (by decide) (by decide) hf5'); have HPb5 := Lib.hid (own_f2 HOb.out HI2.out.n (by decide) (by decide) hf5'); obtain ⟨y1, y2, y3⟩ := HC.out _ _ HI5.out; clear hn5 hf5 hf5')
            | (go_simp; go_at_call 44; refine (HSL.out _ HI5.out.n HI5.out.q).mono ?_; rintro e w6 ⟨rfl, hn6, hf6⟩; have HI6 := Lib.hid (HI5.out.call hf6 hn6); have HIA := Lib.hid (HI6.out.no (Fr.alloc No w6 (.cells #[.int .i64 (va : Int), .int .u8 (vb : Int), .int .i64 (vc : Int)] 63))); have HOA := Lib.hid (own_no (own_f2 HPb5.out HI5.out.n (by decide) (by decide) hf6) (Fr.alloc No w6 (.cells #[.int .i64 (va : Int), .int .u8 (vb : Int), .int .i64 (vc : Int)] 63))); have HPA := Lib.hid (own_no (own_f2 HPa5.out HI5.out.n (by decide) (by decide) hf6) (Fr.alloc No w6 (.cells #[.int .i64 (va : Int), .int .u8 (vb : Int), .int .i64 (vc : Int)] 63))); have hbn := heap_alloc_new w6 (.cells #[.int .i64 (va : Int), .int .u8 (vb : Int), .int .i64 (vc : Int)] 63); obtain ⟨z1, z2, z3⟩ := HC.out _ _ HI6.out; obtain ⟨z4, z5, z6⟩ := HC.out _ _ HIA.out; have HDZ : Hid (D ≤ (w6.alloc (.cells #[.int .i64 (va : Int), .int .u8 (vb : Int), .int .i64 (vc : Int)] 63)).heap.size) := Lib.hid (by have h1 := HIA.out.f.size; have := HDW.out; omega); clear hn6 hf6))
          all_goals (
            have HN := Lib.hid (HI7.out.put HB.out.1 HB.out.2.1 HB.out.2.2.1 HB.out.2.2.2.1 HB.out.2.2.2.2.1 3 (.slice A' (m + 1) c') (b1 := .slice A1 64 c1) (b2 := .slice A' (m + 1) c') (b3 := .slice none 0 0) rfl)
            have HON : Hid ((w7.setCell ⟨P, 3, none⟩ (.slice A' (m + 1) c')).ownsRow D 63 3 (.slice A' (m + 1) c') (m + 1) (hpL (hsV (vN l) (m + 1)))) := Lib.hid (by rw [← HTK.out]; exact own_fr HO7.out (Fr.setCell (F := fun b => b = P) w7 ⟨P, 3, none⟩ _ rfl) (fun q hq e => by have e' : q = P := e; rw [e'] at hq; exact own_not HO7.out HI7.out.p (by decide) hq))
            have HOM := Lib.hid (own_fr HP7.out (Fr.setCell (F := fun b => b = P) w7 ⟨P, 3, none⟩ (.slice A' (m + 1) c') rfl) (fun q hq e => by have e' : q = P := e; rw [e'] at hq; exact own_not HP7.out HI7.out.p (by decide) hq))
            clear u1 u2 u3 y1 y2 y3 z1 z2 z3 z4 z5 z6 hbn
            go_wp2_with fail
            go_roundw
            case rel => exact ⟨m + 1, A', c', by omega, by go_num, (by have := HN.out; rw [show 67 + 3 * (m + 1) = 67 + 3 * m + 1 + 2 by omega]; exact this), HOM.out, HON.out⟩
            case measure => simp [intOf]; omega)
        · have hmk : m = kk := by omega
          subst hmk
          obtain ⟨b1, o1, hA1, _, _⟩ := (own_rc HOa.out).2 (by omega)
          subst hA1
          have HIC : Hid (∀ W : World, W.ownsRow D 27 1 (.slice (some ⟨b1, o1, none⟩) 64 c1) 64 (itL (csV (vN l))) → ∀ t (_ : t < 64), W.cell? ⟨b1, o1 + t, none⟩ = some (.int .u8 (vN l (2 + t) : Int))) := Lib.hid (fun W hW t ht => by
            obtain ⟨b', o', hA', _, hc⟩ := (own_rc hW).2 (by omega)
            injection hA' with hA'
            injection hA' with e1 e2
            subst e1 e2
            refine hc t _ ?_
            have e3 : (csV (vN l))[t]? = some (vN l (2 + t)) := by unfold csV; rw [List.getElem?_map, List.getElem?_range ht]; rfl
            unfold itL
            rw [List.getElem?_map, e3]
            rfl)
          obtain ⟨x1, x2, x3, x4, x5⟩ := cells5 HI2.out.p
          go_wp2_with fail
          clear x1 x2 x3 x4 x5
          go_loopw [43] (fun v43 wr => ∃ (t : Nat) (A3 : Option Addr) (c3 : Nat) (bs : List Bx), t ≤ 64 ∧ v43 = .int .i64 (t : Int) ∧ RdI w wr B0 U Pa Pf A n c l D P (67 + 3 * m + 12 * nine ((csV (vN l)).take t)) (.slice (some ⟨b1, o1, none⟩) 64 c1) (.slice A2 m c2) (.slice A3 bs.length c3) ∧ wr.ownsRow D 27 1 (.slice (some ⟨b1, o1, none⟩) 64 c1) 64 (itL (csV (vN l))) ∧ wr.ownsRow D 63 3 (.slice A2 m c2) m (hpL (hsV (vN l) m)) ∧ wr.ownsRow D 49 2 (.slice A3 bs.length c3) bs.length (bxL bs) ∧ (∀ b ∈ bs, b.l.length = b.n ∧ OwS D wr (.slice b.A b.n b.c) b.l) ∧ bs.map Bx.bp = bxV (vN l) (67 + 3 * m) 0 ((csV (vN l)).take t) ∧ bs.length ≤ t) (fun v43 _ => 64 - (intOf v43).toNat)
          case atStart => exact ⟨0, none, 0, [], by omega, rfl, HI2.out, HOa.out, HOb.out, World.ownsRow_nil _ _ _ _, (fun b hb => by cases hb), rfl, Nat.le_refl _⟩
          case round =>
            obtain ⟨t, A3, c3, bs, ht, rfl, hi, ho1, ho2, ho3, ho4, hbp, hbl⟩ := hrel
            have HI3 := Lib.hid hi
            have HO1 := Lib.hid ho1
            have HO2 := Lib.hid ho2
            have HO3 := Lib.hid ho3
            have HO4 := Lib.hid ho4
            have HBPS := Lib.hid hbp
            clear hi ho1 ho2 ho3 ho4 hbp HI2 HOa HOb
            by_cases hlt : t < 64
            · have hwt : IntKind.i64.wrap ((t : Int) + 1) = ((t + 1 : Nat) : Int) := by
                rw [show ((t : Int) + 1) = ((t + 1 : Nat) : Int) by omega]
                exact IntWalk.i64_in _ (by omega)
              have htk : (csV (vN l)).take (t + 1) = (csV (vN l)).take t ++ [vN l (2 + t)] := by
                rw [List.take_add_one, show (csV (vN l))[t]? = some (vN l (2 + t)) by unfold csV; rw [List.getElem?_map, List.getElem?_range hlt]; rfl]
                rfl
              have htl : ((csV (vN l)).take t).length = t := by rw [List.length_take, csV_len]; omega
              have HN9 := Lib.hid (show nine ((csV (vN l)).take (t + 1)) = nine ((csV (vN l)).take t) + (if vN l (2 + t) = 9 then 1 else 0) by rw [htk]; exact nine_snoc _ _)
              have HB9 := Lib.hid (show bxV (vN l) (67 + 3 * m) 0 ((csV (vN l)).take (t + 1)) = bxV (vN l) (67 + 3 * m) 0 ((csV (vN l)).take t) ++ (if vN l (2 + t) = 9 then [(((0 + ((csV (vN l)).take t).length : Nat) : Int), bagV (vN l) (67 + 3 * m + 12 * nine ((csV (vN l)).take t)))] else []) by rw [htk]; exact bxV_snoc _ _ _ _ _)
              rw [htl, Nat.zero_add] at HB9
              have xi := HIC.out wr HO1.out t hlt
              clear htk htl
              obtain ⟨pos, hpos⟩ : ∃ pos, 67 + 3 * m + 12 * nine ((csV (vN l)).take t) = pos := ⟨_, rfl⟩
              have HPOS := Lib.hid hpos
              rw [hpos] at HI3 HB9
              clear hpos
              obtain ⟨it, hit⟩ : ∃ it, vN l (2 + t) = it := ⟨_, rfl⟩
              rw [hit] at HN9 HB9 xi
              clear hit
              by_cases h9 : it = 9
              · subst h9
                have HRB := Lib.hid (readbag_any (HI3.out.n.no (Fr.drew No wr)) (HI3.out.q.no (Fr.drew No wr)))
                have HC : Hid (∀ W i', RdI w W B0 U Pa Pf A n c l D P i' (.slice (some ⟨b1, o1, none⟩) 64 c1) (.slice A2 m c2) (.slice A3 bs.length c3) → W.cell? ⟨P, 4, none⟩ = some (.slice A3 bs.length c3) ∧ W.frozen? ⟨P, 4, none⟩ = false) := Lib.hid (fun W i' hW => ⟨(cells5 hW.p).2.2.2.2, (free5 hW.p).2.2.2.2⟩)
                obtain ⟨x1, x2⟩ := HC.out _ _ HI3.out
                obtain ⟨x4, x5⟩ := HC.out _ _ (HI3.out.no (Fr.drew No wr))
                unfold slotF at HRB
                go_upto_region 16 with fail
                obtain ⟨b44, hb44⟩ : ∃ b, decide ((t : Int) < 64) = b := ⟨_, rfl⟩
                try rw [hb44]
                clear hb44
                go_region_law (first
                  | ((with_reducible refine step_append_k1 (lo := D) _ rfl (.tmp 51) (.tmp 56) 24 49 rfl Tryd.underlying24 info_bx rfl (by decide) (by decide) (A := A3) (n := bs.length) (c := c3) ?hs HOA.out #[.int .i64 (t : Int), .slice (some ⟨G, 0, none⟩) 6 6] rfl ?h1 hbn ?hx ?hl ?hb ?_); (case hs => rfl); (case h1 => (intro u hu; simp at hu; rcases hu with rfl | rfl <;> rfl)); (case hx => rfl); (case hl => omega); (case hb => exact HDZ.out); intro A' c' w7 ho hf; have HO7 := Lib.hid ho; have HF7 := Lib.hid hf; have HI7 := Lib.hid (HIA.out.own HOA.out HB.out.2.2.2.2.2.1 HB.out.2.2.2.2.2.2 (.inr (.inr rfl)) hf); obtain ⟨u1, u2⟩ := HC.out _ _ HI7.out; clear ho hf)
                  | (go_simp; go_at_call 45; refine HRB.out.mono ?_; rintro e w6 ⟨G, rfl, hbag, hn6, hf6⟩; have hf6' := ((Fr.drew No wr).any (F := F2 Pa Pf)).trans hf6 (fun _ _ e => e); have HI6 := Lib.hid (HI3.out.call hf6' hn6); have HF6 := Lib.hid (hf6'.then_no (Fr.alloc No w6 (.cells #[.int .i64 (t : Int), .slice (some ⟨G, 0, none⟩) 6 6] 49))); have HIA := Lib.hid (HI6.out.no (Fr.alloc No w6 (.cells #[.int .i64 (t : Int), .slice (some ⟨G, 0, none⟩) 6 6] 49))); have HOA := Lib.hid (own_no (own_f2 HO3.out HI3.out.n (by decide) (by decide) hf6') (Fr.alloc No w6 (.cells #[.int .i64 (t : Int), .slice (some ⟨G, 0, none⟩) 6 6] 49))); have HBG := Lib.hid (hbag.no (Fr.alloc No w6 (.cells #[.int .i64 (t : Int), .slice (some ⟨G, 0, none⟩) 6 6] 49))); have hbn := heap_alloc_new w6 (.cells #[.int .i64 (t : Int), .slice (some ⟨G, 0, none⟩) 6 6] 49); obtain ⟨z1, z2⟩ := HC.out _ _ HI6.out; obtain ⟨z4, z5⟩ := HC.out _ _ HIA.out; have HDZ : Hid (D ≤ (w6.alloc (.cells #[.int .i64 (t : Int), .slice (some ⟨G, 0, none⟩) 6 6] 49)).heap.size) := Lib.hid (by have h1 := HIA.out.f.size; have := HDW.out; omega); clear hn6 hf6 hf6' hbag))
                all_goals (
                  have hs : Fr (fun b => b = P) w7 (w7.setCell ⟨P, 4, none⟩ (.slice A' (bs.length + 1) c')) := Fr.setCell w7 ⟨P, 4, none⟩ _ rfl
                  have HSP := Lib.hid hs
                  clear hs
                  have hnP : ∀ {e : TypeId} {size q : Nat} {v : Value} {cells : List Value} {lo : Nat}, e ≠ 26 → w7.ownsRow lo e size v q cells → (w7.setCell ⟨P, 4, none⟩ (.slice A' (bs.length + 1) c')).ownsRow lo e size v q cells := fun hne ho => own_fr ho HSP.out (fun q hq e => by have e' : q = P := e; rw [e'] at hq; exact own_not ho HI7.out.p hne hq)
                  have hkeep : ∀ {e : TypeId} {size q : Nat} {v : Value} {cells : List Value} {lo : Nat}, e ≠ 26 → e ≠ 49 → e ≠ 3 → e ≠ 4 → wr.ownsRow lo e size v q cells → (w7.setCell ⟨P, 4, none⟩ (.slice A' (bs.length + 1) c')).ownsRow lo e size v q cells := fun h1 h2 h3 h4 ho => by
                    have hA := own_fr ho HF6.out (fun k hk e => by
                      rcases e with e | e
                      · rw [e] at hk; exact own_not ho HI3.out.n.a h3 hk
                      · rw [e] at hk; exact own_not ho HI3.out.n.f h4 hk)
                    exact hnP h1 (own_fr hA HF7.out (own_apart hA HOA.out h2))
                  have hbg7 : (w7.setCell ⟨P, 4, none⟩ (.slice A' (bs.length + 1) c')).ownsRow wr.heap.size 29 2 (.slice (some ⟨G, 0, none⟩) 6 6) 6 (slC (bagV (vN l) pos)) := hnP (by decide) (own_fr HBG.out HF7.out (own_apart HBG.out HOA.out (by decide)))
                  have HN := Lib.hid (HI7.out.put HB.out.1 HB.out.2.1 HB.out.2.2.1 HB.out.2.2.2.1 HB.out.2.2.2.2.1 4 (.slice A' (bs.length + 1) c') (b1 := .slice (some ⟨b1, o1, none⟩) 64 c1) (b2 := .slice A2 m c2) (b3 := .slice A' (bs.length + 1) c') rfl)
                  have HOx := Lib.hid (hkeep (by decide) (by decide) (by decide) (by decide) HO1.out)
                  have HOy := Lib.hid (hkeep (by decide) (by decide) (by decide) (by decide) HO2.out)
                  have HOz : Hid ((w7.setCell ⟨P, 4, none⟩ (.slice A' (bs.length + 1) c')).ownsRow D 49 2 (.slice A' (bs ++ [(⟨(t : Int), some ⟨G, 0, none⟩, 6, 6, bagV (vN l) pos⟩ : Bx)]).length c') (bs ++ [(⟨(t : Int), some ⟨G, 0, none⟩, 6, 6, bagV (vN l) pos⟩ : Bx)]).length (bxL (bs ++ [(⟨(t : Int), some ⟨G, 0, none⟩, 6, 6, bagV (vN l) pos⟩ : Bx)]))) := Lib.hid (by rw [List.length_append, bxL_append]; exact hnP (by decide) HO7.out)
                  have HOw : Hid (∀ b ∈ bs ++ [(⟨(t : Int), some ⟨G, 0, none⟩, 6, 6, bagV (vN l) pos⟩ : Bx)], b.l.length = b.n ∧ OwS D (w7.setCell ⟨P, 4, none⟩ (.slice A' (bs.length + 1) c')) (.slice b.A b.n b.c) b.l) := Lib.hid (fun b hb => by
                    rcases List.mem_append.1 hb with hb | hb
                    · exact ⟨(HO4.out b hb).1, hkeep (by decide) (by decide) (by decide) (by decide) (HO4.out b hb).2⟩
                    · rw [List.mem_singleton] at hb
                      subst hb
                      exact ⟨rfl, own_low hbg7 (by have h1 := HI3.out.f.size; have := HDW.out; omega)⟩)
                  have HBN : Hid ((bs ++ [(⟨(t : Int), some ⟨G, 0, none⟩, 6, 6, bagV (vN l) pos⟩ : Bx)]).map Bx.bp = bxV (vN l) (67 + 3 * m) 0 ((csV (vN l)).take (t + 1))) := Lib.hid (by rw [HB9.out, if_pos rfl, List.map_append, HBPS.out]; rfl)
                  have HNN : Hid (RdI w (w7.setCell ⟨P, 4, none⟩ (.slice A' (bs.length + 1) c')) B0 U Pa Pf A n c l D P (67 + 3 * m + 12 * nine ((csV (vN l)).take (t + 1))) (.slice (some ⟨b1, o1, none⟩) 64 c1) (.slice A2 m c2) (.slice A' (bs ++ [(⟨(t : Int), some ⟨G, 0, none⟩, 6, 6, bagV (vN l) pos⟩ : Bx)]).length c')) := Lib.hid (by
                    have := HN.out
                    rw [HN9.out, if_pos rfl, show 67 + 3 * m + 12 * (nine ((csV (vN l)).take t) + 1) = pos + 12 by have := HPOS.out; omega, List.length_append]
                    exact this)
                  clear hnP hkeep hbg7 u1 u2 z1 z2 z4 z5 hbn
                  go_wp2_with fail
                  go_roundw
                  case rel => exact ⟨t + 1, A', c', _, by omega, by go_num, HNN.out, HOx.out, HOy.out, HOz.out, HOw.out, HBN.out, by rw [List.length_append]; simp; omega⟩
                  case measure => simp [intOf]; omega)
              · have hne : ((it : Int) == 9) = false := by rw [beq_eq_false_iff_ne]; omega
                have HNN : Hid (RdI w wr B0 U Pa Pf A n c l D P (67 + 3 * m + 12 * nine ((csV (vN l)).take (t + 1))) (.slice (some ⟨b1, o1, none⟩) 64 c1) (.slice A2 m c2) (.slice A3 bs.length c3)) := Lib.hid (by
                  rw [HN9.out, if_neg h9, Nat.add_zero, HPOS.out]
                  exact HI3.out)
                have HBN : Hid (bs.map Bx.bp = bxV (vN l) (67 + 3 * m) 0 ((csV (vN l)).take (t + 1))) := Lib.hid (by rw [HB9.out, if_neg h9, List.append_nil, HBPS.out])
                go_wp2_with fail
                go_roundw
                case rel => exact ⟨t + 1, A3, c3, bs, by omega, by go_num, HNN.out, HO1.out, HO2.out, HO3.out, HO4.out, HBN.out, by omega⟩
                case measure => simp [intOf]; omega
            · have ht64 : t = 64 := by omega
              subst ht64
              have e64 : (csV (vN l)).take 64 = csV (vN l) := List.take_of_length_le (by rw [csV_len]; exact Nat.le_refl _)
              have hi := HI3.out
              have hbp := HBPS.out
              rw [e64] at hi hbp
              have HIz := Lib.hid hi
              have HBz := Lib.hid hbp
              clear hi hbp e64 HI3 HBPS
              have hm66 : vN l 66 = m := HKK.out
              obtain ⟨x0, x1, x2, x3, x4⟩ := cells5 HIz.out.p
              obtain ⟨y0, y1, y2, y3, y4⟩ := cells5 HIz.out.r
              obtain ⟨z0, z1, z2, z3, z4⟩ := free5 HIz.out.r
              have HM66 := Lib.hid hm66
              clear hm66
              go_wp2_with fail
              have q := set5_fr wr (D + 1) (.int .i64 (vN l 0 : Int)) (.int .i64 (vN l 1 : Int)) (.slice (some ⟨b1, o1, none⟩) 64 c1) (.slice A2 m c2) (.slice A3 bs.length c3)
              refine bodyPost_ret (results_cell_row (p := 2) rfl _ _ (D + 1) 26 #[.int .i64 (vN l 0 : Int), .int .i64 (vN l 1 : Int), .slice (some ⟨b1, o1, none⟩) 64 c1, .slice A2 m c2, .slice A3 bs.length c3] (0, 0) _ rfl (set5_heap HIz.out.r _ _ _ _ _) Tryd.underlying26 rfl (by kernel_rfl)) rfl ?_
              have ho : OwC D wr ⟨vN l 0, vN l 1, some ⟨b1, o1, none⟩, 64, c1, csV (vN l), A2, m, c2, hsV (vN l) m, A3, bs.length, c3, bs⟩ := ⟨HO1.out, HO2.out, HO3.out, HO4.out⟩
              refine ⟨⟨vN l 0, vN l 1, some ⟨b1, o1, none⟩, 64, c1, csV (vN l), A2, m, c2, hsV (vN l) m, A3, bs.length, c3, bs⟩, rfl, ?_, ?_, ?_, ?_⟩
              · show Ck.mk _ _ _ _ (bs.map Bx.bp) = ofV (vN l)
                rw [HBz.out]
                unfold ofV
                rw [HM66.out]
              · rw [HDW.out]
                exact ho.at_ HIz.out.r q
              · have h1 := HIz.out.n.fr q (fun b e => by
                  have e' : b = D + 1 := e
                  subst e'
                  have := HB0D.out
                  exact ⟨by omega, blk_ne HIz.out.r HIz.out.n.u (by decide), blk_ne HIz.out.r HIz.out.n.a (by decide), blk_ne HIz.out.r HIz.out.n.f (by decide)⟩)
                unfold totV
                rw [HM66.out]
                exact h1
              · exact HIz.out.f.then_new q (fun b e => by have e' : b = D + 1 := e; have := HDW.out; omega)
end
end Go.Proofs.YtefopgdmadgheaaDoor

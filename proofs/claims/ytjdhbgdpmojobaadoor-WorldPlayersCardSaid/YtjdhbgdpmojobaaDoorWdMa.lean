/-
  What stands in memory while a chunk, or a player, is put into a world. No statement of the seat is proved here.
-/
import Derived.Test.YtjdhbgdpmojobaaDoorWdL
namespace Go.Proofs.YtjdhbgdpmojobaaDoor
open Go.RowKit Go.Deep

/-- Three blocks of the call's (the world, what is put, what is told), and the world that is worked at. -/
structure PutS (w : World) (D G : Nat) (b0 b1 : Array Value) (T1 : TypeId) (d : Wd) (wr : World) : Prop where
  h0 : wr.heap[D]? = some (.cells b0 26 (0, 0))
  h1 : wr.heap[D + 1]? = some (.cells b1 T1 (0, 0))
  h2 : wr.heap[D + 1 + 1]? = some (.cells #[.int .i64 0, .int .u64 0, .int .i64 0, .slice none 0 0, .slice none 0 0] 26 (0, 0))
  hG : wr.heap[G]? = some (.cells #[.int .i64 d.size, .int .u64 (d.sd.toNat : Int), .int .i64 d.tick, .slice d.A3 d.n3 d.c3, .slice d.A4 d.n4 d.c4] 26 (0, 0))
  gD : D + 1 + 1 < G
  hD : w.heap.size = D
  own : OwW (D + 1 + 1 + 1) wr d
  fr : Fr No w wr
section
variable {w wr w' : World} {D G : Nat} {b0 b1 : Array Value} {T1 : TypeId} {d : Wd}
theorem PutS.no (h : PutS w D G b0 b1 T1 d wr) (hf : Fr No wr w') : PutS w D G b0 b1 T1 d w' :=
  ⟨blk_no hf h.h0, blk_no hf h.h1, blk_no hf h.h2, blk_no hf h.hG, h.gD, h.hD, h.own.no hf, h.fr.no_trans hf⟩
theorem own_new {e : TypeId} {size n lo k : Nat} {v : Value} {L : List Value} (h : w.ownsRow lo e size v n L) (hk : k < lo) : ¬ v.ownBlock = some k := fun hq => by have := (h.lt k hq).1; omega
/-- The row of chunks is another one. -/
theorem PutS.row (h : PutS w D G b0 b1 T1 d wr) {A' : Option Addr} {n' c' : Nat} {l' : List Ch} (hf : Fr (fun k => (Value.slice d.A3 d.n3 d.c3).ownBlock = some k) wr w') (ho : w'.ownsRow (D + 1 + 1 + 1) 31 5 (.slice A' n' c') n' (chL l')) (hl : l'.length = n') (hc : ∀ C ∈ l', OwC (D + 1 + 1 + 1) wr C) :
    PutS w D G b0 b1 T1 ⟨d.size, d.sd, d.tick, A', n', c', l', d.A4, d.n4, d.c4, d.ps⟩ (w'.setCell ⟨G, 3, none⟩ (.slice A' n' c')) ∧ w'.heap[G]? = some (.cells #[.int .i64 d.size, .int .u64 (d.sd.toNat : Int), .int .i64 d.tick, .slice d.A3 d.n3 d.c3, .slice d.A4 d.n4 d.c4] 26 (0, 0)) := by
  have q : Fr (fun i => i = G) w' (w'.setCell ⟨G, 3, none⟩ (.slice A' n' c')) := Fr.setCell _ _ _ rfl
  have hg := hf.blk h.hG (own_not h.own.o3 h.hG (by decide))
  have gD := h.gD
  refine ⟨⟨q.blk (hf.blk h.h0 (own_new h.own.o3 (by omega))) (by omega), q.blk (hf.blk h.h1 (own_new h.own.o3 (by omega))) (by omega), q.blk (hf.blk h.h2 (own_new h.own.o3 (by omega))) (by omega), ?_, gD, h.hD, (h.own.row hf ho hl hc).at_ hg q, (h.fr.then_new hf (fun i hi => by have := (h.own.o3.lt i hi).1; have := h.hD; omega)).then_new q (fun i hi => by have e : i = G := hi; have := h.hD; omega)⟩, hg⟩
  rw [heap_cells_set _ G 3 _ _ _ hg]
  rfl
/-- The row of players is another one. -/
theorem PutS.rowp (h : PutS w D G b0 b1 T1 d wr) {A' : Option Addr} {n' c' : Nat} {l' : List Pl} (hf : Fr (fun k => (Value.slice d.A4 d.n4 d.c4).ownBlock = some k) wr w') (ho : w'.ownsRow (D + 1 + 1 + 1) 35 7 (.slice A' n' c') n' (plL l')) (hl : l'.length = n') (hc : ∀ C ∈ l', OwP (D + 1 + 1 + 1) wr C) :
    PutS w D G b0 b1 T1 ⟨d.size, d.sd, d.tick, d.A3, d.n3, d.c3, d.cs, A', n', c', l'⟩ (w'.setCell ⟨G, 4, none⟩ (.slice A' n' c')) ∧ w'.heap[G]? = some (.cells #[.int .i64 d.size, .int .u64 (d.sd.toNat : Int), .int .i64 d.tick, .slice d.A3 d.n3 d.c3, .slice d.A4 d.n4 d.c4] 26 (0, 0)) := by
  have q : Fr (fun i => i = G) w' (w'.setCell ⟨G, 4, none⟩ (.slice A' n' c')) := Fr.setCell _ _ _ rfl
  have hg := hf.blk h.hG (own_not h.own.o4 h.hG (by decide))
  have gD := h.gD
  refine ⟨⟨q.blk (hf.blk h.h0 (own_new h.own.o4 (by omega))) (by omega), q.blk (hf.blk h.h1 (own_new h.own.o4 (by omega))) (by omega), q.blk (hf.blk h.h2 (own_new h.own.o4 (by omega))) (by omega), ?_, gD, h.hD, (h.own.rowp hf ho hl hc).at_ hg q, (h.fr.then_new hf (fun i hi => by have := (h.own.o4.lt i hi).1; have := h.hD; omega)).then_new q (fun i hi => by have e : i = G := hi; have := h.hD; omega)⟩, hg⟩
  rw [heap_cells_set _ G 4 _ _ _ hg]
  rfl
/-- What is told in the end. -/
theorem PutS.fin (h : PutS w D G b0 b1 T1 d wr) : (set5 wr (D + 1 + 1) (.int .i64 d.size) (.int .u64 (d.sd.toNat : Int)) (.int .i64 d.tick) (.slice d.A3 d.n3 d.c3) (.slice d.A4 d.n4 d.c4)).heap[D + 1 + 1]? = some (.cells #[.int .i64 d.size, .int .u64 (d.sd.toNat : Int), .int .i64 d.tick, .slice d.A3 d.n3 d.c3, .slice d.A4 d.n4 d.c4] 26 (0, 0)) ∧
    OwW w.heap.size (set5 wr (D + 1 + 1) (.int .i64 d.size) (.int .u64 (d.sd.toNat : Int)) (.int .i64 d.tick) (.slice d.A3 d.n3 d.c3) (.slice d.A4 d.n4 d.c4)) d ∧ Fr No w (set5 wr (D + 1 + 1) (.int .i64 d.size) (.int .u64 (d.sd.toNat : Int)) (.int .i64 d.tick) (.slice d.A3 d.n3 d.c3) (.slice d.A4 d.n4 d.c4)) :=
  ⟨set5_heap h.h2 _ _ _ _ _, (h.own.at_ h.h2 (set5_fr _ _ _ _ _ _ _)).low (by have := h.hD; omega), h.fr.then_new (set5_fr _ _ _ _ _ _ _) (fun i hi => by have e : i = D + 1 + 1 := hi; have := h.hD; omega)⟩
end
/-- A world's own, part by part. -/
theorem wown_x {w : World} {d : Wd} (h : InW w d) (z : SzW d) : Calls Tryd.prog 27 #[.agg #[.int .i64 d.size, .int .u64 (d.sd.toNat : Int), .int .i64 d.tick, .slice d.A3 d.n3 d.c3, .slice d.A4 d.n4 d.c4]] w fun e w' => ∃ A3 c3 cs A4 c4 ps,
    e = .returned (.agg #[.int .i64 d.size, .int .u64 (d.sd.toNat : Int), .int .i64 d.tick, .slice A3 d.n3 c3, .slice A4 d.n4 c4]) ∧ (cs.map Ch.ck = d.cs.map Ch.ck ∧ ps.map Pl.py = d.ps.map Pl.py) ∧ OwW w.heap.size w' ⟨d.size, d.sd, d.tick, A3, d.n3, c3, cs, A4, d.n4, c4, ps⟩ ∧ Fr No w w' := by
  refine (wown_any h.r3 h.r4 z).mono ?_
  rintro e w' ⟨⟨size, sd, tick, A3, n3, c3, cs, A4, n4, c4, ps⟩, rfl, hv, e3, e4, ho, hf⟩
  dsimp only [Wd.v] at hv e3 e4
  injection hv with q1 q2 q3 q4 q5
  subst q1 q2 q3 e3 e4
  exact ⟨A3, c3, cs, A4, c4, ps, rfl, ⟨q4, q5⟩, ho, hf⟩
end Go.Proofs.YtjdhbgdpmojobaaDoor

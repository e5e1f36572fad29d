/-
  Bags: less, Take, Count. No statement of the seat is proved here.
-/
import Derived.Test.YthmnnfmepklafaaDoorBgE
namespace Go.Proofs.YthmnnfmepklafaaDoor
open Go.RowKit Go.Deep

/-- Three results, the second of which lies in a cell. -/
theorem results_tmp_cell_tmp_row {P : Program} {fn : Func} {p u v : Tmp} {ty : TypeId} (h : fn.results = #[.tmp u, .cell p ty, .tmp v]) (tmps : Array Value) (w : World) (g : Nat) (t : TypeId) (cs : Array Value) (fr : Nat × Nat) (d : TypeDesc)
    (hp : tmps.getD p undef = .pointer (some ⟨g, 0, none⟩)) (hg : w.heap[g]? = some (.cells cs t fr))
    (hu : P.underlying ty = some d) (hd : (match d with | .struct _ | .array _ _ => true | _ => false) = true) (hi : (P.info? ty).map (·.size) = some cs.size) :
    (results fn tmps).run P w = .ok (.tuple #[tmps.getD u undef, .agg cs, tmps.getD v undef]) w := by
  have e : (results fn tmps).run P w = ((asAddr (tmps.getD p undef)).run P w).andThen fun a w₁ => ((loadVar ty a).run P w₁).andThen fun x w₂ => .ok (.tuple #[tmps.getD u undef, x, tmps.getD v undef]) w₂ := by
    simp only [results, h]
    simp [Sem.run_bind, Result.andThen]
  rw [e, hp]
  simp [asAddr, run_loadVar_row w g t ty cs fr d hg hu hd hi]
theorem heap_push (w : World) (o : Obj) (k : Nat) : (w.alloc o).heap[k]? = if k = w.heap.size then some o else w.heap[k]? := by
  show (w.heap.push o)[k]? = _
  rw [Array.getElem?_push]
/-- A slot less n; empty, if nothing is left. -/
def lessS (s : Nat × Int) (n : Int) : Nat × Int := if s.2 = n then (0, 0) else (s.1, s.2 - n)
theorem al2 (w : World) (a b : Obj) : ((w.alloc a).alloc b).heap[w.heap.size + 1]? = some b := by
  have := heap_alloc_new (w.alloc a) b
  rwa [World.size_alloc] at this
section
variable {w : World} {A : Option Addr} {n c lo : Nat} {l : List (Nat × Int)}
set_option maxRecDepth 100000 in
set_option maxHeartbeats 1600000 in
theorem less_any (a : Nat) (b n : Int) (hb : 0 ≤ b ∧ b ≤ 16) (hn : 0 ≤ n ∧ n ≤ b) : Calls Tryd.prog 22 #[.agg #[.int .u8 (a : Int), .int .i64 b], .int .i64 n] w fun e w' => e = .returned (.agg #[.int .u8 ((lessS (a, b) n).1 : Int), .int .i64 (lessS (a, b) n).2]) ∧ Fr No w w' := by
  have hw : IntKind.i64.wrap (b - n) = b - n := IntWalk.i64_in _ (by omega)
  by_cases hbn : b = n
  · subst hbn
    have e1 : (b == b) = true := by simp
    have HE := Lib.hid (show lessS (a, b) b = (0, 0) by unfold lessS; rw [if_pos rfl])
    clear hw
    go_enter Tryd.func22, Tryd.ntmps22
    go_wp2_with fail
    refine bodyPost_ret (results_cell_row (p := 4) rfl _ _ (w.heap.size + 1) 30 #[.int .u8 0, .int .i64 0] (0, 0) _ rfl (al2 w _ _) Tryd.underlying30 rfl (by kernel_rfl)) rfl ?_
    exact ⟨by rw [HE.out]; rfl, (Fr.alloc No _ _).no_trans (Fr.alloc No _ _)⟩
  · have e1 : (b == n) = false := by rw [beq_eq_false_iff_ne]; exact hbn
    have HE := Lib.hid (show lessS (a, b) n = (a, b - n) by unfold lessS; rw [if_neg hbn])
    go_enter Tryd.func22, Tryd.ntmps22
    go_wp2_with fail
    refine bodyPost_ret (results_cell_row (p := 4) rfl _ _ (w.heap.size + 1) 30 #[.int .u8 (a : Int), .int .i64 (b - n)] (0, 0) _ rfl (al2 w _ _) Tryd.underlying30 rfl (by kernel_rfl)) rfl ?_
    exact ⟨by rw [HE.out], (Fr.alloc No _ _).no_trans (Fr.alloc No _ _)⟩
theorem hcells_no {w W : World} {b o n : Nat} {l : List (Nat × Int)} (hx : RdS w (some ⟨b, o, none⟩) n l) (k : Nat) (hk : k < l.length) (hW : Fr No w W) : W.cell? ⟨b, o + k * 2, none⟩ = some (.int .u8 (l[k].1 : Int)) ∧ W.cell? ⟨b, o + k * 2 + 1, none⟩ = some (.int .i64 l[k].2) := by
  obtain ⟨b', o', e, _, hc⟩ := (hx.no hW).2 (by have := hx.1; omega)
  injection e with e
  injection e with e1 e2
  subst e1 e2
  exact hc k hk
theorem OwS.mono {lo lo' : Nat} {w : World} {v : Value} {l : List (Nat × Int)} (hl : lo' ≤ lo) (ho : OwS lo w v l) : OwS lo' w v l := by
  refine ⟨ho.1, ?_⟩
  rcases ho.2 with h | ⟨g, cap, cur, e, h1, h2⟩
  · exact .inl h
  · exact .inr ⟨g, cap, cur, e, by omega, h2⟩
/-- What Take answers. -/
def TakeL (l : List (Nat × Int)) (x m : Int) : List (Nat × Int) × (Nat × Int) × Int :=
  if rgt l = false ∨ x < 0 ∨ (l.length : Int) ≤ x then (l, (0, 0), 103) else if m < 1 then (l, (0, 0), 111) else if (l.getD x.toNat (0, 0)).2 < m then (l, (0, 0), 105)
  else (l.set x.toNat (lessS (l.getD x.toNat (0, 0)) m), ((l.getD x.toNat (0, 0)).1, m), 0)
set_option maxRecDepth 100000 in
set_option maxHeartbeats 1600000 in
theorem take_any (ht : ItT w) (hx : RdS w A n l) (hby : By l) (c : Nat) (hn : n ≤ 100000) (x m : Int) :
    Calls Tryd.prog 8 #[.slice A n c, .int .i64 x, .int .i64 m] w fun e w' => ∃ A' c', e = .returned (.tuple #[.slice A' n c', .agg #[.int .u8 ((TakeL l x m).2.1.1 : Int), .int .i64 (TakeL l x m).2.1.2], .int .i64 (TakeL l x m).2.2]) ∧ OwS w.heap.size w' (.slice A' n c') (TakeL l x m).1 ∧ Fr No w w' := by
  have fa := Fr.alloc No w (.cells #[.int .u8 0, .int .i64 0] 30)
  have hT := heap_alloc_new w (.cells #[.int .u8 0, .int .i64 0] 30)
  have hsz : (w.alloc (.cells #[.int .u8 0, .int .i64 0] 30)).heap.size = w.heap.size + 1 := World.size_alloc _ _
  have HO := Lib.hid (own_any (hx.no fa) c hn)
  have HR := Lib.hid (fun W (hW : Fr No (w.alloc (.cells #[.int .u8 0, .int .i64 0] 30)) W) => right_any ((ht.no fa).no hW) ((hx.no fa).no hW) hby c hn n)
  have HX := Lib.hid (hx.no fa)
  have hxl : 0 < n → ∀ b, A = some b → b.block < w.heap.size := fun h b hb => by
    obtain ⟨b', o, e, hlt, _⟩ := hx.2 h
    rw [e] at hb
    injection hb with hb
    rw [← hb]
    exact hlt
  have HXL := Lib.hid hxl
  have HTB := Lib.hid hT
  have HSZ := Lib.hid hsz
  have HFA := Lib.hid fa
  have hrr : rgt l = true → ∀ s ∈ l, (s.1 = 0 ∧ s.2 = 0) ∨ (1 ≤ s.2 ∧ s.2 ≤ stI s.1) := fun h _ hs => rgt_at h hs
  have hl := hx.1
  clear ht hx hby fa hT hsz hxl
  have fin : ∀ {W : World} {A' : Option Addr} {c' : Nat}, Fr No w W → OwS (w.heap.size + 1) W (.slice A' n c') l → ∀ err : Int, TakeL l x m = (l, (0, 0), err) →
      ∃ A'' c'', Ending.returned (.tuple #[.slice A' n c', .agg #[.int .u8 0, .int .i64 0], .int .i64 err]) = .returned (.tuple #[.slice A'' n c'', .agg #[.int .u8 ((TakeL l x m).2.1.1 : Int), .int .i64 (TakeL l x m).2.1.2], .int .i64 (TakeL l x m).2.2]) ∧ OwS w.heap.size W (.slice A'' n c'') (TakeL l x m).1 ∧ Fr No w W := by
    intro W A' c' hW ho err he
    rw [he]
    refine ⟨A', c', rfl, ?_, hW⟩
    refine ⟨ho.1, ?_⟩
    rcases ho.2 with h | ⟨g, cap, cur, e, h1, h2⟩
    · exact .inl h
    · exact .inr ⟨g, cap, cur, e, by omega, h2⟩
  have FIN := Lib.hid (fun (W : World) A' c' => @fin W A' c')
  clear fin
  by_cases hbad : rgt l = false ∨ x < 0 ∨ (l.length : Int) ≤ x
  · have HE := Lib.hid (show TakeL l x m = (l, (0, 0), 103) by unfold TakeL; rw [if_pos hbad])
    rw [hl] at hbad
    obtain ⟨q, HQ⟩ : ∃ q, Hid (rgt l = q) := ⟨_, Lib.hid rfl⟩
    rw [HQ.out] at HR hbad
    have e1 : decide ((n : Int) = (n : Int)) = true := by simp
    rw [e1] at HR
    clear hrr
    rcases (show q = false ∨ (q = true ∧ x < 0) ∨ (q = true ∧ 0 ≤ x ∧ (n : Int) ≤ x) by cases q <;> simp at hbad ⊢ <;> omega) with rfl | ⟨rfl, h⟩ | ⟨rfl, h, h2⟩
    all_goals
      clear hbad
      go_enter Tryd.func8, Tryd.ntmps8
      go_wp2_with (first
        | (go_at_call 20; refine HO.out.mono ?_; rintro e w1 ⟨A', c', rfl, ho, hf⟩; have HO1 := Lib.hid ho; have HF1 := Lib.hid hf; clear ho hf)
        | (go_at_call 5; refine (HR.out _ HF1.out).mono ?_; rintro e w2 ⟨rfl, hf⟩; have HF2 := Lib.hid hf; have hq := blk_no hf (blk_no HF1.out HTB.out); have HT2 := Lib.hid hq; have k0 := blk_cell hq 0; have k1 := blk_cell hq 1; have z0 := blk_free hq 0; have z1 := blk_free hq 1; simp at k0 k1; clear hf hq))
      have f3 := (Fr.setCell (F := fun i => i = w.heap.size) w2 ⟨w.heap.size, 0, none⟩ (.int .u8 0) rfl).trans (Fr.setCell (F := fun i => i = w.heap.size) _ ⟨w.heap.size, 1, none⟩ (.int .i64 0) rfl) (fun _ _ e => e)
      refine bodyPost_ret (results_tmp_cell_tmp_row (p := 7) rfl _ _ w.heap.size 30 #[.int .u8 0, .int .i64 0] (0, 0) _ rfl (heap_cells_set _ w.heap.size 1 _ _ (.int .i64 0) (heap_cells_set w2 w.heap.size 0 _ _ (.int .u8 0) HT2.out)) Tryd.underlying30 rfl (by kernel_rfl)) rfl ?_
      have ho2 := HO1.out.no HF2.out
      rw [HSZ.out] at ho2
      exact FIN.out _ A' c' ((HFA.out.no_trans (HF1.out.no_trans HF2.out)).then_new f3 (fun i e => by have e : i = _ := e; omega)) (own_keep ho2 (fun k hk => f3.block k (ho2.lt k hk).2 (fun e => by have e : k = _ := e; have := (ho2.lt k hk).1; omega))) 103 HE.out
  · obtain ⟨hr, hx0, hxl⟩ : rgt l = true ∧ 0 ≤ x ∧ x < (l.length : Int) := by
      refine ⟨?_, ?_, ?_⟩
      · cases h : rgt l with
        | true => rfl
        | false => exact absurd (.inl h) hbad
      · exact Int.not_lt.1 (fun h => hbad (.inr (.inl h)))
      · exact Int.not_le.1 (fun h => hbad (.inr (.inr h)))
    obtain ⟨k, rfl⟩ := Int.eq_ofNat_of_zero_le hx0
    have hk : k < l.length := by omega
    have hkn : ¬ ((n : Int) ≤ (k : Int)) := by omega
    have hk0 : ¬ ((k : Int) < 0) := by omega
    have hs := hrr hr l[k] (List.getElem_mem hk)
    have hle := stI_le l[k].1
    have hgd : l.getD k (0, 0) = l[k] := by rw [List.getD_eq_getElem?_getD, List.getElem?_eq_getElem hk]; rfl
    rw [hr] at HR
    have e1 : (decide ((n : Int) = (n : Int)) && true) = true := by simp
    rw [e1] at HR
    have e5 : TakeL l (k : Int) m = if m < 1 then (l, (0, 0), 111) else if l[k].2 < m then (l, (0, 0), 105) else (l.set k (lessS l[k] m), (l[k].1, m), 0) := by
      unfold TakeL
      rw [if_neg hbad, show ((k : Int).toNat) = k from rfl, hgd]
    have HE5 := Lib.hid e5
    clear hbad hrr e5 hgd
    by_cases hm1 : m < 1
    · have HE := Lib.hid (show TakeL l (k : Int) m = (l, (0, 0), 111) by rw [HE5.out, if_pos hm1])
      go_enter Tryd.func8, Tryd.ntmps8
      go_wp2_with (first
        | (go_at_call 20; refine HO.out.mono ?_; rintro e w1 ⟨A', c', rfl, ho, hf⟩; have HO1 := Lib.hid ho; have HF1 := Lib.hid hf; clear ho hf)
        | (go_at_call 5; refine (HR.out _ HF1.out).mono ?_; rintro e w2 ⟨rfl, hf⟩; have HF2 := Lib.hid hf; have hq := blk_no hf (blk_no HF1.out HTB.out); have HT2 := Lib.hid hq; have k0 := blk_cell hq 0; have k1 := blk_cell hq 1; have z0 := blk_free hq 0; have z1 := blk_free hq 1; simp at k0 k1; clear hf hq))
      have f3 := (Fr.setCell (F := fun i => i = w.heap.size) w2 ⟨w.heap.size, 0, none⟩ (.int .u8 0) rfl).trans (Fr.setCell (F := fun i => i = w.heap.size) _ ⟨w.heap.size, 1, none⟩ (.int .i64 0) rfl) (fun _ _ e => e)
      refine bodyPost_ret (results_tmp_cell_tmp_row (p := 7) rfl _ _ w.heap.size 30 #[.int .u8 0, .int .i64 0] (0, 0) _ rfl (heap_cells_set _ w.heap.size 1 _ _ (.int .i64 0) (heap_cells_set w2 w.heap.size 0 _ _ (.int .u8 0) HT2.out)) Tryd.underlying30 rfl (by kernel_rfl)) rfl ?_
      have ho2 := HO1.out.no HF2.out
      rw [HSZ.out] at ho2
      exact FIN.out _ A' c' ((HFA.out.no_trans (HF1.out.no_trans HF2.out)).then_new f3 (fun i e => by have e : i = _ := e; omega)) (own_keep ho2 (fun k hk => f3.block k (ho2.lt k hk).2 (fun e => by have e : k = _ := e; have := (ho2.lt k hk).1; omega))) 111 HE.out
    · by_cases hlm : l[k].2 < m
      · have HE := Lib.hid (show TakeL l (k : Int) m = (l, (0, 0), 105) by rw [HE5.out, if_neg hm1, if_pos hlm])
        obtain ⟨b, o, rfl, _, hc⟩ := HX.out.2 (by omega)
        have HXC := Lib.hid (fun W (hW : Fr No (w.alloc (.cells #[.int .u8 0, .int .i64 0] 30)) W) => hcells_no (hx := HX.out) k hk hW)
        clear hc
        go_enter Tryd.func8, Tryd.ntmps8
        go_wp2_with (first
          | (go_at_call 20; refine HO.out.mono ?_; rintro e w1 ⟨A', c', rfl, ho, hf⟩; have HO1 := Lib.hid ho; have HF1 := Lib.hid hf; clear ho hf)
          | (go_at_call 5; refine (HR.out _ HF1.out).mono ?_; rintro e w2 ⟨rfl, hf⟩; have HF2 := Lib.hid hf; have hq := blk_no hf (blk_no HF1.out HTB.out); have HT2 := Lib.hid hq; have k0 := blk_cell hq 0; have k1 := blk_cell hq 1; have z0 := blk_free hq 0; have z1 := blk_free hq 1; simp at k0 k1; have xx := HXC.out w2 (HF1.out.no_trans hf); have x0 := xx.1; have x1 := xx.2; clear hf hq xx))
        have f3 := (Fr.setCell (F := fun i => i = w.heap.size) w2 ⟨w.heap.size, 0, none⟩ (.int .u8 0) rfl).trans (Fr.setCell (F := fun i => i = w.heap.size) _ ⟨w.heap.size, 1, none⟩ (.int .i64 0) rfl) (fun _ _ e => e)
        refine bodyPost_ret (results_tmp_cell_tmp_row (p := 7) rfl _ _ w.heap.size 30 #[.int .u8 0, .int .i64 0] (0, 0) _ rfl (heap_cells_set _ w.heap.size 1 _ _ (.int .i64 0) (heap_cells_set w2 w.heap.size 0 _ _ (.int .u8 0) HT2.out)) Tryd.underlying30 rfl (by kernel_rfl)) rfl ?_
        have ho2 := HO1.out.no HF2.out
        rw [HSZ.out] at ho2
        exact FIN.out _ A' c' ((HFA.out.no_trans (HF1.out.no_trans HF2.out)).then_new f3 (fun i e => by have e : i = _ := e; omega)) (own_keep ho2 (fun k hk => f3.block k (ho2.lt k hk).2 (fun e => by have e : k = _ := e; have := (ho2.lt k hk).1; omega))) 105 HE.out
      · obtain ⟨b, o, rfl, _, hc⟩ := HX.out.2 (by omega)
        have HXC := Lib.hid (fun W (hW : Fr No (w.alloc (.cells #[.int .u8 0, .int .i64 0] 30)) W) => hcells_no (hx := HX.out) k hk hW)
        clear hc
        have hb16 : 0 ≤ l[k].2 ∧ l[k].2 ≤ 16 := by omega
        have HL := Lib.hid (fun W => less_any (w := W) l[k].1 l[k].2 m hb16 (by omega))
        have HE := Lib.hid (show TakeL l (k : Int) m = (l.set k (lessS l[k] m), (l[k].1, m), 0) by rw [HE5.out, if_neg hm1, if_neg hlm])
        have hbw := HXL.out (by omega) _ rfl
        clear hs hle hb16 HE5
        obtain ⟨s, hs⟩ : ∃ s, l[k] = s := ⟨_, rfl⟩
        rw [hs] at HXC HL HE hlm
        clear hs
        obtain ⟨x0', y0⟩ := s
        dsimp only at HXC HL HE hlm
        obtain ⟨q, hq⟩ : ∃ q, lessS (x0', y0) m = q := ⟨_, rfl⟩
        rw [hq] at HL HE
        clear hq
        obtain ⟨q0, q1⟩ := q
        dsimp only at HL HE
        go_enter Tryd.func8, Tryd.ntmps8
        go_wp2_with (first
          | (go_at_call 20; refine HO.out.mono ?_; rintro e w1 ⟨A', c', rfl, ho, hf⟩; have HO1 := Lib.hid ho; have HF1 := Lib.hid hf; clear ho hf)
          | (go_at_call 5; refine (HR.out _ HF1.out).mono ?_; rintro e w2 ⟨rfl, hf⟩; have HF2 := Lib.hid hf; have hq := blk_no hf (blk_no HF1.out HTB.out); have HT2 := Lib.hid hq; have k0 := blk_cell hq 0; have k1 := blk_cell hq 1; have z0 := blk_free hq 0; have z1 := blk_free hq 1; simp at k0 k1; have xx := HXC.out w2 (HF1.out.no_trans hf); have x0 := xx.1; have x1 := xx.2; clear hf hq xx)
          | (go_at_call 22; refine (HL.out _).mono ?_; rintro e w3 ⟨rfl, hf⟩; have HF3 := Lib.hid hf; obtain ⟨b', hAb, hlob, hbw', y0f, y1f, d0, d1, hset⟩ := ((HO1.out.no HF2.out).no hf).set k hk; subst hAb; have HSET := Lib.hid hset; have HB' := Lib.hid (And.intro hlob hbw'); clear hf hset hlob hbw'))
        have f4 := (Fr.setCell (F := fun i => i = b') w3 ⟨b', k * 2, none⟩ (.int .u8 (q0 : Int)) rfl).trans (Fr.setCell (F := fun i => i = b') _ ⟨b', k * 2 + 1, none⟩ (.int .i64 q1) rfl) (fun _ _ e => e)
        have hT3 := blk_no HF3.out HT2.out
        have hb' := HB'.out
        rw [HSZ.out] at hb'
        have hT4 := (f4.block w.heap.size (Array.getElem?_eq_some_iff.1 hT3).1 (fun e => by have e : w.heap.size = b' := e; omega)).trans hT3
        have hx3 := HXC.out w3 ((HF1.out.no_trans HF2.out).no_trans HF3.out)
        have hsz3 := ((HFA.out.no_trans (HF1.out.no_trans HF2.out)).no_trans HF3.out).size
        have hx4 := (f4.cell (p := ⟨b, o + k * 2, none⟩) (by show b < _; omega) (fun e => by have e : b = b' := e; omega)).trans hx3.1
        have HO4 := Lib.hid (HSET.out q0 q1)
        have HF4 := Lib.hid (((HFA.out.no_trans (HF1.out.no_trans HF2.out)).no_trans HF3.out).then_new f4 (fun i e => by have e : i = b' := e; omega))
        clear f4 hT3 hx3 hsz3 hb' y0f y1f d0 d1 x0 x1 k0 k1 z0 z1 HSET HB'
        generalize (w3.setCell ⟨b', k * 2, none⟩ (.int .u8 (q0 : Int))).setCell ⟨b', k * 2 + 1, none⟩ (.int .i64 q1) = w4 at *
        have k0 := blk_cell hT4 0
        have k1 := blk_cell hT4 1
        have z0 := blk_free hT4 0
        have z1 := blk_free hT4 1
        have HT4 := Lib.hid hT4
        simp at k0 k1
        clear hT4
        have hkk : (k : Int) < (n : Int) := by omega
        have hkk0 : (0 : Int) ≤ (k : Int) := by omega
        go_region
        go_wp2
        have f3 := (Fr.setCell (F := fun i => i = w.heap.size) w4 ⟨w.heap.size, 0, none⟩ (.int .u8 (x0' : Int)) rfl).trans (Fr.setCell (F := fun i => i = w.heap.size) _ ⟨w.heap.size, 1, none⟩ (.int .i64 m) rfl) (fun _ _ e => e)
        refine bodyPost_ret (results_tmp_cell_tmp_row (p := 7) rfl _ _ w.heap.size 30 #[.int .u8 (x0' : Int), .int .i64 m] (0, 0) _ rfl (heap_cells_set _ w.heap.size 1 _ _ (.int .i64 m) (heap_cells_set w4 w.heap.size 0 _ _ (.int .u8 (x0' : Int)) HT4.out)) Tryd.underlying30 rfl (by kernel_rfl)) rfl ?_
        have ho4 := HO4.out
        rw [HSZ.out] at ho4
        have ho5 := own_keep ho4 (fun j hj => f3.block j (ho4.lt j hj).2 (fun e => by have e : j = _ := e; have := (ho4.lt j hj).1; omega))
        rw [HE.out]
        refine ⟨_, c', rfl, OwS.mono (Nat.le_succ _) (OwS.no (l := l.set k (q0, q1)) ho5 (Fr.drew No _)), (HF4.out.then_new f3 (fun i e => by have e : i = _ := e; omega)).no_trans (Fr.drew No _)⟩
end
end Go.Proofs.YthmnnfmepklafaaDoor

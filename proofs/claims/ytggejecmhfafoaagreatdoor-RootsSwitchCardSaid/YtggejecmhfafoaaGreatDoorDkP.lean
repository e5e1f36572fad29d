/-
  A file's first bytes, and what a crash leaves of it. No statement of the seat is proved here.
-/
import Derived.Test.YtggejecmhfafoaaGreatDoorDkO
namespace Go.Proofs.YtggejecmhfafoaaGreatDoor
open Go.RowKit Go.Maps

/-- What first answers: a file of the first n bytes, in the old row or in memory of its own. -/
def Fst (f : Fl) (n : Nat) (w : World) (e : Ending) (w' : World) : Prop :=
  ∃ A c, e = .returned (.agg #[.slice A n c, .int .i64 (n : Int)]) ∧ w'.ownsRow 0 5 1 (.slice A n c) n (bvs (f.bs.take n)) ∧
    ((.slice A n c = f.row) ∨ ∀ g, (Value.slice A n c).ownBlock = some g → w.heap.size ≤ g) ∧ Fr No w w'
set_option maxRecDepth 100000 in
theorem first_any (f : Fl) (n : Nat) (hn : n ≤ f.bs.length) (h24 : f.bs.length ≤ 16777216) (w : World) (h : w.ownsRow 0 5 1 f.row f.bs.length (bvs f.bs)) :
    Calls Tryz.prog 34 #[.agg #[.slice f.A f.bs.length f.c, .int .i64 (f.fm : Int)], .int .i64 (n : Int)] w (Fst f n w) := by
  by_cases he : n = f.bs.length
  · subst he
    refine (first_all f.A f.bs.length f.c (f.fm : Int) w).mono ?_
    rintro e w' ⟨rfl, rfl⟩
    have hf : Fr No w ((w.alloc (.cells #[.slice f.A f.bs.length f.c, .int .i64 (f.fm : Int)] 60)).alloc (.cells #[.slice f.A f.bs.length f.c, .int .i64 (f.bs.length : Int)] 60)) := (Fr.alloc _ _ _).no_trans (Fr.alloc _ _ _)
    refine ⟨f.A, f.c, rfl, ?_, .inl rfl, hf⟩
    rw [List.take_length]
    exact own_keep h (fun k hk => hf.block k (h.lt k hk).2 (fun e => e))
  · have hlt : n < f.bs.length := by omega
    have hne : ((n : Int) == (f.bs.length : Int)) = false := by rw [beq_eq_false_iff_ne]; omega
    have hcap : f.bs.length ≤ f.c := by
      rcases h.2 with ⟨_, e⟩ | ⟨g, cap, cur, e, _, _, hc, _⟩
      · omega
      · injection e with e1 e2 e3; omega
    have hr0 : Rd w w.heap.size f.A f.bs.length f.bs := Rd.own h
    obtain ⟨A', c', hsl, hr, hc'⟩ := pre_rule (hi := n) (n : Int) rfl hr0 hcap (by omega)
    have HF := Lib.hid (fun W (hf : Fr No w W) => dfresh_any A' n c' (f.bs.take n) W ((hf.rd (Nat.le_refl _) hr).more hf.size) (by omega))
    clear h hr hr0
    go_enter Tryz.func34, Tryz.ntmps34
    go_wp2_with fail
    refine (HF.out _ ((Fr.alloc _ _ _).no_trans (Fr.alloc _ _ _))).mono ?_
    rintro e w3 ⟨v, rfl, hv, hb⟩
    have HLA := Lib.hid (List.length_take_of_le (l := f.bs) hn)
    rw [HLA.out] at hv
    obtain ⟨A2, c2, rfl⟩ : ∃ A2 c2, v = .slice A2 n c2 := by
      rcases hv.2 with ⟨rfl, e⟩ | ⟨g, cap, cur, rfl, _⟩
      · exact ⟨none, 0, by rw [e]⟩
      · exact ⟨_, _, rfl⟩
    have hG : w3.heap[w.heap.size + 1]? = some (.cells #[.slice none 0 0, .int .i64 0] 60 (0, 0)) := (hb.block _ (by simp)).trans (heap2 w _ _)
    have g0 : w3.cell? ⟨w.heap.size + 1, 0, none⟩ = some (.slice none 0 0) := by unfold World.cell?; rw [hG]; rfl
    have g1 : w3.cell? ⟨w.heap.size + 1, 1, none⟩ = some (.int .i64 0) := by unfold World.cell?; rw [hG]; rfl
    have z0 : w3.frozen? ⟨w.heap.size + 1, 0, none⟩ = false := by unfold World.frozen?; rw [hG]; rfl
    have z1 : w3.frozen? ⟨w.heap.size + 1, 1, none⟩ = false := by unfold World.frozen?; rw [hG]; rfl
    have HG := Lib.hid hG
    have HB := Lib.hid hb
    have HV := Lib.hid hv
    clear hG hb hv
    go_wp2_with fail
    refine bodyPost_ret (results_cell_row (p := 4) rfl _ _ (w.heap.size + 1) 60 #[.slice A2 n c2, .int .i64 (n : Int)] (0, 0) _ rfl (heap_cells_set _ _ 1 _ _ _ (heap_cells_set _ _ 0 _ _ _ HG.out)) Tryz.underlying60 rfl (by kernel_rfl)) rfl ?_
    have hfr : Fr No w w3 := ((Fr.alloc _ _ _).no_trans (Fr.alloc _ _ _)).no_trans (Fr.of_below HB.out)
    have hne : ∀ k, (Value.slice A2 n c2).ownBlock = some k → w.heap.size + 1 < k := fun k hk => by
      have h1 := (HV.out.lt k hk).1
      simp only [World.size_alloc] at h1
      omega
    refine ⟨A2, c2, rfl, ?_, .inr (fun g hg => by have := hne g hg; omega), ?_⟩
    · refine own_base (own_keep HV.out (fun k hk => ?_)) (Nat.zero_le _)
      have := hne k hk
      rw [Below.heap_setCell _ _ _ _ (show k ≠ w.heap.size + 1 by omega), Below.heap_setCell _ _ _ _ (show k ≠ w.heap.size + 1 by omega)]
    · refine hfr.trans (G := fun k => k = w.heap.size + 1) ?_ (fun i hi e => by omega)
      exact (Fr.setAt _ _ 0 _).trans (Fr.setAt _ _ 1 _) (fun _ _ e => e)
/-- How many bytes a crash leaves, if so many loose ones are kept. -/
def kp (f : Fl) (k : Int) : Nat := f.fm + min k.toNat (f.bs.length - f.fm)
set_option maxRecDepth 100000 in
theorem crashed_any (f : Fl) (k : Int) (hfm : f.fm ≤ f.bs.length) (h24 : f.bs.length ≤ 16777216) (w : World) (h : w.ownsRow 0 5 1 f.row f.bs.length (bvs f.bs)) :
    Calls Tryz.prog 25 #[.agg #[.slice f.A f.bs.length f.c, .int .i64 (f.fm : Int)], .int .i64 k] w (Fst f (kp f k) w) := by
  have hw : IntKind.i64.wrap ((f.bs.length : Int) - (f.fm : Int)) = ((f.bs.length - f.fm : Nat) : Int) := by
    rw [Int.natCast_sub hfm]
    exact IntWalk.i64_in _ (by omega)
  have HF := Lib.hid (fun n hn W (hf : Fr No w W) => first_any f n hn h24 W (own_keep h (fun k hk => hf.block k (h.lt k hk).2 (fun e => e))))
  obtain ⟨L, HL⟩ : ∃ L : Nat, Hid (f.bs.length - f.fm = L) := ⟨_, rfl⟩
  rw [HL.out] at hw
  have HR := Lib.hid (fun k hk => (h.lt k hk).2)
  clear h
  go_enter Tryz.func25, Tryz.ntmps25
  go_wp2_with fail
  have hK : wrap64 ((f.fm : Int) + min (max k 0) (L : Int)) = ((kp f k : Nat) : Int) := by
    have hl := HL.out
    rw [IntWalk.wrap64_in _ (by omega)]
    unfold kp
    omega
  have hle : kp f k ≤ f.bs.length := by unfold kp; omega
  rw [hK]
  refine (HF.out (kp f k) hle _ ((Fr.alloc _ _ _).no_trans (Fr.alloc _ _ _))).mono ?_
  rintro e w3 ⟨A2, c2, rfl, hv, hd, hb⟩
  have hG : w3.heap[w.heap.size + 1]? = some (.cells #[.slice none 0 0, .int .i64 0] 60 (0, 0)) := (hb.block _ (by simp) (fun e => e)).trans (heap2 w _ _)
  have g0 : w3.cell? ⟨w.heap.size + 1, 0, none⟩ = some (.slice none 0 0) := by unfold World.cell?; rw [hG]; rfl
  have g1 : w3.cell? ⟨w.heap.size + 1, 1, none⟩ = some (.int .i64 0) := by unfold World.cell?; rw [hG]; rfl
  have z0 : w3.frozen? ⟨w.heap.size + 1, 0, none⟩ = false := by unfold World.frozen?; rw [hG]; rfl
  have z1 : w3.frozen? ⟨w.heap.size + 1, 1, none⟩ = false := by unfold World.frozen?; rw [hG]; rfl
  have HG := Lib.hid hG
  have HB := Lib.hid hb
  have HV := Lib.hid hv
  have HD := Lib.hid hd
  obtain ⟨n, HN⟩ : ∃ n, Hid (kp f k = n) := ⟨_, rfl⟩
  rw [HN.out] at HV HD ⊢
  clear hG hb hv hd hK hle hw
  go_wp2_with fail
  refine bodyPost_ret (results_cell_row (p := 4) rfl _ _ (w.heap.size + 1) 60 #[.slice A2 n c2, .int .i64 (n : Int)] (0, 0) _ rfl (heap_cells_set _ _ 1 _ _ _ (heap_cells_set _ _ 0 _ _ _ HG.out)) Tryz.underlying60 rfl (by kernel_rfl)) rfl ?_
  have hfr : Fr No w w3 := ((Fr.alloc _ _ _).no_trans (Fr.alloc _ _ _)).no_trans HB.out
  have hne : ∀ k, (Value.slice A2 n c2).ownBlock = some k → k ≠ w.heap.size + 1 := fun k hk => by
    rcases HD.out with e | e
    · have := HR.out k (by rw [← e]; exact hk)
      omega
    · have := e k hk
      simp only [World.size_alloc] at this
      omega
  rw [HN.out]
  refine ⟨A2, c2, rfl, ?_, ?_, ?_⟩
  · refine own_keep HV.out (fun k hk => ?_)
    have := hne k hk
    rw [Below.heap_setCell _ _ _ _ (show k ≠ w.heap.size + 1 by omega), Below.heap_setCell _ _ _ _ (show k ≠ w.heap.size + 1 by omega)]
  · rcases HD.out with e | e
    · exact .inl e
    · refine .inr (fun g hg => ?_)
      have := e g hg
      simp only [World.size_alloc] at this
      omega
  · refine hfr.trans (G := fun k => k = w.heap.size + 1) ?_ (fun i hi e => by omega)
    exact (Fr.setAt _ _ 0 _).trans (Fr.setAt _ _ 1 _) (fun _ _ e => e)
end Go.Proofs.YtggejecmhfafoaaGreatDoor

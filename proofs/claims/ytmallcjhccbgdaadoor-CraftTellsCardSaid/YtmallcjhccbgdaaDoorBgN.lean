/-
  Bags: spend. No statement of the seat is proved here.
-/
import Derived.Test.YtmallcjhccbgdaaDoorBgM
namespace Go.Proofs.YtmallcjhccbgdaaDoor
open Go.RowKit Go.Deep Go.Shelf

/-- One slot spent from, if it holds i: as much as it has, or is left to spend. -/
def spS (i : Nat) (s : Nat × Int) (r : List (Nat × Int) × Int) : List (Nat × Int) × Int := if s.1 = i then (lessS s (min r.2 s.2) :: r.1, r.2 - min r.2 s.2) else (s :: r.1, r.2)
/-- Slots spent from, the last one first. -/
def spF (i : Nat) (l : List (Nat × Int)) (n : Int) : List (Nat × Int) × Int := l.foldr (spS i) ([], n)
theorem spF_len (i : Nat) (l : List (Nat × Int)) (n : Int) : (spF i l n).1.length = l.length := by
  unfold spF
  induction l with
  | nil => rfl
  | cons s l ih =>
    rw [List.foldr_cons]
    generalize l.foldr (spS i) ([], n) = r at ih ⊢
    unfold spS
    split <;> simp [ih]
theorem spF_left (i : Nat) {l : List (Nat × Int)} {n : Int} (h0 : 0 ≤ n) (hp : ∀ s ∈ l, 0 ≤ s.2) : 0 ≤ (spF i l n).2 ∧ (spF i l n).2 ≤ n := by
  unfold spF
  induction l with
  | nil => exact ⟨h0, Int.le_refl _⟩
  | cons s l ih =>
    have h1 := ih (fun t ht => hp t (List.mem_cons_of_mem _ ht))
    have h2 := hp s List.mem_cons_self
    rw [List.foldr_cons]
    generalize l.foldr (spS i) ([], n) = r at h1 ⊢
    unfold spS
    split
    · dsimp only; omega
    · exact h1
/-- The slots when k of them, from the last one on, have been looked at; what is left to spend. -/
def spL (i : Nat) (l : List (Nat × Int)) (m : Int) (k : Nat) : List (Nat × Int) := l.take (l.length - k) ++ (spF i (l.drop (l.length - k)) m).1
def spR (i : Nat) (l : List (Nat × Int)) (m : Int) (k : Nat) : Int := (spF i (l.drop (l.length - k)) m).2
section
variable {i : Nat} {l : List (Nat × Int)} {m : Int} {k j : Nat}
theorem sp_start : spL i l m 0 = l ∧ spR i l m 0 = m := by
  unfold spL spR
  rw [Nat.sub_zero, List.drop_length, List.take_length]
  exact ⟨List.append_nil _, rfl⟩
theorem sp_end : spL i l m l.length = (spF i l m).1 := by
  unfold spL
  rw [Nat.sub_self]
  rfl
theorem sp_drop (hj : k + 1 + j = l.length) (hjl : j < l.length) : spF i (l.drop (l.length - (k + 1))) m = spS i l[j] (spF i (l.drop (l.length - k)) m) := by
  rw [show l.length - (k + 1) = j by omega, show l.length - k = j + 1 by omega, List.drop_eq_getElem_cons hjl]
  rfl
theorem sp_get (hj : k + 1 + j = l.length) (hjl : j < l.length) (h : j < (spL i l m k).length) : (spL i l m k)[j] = l[j] := by
  revert h
  unfold spL
  intro h
  rw [List.getElem_append_left (by rw [List.length_take]; omega), List.getElem_take]
theorem spL_len : (spL i l m k).length = l.length := by
  unfold spL
  rw [List.length_append, spF_len, List.length_take, List.length_drop]
  omega
theorem sp_yes (hj : k + 1 + j = l.length) (hjl : j < l.length) (h : l[j].1 = i) :
    spL i l m (k + 1) = (spL i l m k).set j (lessS l[j] (min (spR i l m k) l[j].2)) ∧ spR i l m (k + 1) = spR i l m k - min (spR i l m k) l[j].2 := by
  unfold spL spR
  rw [sp_drop hj hjl]
  unfold spS
  rw [if_pos h]
  refine ⟨?_, rfl⟩
  rw [show l.length - (k + 1) = j by omega, show l.length - k = j + 1 by omega, List.take_add_one, List.getElem?_eq_getElem hjl, List.append_assoc, List.set_append_right _ _ (by rw [List.length_take]; omega)]
  rw [List.length_take, Nat.min_eq_left (by omega), Nat.sub_self]
  rfl
theorem sp_no (hj : k + 1 + j = l.length) (hjl : j < l.length) (h : l[j].1 ≠ i) : spL i l m (k + 1) = spL i l m k ∧ spR i l m (k + 1) = spR i l m k := by
  unfold spL spR
  rw [sp_drop hj hjl]
  unfold spS
  rw [if_neg h]
  refine ⟨?_, rfl⟩
  rw [show l.length - (k + 1) = j by omega, show l.length - k = j + 1 by omega, List.take_add_one, List.getElem?_eq_getElem hjl, List.append_assoc]
  rfl
end
theorem Bk_of {A : Option Addr} {n c k : Nat} (h : (Value.slice A n c).ownBlock = some k) : Bk A k := by
  cases A with
  | none => simp [Value.ownBlock] at h
  | some a => exact ⟨a, rfl, by simpa [Value.ownBlock] using h⟩
theorem Fr.keeps {w w' : World} (h : Fr No w w') : KeepsOthers w w' := ⟨h.size, fun k _ hk _ => (h.block k (Array.getElem?_eq_some_iff.1 hk).1 (fun e => e)).trans hk⟩
section
variable {w : World} {A : Option Addr} {N c lo : Nat} {l : List (Nat × Int)}
attribute [local go_sem] Oper.semAt_some
set_option maxHeartbeats 1000000 in
/-- slices.Backward. -/
theorem backward_any (n : Nat) (w : World) : CallsIn Fence.wide n Tryd.prog 43 #[.slice A N c] w fun e w' => e = .returned (.func (.func 45) #[] #[.pointer (some ⟨w.heap.size, 0, none⟩)]) ∧ w' = w.alloc (.cells #[.slice A N c] 22) := by
  refine callsIn_of_wp Tryd.func43 rfl trivial ?_ rfl
  simp only [Tryd.ntmps43, List.size_toArray, List.length_cons, List.length_nil, Nat.reduceAdd, Nat.reduceSub, Array.replicate_succ, Array.replicate_zero, List.push_toArray, List.append_toArray, List.nil_append, List.cons_append]
  gi_wp2
  go_ret
  exact ⟨rfl, rfl⟩
/-- Between two rounds. -/
def SpI (lo : Nat) (w : World) (A : Option Addr) (c : Nat) (l : List (Nat × Int)) (i : Nat) (m : Int) (k : Nat) (W : World) : Prop :=
  W.heap[w.heap.size]? = some (.cells #[.slice A l.length c] 22 (0, 0)) ∧ W.heap[w.heap.size + 1]? = some (.cells #[.int .u8 (i : Int)] 32 (0, 0)) ∧
  W.heap[w.heap.size + 1 + 1]? = some (.cells #[.int .i64 (spR i l m k)] 3 (0, 0)) ∧ W.heap[w.heap.size + 1 + 1 + 1]? = some (.cells #[.slice A l.length c] 22 (0, 0)) ∧
  OwS lo W (.slice A l.length c) (spL i l m k) ∧ Fr (Bk A) w W ∧ (∀ b, Bk A b → b < w.heap.size)
theorem SpI.no {i : Nat} {m : Int} {k : Nat} {W W' : World} (h : SpI lo w A c l i m k W) (hf : Fr No W W') : SpI lo w A c l i m k W' :=
  ⟨blk_no hf h.1, blk_no hf h.2.1, blk_no hf h.2.2.1, blk_no hf h.2.2.2.1, h.2.2.2.2.1.no hf, h.2.2.2.2.2.1.then_no hf, h.2.2.2.2.2.2⟩
theorem SpI.put {i : Nat} {m : Int} {k : Nat} {W : World} (h : SpI lo w A c l i m k W) {r : Nat} (hr : w.heap.size + 3 < r) (o : Obj) : SpI lo w A c l i m k (W.putObj r o) := by
  have hf : Fr (fun x => x = r) W (W.putObj r o) := Fr.grown (grownBy_putObj' W r o) (fun k e => (Option.some.inj e).symm)
  refine ⟨(World.putObj_heap_other (by omega)).trans h.1, (World.putObj_heap_other (by omega)).trans h.2.1, (World.putObj_heap_other (by omega)).trans h.2.2.1, (World.putObj_heap_other (by omega)).trans h.2.2.2.1, own_keep h.2.2.2.2.1 (fun b hb => World.putObj_heap_other (by have := h.2.2.2.2.2.2 b (Bk_of hb); omega)), ?_, h.2.2.2.2.2.2⟩
  exact h.2.2.2.2.2.1.trans hf (fun x hx e => by have e : x = r := e; omega)
def xB (l : List (Nat × Int)) (k : Nat) : Int := ((l.getD (l.length - 1 - k) (0, 0)).1 : Int)
def yB (l : List (Nat × Int)) (k : Nat) : Int := (l.getD (l.length - 1 - k) (0, 0)).2
theorem xy_at {l : List (Nat × Int)} {k j : Nat} (hj : k + 1 + j = l.length) (hjl : j < l.length) : xB l k = (l[j].1 : Int) ∧ yB l k = l[j].2 := by
  unfold xB yB
  rw [show l.length - 1 - k = j by omega, List.getD_eq_getElem?_getD, List.getElem?_eq_getElem hjl]
  exact ⟨rfl, rfl⟩
/-- Behind the assignment to the loop's variables. -/
def SpA (lo : Nat) (w : World) (A : Option Addr) (c : Nat) (l : List (Nat × Int)) (i : Nat) (m : Int) (k : Nat) (a' : Act) (W : World) : Prop :=
  ∃ Hs : Nat, w.heap.size + 5 < Hs ∧ W.heap[Hs]? = some (.cells #[.int .u8 (xB l k), .int .i64 (yB l k)] 34 (0, 0)) ∧ SpI lo w A c l i m k W ∧ a' = { tmps := #[.slice A l.length c, .int .u8 (i : Int), .int .i64 m, .pointer (some ⟨w.heap.size, 0, none⟩), .pointer (some ⟨w.heap.size + 1, 0, none⟩), .pointer (some ⟨w.heap.size + 1 + 1, 0, none⟩), .int .i64 ((l.length : Int) - 1 - (k : Int)), .pointer (some ⟨Hs, 0, none⟩), undef, .slice A l.length c, .func (.func 45) #[] #[.pointer (some ⟨w.heap.size + 1 + 1 + 1, 0, none⟩)], .int .i64 ((l.length : Int) - 1 - (k : Int)), .agg #[.int .u8 (xB l k), .int .i64 (yB l k)], undef, undef, undef, undef, undef, undef, undef, undef, undef, undef, undef, undef, undef, undef, undef, undef, undef], defers := [] }
set_option maxRecDepth 100000 in
set_option maxHeartbeats 2000000 in
theorem spend_row (ho : OwS lo w (.slice A l.length c) l) (hb : ∀ s ∈ l, 0 ≤ s.2 ∧ s.2 ≤ 16) (hN : l.length ≤ 100000) {i : Nat} {m : Int} (hm : 0 ≤ m ∧ m ≤ 9223372036854775807) :
    Calls Tryd.prog 42 #[.slice A l.length c, .int .u8 (i : Int), .int .i64 m] w fun e w' => (∃ v, e = .returned v) ∧ OwS lo w' (.slice A l.length c) (spF i l m).1 ∧ Fr (Bk A) w w' := by
  have hA : ∀ b, Bk A b → b < w.heap.size := by
    rintro b ⟨a, rfl, rfl⟩
    exact (ho.lt a.block (by simp [Value.ownBlock])).2
  refine (callsIn_wide (n := 4)).1 ?_
  refine callsIn_of_wp_marks Tryd.func42 rfl trivial ?_ rfl
  simp only [Tryd.ntmps42, List.size_toArray, List.length_cons, List.length_nil, Nat.reduceAdd, Nat.reduceSub, Array.replicate_succ, Array.replicate_zero, List.push_toArray, List.append_toArray, List.nil_append, List.cons_append]
  gi_wp2_with (refine ⟨trivial, ?_⟩; gi_at_call 43; refine (backward_any _ _).mono ?_; rintro e w' ⟨rfl, rfl⟩)
  have hsz : ((((w.alloc (Obj.cells #[.slice A l.length c] 22)).alloc (Obj.cells #[.int .u8 (i : Int)] 32)).alloc (Obj.cells #[.int .i64 m] 3)).alloc (Obj.cells #[.slice A l.length c] 22)).heap.size = w.heap.size + 4 := by simp
  have hI0 : ∀ o o', SpI lo w A c l i m 0 ((((((w.alloc (Obj.cells #[.slice A l.length c] 22)).alloc (Obj.cells #[.int .u8 (i : Int)] 32)).alloc (Obj.cells #[.int .i64 m] 3)).alloc (Obj.cells #[.slice A l.length c] 22)).alloc o).alloc o') := by
    intro o o'
    have f : ∀ W o, Fr No W (W.alloc o) := fun W o => Fr.alloc No W o
    refine ⟨?_, ?_, ?_, ?_, ?_, ?_, hA⟩
    · simp only [heap_push, World.size_alloc]; rw [if_neg (by omega), if_neg (by omega), if_neg (by omega), if_neg (by omega), if_neg (by omega), if_pos trivial]
    · simp only [heap_push, World.size_alloc]; rw [if_neg (by omega), if_neg (by omega), if_neg (by omega), if_neg (by omega), if_pos trivial]
    · simp only [heap_push, World.size_alloc]; rw [if_neg (by omega), if_neg (by omega), if_neg (by omega), if_pos trivial, sp_start.2]
    · simp only [heap_push, World.size_alloc]; rw [if_neg (by omega), if_neg (by omega), if_pos trivial]
    · rw [sp_start.1]
      exact (((((ho.no (f _ _)).no (f _ _)).no (f _ _)).no (f _ _)).no (f _ _)).no (f _ _)
    · exact (((((f _ _).no_trans (f _ _)).no_trans (f _ _)).no_trans (f _ _)).no_trans ((f _ _).no_trans (f _ _))).any
  obtain ⟨w4, hw4⟩ : ∃ w4, (((w.alloc (Obj.cells #[.slice A l.length c] 22)).alloc (Obj.cells #[.int .u8 (i : Int)] 32)).alloc (Obj.cells #[.int .i64 m] 3)).alloc (Obj.cells #[.slice A l.length c] 22) = w4 := ⟨_, rfl⟩
  rw [hw4] at hsz hI0 ⊢
  clear hw4 ho
  refine wpIn_rangeFunc_J rfl (by omega) (gf := 45) (lb := #[.pointer (some ⟨w.heap.size + 1 + 1 + 1, 0, none⟩)]) rfl trivial (enters_of Tryd.func45 (by kernel_rfl) rfl)
    (N := l.length) (ar := arB l.length (xB l) (yB l)) (fun _ => rfl) (SpI lo w A c l i m) (SpA lo w A c l i m) ?seq hI0
    (fun k W o o' h _ _ => h.put (by omega) o') (fun k a' W o o' h _ _ => ?putA) ?assign ?body ?done
  case seq =>
    intro l' J W hJI hY hJ0
    refine back_any 3 (w.heap.size + 1 + 1 + 1) (by omega) A c l' l.length (xB l) (yB l) hN J ?_ hY W hJ0
    intro k W hJ
    have h := hJI k W hJ
    refine ⟨by rw [blk_cell h.2.2.2.1]; rfl, fun j hj => ?_⟩
    have hjl : j < l.length := by omega
    obtain ⟨b, e, _, _, _, _, d0, d1, _⟩ := h.2.2.2.2.1.set j (by rw [spL_len]; exact hjl)
    rw [sp_get hj hjl] at d0 d1
    rw [(xy_at hj hjl).1, (xy_at hj hjl).2]
    exact ⟨b, 0, e, by rw [Nat.zero_add]; exact d0, by rw [Nat.zero_add]; exact d1⟩
  case putA =>
    obtain ⟨Hs, h1, h2, h3, h4⟩ := h
    exact ⟨Hs, h1, (World.putObj_heap_other (by omega)).trans h2, h3.put (by omega) o', h4⟩
  case assign =>
    intro l' k W K hi hlt hsz' hK
    gi_wp2
    exact hK _ _ (KeepsOthers.alloc W _) ⟨W.heap.size, by omega, heap_alloc_new W _, hi.no (Fr.alloc No W _), rfl⟩
  case done =>
    intro W hi hK
    gi_wp2
    refine ⟨by simp, .inl ⟨_, _, rfl, run_takeDeferred hK, ?_⟩⟩
    have h := hi.put (r := w4.heap.size) (by omega) (.deferred none)
    refine ⟨_, results_none rfl _ _ _, ⟨_, rfl⟩, ?_, h.2.2.2.2.2.1⟩
    rw [← sp_end]
    exact h.2.2.2.2.1
  case body =>
    rintro l' k a' W ⟨Hs, hHs, hS, hI, rfl⟩ hlt hsz'
    obtain ⟨j, hj⟩ : ∃ j, k + 1 + j = l.length := ⟨l.length - 1 - k, by omega⟩
    have hjl : j < l.length := by omega
    rw [(xy_at hj hjl).1, (xy_at hj hjl).2] at hS ⊢
    have hjc : (l.length : Int) - 1 - (k : Int) = (j : Int) := by omega
    rw [hjc]
    clear hjc
    have hbj := hb l[j] (List.getElem_mem hjl)
    have hr0 := spF_left i (l := l.drop (l.length - k)) (n := m) hm.1 (fun s hs => (hb s (List.mem_of_mem_drop hs)).1)
    have hyes := sp_yes (i := i) (m := m) hj hjl
    have hno := sp_no (i := i) (m := m) hj hjl
    obtain ⟨h0, h1, h2, h3, ho, hf, hbk⟩ := hI
    have hset := ho.set j (by rw [spL_len]; exact hjl)
    rw [sp_get hj hjl] at hset
    obtain ⟨s, hs⟩ : ∃ s, l[j] = s := ⟨_, rfl⟩
    rw [hs] at hbj hyes hno hS hset ⊢
    clear hs
    obtain ⟨x, y⟩ := s
    change 0 ≤ spR i l m k ∧ spR i l m k ≤ m at hr0
    obtain ⟨r, hr⟩ : ∃ r, spR i l m k = r := ⟨_, rfl⟩
    rw [hr] at hr0 hyes hno h2
    clear hr
    obtain ⟨L, hL⟩ : ∃ L, spL i l m k = L := ⟨_, rfl⟩
    have hLl : L.length = l.length := by rw [← hL, spL_len]
    rw [hL] at hyes hno ho hset
    clear hL
    obtain ⟨b, hAb, hlob, hbw, z0, z1, d0, d1, hst⟩ := hset
    subst hAb
    have hkn : ¬ ((l.length : Int) ≤ (j : Int)) := by omega
    have hk0 : ¬ ((j : Int) < 0) := by omega
    have c0 := blk_cell h0 0
    have c1 := blk_cell h1 0
    have c2 := blk_cell h2 0
    have s0 := blk_cell hS 0
    have s1 := blk_cell hS 1
    have y2 := blk_free h2 0
    simp at c0 c1 c2 s0 s1
    dsimp only at hbj hyes hno
    by_cases hxi : x = i
    · have e1 : ((x : Int) == (i : Int)) = true := by simp [hxi]
      have HY := Lib.hid (hyes hxi)
      clear hxi
      have hbne : b ≠ w.heap.size + 1 + 1 := by
        have := hbk b ⟨_, rfl, rfl⟩
        omega
      have HW : Hid (∀ W', Fr No W W' → W'.cell? ⟨w.heap.size, 0, none⟩ = some (.slice (some ⟨b, 0, none⟩) l.length c) ∧ W'.frozen? ⟨b, j * 2, none⟩ = false ∧ W'.frozen? ⟨b, j * 2 + 1, none⟩ = false ∧ W'.cell? ⟨b, j * 2, none⟩ = some (.int .u8 (x : Int)) ∧ W'.cell? ⟨b, j * 2 + 1, none⟩ = some (.int .i64 y)) := fun W' hW => by
        obtain ⟨b', e, _, _, q0, q1, _⟩ := (ho.no hW).set j (by rw [hLl]; exact hjl)
        injection e with e
        injection e with e _
        subst e
        refine ⟨(blk_cell (blk_no hW h0) 0).trans rfl, q0, q1, ?_, ?_⟩
        · exact (hW.cell hbw (fun e => e)).trans d0
        · exact (hW.cell hbw (fun e => e)).trans d1
      by_cases hry : r ≤ y
      all_goals gi_wp2
      · have hq : r = min r y := by omega
        have HL := Lib.hid (fun W' => less_any (w := W') x y r hbj (by omega))
        obtain ⟨v, hv⟩ : ∃ v, lessS (x, y) r = v := ⟨_, rfl⟩
        rw [← hq, hv] at HY
        rw [hv] at HL
        clear hv hyes hno
        obtain ⟨v0, v1⟩ := v
        dsimp only at HL
        have hdd : spR i l m (k + 1) = 0 := by rw [HY.out.2]; omega
        have FIN : Hid (∀ w5, Fr No W w5 → ((w5.setCell ⟨b, j * 2, none⟩ (.int .u8 (v0 : Int))).setCell ⟨b, j * 2 + 1, none⟩ (.int .i64 v1)).cell? ⟨w.heap.size + 1 + 1, 0, none⟩ = some (.int .i64 r) ∧
            ((w5.setCell ⟨b, j * 2, none⟩ (.int .u8 (v0 : Int))).setCell ⟨b, j * 2 + 1, none⟩ (.int .i64 v1)).frozen? ⟨w.heap.size + 1 + 1, 0, none⟩ = false ∧
            KeepsOthers W (((w5.setCell ⟨b, j * 2, none⟩ (.int .u8 (v0 : Int))).setCell ⟨b, j * 2 + 1, none⟩ (.int .i64 v1)).setCell ⟨w.heap.size + 1 + 1, 0, none⟩ (.int .i64 0)) ∧
            SpI lo w (some ⟨b, 0, none⟩) c l i m (k + 1) (((w5.setCell ⟨b, j * 2, none⟩ (.int .u8 (v0 : Int))).setCell ⟨b, j * 2 + 1, none⟩ (.int .i64 v1)).setCell ⟨w.heap.size + 1 + 1, 0, none⟩ (.int .i64 0))) := by
          intro w5 h5
          have f6 : Fr (fun i => i = b) w5 ((w5.setCell ⟨b, j * 2, none⟩ (.int .u8 (v0 : Int))).setCell ⟨b, j * 2 + 1, none⟩ (.int .i64 v1)) := (Fr.setCell (F := fun i => i = b) w5 ⟨b, j * 2, none⟩ _ rfl).trans (Fr.setCell (F := fun i => i = b) _ ⟨b, j * 2 + 1, none⟩ _ rfl) (fun _ _ e => e)
          have k6 : KeepsOthers W ((w5.setCell ⟨b, j * 2, none⟩ (.int .u8 (v0 : Int))).setCell ⟨b, j * 2 + 1, none⟩ (.int .i64 v1)) := (h5.keeps.trans (KeepsOthers.setCell _ _ _)).trans (KeepsOthers.setCell _ _ _)
          have o6 : OwS lo ((w5.setCell ⟨b, j * 2, none⟩ (.int .u8 (v0 : Int))).setCell ⟨b, j * 2 + 1, none⟩ (.int .i64 v1)) (.slice (some ⟨b, 0, none⟩) l.length c) (L.set j (v0, v1)) := by
            obtain ⟨b', e, _, _, _, _, _, _, hs⟩ := (ho.no h5).set j (by rw [hLl]; exact hjl)
            injection e with e
            injection e with e _
            subst e
            exact hs v0 v1
          generalize (w5.setCell ⟨b, j * 2, none⟩ (.int .u8 (v0 : Int))).setCell ⟨b, j * 2 + 1, none⟩ (.int .i64 v1) = W6 at *
          have hbb := hbk b ⟨_, rfl, rfl⟩
          have mv : ∀ (q : Nat) (o : Obj), b < q → W.heap[q]? = some o → W6.heap[q]? = some o := fun q o hq h => by
            have h' := blk_no h5 h
            exact (f6.block q (Array.getElem?_eq_some_iff.1 h').1 (fun e => by have e : q = b := e; omega)).trans h'
          have g2 := mv _ _ (by omega) h2
          have f7 := Fr.setCell (F := fun i => i = w.heap.size + 1 + 1) W6 ⟨w.heap.size + 1 + 1, 0, none⟩ (.int .i64 0) rfl
          have mv7 : ∀ (q : Nat) (o : Obj), q ≠ w.heap.size + 1 + 1 → W6.heap[q]? = some o → (W6.setCell ⟨w.heap.size + 1 + 1, 0, none⟩ (.int .i64 0)).heap[q]? = some o := fun q o hq h => (f7.block q (Array.getElem?_eq_some_iff.1 h).1 hq).trans h
          refine ⟨(blk_cell g2 0).trans rfl, blk_free g2 0, k6.trans (KeepsOthers.setCell _ _ _), mv7 _ _ (by omega) (mv _ _ (by omega) h0), mv7 _ _ (by omega) (mv _ _ (by omega) h1), ?_, mv7 _ _ (by omega) (mv _ _ (by omega) h3), ?_, ?_, hbk⟩
          · rw [hdd]
            exact heap_cells_set W6 _ 0 _ _ _ g2
          · rw [HY.out.1]
            exact own_keep o6 (fun q hqb => by obtain ⟨_, e, e2⟩ := Bk_of hqb; injection e with e; subst e; have e2 : b = q := e2; exact f7.block q (by rw [← e2]; exact (o6.lt b (by simp [Value.ownBlock])).2) (fun e3 => by have e3 : q = _ := e3; omega))
          · exact ((hf.then_no h5).trans f6 (fun q _ e => ⟨_, rfl, e.symm⟩)).then_new f7 (fun q e => by have e : q = _ := e; have := hf.size; have := h5.size; have := f6.size; omega)
        have hw2 : IntKind.i64.wrap (0 : Int) = 0 := IntWalk.i64_in _ (by omega)
        clear hq hbj hr0 hm d0 d1 z0 z1 y2 c1 hb hI0 hf ho h0 h1 h2 h3 hst hbk
        have hmx : Tryd.prog.follows .mixedOrders = true := by kernel_rfl
        gi_region_with_o (refine ⟨trivial, ?_⟩; gi_at_call 44; refine (CallsIn.inRound l' (callsIn_wide.2 (HL.out _))).mono ?_; rintro e w5 ⟨rfl, hf5⟩; have HF5 := Lib.hid ((Fr.drew No W).no_trans hf5); obtain ⟨c0', z0, z1, d0, d1⟩ := HW.out w5 HF5.out; clear hf5)
        all_goals
          obtain ⟨c2', y2', hfin⟩ := FIN.out _ HF5.out
          clear z0 z1 d0 d1 c0' HF5
          gi_wp2
          exact hfin
      · have hq : y = min r y := by omega
        have HL := Lib.hid (fun W' => less_any (w := W') x y y hbj (by omega))
        obtain ⟨v, hv⟩ : ∃ v, lessS (x, y) y = v := ⟨_, rfl⟩
        rw [← hq, hv] at HY
        rw [hv] at HL
        clear hv hyes hno
        obtain ⟨v0, v1⟩ := v
        dsimp only at HL
        have hdd : spR i l m (k + 1) = r - y := by rw [HY.out.2]
        have FIN : Hid (∀ w5, Fr No W w5 → ((w5.setCell ⟨b, j * 2, none⟩ (.int .u8 (v0 : Int))).setCell ⟨b, j * 2 + 1, none⟩ (.int .i64 v1)).cell? ⟨w.heap.size + 1 + 1, 0, none⟩ = some (.int .i64 r) ∧
            ((w5.setCell ⟨b, j * 2, none⟩ (.int .u8 (v0 : Int))).setCell ⟨b, j * 2 + 1, none⟩ (.int .i64 v1)).frozen? ⟨w.heap.size + 1 + 1, 0, none⟩ = false ∧
            KeepsOthers W (((w5.setCell ⟨b, j * 2, none⟩ (.int .u8 (v0 : Int))).setCell ⟨b, j * 2 + 1, none⟩ (.int .i64 v1)).setCell ⟨w.heap.size + 1 + 1, 0, none⟩ (.int .i64 (r - y))) ∧
            SpI lo w (some ⟨b, 0, none⟩) c l i m (k + 1) (((w5.setCell ⟨b, j * 2, none⟩ (.int .u8 (v0 : Int))).setCell ⟨b, j * 2 + 1, none⟩ (.int .i64 v1)).setCell ⟨w.heap.size + 1 + 1, 0, none⟩ (.int .i64 (r - y)))) := by
          intro w5 h5
          have f6 : Fr (fun i => i = b) w5 ((w5.setCell ⟨b, j * 2, none⟩ (.int .u8 (v0 : Int))).setCell ⟨b, j * 2 + 1, none⟩ (.int .i64 v1)) := (Fr.setCell (F := fun i => i = b) w5 ⟨b, j * 2, none⟩ _ rfl).trans (Fr.setCell (F := fun i => i = b) _ ⟨b, j * 2 + 1, none⟩ _ rfl) (fun _ _ e => e)
          have k6 : KeepsOthers W ((w5.setCell ⟨b, j * 2, none⟩ (.int .u8 (v0 : Int))).setCell ⟨b, j * 2 + 1, none⟩ (.int .i64 v1)) := (h5.keeps.trans (KeepsOthers.setCell _ _ _)).trans (KeepsOthers.setCell _ _ _)
          have o6 : OwS lo ((w5.setCell ⟨b, j * 2, none⟩ (.int .u8 (v0 : Int))).setCell ⟨b, j * 2 + 1, none⟩ (.int .i64 v1)) (.slice (some ⟨b, 0, none⟩) l.length c) (L.set j (v0, v1)) := by
            obtain ⟨b', e, _, _, _, _, _, _, hs⟩ := (ho.no h5).set j (by rw [hLl]; exact hjl)
            injection e with e
            injection e with e _
            subst e
            exact hs v0 v1
          generalize (w5.setCell ⟨b, j * 2, none⟩ (.int .u8 (v0 : Int))).setCell ⟨b, j * 2 + 1, none⟩ (.int .i64 v1) = W6 at *
          have hbb := hbk b ⟨_, rfl, rfl⟩
          have mv : ∀ (q : Nat) (o : Obj), b < q → W.heap[q]? = some o → W6.heap[q]? = some o := fun q o hq h => by
            have h' := blk_no h5 h
            exact (f6.block q (Array.getElem?_eq_some_iff.1 h').1 (fun e => by have e : q = b := e; omega)).trans h'
          have g2 := mv _ _ (by omega) h2
          have f7 := Fr.setCell (F := fun i => i = w.heap.size + 1 + 1) W6 ⟨w.heap.size + 1 + 1, 0, none⟩ (.int .i64 (r - y)) rfl
          have mv7 : ∀ (q : Nat) (o : Obj), q ≠ w.heap.size + 1 + 1 → W6.heap[q]? = some o → (W6.setCell ⟨w.heap.size + 1 + 1, 0, none⟩ (.int .i64 (r - y))).heap[q]? = some o := fun q o hq h => (f7.block q (Array.getElem?_eq_some_iff.1 h).1 hq).trans h
          refine ⟨(blk_cell g2 0).trans rfl, blk_free g2 0, k6.trans (KeepsOthers.setCell _ _ _), mv7 _ _ (by omega) (mv _ _ (by omega) h0), mv7 _ _ (by omega) (mv _ _ (by omega) h1), ?_, mv7 _ _ (by omega) (mv _ _ (by omega) h3), ?_, ?_, hbk⟩
          · rw [hdd]
            exact heap_cells_set W6 _ 0 _ _ _ g2
          · rw [HY.out.1]
            exact own_keep o6 (fun q hqb => by obtain ⟨_, e, e2⟩ := Bk_of hqb; injection e with e; subst e; have e2 : b = q := e2; exact f7.block q (by rw [← e2]; exact (o6.lt b (by simp [Value.ownBlock])).2) (fun e3 => by have e3 : q = _ := e3; omega))
          · exact ((hf.then_no h5).trans f6 (fun q _ e => ⟨_, rfl, e.symm⟩)).then_new f7 (fun q e => by have e : q = _ := e; have := hf.size; have := h5.size; have := f6.size; omega)
        have hw2 : IntKind.i64.wrap (r - y) = r - y := IntWalk.i64_in _ (by omega)
        clear hq hbj hr0 hm d0 d1 z0 z1 y2 c1 hb hI0 hf ho h0 h1 h2 h3 hst hbk
        have hmx : Tryd.prog.follows .mixedOrders = true := by kernel_rfl
        gi_region_with_o (refine ⟨trivial, ?_⟩; gi_at_call 44; refine (CallsIn.inRound l' (callsIn_wide.2 (HL.out _))).mono ?_; rintro e w5 ⟨rfl, hf5⟩; have HF5 := Lib.hid ((Fr.drew No W).no_trans hf5); obtain ⟨c0', z0, z1, d0, d1⟩ := HW.out w5 HF5.out; clear hf5)
        all_goals
          obtain ⟨c2', y2', hfin⟩ := FIN.out _ HF5.out
          clear z0 z1 d0 d1 c0' HF5
          gi_wp2
          exact hfin
    · have e1 : ((x : Int) == (i : Int)) = false := by
        rw [beq_eq_false_iff_ne]
        omega
      have HN := Lib.hid (hno hxi)
      clear hyes hno hxi
      gi_wp2
      exact ⟨KeepsOthers.refl _, h0, h1, by rw [HN.out.2]; exact h2, h3, by rw [HN.out.1]; exact ho, hf, hbk⟩
end
end Go.Proofs.YtmallcjhccbgdaaDoor

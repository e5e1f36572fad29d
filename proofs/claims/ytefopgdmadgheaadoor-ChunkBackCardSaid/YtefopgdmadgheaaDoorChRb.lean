/-
  A chunk as numbers, and out of numbers: plain mathematics. No statement of the seat is proved here.
-/
import Derived.Test.YtefopgdmadgheaaDoorChRa
namespace Go.Proofs.YtefopgdmadgheaaDoor
open Go.RowKit Go.Deep

/-! ### a chunk out of numbers -/
def bagV (v : Nat → Nat) (p : Nat) : List (Nat × Int) := (List.range 6).map fun s => (v (p + 2 * s), (v (p + (2 * s + 1)) : Int))
def bxV (v : Nat → Nat) : Nat → Nat → List Nat → List Bp
  | _, _, [] => []
  | p, k, i :: cs => if i = 9 then ((k : Int), bagV v p) :: bxV v (p + 12) (k + 1) cs else bxV v p (k + 1) cs
def csV (v : Nat → Nat) : List Nat := (List.range 64).map fun j => v (2 + j)
def hpV (v : Nat → Nat) (j : Nat) : Hp := ((v (67 + 3 * j) : Int), v (67 + (3 * j + 1)), (v (67 + (3 * j + 2)) : Int))
def hsV (v : Nat → Nat) (n : Nat) : List Hp := (List.range n).map (hpV v)
def ofV (v : Nat → Nat) : Ck := ⟨v 0, v 1, csV v, hsV v (v 66), bxV v (67 + 3 * v 66) 0 (csV v)⟩
/-- How many chests. -/
def nine : List Nat → Nat
  | [] => 0
  | i :: cs => if i = 9 then nine cs + 1 else nine cs
def totV (v : Nat → Nat) : Nat := 67 + 3 * v 66 + 12 * nine (csV v)
/-- A chunk's numbers, in the order in which they are written. -/
def flS (l : List (Nat × Int)) : List Nat := l.flatMap fun s => [s.1, s.2.toNat]
def flH (l : List Hp) : List Nat := l.flatMap fun h => [h.1.toNat, h.2.1, h.2.2.toNat]
def flB (l : List Bp) : List Nat := l.flatMap fun b => flS b.2
def numsOf (d : Ck) : List Nat := d.x.toNat :: d.y.toNat :: (d.cs ++ (d.hs.length :: (flH d.hs ++ flB d.bs)))
theorem rng (v : Nat → Nat) (a b : Nat) : (List.range (a + b)).map v = (List.range a).map v ++ (List.range b).map (fun i => v (a + i)) := by
  rw [List.range_add, List.map_append, List.map_map]
  rfl
theorem bag_flat (v : Nat → Nat) (p : Nat) : flS (bagV v p) = (List.range 12).map (fun i => v (p + i)) := rfl
theorem bx_flat (v : Nat → Nat) : ∀ (cs : List Nat) (p k : Nat), flB (bxV v p k cs) = (List.range (12 * nine cs)).map (fun i => v (p + i))
  | [], _, _ => rfl
  | i :: cs, p, k => by
    by_cases h : i = 9
    · have e1 : bxV v p k (i :: cs) = ((k : Int), bagV v p) :: bxV v (p + 12) (k + 1) cs := by
        show (if i = 9 then ((k : Int), bagV v p) :: bxV v (p + 12) (k + 1) cs else bxV v p (k + 1) cs) = _
        rw [if_pos h]
      have e2 : nine (i :: cs) = nine cs + 1 := by
        show (if i = 9 then nine cs + 1 else nine cs) = _
        rw [if_pos h]
      rw [e1, e2, show 12 * (nine cs + 1) = 12 + 12 * nine cs by omega, rng]
      show flS (bagV v p) ++ flB (bxV v (p + 12) (k + 1) cs) = _
      rw [bag_flat, bx_flat v cs]
      congr 1
      apply List.map_congr_left
      intro j _
      rw [Nat.add_assoc]
    · have e1 : bxV v p k (i :: cs) = bxV v p (k + 1) cs := by
        show (if i = 9 then ((k : Int), bagV v p) :: bxV v (p + 12) (k + 1) cs else bxV v p (k + 1) cs) = _
        rw [if_neg h]
      have e2 : nine (i :: cs) = nine cs := by
        show (if i = 9 then nine cs + 1 else nine cs) = _
        rw [if_neg h]
      rw [e1, e2, bx_flat v cs]
theorem hs_flat (v : Nat → Nat) : ∀ n, flH (hsV v n) = (List.range (3 * n)).map (fun i => v (67 + i))
  | 0 => rfl
  | n + 1 => by
    have ih := hs_flat v n
    unfold hsV flH at *
    rw [List.range_succ, List.map_append, List.flatMap_append, ih, show 3 * (n + 1) = 3 * n + 3 by omega, rng]
    rfl
theorem hsV_len (v : Nat → Nat) (n : Nat) : (hsV v n).length = n := by simp [hsV]
theorem csV_len (v : Nat → Nat) : (csV v).length = 64 := by simp [csV]
theorem nums_ofV (v : Nat → Nat) : numsOf (ofV v) = (List.range (totV v)).map v := by
  have e : totV v = 2 + (64 + (1 + (3 * v 66 + 12 * nine (csV v)))) := by unfold totV; omega
  rw [e, rng, rng, rng, rng]
  show (v 0 : Int).toNat :: (v 1 : Int).toNat :: (csV v ++ ((hsV v (v 66)).length :: (flH (hsV v (v 66)) ++ flB (bxV v (67 + 3 * v 66) 0 (csV v))))) = _
  rw [hsV_len, hs_flat, bx_flat]
  have a1 : (List.range 2).map v = [v 0, v 1] := rfl
  have a2 : (List.range 1).map (fun i => v (2 + (64 + i))) = [v 66] := rfl
  have a3 : (List.range (3 * v 66)).map (fun i => v (2 + (64 + (1 + i)))) = (List.range (3 * v 66)).map (fun i => v (67 + i)) := by
    apply List.map_congr_left
    intro j _
    congr 1
    omega
  have a4 : (List.range (12 * nine (csV v))).map (fun i => v (2 + (64 + (1 + (3 * v 66 + i))))) = (List.range (12 * nine (csV v))).map (fun i => v (67 + 3 * v 66 + i)) := by
    apply List.map_congr_left
    intro j _
    congr 1
    omega
  rw [a1, a2, a3, a4]
  rfl
/-! ### and back -/
theorem bag_of : ∀ (l : List (Nat × Int)) (v : Nat → Nat), (∀ s ∈ l, 0 ≤ s.2) → (∀ j x, (flS l)[j]? = some x → v j = x) → (List.range l.length).map (fun s => (v (2 * s), (v (2 * s + 1) : Int))) = l
  | [], _, _, _ => rfl
  | s :: l, v, h0, h => by
    have h1 := h 0 s.1 rfl
    have h2 := h 1 s.2.toNat rfl
    have ih := bag_of l (fun i => v (2 + i)) (fun s hs => h0 s (List.mem_cons_of_mem _ hs)) (fun j x hj => by
      refine h (2 + j) x ?_
      rw [Nat.add_comm]
      exact hj)
    have hs := h0 s (List.mem_cons_self ..)
    rw [List.length_cons, List.range_succ_eq_map, List.map_cons, List.map_map]
    have e1 : (v (2 * 0), ((v (2 * 0 + 1) : Nat) : Int)) = s := by
      show (v 0, ((v 1 : Nat) : Int)) = s
      rw [h1, h2, Int.toNat_of_nonneg hs]
    rw [e1]
    congr 1
    conv => rhs; rw [← ih]
    apply List.map_congr_left
    intro j _
    show (v (2 * (j + 1)), ((v (2 * (j + 1) + 1) : Nat) : Int)) = (v (2 + 2 * j), ((v (2 + (2 * j + 1)) : Nat) : Int))
    rw [show 2 * (j + 1) = 2 + 2 * j by omega, show 2 + 2 * j + 1 = 2 + (2 * j + 1) by omega]
theorem hs_of : ∀ (l : List Hp) (v : Nat → Nat), (∀ s ∈ l, 0 ≤ s.1 ∧ 0 ≤ s.2.2) → (∀ j x, (flH l)[j]? = some x → v j = x) → (List.range l.length).map (fun s => ((v (3 * s) : Int), v (3 * s + 1), (v (3 * s + 2) : Int))) = l
  | [], _, _, _ => rfl
  | s :: l, v, h0, h => by
    have h1 := h 0 s.1.toNat rfl
    have h2 := h 1 s.2.1 rfl
    have h3 := h 2 s.2.2.toNat rfl
    have ih := hs_of l (fun i => v (3 + i)) (fun s hs => h0 s (List.mem_cons_of_mem _ hs)) (fun j x hj => by
      refine h (3 + j) x ?_
      rw [Nat.add_comm]
      exact hj)
    obtain ⟨hs1, hs2⟩ := h0 s (List.mem_cons_self ..)
    rw [List.length_cons, List.range_succ_eq_map, List.map_cons, List.map_map]
    have e1 : (((v (3 * 0) : Nat) : Int), v (3 * 0 + 1), ((v (3 * 0 + 2) : Nat) : Int)) = s := by
      show (((v 0 : Nat) : Int), v 1, ((v 2 : Nat) : Int)) = s
      rw [h1, h2, h3, Int.toNat_of_nonneg hs1, Int.toNat_of_nonneg hs2]
    rw [e1]
    congr 1
    conv => rhs; rw [← ih]
    apply List.map_congr_left
    intro j _
    show (((v (3 * (j + 1)) : Nat) : Int), v (3 * (j + 1) + 1), ((v (3 * (j + 1) + 2) : Nat) : Int)) = (((v (3 + 3 * j) : Nat) : Int), v (3 + (3 * j + 1)), ((v (3 + (3 * j + 2)) : Nat) : Int))
    rw [show 3 * (j + 1) = 3 + 3 * j by omega, show 3 + 3 * j + 1 = 3 + (3 * j + 1) by omega, show 3 + 3 * j + 2 = 3 + (3 * j + 2) by omega]
theorem rgt_pos {l : List (Nat × Int)} (h : rgt l = true) : ∀ s ∈ l, 0 ≤ s.2 := by
  intro s hs
  unfold rgt at h
  rw [List.all_eq_true] at h
  have := h s hs
  unfold wrg at this
  by_cases e : s.2 < 1
  · have e2 : s.2 = 0 := by
      by_cases e3 : s.2 = 0
      · exact e3
      · simp [e, e3] at this
    omega
  · omega
theorem bxV_of (v : Nat → Nat) : ∀ (cs : List Nat) (bs : List Bp) (p k : Nat), bxC k cs bs = true → (∀ j x, (flB bs)[j]? = some x → v (p + j) = x) → bxV v p k cs = bs
  | [], bs, p, k, h, _ => by
    unfold bxC at h
    rw [List.isEmpty_iff] at h
    rw [h]
    rfl
  | i :: cs, bs, p, k, h, hv => by
    by_cases e : i = 9
    · have e1 : bxV v p k (i :: cs) = ((k : Int), bagV v p) :: bxV v (p + 12) (k + 1) cs := by
        show (if i = 9 then ((k : Int), bagV v p) :: bxV v (p + 12) (k + 1) cs else bxV v p (k + 1) cs) = _
        rw [if_pos e]
      unfold bxC at h
      rw [if_pos e] at h
      cases bs with
      | nil => cases h
      | cons b r =>
        simp only [Bool.and_eq_true, beq_iff_eq] at h
        obtain ⟨⟨h1, h2, h3⟩, h4⟩ := h
        have hl : (flS b.2).length = 12 := by
          have : ∀ l : List (Nat × Int), (flS l).length = 2 * l.length := fun l => by
            induction l with
            | nil => rfl
            | cons s l ih =>
              show (flS l).length + 2 = 2 * (l.length + 1)
              omega
          rw [this, h2]
        have hbag : bagV v p = b.2 := by
          have := bag_of b.2 (fun i => v (p + i)) (rgt_pos h3) (fun j x hj => hv j x (by
            show (flS b.2 ++ flB r)[j]? = some x
            rw [List.getElem?_append_left (List.getElem?_eq_some_iff.1 hj).1]
            exact hj))
          rw [h2] at this
          exact this
        have ih := bxV_of v cs r (p + 12) (k + 1) h4 (fun j x hj => by
          have := hv (12 + j) x (by
            show (flS b.2 ++ flB r)[12 + j]? = some x
            rw [List.getElem?_append_right (by omega), hl, Nat.add_sub_cancel_left]
            exact hj)
          rw [← this, Nat.add_assoc])
        rw [e1, ih, hbag]
        congr 1
        exact Prod.ext h1.symm rfl
    · have e1 : bxV v p k (i :: cs) = bxV v p (k + 1) cs := by
        show (if i = 9 then ((k : Int), bagV v p) :: bxV v (p + 12) (k + 1) cs else bxV v p (k + 1) cs) = _
        rw [if_neg e]
      unfold bxC at h
      rw [if_neg e] at h
      rw [e1]
      exact bxV_of v cs bs p (k + 1) h hv
theorem hpC_pos {h : Hp} (hh : hpC h = true) : 0 ≤ h.1 ∧ h.1 < 64 ∧ 1 ≤ h.2.2 ∧ h.2.2 ≤ stI h.2.1 := by
  unfold hpC plcC someC at hh
  simp only [Bool.and_eq_true, decide_eq_true_eq] at hh
  exact ⟨hh.1.1, hh.1.2, hh.2.1, hh.2.2⟩
theorem flH_len (l : List Hp) : (flH l).length = 3 * l.length := by
  induction l with
  | nil => rfl
  | cons s l ih =>
    show (flH l).length + 3 = 3 * (l.length + 1)
    omega
/-- A right chunk is made of its numbers. -/
theorem ofV_of {d : Ck} (hr : rgtC d = true) (v : Nat → Nat) (hv : ∀ j x, (numsOf d)[j]? = some x → v j = x) : ofV v = d := by
  have r := rgt_iff.1 hr
  obtain ⟨x, y, cs, hs, bs⟩ := d
  have hx := r.x0
  have hy := r.y0
  have hcl : cs.length = 64 := r.cl
  have hm := r.hm
  dsimp only at hx hy hm
  have hb : bxC 0 cs bs = true := by
    unfold rgtC at hr
    simp only [Bool.and_eq_true] at hr
    exact hr.2
  have h0 : v 0 = x.toNat := hv 0 _ rfl
  have h1 : v 1 = y.toNat := hv 1 _ rfl
  have hc : csV v = cs := by
    apply List.ext_getElem (by rw [csV_len, hcl])
    intro j hj1 hj2
    have := hv (2 + j) cs[j] (by
      rw [Nat.add_comm]
      show (cs ++ _)[j]? = _
      rw [List.getElem?_append_left hj2]
      exact List.getElem?_eq_getElem hj2)
    rw [← this]
    simp [csV]
  have hk : v 66 = hs.length := hv 66 _ (by
    show (cs ++ (hs.length :: (flH hs ++ flB bs)))[64]? = _
    rw [List.getElem?_append_right (by omega), hcl]
    rfl)
  have hh : hsV v hs.length = hs := by
    have := hs_of hs (fun i => v (67 + i)) (fun s hs => ⟨(hpC_pos (hm s hs)).1, by have := (hpC_pos (hm s hs)).2.2.1; omega⟩) (fun j x hj => hv (67 + j) x (by
      rw [show 67 + j = (65 + j) + 2 by omega]
      show (cs ++ (hs.length :: (flH hs ++ flB bs)))[65 + j]? = _
      rw [List.getElem?_append_right (by omega), hcl, show 65 + j - 64 = j + 1 by omega]
      show (flH hs ++ flB bs)[j]? = _
      rw [List.getElem?_append_left (List.getElem?_eq_some_iff.1 hj).1]
      exact hj))
    exact this
  have hbx : bxV v (67 + 3 * hs.length) 0 cs = bs := bxV_of v cs bs _ 0 hb (fun j x hj => hv (67 + 3 * hs.length + j) x (by
    rw [show 67 + 3 * hs.length + j = (65 + 3 * hs.length + j) + 2 by omega]
    show (cs ++ (hs.length :: (flH hs ++ flB bs)))[65 + 3 * hs.length + j]? = _
    rw [List.getElem?_append_right (by omega), hcl, show 65 + 3 * hs.length + j - 64 = (3 * hs.length + j) + 1 by omega]
    show (flH hs ++ flB bs)[3 * hs.length + j]? = _
    rw [List.getElem?_append_right (by rw [flH_len]; omega), flH_len, Nat.add_sub_cancel_left]
    exact hj))
  unfold ofV
  rw [hc, hk, hh, hbx, h0, h1, Int.toNat_of_nonneg hx, Int.toNat_of_nonneg hy]
/-! ### bytes -/
theorem stI_in (i : Nat) : stI i ≤ 16 ∧ (1 ≤ stI i → i < 13) := by
  by_cases h : i < 13
  · refine ⟨?_, fun _ => h⟩
    have : ∀ j : Fin 13, stI j.val ≤ 16 := by decide
    exact this ⟨i, h⟩
  · have e : stI i = 0 := by
      unfold stI
      rw [List.getD_eq_getElem?_getD, List.getElem?_eq_none (by simpa using Nat.le_of_not_lt h)]
      rfl
    rw [e]
    exact ⟨by decide, fun h => by omega⟩
theorem mayC_lt {i : Nat} (h : mayC i = true) : i < 13 := by
  by_cases hi : i < 13
  · exact hi
  · have e : blI i = false := by
      unfold blI
      rw [List.getD_eq_getElem?_getD, List.getElem?_eq_none (by simpa using Nat.le_of_not_lt hi)]
      rfl
    unfold mayC at h
    rw [e] at h
    simp at h
    omega
theorem slot_in {s : Nat × Int} (h : wrg s = false) : s.1 < 256 → s.1 ≤ 255 ∧ s.2.toNat ≤ 255 := by
  intro h1
  unfold wrg at h
  refine ⟨by omega, ?_⟩
  by_cases e : s.2 < 1
  · omega
  · have h2 : s.2 ≤ stI s.1 := by
      by_cases e2 : stI s.1 < s.2
      · have e3 : ¬ s.2 = 0 := by omega
        simp [e2, e3] at h
      · omega
    have := (stI_in s.1).1
    omega
theorem csB_nums : ∀ (cs : List Nat), (∀ i ∈ cs, i < 128) → csB cs = cs.flatMap varint
  | [], _ => rfl
  | i :: cs, h => by
    have ih := csB_nums cs (fun j hj => h j (List.mem_cons_of_mem _ hj))
    rw [List.flatMap_cons, ← ih, varint_small (h i (List.mem_cons_self ..))]
    rfl
theorem bgB_nums : ∀ (l : List (Nat × Int)), bgB l = (flS l).flatMap varint
  | [] => rfl
  | s :: l => by
    have ih := bgB_nums l
    show slB s ++ bgB l = (s.1 :: s.2.toNat :: flS l).flatMap varint
    rw [List.flatMap_cons, List.flatMap_cons, ← ih, ← List.append_assoc]
    rfl
theorem hpB_nums : ∀ (l : List Hp), l.flatMap hpB = (flH l).flatMap varint
  | [] => rfl
  | s :: l => by
    have ih := hpB_nums l
    show hpB s ++ l.flatMap hpB = (s.1.toNat :: s.2.1 :: s.2.2.toNat :: flH l).flatMap varint
    rw [List.flatMap_cons, List.flatMap_cons, List.flatMap_cons, ← ih, ← List.append_assoc, ← List.append_assoc]
    show varint s.1.toNat ++ slB s.2 ++ l.flatMap hpB = _
    unfold slB
    rw [← List.append_assoc]
theorem bxB_nums : ∀ (l : List Bp), l.flatMap (fun b => bgB b.2) = (flB l).flatMap varint
  | [] => rfl
  | b :: l => by
    have ih := bxB_nums l
    show bgB b.2 ++ l.flatMap (fun b => bgB b.2) = (flS b.2 ++ flB l).flatMap varint
    rw [List.flatMap_append, ← ih, ← bgB_nums]
theorem ckB_nums {d : Ck} (hr : rgtC d = true) : ckB d = (numsOf d).flatMap varint := by
  have r := rgt_iff.1 hr
  unfold ckB numsOf
  rw [List.flatMap_cons, List.flatMap_cons, List.flatMap_append, List.flatMap_cons, List.flatMap_append, ← csB_nums d.cs (fun i hi => by have := mayC_lt (r.cm i hi); omega), ← hpB_nums, ← bxB_nums]
theorem nums_le {d : Ck} (hr : rgtC d = true) (hb : ByC d) : ∀ n ∈ numsOf d, n ≤ 255 := by
  have r := rgt_iff.1 hr
  intro n hn
  unfold numsOf at hn
  simp only [List.mem_cons, List.mem_append] at hn
  rcases hn with rfl | rfl | hn | rfl | hn | hn
  · have := r.x1; omega
  · have := r.y1; omega
  · have := mayC_lt (r.cm n hn); omega
  · have := r.hl; omega
  · unfold flH at hn
    obtain ⟨h, hh, hn⟩ := List.mem_flatMap.1 hn
    have hp := hpC_pos (r.hm h hh)
    have h1 := stI_in h.2.1
    have h2 := h1.2 (by omega)
    simp only [List.mem_cons, List.not_mem_nil, or_false] at hn
    rcases hn with rfl | rfl | rfl <;> omega
  · unfold flB at hn
    obtain ⟨b, hb', hn⟩ := List.mem_flatMap.1 hn
    unfold flS at hn
    obtain ⟨s, hs, hn⟩ := List.mem_flatMap.1 hn
    have hq := (r.br b hb').2
    unfold rgt at hq
    rw [List.all_eq_true] at hq
    have h1 := slot_in (s := s) (by simpa using hq s hs) (hb.b3 b hb' s hs)
    simp only [List.mem_cons, List.not_mem_nil, or_false] at hn
    rcases hn with rfl | rfl
    · exact h1.1
    · exact h1.2
/-! ### read of any bytes -/
/-- What is read of bytes: whether it is a right chunk's, and which one. -/
def rdOk (l : List UInt8) : Bool := !(stN l (totV (vN l))).2 && ((stN l (totV (vN l))).1 == l.length) && rgtC (ofV (vN l))
theorem rd_bytes {l : List UInt8} (h : rdOk l = true) : ckB (ofV (vN l)) = l := by
  unfold rdOk at h
  simp only [Bool.and_eq_true, Bool.not_eq_true', beq_iff_eq] at h
  obtain ⟨⟨h1, h2⟩, h3⟩ := h
  rw [ckB_nums h3, nums_ofV, ← stN_tells l _ h1, h2, List.take_length]
theorem bytes_rd {d : Ck} (hr : rgtC d = true) (hb : ByC d) : rdOk (ckB d) = true ∧ ofV (vN (ckB d)) = d := by
  have hle := nums_le hr hb
  have e : ofV (vN (ckB d)) = d := ofV_of hr _ (fun j x hj => by
    obtain ⟨hj1, hj2⟩ := List.getElem?_eq_some_iff.1 hj
    rw [ckB_nums hr, vN_of _ hle j hj1, hj2])
  have ht : totV (vN (ckB d)) = (numsOf d).length := by
    have := congrArg List.length (nums_ofV (vN (ckB d)))
    rw [e] at this
    simpa using this.symm
  have hs := stN_of (numsOf d) hle (numsOf d).length (Nat.le_refl _)
  rw [← ckB_nums hr, List.take_length, ← ckB_nums hr] at hs
  refine ⟨?_, e⟩
  unfold rdOk
  rw [ht, hs, e, hr]
  simp
theorem ofV_byv (v : Nat → Nat) (hle : ∀ i, v i ≤ 255) : ByC (ofV v) := by
  refine ⟨?_, ?_, ?_⟩
  · intro i hi
    unfold ofV csV at hi
    obtain ⟨j, _, rfl⟩ := List.mem_map.1 hi
    have := hle (2 + j)
    omega
  · intro h hh
    have hh' : h ∈ hsV v (v 66) := hh
    clear hh
    unfold hsV at hh'
    obtain ⟨j, _, rfl⟩ := List.mem_map.1 hh'
    exact Nat.lt_succ_of_le (hle (67 + (3 * j + 1)))
  · have : ∀ (cs : List Nat) (p k : Nat), ∀ b ∈ bxV v p k cs, By b.2 := by
      intro cs
      induction cs with
      | nil => intro p k b hb; cases hb
      | cons i cs ih =>
        intro p k b hb
        by_cases e : i = 9
        · have e1 : bxV v p k (i :: cs) = ((k : Int), bagV v p) :: bxV v (p + 12) (k + 1) cs := by
            show (if i = 9 then ((k : Int), bagV v p) :: bxV v (p + 12) (k + 1) cs else bxV v p (k + 1) cs) = _
            rw [if_pos e]
          rw [e1] at hb
          rcases List.mem_cons.1 hb with rfl | hb
          · intro s hs
            unfold bagV at hs
            obtain ⟨j, _, rfl⟩ := List.mem_map.1 hs
            have := hle (p + 2 * j)
            show v (p + 2 * j) < 256
            omega
          · exact ih _ _ b hb
        · have e1 : bxV v p k (i :: cs) = bxV v p (k + 1) cs := by
            show (if i = 9 then ((k : Int), bagV v p) :: bxV v (p + 12) (k + 1) cs else bxV v p (k + 1) cs) = _
            rw [if_neg e]
          rw [e1] at hb
          exact ih _ _ b hb
    exact this _ _ _
theorem ofV_by (l : List UInt8) : ByC (ofV (vN l)) := ofV_byv _ (vN_le l)
end Go.Proofs.YtefopgdmadgheaaDoor

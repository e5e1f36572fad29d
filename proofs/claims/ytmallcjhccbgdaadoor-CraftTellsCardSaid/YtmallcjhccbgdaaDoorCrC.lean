/-
  Rows of whole numbers; craft.Can; two such rows held against one another. No statement of the seat is proved here.
-/
import Derived.Test.YtmallcjhccbgdaaDoorCrB
import Derived.Deep.AppendLies
namespace Go.Proofs.YtmallcjhccbgdaaDoor
open Go.RowKit Go.Deep

set_option maxRecDepth 100000 in
theorem info_int : (Tryd.prog.info? 3).map (fun i => (i.zero, i.size, i.bytes)) = some (some (.int .i64 0), 1, 8) := by kernel_rfl
def ivI (l : List Int) : List Value := l.map (Value.int .i64)
/-- A slice of whole numbers of the call's own, from block lo on. -/
def OwI (lo : Nat) (w : World) (v : Value) (l : List Int) : Prop := w.ownsRow lo 3 1 v l.length (ivI l)
/-- What a slice of whole numbers reads as. -/
def RdI (W : World) (A : Option Addr) (n : Nat) (l : List Int) : Prop :=
  l.length = n ∧ (0 < n → ∃ b o, A = some ⟨b, o, none⟩ ∧ b < W.heap.size ∧ ∀ j (h : j < l.length), W.cell? ⟨b, o + j, none⟩ = some (.int .i64 l[j]))
section
variable {lo : Nat} {w w' : World} {v : Value} {A B : Option Addr} {n c : Nat} {l : List Int}
theorem OwI.nil (lo : Nat) (w : World) : OwI lo w (.slice none 0 0) [] := World.ownsRow_nil _ _ _ _
theorem OwI.sl (h : OwI lo w v l) : ∃ A c, v = .slice A l.length c ∧ l.length ≤ c := by
  rcases h.2 with ⟨rfl, e0⟩ | ⟨G, cap, cur, rfl, _, _, hc, _⟩
  · exact ⟨none, 0, by rw [e0], by omega⟩
  · exact ⟨_, _, rfl, hc⟩
theorem OwI.no (h : OwI lo w v l) (hf : Fr No w w') : OwI lo w' v l := own_keep h (fun k hk => hf.block k (h.lt k hk).2 (fun e => e))
theorem OwI.rd (h : OwI lo w (.slice A n c) l) : RdI w A n l := by
  rcases h.2 with ⟨hv, h0⟩ | ⟨g, cap, cur, hv, _, hh, hnc, _, hsz, htk⟩
  · injection hv with e1 e2
    subst e1 e2
    exact ⟨h0, fun hn => absurd hn (by omega)⟩
  · injection hv with e1 e2 e3
    subst e1 e2 e3
    refine ⟨rfl, fun hn => ⟨g, 0, rfl, (Array.getElem?_eq_some_iff.1 hh).1, fun j hj => ?_⟩⟩
    rw [blk_cell hh, Nat.zero_add, ← Array.getElem?_toList]
    have q : (ivI l)[j]? = some (.int .i64 l[j]) := by unfold ivI; rw [List.getElem?_map, List.getElem?_eq_getElem hj]; rfl
    rw [← htk, List.getElem?_take, if_pos (by omega)] at q
    exact q
theorem RdI.nil (w : World) (A : Option Addr) : RdI w A 0 [] := ⟨rfl, fun h => absurd h (by omega)⟩
theorem RdI.no (h : RdI w A n l) (hf : Fr No w w') : RdI w' A n l := by
  refine ⟨h.1, fun hn => ?_⟩
  obtain ⟨b, o, e, hb, hc⟩ := h.2 hn
  exact ⟨b, o, e, by have := hf.size; omega, fun j hj => (hf.cell (p := ⟨b, o + j, none⟩) hb (fun e => e)).trans (hc j hj)⟩
theorem RdI.blk {b : Nat} {t : TypeId} {fr : Nat × Nat} (h : w.heap[b]? = some (.cells (ivI l).toArray t fr)) : RdI w (some ⟨b, 0, none⟩) l.length l := by
  refine ⟨rfl, fun _ => ⟨b, 0, rfl, (Array.getElem?_eq_some_iff.1 h).1, fun j hj => ?_⟩⟩
  rw [blk_cell h, Nat.zero_add, List.getElem?_toArray]
  unfold ivI
  rw [List.getElem?_map, List.getElem?_eq_getElem hj]
  rfl
set_option maxRecDepth 100000 in
/-- A number appended to a row of the call's own. -/
theorem wpList_append_i (wr : World) {ops : Array Oper} {rest : List Oper} {o : Oper} {a : Act} {Q : Exit → Act → World → Prop} (hgd : o.guard = none) (s x : Operand)
    (ho : o.op = .call { callee := .builtin .append, args := #[s, x], argTypes := #[29, 29] })
    {lo : Nat} {v : Value} {es : List Int} (hs : a.eval s = v) (hown : OwI lo wr v es) (z : Int) (hx : a.eval x = .slice (some ⟨wr.heap.size, 0, none⟩) 1 1) (hlen : es.length ≤ 100000) (hbase : lo ≤ wr.heap.size)
    (h : ∀ v' w', OwI lo w' v' (es ++ [z]) → Fr (fun k => lo ≤ k) wr w' → wpList Tryd.prog ops Q rest (a.put o.dst v') w') :
    wpList Tryd.prog ops Q (o :: rest) a (wr.alloc (.cells #[.int .i64 z] 3)) := by
  obtain ⟨i0, hi, hz0, hz1, hz2⟩ := info_parts info_int
  have hA : OwI lo (wr.alloc (.cells #[.int .i64 z] 3)) v es := hown.no (Fr.alloc No _ _)
  refine wpList_append_lies _ hgd s x 29 ho lo 3 i0 _ 1 8 Tryd.underlying29 hi hz0 hz1 hz2 rfl (by omega) v es.length (ivI es) hs hA ⟨wr.heap.size, 0, none⟩ 1 1 [.int .i64 z] hx rfl (fun j u hu => by
    rw [Addr.add_lit, Nat.zero_add, World.cell?_alloc_mark, List.getElem?_toArray]
    exact hu) (fun u hu => by simp at hu; subst hu; rfl) (by omega) (by unfold maxLen; omega) (by omega) (by rw [World.size_alloc]; omega) _ rfl ?_
  intro g cap w' ho' hg hat _
  refine h _ w' ?_ ?_
  · have e : ivI (es ++ [z]) = ivI es ++ [.int .i64 z] := by simp [ivI]
    unfold OwI
    rw [e, List.length_append]
    exact ho'
  · exact (Fr.alloc (fun k => lo ≤ k) wr _).trans (Fr.grown hg (fun k hk => (hA.lt k hk).1)) (fun _ _ e => e)
end
/-- The numbers below k that p tells, rising. -/
def canF (p : Nat → Bool) : Nat → List Int
  | 0 => []
  | k + 1 => canF p k ++ (if p k = true then [(k : Int)] else [])
/-- What can be made. -/
def canL (l : List (Nat × Int)) : List Int := canF (fun k => MakeE l k == 0) 7
theorem canF_len (p : Nat → Bool) (k : Nat) : (canF p k).length ≤ k := by
  induction k with
  | zero => exact Nat.le_refl _
  | succ k ih => unfold canF; rw [List.length_append]; split <;> simp <;> omega
theorem canF_parts (p : Nat → Bool) (j N : Nat) (h : j ≤ N) : ∃ tl, canF p N = canF p j ++ tl ∧ ∀ x ∈ tl, (j : Int) ≤ x := by
  induction N with
  | zero => obtain rfl : j = 0 := by omega
            exact ⟨[], by simp, by simp⟩
  | succ N ih =>
    by_cases e : j = N + 1
    · subst e; exact ⟨[], by simp, by simp⟩
    · obtain ⟨tl, h1, h2⟩ := ih (by omega)
      refine ⟨tl ++ (if p N = true then [(N : Int)] else []), by conv => lhs; unfold canF
                                                                 rw [h1, List.append_assoc], fun x hx => ?_⟩
      rcases List.mem_append.1 hx with hx | hx
      · exact h2 x hx
      · split at hx
        · simp at hx; omega
        · simp at hx
theorem canF_at (p : Nat → Bool) (j N : Nat) (h : j < N) : (p j = true → (canF p N)[(canF p j).length]? = some (j : Int) ∧ (canF p (j + 1)).length = (canF p j).length + 1) ∧ (p j = false → (canF p N)[(canF p j).length]? ≠ some (j : Int) ∧ (canF p (j + 1)).length = (canF p j).length) := by
  obtain ⟨tl, h1, h2⟩ := canF_parts p (j + 1) N h
  have e : canF p (j + 1) = canF p j ++ (if p j = true then [(j : Int)] else []) := rfl
  constructor
  · intro hp
    rw [if_pos hp] at e
    rw [h1, e, List.append_assoc, List.getElem?_append_right (Nat.le_refl _), Nat.sub_self]
    exact ⟨rfl, by simp⟩
  · intro hp
    rw [if_neg (by rw [hp]; simp), List.append_nil] at e
    rw [h1, e, List.getElem?_append_right (Nat.le_refl _), Nat.sub_self]
    refine ⟨fun hh => ?_, rfl⟩
    have := h2 _ (List.mem_of_getElem? hh)
    omega
section
variable {w w' : World} {A B : Option Addr} {n c lo : Nat} {l : List (Nat × Int)}
set_option maxRecDepth 100000 in
set_option maxHeartbeats 1600000 in
theorem Can_any (ht : ItT w) (hx : RdS w A n l) (hb : By l) (c : Nat) (hn : n ≤ 100000) :
    Calls Tryd.prog 9 #[.slice A n c] w fun e w' => ∃ A' c', e = .returned (.slice A' (canL l).length c') ∧ OwI w.heap.size w' (.slice A' (canL l).length c') (canL l) ∧ Fr No w w' := by
  have HM := Lib.hid (fun W (hW : Fr No w W) => Make_any (ht.no hW) (hx.no hW) hb c hn)
  have HRC : Hid (∀ W, Calls Tryd.prog 24 #[] W fun e w' => e = .returned (.int .i64 7) ∧ Fr No W w') := fun _ => recipes_any
  obtain ⟨p, hp⟩ : ∃ p, (fun k : Nat => MakeE l k == 0) = p := ⟨_, rfl⟩
  have HP : Hid (∀ k : Nat, p k = (MakeE l k == 0)) := Lib.hid fun k => by rw [← hp]
  have hcl : canL l = canF p 7 := by unfold canL; rw [hp]
  rw [hcl]
  clear ht hx hb hp hcl
  go_enter Tryd.func9, Tryd.ntmps9
  go_wp2_with fail
  refine (HRC.out _).mono ?_
  rintro e w1 ⟨rfl, hf⟩
  have HF1 := Lib.hid hf
  clear hf HRC
  go_wp2_with fail
  go_loopw [3, 8] (fun v3 v8 wr => ∃ (k : Nat), k ≤ 7 ∧ v8 = .int .i64 (k : Int) ∧ OwI w.heap.size wr v3 (canF p k) ∧ Fr No w wr) (fun _ v8 _ => 7 - (intOf v8).toNat)
  case atStart => exact ⟨0, by omega, rfl, OwI.nil _ _, HF1.out⟩
  case round =>
    obtain ⟨k, hk, rfl, ho, hf⟩ := hrel
    have HF := Lib.hid hf
    have HO := Lib.hid ho
    clear hf ho
    by_cases hlt : k < 7
    · have hwk : IntKind.i64.wrap ((k : Int) + 1) = ((k + 1 : Nat) : Int) := by
        rw [show ((k : Int) + 1) = ((k + 1 : Nat) : Int) by omega]
        exact IntWalk.i64_in _ (by omega)
      have C1 := Lib.hid (HM.out _ HF.out (k : Int))
      obtain ⟨E, hE⟩ : ∃ E, MakeE l (k : Int) = E := ⟨_, rfl⟩
      have hpk := HP.out k
      rw [hE] at C1 hpk
      have hst : canF p (k + 1) = canF p k ++ (if p k = true then [(k : Int)] else []) := rfl
      rw [hpk] at hst
      have hln := canF_len p k
      have hbs := HF.out.size
      clear hE hpk
      go_wp2_with fail
      refine C1.out.mono ?_
      rintro e w2 ⟨A', c', rfl, _, hf⟩
      have HF2 := Lib.hid (HF.out.no_trans hf)
      have HO2 := Lib.hid (HO.out.no hf)
      have hbs2 := HF2.out.size
      clear hf C1 HO
      by_cases h0 : E = 0
      · have e1 : (E == 0) = true := by simp [h0]
        rw [e1, if_pos rfl] at hst
        have HST := Lib.hid hst
        have HB2 := Lib.hid (And.intro hln hbs2)
        clear hst hln hbs hbs2
        go_wp2_with (at_builtin; refine wpList_append_i w2 rfl (.tmp 19) (.tmp 21) rfl rfl HO2.out (k : Int) rfl (by have := HB2.out.1; omega) HB2.out.2 ?_; intro v' w4 ho hg; have HO4 := Lib.hid ho; have HF4 := Lib.hid (HF2.out.then_new hg (fun i e => e)); clear ho hg)
        go_roundw
        case rel => exact ⟨k + 1, by omega, by go_num, by rw [HST.out]; exact HO4.out, HF4.out⟩
        case measure => simp [intOf]; omega
      · have e1 : (E == 0) = false := by rw [beq_eq_false_iff_ne]; exact h0
        rw [e1, if_neg Bool.false_ne_true, List.append_nil] at hst
        have HST := Lib.hid hst
        clear hst hln hbs hbs2
        go_wp2_with fail
        go_roundw
        case rel => exact ⟨k + 1, by omega, by go_num, by rw [HST.out]; exact HO2.out, HF2.out⟩
        case measure => simp [intOf]; omega
    · have hkn : k = 7 := by omega
      subst hkn
      go_wp2_with fail
      go_ret
      obtain ⟨A', c', hv, _⟩ := HO.out.sl
      have ho := HO.out
      subst hv
      exact ⟨A', c', rfl, ho, HF.out⟩
set_option maxRecDepth 100000 in
set_option maxHeartbeats 1600000 in
theorem same_ints {A B : Option Addr} {n : Nat} {xs : List Int} (hx : RdI w A n xs) (hy : RdI w B n xs) (c d : Nat) (hn : n ≤ 100000) :
    Calls Tryd.prog 8 #[.slice A n c, .slice B n d] w fun e w' => e = .returned (.bool true) ∧ Fr No w w' := by
  have HX := Lib.hid (fun W (hW : Fr No w W) => hx.no hW)
  have HY := Lib.hid (fun W (hW : Fr No w W) => hy.no hW)
  have HL := Lib.hid hx.1
  have e1 : ((n : Int) != (n : Int)) = false := by simp
  clear hx hy
  go_enter Tryd.func8, Tryd.ntmps8
  go_wp2_with fail
  go_loopw [5] (fun v5 wr => ∃ i : Nat, i ≤ n ∧ v5 = .int .i64 (i : Int) ∧ Fr No w wr) (fun v5 _ => n - (intOf v5).toNat)
  case atStart => exact ⟨0, by omega, rfl, Fr.refl _ _⟩
  case round =>
    obtain ⟨i, hi, rfl, hf⟩ := hrel
    have HF := Lib.hid hf
    clear hf
    by_cases hlt : i < n
    · have hxi : i < xs.length := by rw [HL.out]; exact hlt
      obtain ⟨b, o, rfl, _, hcx⟩ := (HX.out wr HF.out).2 (by omega)
      obtain ⟨b', o', rfl, _, hcy⟩ := (HY.out wr HF.out).2 (by omega)
      have x0 := hcx i hxi
      have y0 := hcy i hxi
      clear hcx hcy
      generalize xs[i] = q at *
      have e2 : (q != q) = false := by simp
      have hwi : IntKind.i64.wrap ((i : Int) + 1) = ((i + 1 : Nat) : Int) := by
        rw [show ((i : Int) + 1) = ((i + 1 : Nat) : Int) by omega]
        exact IntWalk.i64_in _ (by omega)
      go_wp2_with fail
      go_quiet (fail)
      go_wp2_with fail
      go_roundw
      case rel => exact ⟨i + 1, by omega, by go_num, HF.out.no_trans (Fr.drewN No _ _)⟩
      case measure => simp [intOf]; omega
    · have hin : i = n := by omega
      subst hin
      go_wp2_with fail
      go_ret
      exact ⟨rfl, HF.out⟩
end
end Go.Proofs.YtmallcjhccbgdaaDoor

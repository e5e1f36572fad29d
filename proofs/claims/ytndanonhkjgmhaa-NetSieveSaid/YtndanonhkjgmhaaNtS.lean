/-
  Two nets beside one another; what forgetting nodes comes to. No statement of the seat is proved here.
-/
import Derived.Test.YtndanonhkjgmhaaNtR
namespace Go.Proofs.Ytndanonhkjgmhaa
open Go.RowKit

/-- Two nets in a world, apart; since wk nothing has turned but blocks of f. -/
def Two (wk : World) (f : Nat → Prop) (P1 P2 : Nat) (n : Int) (L1 L2 : List Gm) (W : World) : Prop :=
  ∃ x1 x2, Ntw W P1 n x1 L1 ∧ Ntw W P2 n x2 L2 ∧ (∀ k, foot P1 x1 k → ¬ foot P2 x2 k) ∧ Fr f wk W ∧ ∀ k, foot P1 x1 k ∨ foot P2 x2 k → f k ∨ wk.heap.size ≤ k
section
variable {wk w w' : World} {f : Nat → Prop} {P1 P2 : Nat} {n : Int} {L1 L2 : List Gm}
theorem Two.no (h : Two wk f P1 P2 n L1 L2 w) (hf : Fr No w w') : Two wk f P1 P2 n L1 L2 w' := by
  obtain ⟨x1, x2, h1, h2, h3, h4, h5⟩ := h
  exact ⟨x1, x2, h1.no hf, h2.no hf, h3, h4.then_no hf, h5⟩
theorem Two.fr (h : Two wk f P1 P2 n L1 L2 w) : Fr f wk w := by
  obtain ⟨x1, x2, h1, h2, h3, h4, h5⟩ := h
  exact h4
theorem Two.swap (h : Two wk f P1 P2 n L1 L2 w) : Two wk f P2 P1 n L2 L1 w := by
  obtain ⟨x1, x2, h1, h2, h3, h4, h5⟩ := h
  exact ⟨x2, x1, h2, h1, fun k hk hk' => h3 k hk' hk, h4, fun k hk => h5 k hk.symm⟩
theorem Two.step {x1 x1' x2 : Value} {L1' : List Gm} (h2 : Ntw w P2 n x2 L2) (h3 : ∀ k, foot P1 x1 k → ¬ foot P2 x2 k) (h4 : Fr f wk w) (h5 : ∀ k, foot P1 x1 k ∨ foot P2 x2 k → f k ∨ wk.heap.size ≤ k)
    (hn : Ntw w' P1 n x1' L1') (hx : Nx P1 x1 w w' x1') : Two wk f P1 P2 n L1' L2 w' := by
  refine ⟨x1', x2, hn, h2.keep hx.1 (fun k hk hk' => h3 k hk' hk), fun k hk hk' => ?_, h4.trans hx.1 (fun i hi hk => ?_), fun k hk => ?_⟩
  · rcases hk with e | e
    · exact h3 k (.inl e) hk'
    · rcases hx.2 with q | q
      · exact h3 k (.inr (q ▸ e)) hk'
      · have := q k e
        have := h2.lt hk'
        omega
  · rcases h5 i (.inl hk) with e | e
    · exact e
    · omega
  · rcases hk with (e | e) | e
    · exact h5 k (.inl (.inl e))
    · rcases hx.2 with q | q
      · exact h5 k (.inl (.inr (q ▸ e)))
      · have := q k e
        have := h4.size
        exact .inr (by omega)
    · exact h5 k (.inr e)
set_option maxRecDepth 100000 in
theorem two_forget (h : Two wk f P1 P2 n L1 L2 w) (x : Int) :
    Calls Try.prog 18 #[.pointer (some ⟨P1, 0, none⟩), .int .i64 x] w fun e w' => e = .returned (.int .i64 ((L1.length - (keepN L1 x).length : Nat) : Int)) ∧ Two wk f P1 P2 n (keepN L1 x) L2 w' := by
  obtain ⟨x1, x2, h1, h2, h3, h4, h5⟩ := h
  refine (forget_any h1 x).mono ?_
  rintro e w' ⟨rfl, v', hn', hx'⟩
  exact ⟨rfl, Two.step h2 h3 h4 h5 hn' hx'⟩
set_option maxRecDepth 100000 in
theorem two_forget2 (h : Two wk f P1 P2 n L1 L2 w) (x : Int) :
    Calls Try.prog 18 #[.pointer (some ⟨P2, 0, none⟩), .int .i64 x] w fun e w' => e = .returned (.int .i64 ((L2.length - (keepN L2 x).length : Nat) : Int)) ∧ Two wk f P1 P2 n L1 (keepN L2 x) w' :=
  (two_forget h.swap x).mono fun _ _ ⟨a, b⟩ => ⟨a, b.swap⟩
set_option maxRecDepth 100000 in
theorem two_all (h : Two wk f P1 P2 n L1 L2 w) :
    Calls Try.prog 29 #[.pointer (some ⟨P1, 0, none⟩)] w fun e w' => ∃ r L, e = .returned r ∧ Rw w.heap.size w' r L ∧ L.map Gr.gm = L1 ∧ Fr No w w' := by
  obtain ⟨x1, x2, h1, _⟩ := h
  exact all_any h1
set_option maxRecDepth 100000 in
theorem two_flying (h : Two wk f P1 P2 n L1 L2 w) {m : Nat} (hm : L1.length = m) :
    Calls Try.prog 16 #[.pointer (some ⟨P1, 0, none⟩)] w fun e w' => e = .returned (.int .i64 (m : Int)) ∧ w = w' := by
  subst hm
  obtain ⟨x1, x2, h1, _⟩ := h
  exact flying_any h1
end
set_option maxRecDepth 100000 in
/-- Datagrams appended to a row of the call's own, at a plain region's list. -/
theorem wpList_append_grs (wr : World) {ops : Array Oper} {rest : List Oper} {o : Oper} {a : Act} {Q : Exit → Act → World → Prop} (hgd : o.guard = none) (s x : Operand)
    (ho : o.op = .call { callee := .builtin .append, args := #[s, x], argTypes := #[62, 62] })
    {lo : Nat} {r : Value} {L : List Gr} (h : wr.ownsRow lo 30 3 r L.length (grsCells L)) (ys : List Gr) (hl : L.length + ys.length ≤ 5000) (hlo : lo ≤ wr.heap.size)
    (ad : Addr) (m c q : Nat) (hm : ys.length = m) (hq : L.length + m = q) (hc : ∀ j u, (grsCells ys)[j]? = some u → wr.cell? (ad.add j) = some u) (hs : a.eval s = r) (hx : a.eval x = .slice (some ad) m c)
    (hk : ∀ A' c' w', w'.ownsRow lo 30 3 (.slice A' q c') (L ++ ys).length (grsCells (L ++ ys)) → wr.grownBy w' r.ownBlock → ((Value.slice A' q c').ownBlock = r.ownBlock ∨ (Value.slice A' q c').ownBlock = some wr.heap.size) → wpList Try.prog ops Q rest (a.put o.dst (.slice A' q c')) w') :
    wpList Try.prog ops Q (o :: rest) a wr :=
  wpList_plain hgd fun K hK => by
    have := step_append_grs wr (ops := ops) (K := K) (Q := Q) (E := True) hgd s x ho h ys hl hlo ad m c q hm hq hc hs hx (fun A' c' w' h1 h2 h3 => hK _ _ (hk A' c' w' h1 h2 h3))
    have hw : Region.wanted o (yielded ops a.tmps) = true := by simp [Region.wanted, hgd]
    rw [if_pos hw] at this
    exact this
/-- What is for none of some nodes. -/
def stays (A : List Int) (g : Gm) : Bool := A.all fun x => !(g.to == x)
def keepS (A : List Int) (l : List Gm) : List Gm := l.filter (stays A)
theorem keepS_nil (l : List Gm) : keepS [] l = l := by
  unfold keepS
  rw [List.filter_eq_self]
  intro g _
  rfl
theorem keepN_snoc (A : List Int) (l : List Gm) (x : Int) : keepN (keepS A l) x = keepS (A ++ [x]) l := by
  unfold keepN keepS
  rw [List.filter_filter]
  congr 1
  funext g
  unfold stays
  rw [List.all_append, Bool.and_comm]
  simp
theorem keepN_cons (A : List Int) (l : List Gm) (x : Int) : keepN (keepS A l) x = keepS (x :: A) l := by
  unfold keepN keepS
  rw [List.filter_filter]
  congr 1
theorem keepS_len (A : List Int) (l : List Gm) : (keepS A l).length ≤ l.length := List.length_filter_le _ _
theorem keepN_len (l : List Gm) (x : Int) : (keepN l x).length ≤ l.length := List.length_filter_le _ _
theorem keepS_gone {A : List Int} {l : List Gm} (h : ∀ g ∈ l, g.to ∈ A) : keepS A l = [] := by
  unfold keepS
  rw [List.filter_eq_nil_iff]
  intro g hg hs
  unfold stays at hs
  rw [List.all_eq_true] at hs
  have := hs _ (h g hg)
  simp at this
/-- The first so many of some nodes. -/
def nsL (Q : Nat → Nat) (q : Nat) : List Int := (List.range q).map fun j => (Q j : Int)
theorem ns_len (Q : Nat → Nat) (q : Nat) : (nsL Q q).length = q := by simp [nsL]
theorem ns_at (Q : Nat → Nat) (q j : Nat) (h : j < q) : (nsL Q q)[j]'(by rw [ns_len]; exact h) = (Q j : Int) := by simp [nsL]
theorem ns_take (Q : Nat → Nat) (q j : Nat) (h : j < q) : (nsL Q q).take (j + 1) = (nsL Q q).take j ++ [(Q j : Int)] := by
  rw [List.take_add_one, List.getElem?_eq_getElem (by rw [ns_len]; exact h), ns_at Q q j h]
  rfl
theorem ns_drop (Q : Nat → Nat) (q p : Nat) (h : p < q) : (nsL Q q).drop p = (Q p : Int) :: (nsL Q q).drop (p + 1) := by
  rw [List.drop_eq_getElem_cons (by rw [ns_len]; exact h), ns_at Q q p h]
theorem keepS_map (A : List Int) (M : List Gr) : keepS A (M.map Gr.gm) = (M.filter fun m => stays A m.gm).map Gr.gm := by
  unfold keepS
  rw [List.filter_map]
  rfl
theorem all_snoc (A : List Int) (f : Int → Bool) (x : Int) : (A ++ [x]).all f = (A.all f && f x) := by
  rw [List.all_append]
  simp
end Go.Proofs.Ytndanonhkjgmhaa

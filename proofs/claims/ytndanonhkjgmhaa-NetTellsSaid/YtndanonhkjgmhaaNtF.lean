/-
  What the laws of layer 7 share: equal, stands, all, rows. No statement of the seat is proved here.
-/
import Derived.Test.YtndanonhkjgmhaaNtE
import Derived.RegionCalls
namespace Go.Proofs.Ytndanonhkjgmhaa
open Go.RowKit

/-- A datagram as it is handed out. -/
structure Gr where
  fr : Int
  to : Int
  A : Option Addr
  n : Nat
  c : Nat
  l : List UInt8
def grCells (x : Gr) : List Value := [.int .i64 x.fr, .int .i64 x.to, .slice x.A x.n x.c]
def grsCells (L : List Gr) : List Value := L.flatMap grCells
theorem grsCells_length (l : List Gr) : (grsCells l).length = l.length * 3 := flat_length (f := grCells) (s := 3) (fun _ => rfl) l
theorem grsCells_append (l m : List Gr) : grsCells (l ++ m) = grsCells l ++ grsCells m := by simp [grsCells]
theorem grsCells_at (l : List Gr) (j r : Nat) {g : Gr} (hj : l[j]? = some g) (hr : r < 3) : (grsCells l)[j * 3 + r]? = (grCells g)[r]? := flat_at (f := grCells) (s := 3) (fun _ => rfl) l j r hj hr
theorem grCells_one (g : Gr) : ∀ u ∈ grCells g, u.oneCell' = true := by
  intro u hu
  simp only [grCells, List.mem_cons, List.not_mem_nil, or_false] at hu
  rcases hu with rfl | rfl | rfl <;> rfl
/-- What it is, wherever it lies. -/
def Gr.gm (x : Gr) : Gm := ⟨x.fr, x.to, ⟨x.l.toArray⟩⟩
def GrAt (W : World) (a : Addr) (x : Gr) : Prop := W.cell? a = some (.int .i64 x.fr) ∧ W.cell? (a.add 1) = some (.int .i64 x.to) ∧ W.cell? (a.add 2) = some (.slice x.A x.n x.c) ∧ x.n ≤ x.c ∧ Rd W W.heap.size x.A x.n x.l
theorem GrAt.no {W W' : World} {b o : Nat} {x : Gr} (h : GrAt W ⟨b, o, none⟩ x) (hb : b < W.heap.size) (hf : Fr No W W') : GrAt W' ⟨b, o, none⟩ x := by
  obtain ⟨h0, h1, h2, h3, h4⟩ := h
  have hc : ∀ k, W'.cell? ((⟨b, o, none⟩ : Addr).add k) = W.cell? ((⟨b, o, none⟩ : Addr).add k) := fun k => by
    rw [Addr.add_lit]
    exact hf.cell (p := ⟨b, o + k, none⟩) hb (fun e => e)
  exact ⟨(hf.cell (p := ⟨b, o, none⟩) hb (fun e => e)).trans h0, (hc 1).trans h1, (hc 2).trans h2, h3, (hf.rd (Nat.le_refl _) h4).more hf.size⟩
theorem RowOf.no {W W' : World} {A : Option Addr} {n : Nat} {xs : List Gr} (h : RowOf W 3 (GrAt W) A n xs) (hf : Fr No W W') : RowOf W' 3 (GrAt W') A n xs := by
  refine ⟨h.1, fun hn => ?_⟩
  obtain ⟨b, o, e, hb, hc⟩ := h.2 hn
  exact ⟨b, o, e, Nat.lt_of_lt_of_le hb hf.size, fun j hj => (hc j hj).no hb hf⟩

set_option maxRecDepth 100000 in
theorem equal_yes (w : World) (a b : Int) (A A' : Option Addr) (m m' c c' : Nat) (l : List UInt8) (h : Rd w w.heap.size A m l) (h' : Rd w w.heap.size A' m' l) :
    Calls Try.prog 27 #[.agg #[.int .i64 a, .int .i64 b, .slice A m c], .agg #[.int .i64 a, .int .i64 b, .slice A' m' c']] w fun e w' => e = .returned (.bool true) ∧ Fr No w w' := by
  have hf : Fr No w ((w.alloc (.cells #[.int .i64 a, .int .i64 b, .slice A m c] 30)).alloc (.cells #[.int .i64 a, .int .i64 b, .slice A' m' c'] 30)) := (Fr.alloc No _ _).no_trans (Fr.alloc No _ _)
  have s1 := str_rule c (hf.rd (Nat.le_refl _) h)
  have s2 := str_rule c' (hf.rd (Nat.le_refl _) h')
  have HF := Lib.hid hf
  clear hf h h'
  generalize (⟨l.toArray⟩ : ByteArray) = x at s1 s2
  go_enter Try.func27, Try.ntmps27
  go_wp2_with fail
  go_ret
  exact ⟨rfl, HF.out⟩
set_option maxRecDepth 100000 in
theorem stands_yes {w : World} {P : Nat} {n : Int} {v : Value} {l : List Gm} (h : Ntw w P n v l) {i : Int} {g : Gm} (hg : look l i = some g) :
    Calls Try.prog 17 #[.pointer (some ⟨P, 0, none⟩), .int .i64 i, .int .i64 g.fr, .int .i64 g.to, .string g.ds] w fun e w' => e = .returned (.bool true) ∧ Fr No w w' := by
  have HL := Lib.hid (look_yes h hg)
  clear h hg
  go_enter Try.func17, Try.ntmps17
  go_wp2_with (go_at_call 25; refine HL.out.mono ?_; rintro e w1 ⟨A, c, rfl, hc, hx, hf⟩; have HX := Lib.hid hx; have HF := Lib.hid hf; clear hx hf; obtain ⟨c2, w2, hcv, hc2, hx2, hf2⟩ := bytes_of (w1.alloc (.cells #[.int .i64 g.fr, .int .i64 g.to, .slice A g.ds.size c] 30)) g.ds; have HX2 := Lib.hid hx2; have HF2 := Lib.hid hf2; clear hx2 hf2)
  have hr1 := (HX.out.no ((Fr.alloc No w1 _).no_trans HF2.out)).rd
  have hr2 := HX2.out.rd
  rw [World.size_alloc] at hr2
  refine (equal_yes w2 g.fr g.to A (some ⟨w1.heap.size + 1, 0, none⟩) g.ds.size g.ds.size c c2 g.ds.data.toList hr1 hr2).mono ?_
  rintro e w3 ⟨rfl, hf⟩
  have HF3 := Lib.hid hf
  clear hf
  go_wp2_with fail
  go_ret
  exact ⟨rfl, ((HF.out.no_trans (Fr.alloc No _ _)).no_trans HF2.out).no_trans HF3.out⟩

/-! ### rows of the call's own -/
set_option maxRecDepth 100000 in
theorem info_ag : (Try.prog.info? 30).map (fun i => (i.zero, i.size, i.bytes)) = some (some (.agg #[.int .i64 0, .int .i64 0, .slice none 0 0]), 3, 40) := by kernel_rfl
/-- A row of datagrams that were handed out, from some block on. -/
structure Rw (lo : Nat) (w : World) (r : Value) (L : List Gr) : Prop where
  row : w.ownsRow lo 30 3 r L.length (grsCells L)
  bx : ∀ f ∈ L, f.n ≤ f.c ∧ Bx lo w f.A f.n f.l
  ap : ∀ f ∈ L, ∀ a, f.A = some a → r.ownBlock ≠ some a.block
section
variable {lo c : Nat} {w w' : World} {r : Value} {A : Option Addr} {L : List Gr} {F : Nat → Prop}
theorem Rw.nil (lo : Nat) (w : World) : Rw lo w (.slice none 0 0) [] := ⟨World.ownsRow_nil _ _ _ _, (fun f hf => by cases hf), (fun f hf => by cases hf)⟩
theorem Rw.keep (h : Rw lo w r L) (hf : Fr F w w') (hF : ∀ k, lo ≤ k → k < w.heap.size → ¬ F k) : Rw lo w' r L :=
  ⟨own_keep h.row (fun k hk => hf.block k (h.row.lt k hk).2 (hF k (h.row.lt k hk).1 (h.row.lt k hk).2)), fun f hf' => ⟨(h.bx f hf').1, (h.bx f hf').2.keep hf hF⟩, h.ap⟩
theorem Rw.no (h : Rw lo w r L) (hf : Fr No w w') : Rw lo w' r L := h.keep hf (fun _ _ _ e => e)
theorem Rw.sl (h : Rw lo w r L) : ∃ A c, r = .slice A L.length c ∧ L.length ≤ c := by
  rcases h.row.2 with ⟨rfl, e0⟩ | ⟨G, cap, cur, rfl, _, _, hc, _⟩
  · exact ⟨none, 0, by rw [e0], by omega⟩
  · exact ⟨_, _, rfl, hc⟩
theorem Rw.of (h : Rw lo w (.slice A L.length c) L) : RowOf w 3 (GrAt w) A L.length L := by
  refine ⟨rfl, fun hn => ?_⟩
  obtain ⟨G, rfl, _, hG, hc⟩ := row_cells h.row (j := 0) (by rw [grsCells_length]; omega)
  refine ⟨G, 0, rfl, hG, fun j hj => ?_⟩
  have hj' := List.getElem?_eq_getElem hj
  have q : ∀ k u, k < 3 → (grCells L[j])[k]? = some u → w.cell? ((⟨G, 0 + j * 3, none⟩ : Addr).add k) = some u := fun k u hk hu => by
    rw [Addr.add_lit, Nat.zero_add]
    exact hc _ _ ((grsCells_at L j k hj' hk).trans hu)
  have q0 := q 0 _ (by omega) rfl
  have e : (⟨G, 0 + j * 3, none⟩ : Addr).add 0 = ⟨G, 0 + j * 3, none⟩ := by simp [Addr.add]
  rw [e] at q0
  have hb := h.bx _ (List.getElem_mem hj)
  exact ⟨q0, q 1 _ (by omega) rfl, q 2 _ (by omega) rfl, hb.1, hb.2.rd⟩
end
set_option maxRecDepth 100000 in
/-- A datagram appended to a row of the call's own. -/
theorem wpList_append_gr (wr : World) {ops : Array Oper} {rest : List Oper} {o : Oper} {a : Act} {Q : Exit → Act → World → Prop} (hgd : o.guard = none) (s x : Operand)
    (ho : o.op = .call { callee := .builtin .append, args := #[s, x], argTypes := #[62, 62] })
    {lo : Nat} {r : Value} {L : List Gr} (h : Rw lo wr r L) (hl : L.length ≤ 5000) (hlo : lo ≤ wr.heap.size) (g : Gr) (hg : g.n ≤ g.c ∧ Bx lo wr g.A g.n g.l) (hap : ∀ b, g.A = some b → r.ownBlock ≠ some b.block)
    (H : Nat) (hb : wr.heap[H]? = some (.cells #[.int .i64 g.fr, .int .i64 g.to, .slice g.A g.n g.c] 30 (0, 0))) (hs : a.eval s = r) (hx : a.eval x = .slice (some ⟨H, 0, none⟩) 1 1)
    (hk : ∀ G cap w', Rw lo w' (.slice (some ⟨G, 0, none⟩) (L.length + 1) cap) (L ++ [g]) → wr.grownBy w' r.ownBlock → wpList Try.prog ops Q rest (a.put o.dst (.slice (some ⟨G, 0, none⟩) (L.length + 1) cap)) w') :
    wpList Try.prog ops Q (o :: rest) a wr := by
  obtain ⟨i0, hi, hz0, hz1, hz2⟩ := info_parts info_ag
  refine wpList_append_lies _ hgd s x 62 ho lo 30 i0 _ 3 40 Try.underlying62 hi hz0 hz1 hz2 rfl (by omega) r L.length (grsCells L) hs h.row ⟨H, 0, none⟩ 1 1 (grCells g) hx rfl (fun j u hu => by
    rw [Addr.add_lit, Nat.zero_add, blk_cell hb j]
    show (grCells g).toArray[j]? = _
    rw [List.getElem?_toArray]
    exact hu) (grCells_one g) (by omega) (by unfold maxLen; omega) (by omega) hlo _ rfl ?_
  intro G cap w' hown hgr hat hlt
  refine hk G cap w' ⟨?_, ?_, ?_⟩ hgr
  · rw [grsCells_append, List.length_append]
    have e : grsCells [g] = grCells g := by simp [grsCells]
    rw [e]
    exact hown
  · have q : ∀ (f : Gr), (f.n ≤ f.c ∧ Bx lo wr f.A f.n f.l) → (∀ b, f.A = some b → r.ownBlock ≠ some b.block) → (f.n ≤ f.c ∧ Bx lo w' f.A f.n f.l) := by
      rintro f ⟨hfc, hl', b, hA, hblo, hbs, hc⟩ hne
      have e := hgr.block b hbs (fun e => hne _ hA e.symm)
      exact ⟨hfc, hl', b, hA, hblo, Nat.lt_of_lt_of_le hbs hgr.size, fun j hj => ⟨(World.cell?_of_block (a := ⟨b, j, none⟩) e).trans (hc j hj).1, (World.frozen?_of_block (a := ⟨b, j, none⟩) e).trans (hc j hj).2⟩⟩
    intro f hf
    rcases List.mem_append.1 hf with hf | hf
    · exact q f (h.bx f hf) (h.ap f hf)
    · rw [List.mem_singleton.1 hf]
      exact q g hg hap
  · have q : ∀ (f : Gr), (f.n ≤ f.c ∧ Bx lo wr f.A f.n f.l) → (∀ b, f.A = some b → r.ownBlock ≠ some b.block) → ∀ a, f.A = some a → (Value.slice (some ⟨G, 0, none⟩) (L.length + 1) cap).ownBlock ≠ some a.block := by
      rintro f ⟨_, _, b, hA, _, hbs, _⟩ hne a ha e
      have e1 : G = a.block := by injection e
      rw [hA] at ha
      have e2 : (⟨b, 0, none⟩ : Addr) = a := by injection ha
      subst e2
      rcases hat with q | q
      · exact hne _ hA (by rw [q, e1])
      · rw [q] at e1
        have e1 : wr.heap.size = b := e1
        omega
    intro f hf
    rcases List.mem_append.1 hf with hf | hf
    · exact q f (h.bx f hf) (h.ap f hf)
    · rw [List.mem_singleton.1 hf]
      exact q g hg hap
set_option maxHeartbeats 1600000 in
set_option maxRecDepth 100000 in
theorem all_any {w : World} {P : Nat} {n : Int} {v : Value} {l : List Gm} (h : Ntw w P n v l) :
    Calls Try.prog 29 #[.pointer (some ⟨P, 0, none⟩)] w fun e w' => ∃ r L, e = .returned r ∧ Rw w.heap.size w' r L ∧ L.map Gr.gm = l ∧ Fr No w w' := by
  have HK := Lib.hid (fun W (hW : Fr No w W) => h.no hW)
  have HFEW := Lib.hid h.few
  clear h
  go_enter Try.func29, Try.ntmps29
  go_wp2_with fail
  go_loopw [3, 4] (fun v3 v4 wr => ∃ (k : Nat) (L : List Gr) (A : Option Addr) (c : Nat), k ≤ l.length ∧ v3 = .slice A k c ∧ v4 = .int .i64 (k : Int) ∧ L.length = k ∧ Rw w.heap.size wr (.slice A k c) L ∧ L.map Gr.gm = l.take k ∧ Fr No w wr) (fun _ v4 _ => l.length - (intOf v4).toNat)
  case atStart => exact ⟨0, [], none, 0, by omega, rfl, rfl, rfl, Rw.nil _ _, rfl, Fr.refl _ _⟩
  case round =>
    obtain ⟨k, L, A, c, hk, rfl, rfl, hL, hR, hM, hf⟩ := hrel
    have HL := Lib.hid hL
    have HR := Lib.hid hR
    have HM := Lib.hid hM
    have HF := Lib.hid hf
    clear hL hR hM hf
    have HFL := Lib.hid (flying_any (HK.out wr HF.out))
    obtain ⟨N, HN⟩ : ∃ N, Hid (l.length = N) := ⟨_, rfl⟩
    rw [HN.out] at hk HFL HFEW ⊢
    by_cases hlt : k < N
    · obtain ⟨g, hg⟩ : ∃ g, l[k]? = some g := ⟨_, List.getElem?_eq_getElem (by rw [HN.out]; exact hlt)⟩
      have HG := Lib.hid hg
      have HLK := Lib.hid (look_yes (HK.out wr HF.out) (i := (k : Int)) (by rw [look_nat]; exact hg))
      have hin : (k : Int) < (N : Int) := by omega
      have hk0 : (0 : Int) ≤ (k : Int) := by omega
      have hwi : IntKind.i64.wrap ((k : Int) + 1) = ((k + 1 : Nat) : Int) := by
        have := HFEW.out
        rw [show ((k : Int) + 1) = ((k + 1 : Nat) : Int) by omega]
        exact IntWalk.i64_in _ (by omega)
      clear hg
      have HLO : Hid (∀ W, Fr No wr W → w.heap.size ≤ W.heap.size) := fun W hW => Nat.le_trans HF.out.size hW.size
      have HAP : Hid (∀ (lo : Nat) (W : World) (A1 : Option Addr) (n1 : Nat) (l1 : List UInt8), wr.heap.size ≤ lo → Bx lo W A1 n1 l1 → ∀ b, A1 = some b → (Value.slice A k c).ownBlock ≠ some b.block) := by
        rintro lo W A1 n1 l1 hlo ⟨_, b, hA, hb, _⟩ a ha e
        rw [hA] at ha
        injection ha with ha
        subst ha
        have : b < wr.heap.size := (HR.out.row.lt _ e).2
        omega
      go_wp2_with (first
        | (go_at_call 16; refine HFL.out.mono ?_; rintro e w1 ⟨rfl, rfl⟩)
        | (go_at_call 25; refine HLK.out.mono ?_; rintro e w1 ⟨A1, c1, rfl, hc1, hx1, hf1⟩; have HC1 := Lib.hid hc1; have HX1 := Lib.hid hx1; have HF1 := Lib.hid hf1; clear hc1 hx1 hf1)
        | (at_builtin; have hF3 : Fr No wr ((w1.alloc (.cells #[.int .i64 g.fr, .int .i64 g.to, .slice A1 g.ds.size c1] 30)).alloc (.cells #[.int .i64 g.fr, .int .i64 g.to, .slice A1 g.ds.size c1] 30)) := (HF1.out.no_trans (Fr.alloc No _ _)).no_trans (Fr.alloc No _ _); refine wpList_append_gr _ rfl (.tmp 19) (.tmp 21) rfl (lo := w.heap.size) (r := .slice A k c) (L := L) (HR.out.no hF3) (by rw [HL.out]; have := HFEW.out; omega) (HLO.out _ hF3) ⟨g.fr, g.to, A1, g.ds.size, c1, g.ds.data.toList⟩ ⟨HC1.out, ((HX1.out.lo (HLO.out _ (Fr.refl _ _))).no (Fr.alloc No _ _)).no (Fr.alloc No _ _)⟩ (HAP.out _ _ _ _ _ (Nat.le_refl _) HX1.out) (w1.heap.size + 1) (heap2 w1 _ _) rfl rfl ?_; intro G cap w3 hr3 hg3; have HR3 := Lib.hid hr3; have HF3 := Lib.hid ((HF.out.no_trans hF3).then_new (Fr.grown (F := fun i => (Value.slice A k c).ownBlock = some i) hg3 (fun k hk => hk)) (fun i hi => (HR.out.row.lt i hi).1)); clear hr3 hg3 hF3))
      go_roundw
      case rel => exact ⟨k + 1, L ++ [⟨g.fr, g.to, A1, g.ds.size, c1, g.ds.data.toList⟩], _, cap, by omega, by rw [HL.out], by go_num, by rw [List.length_append, HL.out]; rfl, (by have := HR3.out; rw [HL.out] at this; exact this), by rw [List.map_append, HM.out, List.take_add_one, HG.out]; rfl, HF3.out⟩
      case measure => simp [intOf]; omega
    · have hkN : k = N := by omega
      subst hkN
      go_wp2_with (go_at_call 16; refine HFL.out.mono ?_; rintro e w1 ⟨rfl, rfl⟩)
      go_ret
      exact ⟨_, L, rfl, HR.out, by rw [HM.out, ← HN.out, List.take_length], HF.out⟩
theorem Gr.same {x y : Gr} (h : x.gm = y.gm) : x.fr = y.fr ∧ x.to = y.to ∧ x.l = y.l := by
  unfold Gr.gm at h
  injection h with h1 h2 h3
  injection h3 with h3
  exact ⟨h1, h2, by simpa using h3⟩
theorem GrAt.at_ {W : World} {b o : Nat} {x : Gr} (h : GrAt W ⟨b, o, none⟩ x) : W.cell? ⟨b, o, none⟩ = some (.int .i64 x.fr) ∧ W.cell? ⟨b, o + 1, none⟩ = some (.int .i64 x.to) ∧ W.cell? ⟨b, o + 2, none⟩ = some (.slice x.A x.n x.c) := by
  obtain ⟨h0, h1, h2, _⟩ := h
  rw [Addr.add_lit] at h1 h2
  exact ⟨h0, h1, h2⟩
set_option maxHeartbeats 1600000 in
set_option maxRecDepth 100000 in
theorem rows_yes {w : World} {A A' : Option Addr} {n c c' : Nat} {xs ys : List Gr} (hx : RowOf w 3 (GrAt w) A n xs) (hy : RowOf w 3 (GrAt w) A' n ys) (he : xs.map Gr.gm = ys.map Gr.gm) (hn : n ≤ 10000) :
    Calls Try.prog 32 #[.slice A n c, .slice A' n c'] w fun e w' => e = .returned (.bool true) ∧ Fr No w w' := by
  have HX := Lib.hid (fun W (hW : Fr No w W) => hx.no hW)
  have HY := Lib.hid (fun W (hW : Fr No w W) => hy.no hW)
  have HE := Lib.hid he
  have HLX := Lib.hid hx.1
  have HLY := Lib.hid hy.1
  clear hx hy he
  go_enter Try.func32, Try.ntmps32
  go_wp2_with fail
  go_loopw [13] (fun v13 wr => ∃ i : Nat, i ≤ n ∧ v13 = .int .i64 (i : Int) ∧ Fr No w wr) (fun v13 _ => n - (intOf v13).toNat)
  case atStart => exact ⟨0, by omega, rfl, Fr.refl _ _⟩
  case round =>
    obtain ⟨i, hi, rfl, hf⟩ := hrel
    have HF := Lib.hid hf
    clear hf
    by_cases hlt : i < n
    · have hxi : i < xs.length := by rw [HLX.out]; exact hlt
      have hyi : i < ys.length := by rw [HLY.out]; exact hlt
      obtain ⟨b, o, rfl, hb, hcx⟩ := (HX.out wr HF.out).2 (by omega)
      obtain ⟨b', o', rfl, hb', hcy⟩ := (HY.out wr HF.out).2 (by omega)
      have hgx := hcx i hxi
      have hgy := hcy i hyi
      have hsame : xs[i].gm = ys[i].gm := by
        have e := congrArg (fun l => l[i]?) HE.out
        simp only [List.getElem?_map, List.getElem?_eq_getElem hxi, List.getElem?_eq_getElem hyi, Option.map_some, Option.some.injEq] at e
        exact e
      clear hcx hcy
      generalize xs[i] = x at *
      generalize ys[i] = y at *
      obtain ⟨e1, e2, e3⟩ := Gr.same hsame
      obtain ⟨q0, q1, q2⟩ := hgx.at_
      obtain ⟨r0, r1, r2⟩ := hgy.at_
      have HEQ := Lib.hid (fun W (hW : Fr No wr W) => equal_yes W x.fr x.to x.A y.A x.n y.n x.c y.c x.l ((hgx.no hb hW).2.2.2.2) (by rw [e3]; exact (hgy.no hb' hW).2.2.2.2))
      rw [← e1] at r0
      rw [← e2] at r1
      have HDR := Lib.hid (Fr.drew No wr)
      have hin : (i : Int) < (n : Int) := by omega
      have hi0 : (0 : Int) ≤ (i : Int) := by omega
      have hwi : IntKind.i64.wrap ((i : Int) + 1) = ((i + 1 : Nat) : Int) := by
        rw [show ((i : Int) + 1) = ((i + 1 : Nat) : Int) by omega]
        exact IntWalk.i64_in _ (by omega)
      clear hgx hgy hsame e1 e2 e3 hxi hyi
      go_wp2_with fail
      go_region_with (go_at_call 27; (refine (HEQ.out _ HDR.out).mono ?_); rintro e w2 ⟨rfl, hf2⟩; have HF2 := Lib.hid hf2; clear hf2)
      all_goals (
        go_wp2_with fail
        go_roundw
        case rel => exact ⟨i + 1, by omega, by go_num, (HF.out.no_trans HDR.out).no_trans HF2.out⟩
        case measure => simp [intOf]; omega)
    · have hin : i = n := by omega
      subst hin
      go_wp2_with fail
      go_ret
      exact ⟨rfl, HF.out⟩
end Go.Proofs.Ytndanonhkjgmhaa

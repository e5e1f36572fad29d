/-
  NetOwn: bytes handed in and out, written over. No statement of the seat is proved here.
-/
import Derived.Test.YtndanonhkjgmhaaNtG
namespace Go.Proofs.Ytndanonhkjgmhaa
open Go.RowKit

set_option maxRecDepth 100000 in
theorem copybytes_any (A : Option Addr) (n c : Nat) (l : List UInt8) (w : World) (h : Rd w w.heap.size A n l) (hn : n ≤ 500000) :
    Calls Try.prog 33 #[.slice A n c] w (Put w.heap.size w l) := by
  have H := Lib.hid h
  clear h
  have ho : (w.alloc (.cells #[] 5)).ownsRow w.heap.size 5 1 (.slice (some ⟨w.heap.size, 0, none⟩) 0 0) ([] : List UInt8).length (bvs []) :=
    World.ownsRow_made w #[] 0 (Nat.le_refl _) (by unfold maxLen; omega) rfl
  have HO := Lib.hid ho
  clear ho
  go_enter Try.func33, Try.ntmps33
  go_wp2_with (at_builtin; refine wpList_append_rd _ rfl (.tmp 3) (.tmp 4) rfl w.heap.size w.heap.size _ [] rfl HO.out _ _ _ l rfl (H.out.alloc (Nat.le_refl _) _) (by simp; omega) (by simp) ?_; intro v' w2 hown2 hgrow)
  go_ret
  exact ⟨_, rfl, hown2, ((Below.refl _ _).alloc (Nat.le_refl _) _).grown hgrow (by simp) (fun g hg => (HO.out.lt g hg).1)⟩
/-- A net of the call's own, made since w0. -/
def Nb (w0 : World) (P : Nat) (n : Int) (l : List Gm) (w : World) : Prop := ∃ v, Ntw w P n v l ∧ (∀ k, foot P v k → w0.heap.size ≤ k) ∧ Below w0.heap.size w0 w
section
variable {w0 w w' : World} {P : Nat} {n : Int} {l : List Gm}
theorem Nb.no (h : Nb w0 P n l w) (hf : Fr No w w') : Nb w0 P n l w' := by
  obtain ⟨v, hn, hlo, hb⟩ := h
  exact ⟨v, hn.no hf, hlo, hb.trans (hf.noBelow.mono hb.size)⟩
theorem Nb.bel (h : Nb w0 P n l w) : Below w0.heap.size w0 w := by
  obtain ⟨_, _, _, hb⟩ := h
  exact hb
theorem Nb.next {v v' : Value} {l' : List Gm} (hlo : ∀ k, foot P v k → w0.heap.size ≤ k) (hb : Below w0.heap.size w0 w) (hn : Ntw w' P n v' l') (hx : Nx P v w w' v') : Nb w0 P n l' w' :=
  ⟨v', hn, hx.lo hb.size hlo, hb.trans (hx.below hb.size hlo)⟩
/-- A block that is no net's own written to. -/
theorem Nb.set {w1 : World} {b k : Nat} {u : Value} (h : Nb w0 P n l w) (hb0 : w0.heap.size ≤ b) (hf : Fr No w w1) (hb : w.heap.size ≤ b) : Nb w0 P n l (w1.setCell ⟨b, k, none⟩ u) := by
  obtain ⟨v, hn, hlo, hbl⟩ := h
  refine ⟨v, (hn.no hf).keep (Fr.setCell (F := fun i => i = b) w1 ⟨b, k, none⟩ u rfl) (fun i hi e => ?_), hlo, (hbl.trans (hf.noBelow.mono hbl.size)).trans ((Fr.setCell (F := fun i => i = b) w1 ⟨b, k, none⟩ u rfl).below ?_ (fun i e => by rw [e]; exact hb0))⟩
  · have := hn.lt hi
    omega
  · exact Nat.le_trans hbl.size hf.size
set_option maxRecDepth 100000 in
theorem nb_copy (h : Nb w0 P n l w) (hl : l.length < 4096) {i : Int} {g : Gm} (hg : look l i = some g) :
    Calls Try.prog 15 #[.pointer (some ⟨P, 0, none⟩), .int .i64 i] w fun e w' => e = .returned (.int .i64 0) ∧ Nb w0 P n (l ++ [g]) w' := by
  obtain ⟨v, hn, hlo, hb⟩ := h
  refine (copy_ok hn hl hg).mono ?_
  rintro e w' ⟨rfl, v', hn', hx'⟩
  exact ⟨rfl, Nb.next hlo hb hn' hx'⟩
set_option maxRecDepth 100000 in
theorem nb_send (h : Nb w0 P n l w) (hl : l.length < 4096) (fr to : Int) (hx : isN n fr = true) (hy : isN n to = true) (A : Option Addr) (m c : Nat) (hm : m ≤ 1048576) (bs : List UInt8) (hr : Rd w w.heap.size A m bs) :
    Calls Try.prog 12 #[.pointer (some ⟨P, 0, none⟩), .int .i64 fr, .int .i64 to, .slice A m c] w fun e w' => e = .returned (.int .i64 0) ∧ Nb w0 P n (l ++ [⟨fr, to, ⟨bs.toArray⟩⟩]) w' := by
  obtain ⟨v, hn, hlo, hb⟩ := h
  refine (send_ok hn hl fr to hx hy A m c hm bs hr).mono ?_
  rintro e w' ⟨rfl, v', hn', hx'⟩
  exact ⟨rfl, Nb.next hlo hb hn' hx'⟩
set_option maxRecDepth 100000 in
theorem nb_take (h : Nb w0 P n l w) {i : Int} {g : Gm} (hg : look l i = some g) :
    Calls Try.prog 13 #[.pointer (some ⟨P, 0, none⟩), .int .i64 i] w fun e w' => ∃ A c, e = .returned (.tuple #[.agg #[.int .i64 g.fr, .int .i64 g.to, .slice A g.ds.size c], .bool true]) ∧ g.ds.size ≤ c ∧ Bx w.heap.size w' A g.ds.size g.ds.data.toList ∧ ∃ v, Ntw w P n v l ∧ ∃ v', Ntw w' P n v' (dropI l i) ∧ Nx P v w w' v' ∧ v'.ownBlock = v.ownBlock ∧ (∀ k, foot P v k → w0.heap.size ≤ k) ∧ Below w0.heap.size w0 w := by
  obtain ⟨v, hn, hlo, hb⟩ := h
  refine (take_yes hn hg).mono ?_
  rintro e w' ⟨A, c, rfl, hc, hbx, v', hn', hx', hov⟩
  exact ⟨A, c, rfl, hc, hbx, v, hn, v', hn', hx', hov, hlo, hb⟩
set_option maxRecDepth 100000 in
theorem nb_look (h : Nb w0 P n l w) {i : Int} {g : Gm} (hg : look l i = some g) :
    Calls Try.prog 25 #[.pointer (some ⟨P, 0, none⟩), .int .i64 i] w fun e w' => ∃ A c, e = .returned (.tuple #[.agg #[.int .i64 g.fr, .int .i64 g.to, .slice A g.ds.size c], .bool true]) ∧ g.ds.size ≤ c ∧ Bx w.heap.size w' A g.ds.size g.ds.data.toList ∧ Fr No w w' := by
  obtain ⟨v, hn, _⟩ := h
  exact look_yes hn hg
set_option maxRecDepth 100000 in
theorem nb_flying (h : Nb w0 P n l w) {m : Nat} (hm : l.length = m) :
    Calls Try.prog 16 #[.pointer (some ⟨P, 0, none⟩)] w fun e w' => e = .returned (.int .i64 (m : Int)) ∧ w = w' := by
  subst hm
  obtain ⟨v, hn, _⟩ := h
  exact flying_any hn
end
theorem look_rep (g : Gm) (m k : Nat) (h : k < m) : look (List.replicate m g) (k : Int) = some g := by
  rw [look_nat, List.getElem?_replicate, if_pos h]
theorem drop_rep (g : Gm) (m k : Nat) (h : k < m + 1) : dropI (List.replicate (m + 1) g) (k : Int) = List.replicate m g := by
  rw [dropI_nat]
  apply List.eq_replicate_iff.2
  refine ⟨by rw [List.length_eraseIdx, List.length_replicate, if_pos h]; rfl, fun b hb => ?_⟩
  exact List.eq_of_mem_replicate (List.eraseIdx_subset hb)
set_option maxHeartbeats 4000000 in
set_option maxRecDepth 100000 in
theorem own_walk (A : Option Addr) (n c : Nat) (l : List UInt8) (w : World) (hr : Rd w w.heap.size A n l) :
    Calls Try.prog 10 #[.slice A n c] w fun e w' => e = .returned (.bool true) ∧ Below w.heap.size w w' := by
  have HR := Lib.hid hr
  clear hr
  rcases (show n = 0 ∨ 80 < n ∨ (0 < n ∧ n ≤ 80) by omega) with rfl | hn | ⟨h0, h80⟩
  · go_enter Try.func10, Try.ntmps10
    go_wp2_with fail
    refine (awake_any _).mono ?_
    rintro e w1 ⟨rfl, hb⟩
    have HB := Lib.hid hb
    clear hb
    go_wp2_with fail
    go_ret
    exact ⟨rfl, HB.out⟩
  · have hn0 : ((n : Int) == 0) = false := by rw [beq_eq_false_iff_ne]; omega
    have hn1 : (80 : Int) < (n : Int) := by omega
    go_enter Try.func10, Try.ntmps10
    go_wp2_with fail
    refine (awake_any _).mono ?_
    rintro e w1 ⟨rfl, hb⟩
    have HB := Lib.hid hb
    clear hb
    go_wp2_with fail
    go_ret
    exact ⟨rfl, HB.out⟩
  · obtain ⟨m, rfl⟩ : ∃ m, n = m + 1 := ⟨n - 1, by omega⟩
    have hn0 : ((m : Int) + 1 == 0) = false := by rw [beq_eq_false_iff_ne]; omega
    have hn1 : ¬ ((80 : Int) < (m : Int) + 1) := by omega
    have hl := HR.out.len
    obtain ⟨x0, hx0⟩ : ∃ x, l[0]? = some x := ⟨_, List.getElem?_eq_getElem (by omega)⟩
    obtain ⟨xm, hxm⟩ : ∃ x, l[m]? = some x := ⟨_, List.getElem?_eq_getElem (by omega)⟩
    have HX0 := Lib.hid hx0
    have HXM := Lib.hid hxm
    have HLL := Lib.hid hl
    clear hx0 hxm hl
    go_enter Try.func10, Try.ntmps10
    go_wp2_with fail
    refine (new_ok 1 w (by decide) (by decide)).mono ?_
    rintro e w1 ⟨rfl, hq, hf⟩
    have HQ1 := Lib.hid hq
    have HF1 := Lib.hid hf
    have HR1 := Lib.hid ((hf.rd (Nat.le_refl _) HR.out).more hf.size)
    clear hq hf
    go_wp2_with fail
    refine (copybytes_any _ _ _ l w1 HR1.out (by omega)).mono ?_
    rintro e w2 ⟨vG, rfl, ho, hb⟩
    rw [HLL.out] at ho
    rcases ho.2 with ⟨_, e0⟩ | ⟨G, cap, cur, rfl, hG, hgb, _⟩
    · omega
    have HO := Lib.hid ho
    have HG := Lib.hid hG
    have HGB := Lib.hid hgb
    have HF2 := Lib.hid (show Fr No w1 w2 from Fr.of_below hb)
    have HBW := Lib.hid (HF1.out.no_trans HF2.out).noBelow
    have HN2 : Hid (Nb w w.heap.size 1 [] w2) := ⟨_, HQ1.out.no HF2.out, fun k hk => by rw [foot_nil hk]; exact Nat.le_refl _, HBW.out⟩
    clear ho hG hgb hb
    go_wp2_with fail
    refine (send_ok (HQ1.out.no HF2.out) (by decide) 0 0 rfl rfl _ _ _ (by omega) l (Rd.own HO.out)).mono ?_
    rintro e w3 ⟨rfl, v3, hn3, hx3⟩
    obtain ⟨P, HP⟩ : ∃ P, Hid (w.heap.size = P) := ⟨_, rfl⟩
    rw [HP.out]
    have hPG : P < G := by
      have := HG.out
      have := HQ1.out.lt (k := w.heap.size) (.inl rfl)
      rw [← HP.out]
      omega
    have hG2 : G < w2.heap.size := (Array.getElem?_eq_some_iff.1 HGB.out).1
    have HGB3 : Hid (w3.heap[G]? = some (.cells cur 5 (0, 0))) := (hx3.1.block G hG2 (fun e => by have := foot_nil e; rw [HP.out] at this; omega)).trans HGB.out
    have hc0 : w3.cell? ⟨G, 0, none⟩ = some (.int .u8 (x0.toNat : Int)) := by
      have e1 := HO.out.cells (g := G) rfl 0 (.int .u8 (x0.toNat : Int)) (by
        have hl0 : 0 < l.length := by rw [HLL.out]; omega
        rw [bvs_at l 0 hl0]
        have := HX0.out
        rw [List.getElem?_eq_getElem hl0] at this
        rw [Option.some.inj this])
      rw [Addr.add_lit] at e1
      exact ((blk_cell HGB3.out 0).trans (blk_cell HGB.out 0).symm).trans e1
    have hf0 := blk_free HGB3.out 0
    have HN4 : Hid (∀ u, Nb w P 1 [⟨0, 0, ⟨l.toArray⟩⟩] (w3.setCell ⟨G, 0, none⟩ u)) := fun u => by
      rw [HP.out] at hn3 hx3
      refine ⟨v3, hn3.keep (Fr.setCell (F := fun i => i = G) w3 ⟨G, 0, none⟩ u rfl) (fun i hi e => ?_), fun k hk => ?_, ?_⟩
      · rcases hi with q | q
        · omega
        · rcases hx3.2 with r | r
          · rw [r] at q; cases q
          · have := r i q; omega
      · refine (hx3.lo (B := w.heap.size) HBW.out.size (fun k hk => ?_)) k hk
        rw [foot_nil hk, HP.out]
        exact Nat.le_refl _
      · refine (HBW.out.trans (hx3.below HBW.out.size (fun k hk => ?_))).trans ((Fr.setCell (F := fun i => i = G) w3 ⟨G, 0, none⟩ u rfl).below ?_ (fun i e => ?_))
        · rw [foot_nil hk, HP.out]
          exact Nat.le_refl _
        · exact Nat.le_trans HBW.out.size hx3.1.size
        · rw [e, HP.out]
          omega
    have HLK : Hid (∀ (W : World) (k i : Nat), i < k → Nb w P 1 (List.replicate k ⟨0, 0, ⟨l.toArray⟩⟩) W → Calls Try.prog 25 #[.pointer (some ⟨P, 0, none⟩), .int .i64 (i : Int)] W fun e W' =>
        ∃ b c, e = .returned (.tuple #[.agg #[.int .i64 0, .int .i64 0, .slice (some ⟨b, 0, none⟩) (m + 1) c], .bool true]) ∧ W.heap.size ≤ b ∧ Bx W.heap.size W' (some ⟨b, 0, none⟩) (m + 1) l ∧ W'.cell? ⟨b, m, none⟩ = some (.int .u8 (xm.toNat : Int)) ∧ W'.frozen? ⟨b, m, none⟩ = false ∧ Fr No W W') := fun W k i hi hN => by
      refine (nb_look hN (look_rep _ k i hi)).mono ?_
      rintro e W' ⟨A1, c1, rfl, hc, hx, hf⟩
      have hsz : (⟨l.toArray⟩ : ByteArray).size = m + 1 := by show l.toArray.size = _; simpa using HLL.out
      rw [show ((⟨0, 0, ⟨l.toArray⟩⟩ : Gm).ds.size) = m + 1 from hsz, show ((⟨0, 0, ⟨l.toArray⟩⟩ : Gm).ds.data.toList) = l from by simp] at hx
      rw [show ((⟨0, 0, ⟨l.toArray⟩⟩ : Gm).ds.size) = m + 1 from hsz]
      obtain ⟨h1, b, rfl, hlo, hb, hcl⟩ := hx
      have hm : m < l.length := by omega
      have e2 := hcl m hm
      have e3 := HXM.out
      rw [List.getElem?_eq_getElem hm] at e3
      rw [Option.some.inj e3] at e2
      exact ⟨b, c1, rfl, hlo, ⟨h1, b, rfl, hlo, hb, hcl⟩, e2.1, e2.2, hf⟩
    have HTK : Hid (∀ (W : World) (k i : Nat), i < k + 1 → Nb w P 1 (List.replicate (k + 1) ⟨0, 0, ⟨l.toArray⟩⟩) W → Calls Try.prog 13 #[.pointer (some ⟨P, 0, none⟩), .int .i64 (i : Int)] W fun e W' =>
        ∃ b c, e = .returned (.tuple #[.agg #[.int .i64 0, .int .i64 0, .slice (some ⟨b, 0, none⟩) (m + 1) c], .bool true]) ∧ Bx W.heap.size W' (some ⟨b, 0, none⟩) (m + 1) l ∧ W'.cell? ⟨b, 0, none⟩ = some (.int .u8 (x0.toNat : Int)) ∧ W'.frozen? ⟨b, 0, none⟩ = false ∧ ∀ W2 u, Fr No W' W2 → Nb w P 1 (List.replicate k ⟨0, 0, ⟨l.toArray⟩⟩) (W2.setCell ⟨b, 0, none⟩ u) ∧ Below w.heap.size w W2) := fun W k i hi hN => by
      refine (nb_take hN (look_rep _ (k + 1) i hi)).mono ?_
      rintro e W' ⟨A1, c1, rfl, hc, hx, v, hn, v', hn', hx', hov, hlo, hbl⟩
      have hsz : (⟨l.toArray⟩ : ByteArray).size = m + 1 := by show l.toArray.size = _; simpa using HLL.out
      rw [show ((⟨0, 0, ⟨l.toArray⟩⟩ : Gm).ds.size) = m + 1 from hsz, show ((⟨0, 0, ⟨l.toArray⟩⟩ : Gm).ds.data.toList) = l from by simp] at hx
      rw [show ((⟨0, 0, ⟨l.toArray⟩⟩ : Gm).ds.size) = m + 1 from hsz]
      rw [drop_rep _ k i hi] at hn'
      obtain ⟨h1, b, rfl, hlob, hb, hcl⟩ := hx
      have hm : 0 < l.length := by omega
      have e2 := hcl 0 hm
      have e3 := HX0.out
      rw [List.getElem?_eq_getElem hm] at e3
      rw [Option.some.inj e3] at e2
      refine ⟨b, c1, rfl, ⟨h1, b, rfl, hlob, hb, hcl⟩, e2.1, e2.2, fun W2 u hf2 => ?_⟩
      have hbW := hbl.trans (hx'.below hbl.size hlo)
      have hbW2 := hbW.trans (hf2.noBelow.mono hbW.size)
      have hft : ∀ k, foot P v' k → k < W.heap.size := fun k hk => by
        rcases hk with q | q
        · exact hn.lt (.inl q)
        · exact hn.lt (.inr (hov ▸ q))
      refine ⟨⟨v', (hn'.no hf2).keep (Fr.setCell (F := fun i => i = b) W2 ⟨b, 0, none⟩ u rfl) (fun i hi e => ?_), hx'.lo hbl.size hlo, hbW2.trans ((Fr.setCell (F := fun i => i = b) W2 ⟨b, 0, none⟩ u rfl).below hbW2.size (fun i e => ?_))⟩, hbW2⟩
      · have := hft i hi
        omega
      · rw [e]
        have := hbl.size
        omega
    clear hn3 hx3
    go_wp2_with fail
    go_loopw [6] (fun v6 wr => ∃ k : Nat, k ≤ 3 ∧ v6 = .int .i64 (k : Int) ∧ Nb w P 1 (List.replicate (k + 1) ⟨0, 0, ⟨l.toArray⟩⟩) wr) (fun v6 _ => 3 - (intOf v6).toNat)
    case atStart => exact ⟨0, by omega, rfl, HN4.out _⟩
    case round =>
      obtain ⟨k, hk, rfl, hN⟩ := hrel
      have HN := Lib.hid hN
      clear hN
      by_cases hlt : k < 3
      · have hin : (k : Int) < 3 := by omega
        have hk0 : (0 : Int) ≤ (k : Int) := by omega
        have hwi : IntKind.i64.wrap ((k : Int) + 1) = ((k + 1 : Nat) : Int) := by
          rw [show ((k : Int) + 1) = ((k + 1 : Nat) : Int) by omega]
          exact IntWalk.i64_in _ (by omega)
        go_wp2_with fail
        refine (nb_copy HN.out (by rw [List.length_replicate]; omega) (look_rep _ (k + 1) k (by omega))).mono ?_
        rintro e w5 ⟨rfl, hq⟩
        rw [← List.replicate_succ'] at hq
        have HN5 := Lib.hid hq
        clear hq
        go_wp2_with fail
        go_loopw [7] (fun v7 wq => ∃ i : Nat, i ≤ k + 1 + 1 ∧ v7 = .int .i64 (i : Int) ∧ Nb w P 1 (List.replicate (k + 1 + 1) ⟨0, 0, ⟨l.toArray⟩⟩) wq) (fun v7 _ => k + 1 + 1 - (intOf v7).toNat)
        case atStart => exact ⟨0, by omega, rfl, HN5.out⟩
        case round =>
          obtain ⟨i, hi, rfl, hN⟩ := hrel
          have HM := Lib.hid hN
          clear hN
          have HFL := Lib.hid (nb_flying HM.out (m := k + 1 + 1) (by rw [List.length_replicate]))
          by_cases hil : i < k + 1 + 1
          · obtain ⟨q, HQ⟩ : ∃ q, Hid (k + 1 + 1 = q) := ⟨_, rfl⟩
            rw [HQ.out] at HFL hil HM ⊢
            have hin2 : (i : Int) < (q : Int) := by omega
            have hi0 : (0 : Int) ≤ (i : Int) := by omega
            have hwi2 : IntKind.i64.wrap ((i : Int) + 1) = ((i + 1 : Nat) : Int) := by
              have := HQ.out
              rw [show ((i : Int) + 1) = ((i + 1 : Nat) : Int) by omega]
              exact IntWalk.i64_in _ (by omega)
            go_wp2_with fail
            refine HFL.out.mono ?_
            rintro e w6 ⟨rfl, rfl⟩
            go_wp2_with fail
            refine (HLK.out _ q i hil HM.out).mono ?_
            rintro e w7 ⟨b, c1, rfl, hlo, hx, hcb, hfb, hf⟩
            have hfa := Fr.alloc No w7 (.cells #[.int .i64 0, .int .i64 0, .slice (some ⟨b, 0, none⟩) (m + 1) c1] 30)
            have hs1 := str_rule c1 (hx.no hfa).rd
            have hs2 := str_rule c (HR.out.below (((HM.out.no hf).no hfa).bel))
            have hbl : b < w7.heap.size := by
              obtain ⟨_, b', e, _, hb', _⟩ := hx
              have e2 : b = b' := by injection e with e; injection e
              rw [e2]; exact hb'
            have hcb2 := (hfa.cell (p := ⟨b, m, none⟩) hbl (fun e => e)).trans hcb
            have hfb2 := (World.frozen?_of_block (a := ⟨b, m, none⟩) (hfa.block b hbl (fun e => e))).trans hfb
            have HS := Lib.hid (fun u o => (HM.out.set (k := m) (u := u) (b := b) (by have := HM.out.bel.size; omega) hf hlo).no (Fr.alloc No _ o))
            have hwm : IntKind.i64.wrap ((m : Int) + 1 - 1) = (m : Int) := by
              rw [show ((m : Int) + 1 - 1) = (m : Int) by omega]
              exact IntWalk.i64_in _ (by omega)
            have hm0 : (0 : Int) ≤ (m : Int) := by omega
            have hm1 : (m : Int) < (m : Int) + 1 := by omega
            clear hx hcb hfb hf hfa
            go_wp2_with fail
            go_roundw
            case rel => exact ⟨i + 1, by omega, by go_num, HS.out _ _⟩
            case measure => simp [intOf]; omega
          · have hiq : i = k + 1 + 1 := by omega
            subst hiq
            go_wp2_with fail
            refine HFL.out.mono ?_
            rintro e w6 ⟨rfl, rfl⟩
            go_wp2_with fail
            go_roundw
            case rel => exact ⟨k + 1, by omega, by go_num, HM.out⟩
            case measure => simp [intOf]; omega
      · have hk3 : k = 3 := by omega
        have HN := Lib.hid (show Nb w P 1 (List.replicate 4 ⟨0, 0, ⟨l.toArray⟩⟩) wr by have := HN.out; rw [hk3] at this; exact this)
        have hkn : ¬ ((k : Int) < 3) := by omega
        clear hk3 hlt hk
        go_wp2_with fail
        go_loopw [10] (fun v10 wr => ∃ j : Nat, j ≤ 4 ∧ v10 = .int .i64 (j : Int) ∧ Nb w P 1 (List.replicate j ⟨0, 0, ⟨l.toArray⟩⟩) wr) (fun v10 _ => (intOf v10).toNat)
        case atStart => exact ⟨4, by omega, rfl, HN.out⟩
        case round =>
          obtain ⟨j, hj, rfl, hN⟩ := hrel
          have HM := Lib.hid hN
          clear hN
          by_cases hj0 : 0 < j
          · obtain ⟨i, HI⟩ : ∃ i, Hid (j = i + 1) := ⟨j - 1, show j = j - 1 + 1 by omega⟩
            obtain ⟨q, HQ⟩ : ∃ q, Hid (j / 2 = q) := ⟨_, rfl⟩
            have hq2 : (j : Int) / 2 = (q : Int) := by have := HQ.out; omega
            have hqt : (j : Int).tdiv 2 = (q : Int) := by rw [Int.tdiv_eq_ediv_of_nonneg (by omega)]; exact hq2
            have hjw : IntKind.i64.wrap ((j : Int) - 1) = (i : Int) := by
              have := HI.out
              rw [show ((j : Int) - 1) = (i : Int) by omega]
              exact IntWalk.i64_in _ (by omega)
            have hj1 : (0 : Int) < (j : Int) := by omega
            have HT2 := Lib.hid (HTK.out wr i q (by have := HQ.out; have := HI.out; omega) (by have := HM.out; rw [HI.out] at this; exact this))
            go_wp2_with fail
            refine HT2.out.mono ?_
            rintro e w7 ⟨b, c1, rfl, hx, hcb, hfb, hset⟩
            have hfa := Fr.alloc No w7 (.cells #[.int .i64 0, .int .i64 0, .slice (some ⟨b, 0, none⟩) (m + 1) c1] 30)
            have hs1 := str_rule c1 (hx.no hfa).rd
            have hs2 := str_rule c (HR.out.below ((hset w7 (.int .u8 0) (Fr.refl _ _)).2.trans (hfa.noBelow.mono (hset w7 (.int .u8 0) (Fr.refl _ _)).2.size)))
            have hbl : b < w7.heap.size := by
              obtain ⟨_, b', e, _, hb', _⟩ := hx
              have e2 : b = b' := by injection e with e; injection e
              rw [e2]; exact hb'
            have hcb2 := (hfa.cell (p := ⟨b, 0, none⟩) hbl (fun e => e)).trans hcb
            have hfb2 := (World.frozen?_of_block (a := ⟨b, 0, none⟩) (hfa.block b hbl (fun e => e))).trans hfb
            have HS := Lib.hid (fun u o => ((hset w7 u (Fr.refl _ _)).1).no (Fr.alloc No _ o))
            have hm1 : (0 : Int) < (m : Int) + 1 := by omega
            clear hx hcb hfb hset hfa
            go_wp2_with fail
            go_roundw
            case rel => exact ⟨i, by have := HI.out; omega, by go_num, HS.out _ _⟩
            case measure => have := HI.out; simp [intOf]; omega
          · have hjz : j = 0 := by omega
            subst hjz
            go_wp2_with fail
            refine (nb_flying HM.out (m := 0) rfl).mono ?_
            rintro e w6 ⟨rfl, rfl⟩
            go_wp2_with fail
            refine (awake_any _).mono ?_
            rintro e w7 ⟨rfl, hb⟩
            have HB := Lib.hid hb
            clear hb
            go_wp2_with fail
            go_ret
            exact ⟨rfl, HM.out.bel.trans (HB.out.mono HM.out.bel.size)⟩
end Go.Proofs.Ytndanonhkjgmhaa

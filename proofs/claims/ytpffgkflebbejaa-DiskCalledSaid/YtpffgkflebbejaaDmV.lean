/-
  What a crash leaves of a shot. No statement of the seat is proved here.
-/
import Derived.Test.YtpffgkflebbejaaDmU
import Derived.Test.YtpffgkflebbejaaDkV
namespace Go.Proofs.Ytpffgkflebbejaa
open Go.RowKit Go.Maps

/-- How many bytes of a file a crash leaves. -/
def kq (l fm : Nat) (k : Int) : Nat := fm + min k.toNat (l - fm)
def kqAt (ks : List Int) (bs : List (List UInt8)) (es : List Nat) (j : Nat) : Nat := kq (bs.getD j []).length (es.getD j 0) (kAt ks j)
def keptB (ks : List Int) (bs : List (List UInt8)) (es : List Nat) (k : Nat) : List (List UInt8) := (List.range k).map fun j => (bs.getD j []).take (kqAt ks bs es j)
def keptE (ks : List Int) (bs : List (List UInt8)) (es : List Nat) (k : Nat) : List Nat := (List.range k).map fun j => kqAt ks bs es j
set_option maxRecDepth 100000 in
theorem extract_take' (l : List UInt8) (K : Nat) : (⟨(l.take K).toArray⟩ : ByteArray) = (⟨l.toArray⟩ : ByteArray).extract 0 K := by
  apply ByteArray.ext
  rw [ByteArray.data_extract]
  simp only [List.extract_toArray, List.extract_eq_take_drop]
  simp
set_option maxHeartbeats 4000000 in
set_option maxRecDepth 100000 in
theorem kept_any {w : World} {B1 B n kn kc : Nat} {a1 a2 a3 : Value} {ns bs : List (List UInt8)} {es : List Nat} {KA : Option Addr} {ks : List Int} {F : Nat → Prop} (h : Sho B1 B w a1 a2 a3 n ns bs es) (hn : n ≤ 200) (hk : RdI w F KA kn ks)
    (hkn : kn ≤ 250) (hfm : ∀ (j : Nat) (b : List UInt8) (e : Nat), bs[j]? = some b → es[j]? = some e → e ≤ b.length ∧ b.length ≤ 16777216) :
    Calls Try.prog 16 #[.agg #[a1, a2, a3], .slice KA kn kc] w fun e w' =>
      ∃ v2 v3, e = .returned (.agg #[a1, v2, v3]) ∧ Sho B1 w.heap.size w' a1 v2 v3 n ns (keptB ks bs es n) (keptE ks bs es n) ∧ Fr No w w' := by
  obtain ⟨A1, x1, c1, rfl⟩ : ∃ A x c, a1 = .slice A x c := by
    rcases h.o1.2 with ⟨rfl, e⟩ | ⟨g, cap, cur, rfl, _⟩ <;> exact ⟨_, _, _, rfl⟩
  obtain ⟨A2, c2, rfl⟩ : ∃ A c, a2 = .slice A n c := by
    rcases h.o2.2 with ⟨rfl, e⟩ | ⟨g, cap, cur, rfl, _⟩
    · exact ⟨none, 0, by rw [e]⟩
    · exact ⟨_, _, rfl⟩
  obtain ⟨A3, c3, rfl⟩ : ∃ A c, a3 = .slice A n c := by
    rcases h.o3.2 with ⟨rfl, e⟩ | ⟨g, cap, cur, rfl, _⟩
    · exact ⟨none, 0, by rw [e]⟩
    · exact ⟨_, _, rfl⟩
  have H := Lib.hid h
  have HK := Lib.hid (show ks.length = kn from hk.1)
  have HKS := Lib.hid (show ∀ W, Fr No w W → RdI W F KA kn ks from fun W hf => hk.keep (hf.mono (fun _ _ e => e.elim)))
  have HFM := Lib.hid hfm
  have hbl : bs.length = n := by have := h.o2.1; rw [svs_length] at this; omega
  have hel : es.length = n := by have := h.o3.1; rw [ivs_length] at this; omega
  have HLN := Lib.hid (And.intro hbl hel)
  clear h hk hfm hbl hel
  go_enter Try.func16, Try.ntmps16
  go_wp2_with fail
  obtain ⟨w1, HW1⟩ : ∃ w1, Hid (w.alloc (.cells #[.slice A1 x1 c1, .slice A2 n c2, .slice A3 n c3] 33) = w1) := ⟨_, rfl⟩
  have hqb : w1.heap[w.heap.size]? = some (.cells #[.slice A1 x1 c1, .slice A2 n c2, .slice A3 n c3] 33 (0, 0)) := by rw [← HW1.out]; exact heap_alloc_new _ _
  have HF1 := Lib.hid (show Fr No w w1 by rw [← HW1.out]; exact Fr.alloc No w _)
  have hq3 : w1.cell? ⟨w.heap.size, 2, none⟩ = some (.slice A3 n c3) := by unfold World.cell?; rw [hqb]; rfl
  have hs1 : w1.heap.size = w.heap.size + 1 := by rw [← HW1.out, World.size_alloc]
  rw [HW1.out]
  obtain ⟨Q, HQ⟩ : ∃ Q, Hid (w.heap.size = Q) := ⟨_, rfl⟩
  rw [HQ.out] at hq3 hs1 ⊢
  obtain ⟨P, hP⟩ : ∃ P, Q + 1 = P := ⟨_, rfl⟩
  rw [hP] at hs1 ⊢
  obtain ⟨T, hT⟩ : ∃ T, P + 1 = T := ⟨_, rfl⟩
  rw [hT]
  have HQ3 := Lib.hid hq3
  have HT0 := Lib.hid (show Sht B1 w1 ((w1.alloc (.cells #[.slice none 0 0, .slice none 0 0, .slice none 0 0] 33)).alloc (.cells #[.slice A1 x1 c1, .slice none 0 0, .slice none 0 0] 33)) P T (.slice A1 x1 c1) (.slice none 0 0) (.slice none 0 0) n ns (keptB ks bs es 0) (keptE ks bs es 0) by
    have hs2 : (w1.alloc (.cells #[.slice none 0 0, .slice none 0 0, .slice none 0 0] 33)).heap.size = T := by rw [World.size_alloc, hs1, hT]
    have hf : Fr No w1 ((w1.alloc (.cells #[.slice none 0 0, .slice none 0 0, .slice none 0 0] 33)).alloc (.cells #[.slice A1 x1 c1, .slice none 0 0, .slice none 0 0] 33)) := (Fr.alloc No w1 _).no_trans (Fr.alloc No _ _)
    refine ⟨?_, ?_, by omega, ⟨by omega, by omega⟩, ?_, World.ownsRow_nil _ _ _ _, World.ownsRow_nil _ _ _ _, (fun g _ e => by cases e), (fun g _ e => by cases e), (fun g _ e => by cases e), hf⟩
    · have := heap_alloc_new (w1.alloc (.cells #[.slice none 0 0, .slice none 0 0, .slice none 0 0] 33)) (.cells #[.slice A1 x1 c1, .slice none 0 0, .slice none 0 0] 33)
      rw [hs2] at this
      exact this
    · refine (Below.heap_alloc _ _ _ (by omega)).trans ?_
      have := heap_alloc_new w1 (.cells #[.slice none 0 0, .slice none 0 0, .slice none 0 0] 33)
      rw [hs1] at this
      exact this
    · exact own_keep H.out.o1 (fun k hk => (HF1.out.no_trans hf).block k (H.out.o1.lt k hk).2 (fun e => e)))
  have HSZ := Lib.hid (And.intro hs1 (And.intro hP hT))
  clear hqb hs1 hq3 hP hT
  go_loopw [16] (fun vi wr => ∃ (k : Nat) (v2 v3 : Value), k ≤ n ∧ vi = .int .i64 (k : Int) ∧ Sht B1 w1 wr P T (.slice A1 x1 c1) v2 v3 n ns (keptB ks bs es k) (keptE ks bs es k)) (fun vi _ => n - (intOf vi).toNat)
  case atStart => exact ⟨0, _, _, Nat.zero_le _, rfl, HT0.out⟩
  case round =>
    obtain ⟨k, v2, v3, hkn', rfl, hTT⟩ := hrel
    obtain ⟨A4, m4, c4, rfl⟩ : ∃ A m c, v2 = .slice A m c := by
      rcases hTT.o2.2 with ⟨rfl, e⟩ | ⟨g, cap, cur, rfl, _⟩ <;> exact ⟨_, _, _, rfl⟩
    obtain ⟨A5, m5, c5, rfl⟩ : ∃ A m c, v3 = .slice A m c := by
      rcases hTT.o3.2 with ⟨rfl, e⟩ | ⟨g, cap, cur, rfl, _⟩ <;> exact ⟨_, _, _, rfl⟩
    have HT := Lib.hid hTT
    clear hTT
    by_cases hkl : k < n
    · obtain ⟨b, hbk⟩ : ∃ b, bs[k]? = some b := ⟨_, List.getElem?_eq_getElem (by rw [HLN.out.1]; exact hkl)⟩
      obtain ⟨e, hek⟩ : ∃ e, es[k]? = some e := ⟨_, List.getElem?_eq_getElem (by rw [HLN.out.2]; exact hkl)⟩
      obtain ⟨hel, hbl⟩ := HFM.out k b e hbk hek
      obtain ⟨G2, rfl⟩ : ∃ G, A2 = some ⟨G, 0, none⟩ := by
        rcases H.out.o2.2 with ⟨e, e0⟩ | ⟨G, cap, cur, e, _⟩
        · omega
        · injection e with e; exact ⟨G, e⟩
      obtain ⟨G3, rfl⟩ : ∃ G, A3 = some ⟨G, 0, none⟩ := by
        rcases H.out.o3.2 with ⟨e, e0⟩ | ⟨G, cap, cur, e, _⟩
        · omega
        · injection e with e; exact ⟨G, e⟩
      have hg2 := H.out.o2.cells (g := G2) rfl k (.string ⟨b.toArray⟩) (svs_at hbk)
      have hg3 := H.out.o3.cells (g := G3) rfl k (.int .i64 (e : Int)) (ivs_at hek)
      rw [Addr.add_lit, Nat.zero_add] at hg2 hg3
      have HFW := Lib.hid (HF1.out.no_trans HT.out.fr)
      have hw2 := HFW.out.cell hg2 (fun e => e)
      have hw3 := HFW.out.cell hg3 (fun e => e)
      have hq3 := HT.out.fr.cell HQ3.out (fun e => e)
      have HKK := Lib.hid (HKS.out _ HFW.out)
      have hbsz : (⟨b.toArray⟩ : ByteArray).size = b.length := by show b.toArray.size = _; simp
      obtain ⟨x, hx⟩ : ∃ x, kAt ks k = x := ⟨_, rfl⟩
      have HKQ := Lib.hid (show kqAt ks bs es k = e + min x.toNat (b.length - e) by
        unfold kqAt kq
        rw [hx, List.getD_eq_getElem?_getD, List.getD_eq_getElem?_getD, hbk, hek]
        rfl)
      have hwk : IntKind.i64.wrap ((k : Int) + 1) = ((k + 1 : Nat) : Int) := by
        rw [show ((k : Int) + 1) = ((k + 1 : Nat) : Int) by omega]
        exact IntWalk.i64_in _ (by omega)
      clear hg2 hg3
      go_wp2_with fail
      go_loopw [8, 9] (fun vn vk wr' => ∃ j : Nat, j ≤ min x.toNat (b.length - e) ∧ vn = .int .i64 ((e + j : Nat) : Int) ∧ vk = .int .i64 (j : Int) ∧ wr' = wr) (fun vn vk _ => b.length - (intOf vn).toNat)
      case atStart => exact ⟨0, Nat.zero_le _, by first | rfl | trivial, by first | rfl | trivial, by first | rfl | trivial⟩
      case round =>
        obtain ⟨j, hj, rfl, rfl, rfl⟩ := hrel
        have hwj : IntKind.i64.wrap ((j : Int) + 1) = ((j + 1 : Nat) : Int) := by
          rw [show ((j : Int) + 1) = ((j + 1 : Nat) : Int) by omega]
          exact IntWalk.i64_in _ (by omega)
        have hwn : IntKind.i64.wrap (((e + j : Nat) : Int) + 1) = ((e + (j + 1) : Nat) : Int) := by
          rw [show (((e + j : Nat) : Int) + 1) = ((e + (j + 1) : Nat) : Int) by omega]
          exact IntWalk.i64_in _ (by omega)
        by_cases hkk : k < kn
        · obtain ⟨b0, o0, rfl, hb0, _, hc0⟩ := HKK.out.2 (by omega)
          have hcx : wr.cell? ⟨b0, o0 + k, none⟩ = some (.int .i64 x) := by
            have := hc0 k (by rw [HK.out]; exact hkk)
            rw [this, ← hx]
            unfold kAt
            rw [List.getD_eq_getElem?_getD, List.getElem?_eq_getElem (by rw [HK.out]; exact hkk)]
            rfl
          clear hc0 hb0
          by_cases hjx : (j : Int) < x
          · have d1 : decide ((j : Int) < x) = true := by rw [decide_eq_true_eq]; exact hjx
            by_cases hel2 : e + j < b.length
            · have d2 : decide (((e + j : Nat) : Int) < (b.length : Int)) = true := by rw [decide_eq_true_eq]; omega
              go_wp2_with fail
              go_roundw
              case rel => exact ⟨j + 1, by omega, by first | rfl | go_num, by go_num, by first | rfl | trivial⟩
              case measure => simp [intOf]; omega
            · have d2 : decide (((e + j : Nat) : Int) < (b.length : Int)) = false := by rw [decide_eq_false_iff_not]; omega
              have hje : j = min x.toNat (b.length - e) := by omega
              have HJ := Lib.hid (show kqAt ks bs es k = e + j by rw [HKQ.out, ← hje])
              have hle : ((e + j : Nat) : Int) ≤ (b.length : Int) := by omega
              have hq4 := HT.out.c2
              have hq4d := (HT.out.no (Fr.drew No wr)).c2
              have hNl : e + j ≤ b.length := by omega
              have hlc : (keptB ks bs es k).length = k := by simp [keptB]
              have hlce : (keptE ks bs es k).length = k := by simp [keptE]
              have hcp1 : keptB ks bs es (k + 1) = keptB ks bs es k ++ [b.take (e + j)] := by
                unfold keptB
                rw [List.range_succ, List.map_append]
                simp only [List.map_cons, List.map_nil]
                rw [HJ.out, List.getD_eq_getElem?_getD, hbk]
                rfl
              have hcp2 : keptE ks bs es (k + 1) = keptE ks bs es k ++ [e + j] := by
                unfold keptE
                rw [List.range_succ, List.map_append]
                simp only [List.map_cons, List.map_nil]
                rw [HJ.out]
              have HCP := Lib.hid (And.intro hcp1 (And.intro hcp2 (And.intro hlc hlce)))
              clear hcp1 hcp2 hlc hlce hj hje
              try clear hx0
              go_wp2_with fail
              clear hle hcx d1 d2
              generalize e + j = N at *
              have HTW := Lib.hid (HT.out.no ((Fr.alloc No wr (.cells #[.string ((⟨b.toArray⟩ : ByteArray).extract 0 N)] 9)).no_trans (Fr.drew No _)))
              have hq5 := HTW.out.c2
              have hcn : ((wr.alloc (.cells #[.string ((⟨b.toArray⟩ : ByteArray).extract 0 N)] 9)).drew).cell? ⟨wr.heap.size, 0, none⟩ = some (.string ((⟨b.toArray⟩ : ByteArray).extract 0 N)) := by
                show (wr.alloc _).cell? _ = _
                rw [World.cell?_alloc_mark]
                rfl
              go_region_law (first
                | (refine step_append_sho w1 _ rfl (.tmp 49) (.tmp 53) rfl HTW.out k HCP.out.2.2.1 (by omega) (b.take N) _ (extract_take' b N) wr.heap.size hcn (by rfl) (by rfl) ?_; intro g6 cap6 v6 w6 e6 ht6 hz6 hc6; subst e6; have HT6 := Lib.hid ht6; clear ht6))
              all_goals (
                obtain ⟨w7, HW7⟩ : ∃ w7, Hid (w6.setCell ⟨T, 1, none⟩ (.slice (some ⟨g6, 0, none⟩) (k + 1) cap6) = w7) := ⟨_, rfl⟩
                rw [HW7.out] at HT6 ⊢
                have r3 := HT6.out.c3
                clear hq4 hq4d hq5 hcn hz6 hc6 hw2 hw3 hq3
                go_wp2_with (at_builtin; refine wpList_append_fir w1 w7 rfl (.tmp 57) (.tmp 59) rfl HT6.out k HCP.out.2.2.2 (by omega) N rfl rfl ?_; intro g8 cap8 v8 w8 e8 ht8 hz8 hc8; subst e8; have HT8 := Lib.hid ht8; clear ht8)
                go_roundw
                case rel => exact ⟨k + 1, _, _, by omega, by go_num, by rw [HCP.out.1, HCP.out.2.1]; exact HT8.out⟩
                case measure => simp [intOf]; omega)
          · have d1 : decide ((j : Int) < x) = false := by rw [decide_eq_false_iff_not]; exact hjx
            have hje : j = min x.toNat (b.length - e) := by omega
            have HJ := Lib.hid (show kqAt ks bs es k = e + j by rw [HKQ.out, ← hje])
            have hle : ((e + j : Nat) : Int) ≤ (b.length : Int) := by omega
            have hq4 := HT.out.c2
            have hq4d := (HT.out.no (Fr.drew No wr)).c2
            have hNl : e + j ≤ b.length := by omega
            have hlc : (keptB ks bs es k).length = k := by simp [keptB]
            have hlce : (keptE ks bs es k).length = k := by simp [keptE]
            have hcp1 : keptB ks bs es (k + 1) = keptB ks bs es k ++ [b.take (e + j)] := by
              unfold keptB
              rw [List.range_succ, List.map_append]
              simp only [List.map_cons, List.map_nil]
              rw [HJ.out, List.getD_eq_getElem?_getD, hbk]
              rfl
            have hcp2 : keptE ks bs es (k + 1) = keptE ks bs es k ++ [e + j] := by
              unfold keptE
              rw [List.range_succ, List.map_append]
              simp only [List.map_cons, List.map_nil]
              rw [HJ.out]
            have HCP := Lib.hid (And.intro hcp1 (And.intro hcp2 (And.intro hlc hlce)))
            clear hcp1 hcp2 hlc hlce hj hje
            try clear hx0
            go_wp2_with fail
            clear hle hcx d1
            rw [← Int.natCast_add]
            generalize e + j = N at *
            have HTW := Lib.hid (HT.out.no ((Fr.alloc No wr (.cells #[.string ((⟨b.toArray⟩ : ByteArray).extract 0 N)] 9)).no_trans (Fr.drew No _)))
            have hq5 := HTW.out.c2
            have hcn : ((wr.alloc (.cells #[.string ((⟨b.toArray⟩ : ByteArray).extract 0 N)] 9)).drew).cell? ⟨wr.heap.size, 0, none⟩ = some (.string ((⟨b.toArray⟩ : ByteArray).extract 0 N)) := by
              show (wr.alloc _).cell? _ = _
              rw [World.cell?_alloc_mark]
              rfl
            go_region_law (first
              | (refine step_append_sho w1 _ rfl (.tmp 49) (.tmp 53) rfl HTW.out k HCP.out.2.2.1 (by omega) (b.take N) _ (extract_take' b N) wr.heap.size hcn (by rfl) (by rfl) ?_; intro g6 cap6 v6 w6 e6 ht6 hz6 hc6; subst e6; have HT6 := Lib.hid ht6; clear ht6))
            all_goals (
              obtain ⟨w7, HW7⟩ : ∃ w7, Hid (w6.setCell ⟨T, 1, none⟩ (.slice (some ⟨g6, 0, none⟩) (k + 1) cap6) = w7) := ⟨_, rfl⟩
              rw [HW7.out] at HT6 ⊢
              have r3 := HT6.out.c3
              clear hq4 hq4d hq5 hcn hz6 hc6 hw2 hw3 hq3
              go_wp2_with (at_builtin; refine wpList_append_fir w1 w7 rfl (.tmp 57) (.tmp 59) rfl HT6.out k HCP.out.2.2.2 (by omega) N rfl rfl ?_; intro g8 cap8 v8 w8 e8 ht8 hz8 hc8; subst e8; have HT8 := Lib.hid ht8; clear ht8)
              go_roundw
              case rel => exact ⟨k + 1, _, _, by omega, by go_num, by rw [HCP.out.1, HCP.out.2.1]; exact HT8.out⟩
              case measure => simp [intOf]; omega)
        · have hx0 : x = 0 := by
            rw [← hx]
            unfold kAt
            rw [List.getD_eq_getElem?_getD, List.getElem?_eq_none (by rw [HK.out]; omega)]
            rfl
          have hje : j = min x.toNat (b.length - e) := by omega
          have HJ := Lib.hid (show kqAt ks bs es k = e + j by rw [HKQ.out, ← hje])
          have hle : ((e + j : Nat) : Int) ≤ (b.length : Int) := by omega
          have hq4 := HT.out.c2
          have hq4d := (HT.out.no (Fr.drew No wr)).c2
          have hNl : e + j ≤ b.length := by omega
          have hlc : (keptB ks bs es k).length = k := by simp [keptB]
          have hlce : (keptE ks bs es k).length = k := by simp [keptE]
          have hcp1 : keptB ks bs es (k + 1) = keptB ks bs es k ++ [b.take (e + j)] := by
            unfold keptB
            rw [List.range_succ, List.map_append]
            simp only [List.map_cons, List.map_nil]
            rw [HJ.out, List.getD_eq_getElem?_getD, hbk]
            rfl
          have hcp2 : keptE ks bs es (k + 1) = keptE ks bs es k ++ [e + j] := by
            unfold keptE
            rw [List.range_succ, List.map_append]
            simp only [List.map_cons, List.map_nil]
            rw [HJ.out]
          have HCP := Lib.hid (And.intro hcp1 (And.intro hcp2 (And.intro hlc hlce)))
          clear hcp1 hcp2 hlc hlce hj hje
          try clear hx0
          go_wp2_with fail
          clear hle
          generalize e + j = N at *
          have HTW := Lib.hid (HT.out.no ((Fr.alloc No wr (.cells #[.string ((⟨b.toArray⟩ : ByteArray).extract 0 N)] 9)).no_trans (Fr.drew No _)))
          have hq5 := HTW.out.c2
          have hcn : ((wr.alloc (.cells #[.string ((⟨b.toArray⟩ : ByteArray).extract 0 N)] 9)).drew).cell? ⟨wr.heap.size, 0, none⟩ = some (.string ((⟨b.toArray⟩ : ByteArray).extract 0 N)) := by
            show (wr.alloc _).cell? _ = _
            rw [World.cell?_alloc_mark]
            rfl
          go_region_law (first
            | (refine step_append_sho w1 _ rfl (.tmp 49) (.tmp 53) rfl HTW.out k HCP.out.2.2.1 (by omega) (b.take N) _ (extract_take' b N) wr.heap.size hcn (by rfl) (by rfl) ?_; intro g6 cap6 v6 w6 e6 ht6 hz6 hc6; subst e6; have HT6 := Lib.hid ht6; clear ht6))
          all_goals (
            obtain ⟨w7, HW7⟩ : ∃ w7, Hid (w6.setCell ⟨T, 1, none⟩ (.slice (some ⟨g6, 0, none⟩) (k + 1) cap6) = w7) := ⟨_, rfl⟩
            rw [HW7.out] at HT6 ⊢
            have r3 := HT6.out.c3
            clear hq4 hq4d hq5 hcn hz6 hc6 hw2 hw3 hq3
            go_wp2_with (at_builtin; refine wpList_append_fir w1 w7 rfl (.tmp 57) (.tmp 59) rfl HT6.out k HCP.out.2.2.2 (by omega) N rfl rfl ?_; intro g8 cap8 v8 w8 e8 ht8 hz8 hc8; subst e8; have HT8 := Lib.hid ht8; clear ht8)
            go_roundw
            case rel => exact ⟨k + 1, _, _, by omega, by go_num, by rw [HCP.out.1, HCP.out.2.1]; exact HT8.out⟩
            case measure => simp [intOf]; omega)
    · have hke : k = n := by omega
      subst hke
      have q1 := HT.out.c1
      have q2 := HT.out.c2
      have q3 := HT.out.c3
      obtain ⟨p0, p1, p2⟩ := HT.out.p
      have z0 := HT.out.zP 0
      have z1 := HT.out.zP 1
      have z2 := HT.out.zP 2
      go_wp2_with fail
      have hbp := heap_cells_set _ P 2 _ _ (.slice A5 m5 c5) (heap_cells_set _ P 1 _ _ (.slice A4 m4 c4) (heap_cells_set _ P 0 _ _ (.slice A1 x1 c1) HT.out.res))
      refine bodyPost_ret (results_cell_row (p := 4) rfl _ _ P 33 #[.slice A1 x1 c1, .slice A4 m4 c4, .slice A5 m5 c5] (0, 0) _ rfl hbp Try.underlying33 rfl (by kernel_rfl)) rfl ?_
      obtain ⟨hS, hFF⟩ := HT.out.done (by simp [keptB]) (by simp [keptE]) (.slice A1 x1 c1) (.slice A4 m4 c4) (.slice A5 m5 c5)
      have hsz := HSZ.out.1
      have hsz2 := HSZ.out.2.1
      have hq0 := HQ.out
      exact ⟨_, _, rfl, ⟨hS.o1, own_base hS.o2 (by omega), own_base hS.o3 (by omega)⟩, HF1.out.no_trans hFF⟩
end Go.Proofs.Ytpffgkflebbejaa

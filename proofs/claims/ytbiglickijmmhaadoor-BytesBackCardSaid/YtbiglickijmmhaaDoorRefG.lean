/-
  The contracts of the document's GetUint and GetInt. No statement of the seat is proved here.
-/
import Derived.Test.YtbiglickijmmhaaDoorRefGM
import Derived.Test.YtbiglickijmmhaaDoorRefS
import Derived.Deep.RegionHeld3
namespace Go.Proofs.YtbiglickijmmhaaDoor
open Go.RowKit

theorem getU_zero (l : List UInt8) (p : Int) : (getU l p).2.2 ≠ 0 → (getU l p).1 = 0 ∧ (getU l p).2.1 = 0 := by
  unfold getU
  split
  · simp
  · split
    · split <;> simp
    · split <;> simp
theorem tup_eq (a b d : Nat) : tup (a, b, d) = .tuple #[.int .u64 (a : Int), .int .i64 (b : Int), .int .i64 (d : Int)] := rfl
set_option maxHeartbeats 800000 in
set_option maxRecDepth 100000 in
theorem rget_off (l : List UInt8) (A : Option Addr) (n c : Nat) (p : Int) (w : World) (hl : l.length = n) (hn : n ≤ 20000) (hp : p < 0 ∨ (n : Int) < p) :
    Calls Tryd.prog 18 #[.slice A n c, .int .i64 p] w fun e w' => e = .returned (tup (getU l p)) ∧ Below w.heap.size w w' := by
  have E : Hid (getU l p = (0, 0, 2)) := by show _ = _; unfold getU; rw [hl, if_pos hp]
  clear hl
  rcases hp with hp | hp
  · go_enter Tryd.func18, Tryd.ntmps18
    go_wp2
    go_ret3
    exact ⟨by rw [E.out]; rfl, Below.refl _ _⟩
  · go_enter Tryd.func18, Tryd.ntmps18
    go_wp2
    go_ret3
    exact ⟨by rw [E.out]; rfl, Below.refl _ _⟩

set_option maxHeartbeats 3200000 in
set_option maxRecDepth 100000 in
theorem rget_in (l : List UInt8) (A : Option Addr) (n c : Nat) (p : Nat) (w : World) (hr : Rd w w.heap.size A n l) (hn : n ≤ 20000) (hc : n ≤ c) (hp : p ≤ n) :
    Calls Tryd.prog 18 #[.slice A n c, .int .i64 (p : Int)] w fun e w' => e = .returned (tup (getU l p)) ∧ Below w.heap.size w w' := by
  have HD := Lib.hid hr
  have HLN := Lib.hid hr.len
  obtain ⟨m, hm⟩ : ∃ m, ((l.drop p).take 10).length = m := ⟨_, rfl⟩
  have hm2 : m ≤ 10 ∧ p + m ≤ n ∧ (m < 10 → p + m = n) := by
    have := hr.len
    rw [List.length_take, List.length_drop] at hm
    omega
  obtain ⟨hm10, hmn, hmx⟩ := hm2
  have hat : ∀ j (h1 : j < ((l.drop p).take 10).length) (h2 : p + j < l.length), ((l.drop p).take 10)[j] = l[p + j] := fun j h1 h2 => by
    rw [List.getElem_take, List.getElem_drop]
  obtain ⟨e, HE⟩ : ∃ e, Hid (e ≤ m ∧ (∀ j (h : j < l.length), p ≤ j → j < p + e → 128 ≤ (l[j]).toNat) ∧ ((e = m ∧ ((l.drop p).take 10).findIdx? low = none) ∨ (e < m ∧ ((l.drop p).take 10).findIdx? low = some e))) := by
    rcases hf : ((l.drop p).take 10).findIdx? low with _ | i
    · refine ⟨m, Nat.le_refl _, fun j h h1 h2 => ?_, Or.inl ⟨rfl, rfl⟩⟩
      rw [List.findIdx?_eq_none_iff] at hf
      obtain ⟨k, rfl⟩ : ∃ k, j = p + k := ⟨j - p, by omega⟩
      rw [← hat k (by omega) h]
      have := hf _ (List.getElem_mem (show k < ((l.drop p).take 10).length by omega))
      simpa [low] using this
    · obtain ⟨hi, h1, h2⟩ := List.findIdx?_eq_some_iff_getElem.1 hf
      refine ⟨i, by omega, fun j h h3 h4 => ?_, Or.inr ⟨by omega, rfl⟩⟩
      obtain ⟨k, rfl⟩ : ∃ k, j = p + k := ⟨j - p, by omega⟩
      rw [← hat k (by omega) h]
      have := h2 k (by omega)
      simpa [low] using this
  have hem := HE.out.1
  have HAT := Lib.hid hat
  have HM := Lib.hid hm
  clear hr hat hm
  go_enter Tryd.func18, Tryd.ntmps18
  go_wp2_with fail
  go_loop [7] (fun u => ∃ k : Nat, k ≤ e ∧ u = .int .i64 ((p : Int) + (k : Int))) (fun u => p + e - (intOf u).toNat)
  case atStart => exact ⟨0, Nat.zero_le _, by simp⟩
  case round =>
    obtain ⟨k, hk, rfl⟩ := hrel
    by_cases hlt : k < e
    · obtain ⟨b, o, rfl, _, hcell⟩ := HD.out.2 (by omega)
      have hx := hcell (p + k) (by rw [HLN.out]; omega)
      have hx1 := HE.out.2.1 (p + k) (by rw [HLN.out]; omega) (by omega) (by omega)
      have hx2 : (l[p + k]'(by rw [HLN.out]; omega)).toNat < 256 := UInt8.toNat_lt _
      have t1 : (p : Int) + (k : Int) < (n : Int) := by omega
      have t2 : (p : Int) + (k : Int) < (p : Int) + 10 := by omega
      have t3 : ((p : Int) + (k : Int)).toNat = p + k := by omega
      clear hcell
      generalize (l[p + k]'(by rw [HLN.out]; omega)).toNat = x at *
      go_wp2_with fail
      go_round
      case rel => exact ⟨k + 1, by omega, by go_num⟩
      case measure => simp [intOf]; omega
    · have hke : k = e := by omega
      subst hke
      clear hlt
      rcases HE.out.2.2 with ⟨h1, h2⟩ | ⟨h1, h2⟩
      · -- no byte below 128
        by_cases h10 : m < 10
        · have HG : Hid (getU l p = (0, 0, 11)) := by
            show _ = _
            unfold getU
            rw [if_neg (by rw [HLN.out]; omega), Int.toNat_natCast, h2]
            simp only
            rw [HM.out, if_pos h10]
          have t1 : decide ((p : Int) + (k : Int) < (n : Int)) = false := by simp; omega
          have t2 : ((p : Int) + (k : Int) == (p : Int) + 10) = false := by rw [beq_eq_false_iff_ne]; omega
          have t3 : ((p : Int) + (k : Int) == (n : Int)) = true := by rw [beq_iff_eq]; omega
          clear h2 h1 hmx
          go_wp2_with fail
          go_ret3
          exact ⟨by rw [HG.out]; rfl, Below.refl _ _⟩
        · have HG : Hid (getU l p = (0, 0, 10)) := by
            show _ = _
            unfold getU
            rw [if_neg (by rw [HLN.out]; omega), Int.toNat_natCast, h2]
            simp only
            rw [HM.out, if_neg h10]
          have hk10 : k = 10 := by omega
          subst hk10
          have t2 : ((p : Int) + ((10 : Nat) : Int) == (p : Int) + 10) = true := by rw [beq_iff_eq]; omega
          have t4 : decide ((p : Int) + ((10 : Nat) : Int) < (p : Int) + 10) = false := by simp
          clear h2 h1 hmx
          by_cases hpn : p + 10 < n
          · obtain ⟨b, o, rfl, _, hcell⟩ := HD.out.2 (by omega)
            have hx := hcell (p + 10) (by rw [HLN.out]; omega)
            have t1 : (p : Int) + ((10 : Nat) : Int) < (n : Int) := by omega
            have t3 : ((p : Int) + ((10 : Nat) : Int)).toNat = p + 10 := by omega
            clear hcell
            generalize (l[p + 10]'(by rw [HLN.out]; omega)).toNat = x at *
            by_cases hx1 : 128 ≤ x
            · go_wp2_with fail
              go_ret3
              exact ⟨by rw [HG.out]; rfl, Below.refl _ _⟩
            · go_wp2_with fail
              go_ret3
              exact ⟨by rw [HG.out]; rfl, Below.refl _ _⟩
          · have t1 : decide ((p : Int) + ((10 : Nat) : Int) < (n : Int)) = false := by simp; omega
            go_wp2_with fail
            go_ret3
            exact ⟨by rw [HG.out]; rfl, Below.refl _ _⟩
      · -- the number's own bytes, perhaps
        obtain ⟨z, hi, e1, e2, hz, hhi⟩ := cut_at _ k h2
        have HOWN := Lib.hid (getU_own l p (by rw [HLN.out]; exact hp) k h2)
        have hpk : p + k < l.length := by rw [HLN.out]; omega
        have hlow : (l[p + k]'hpk).toNat < 128 := by
          rw [← HAT.out k hi hpk]
          rw [List.getD_eq_getElem?_getD, List.getElem?_eq_getElem hi] at e2
          simp only [Option.getD_some] at e2
          rw [e2]
          exact hz
        have hql : ((((l.drop p).take 10).take (k + 1))).length = k + 1 := by rw [List.length_take]; omega
        have hqat : ∀ j (h : j < k + 1) (h2 : p + j < l.length), (((l.drop p).take 10).take (k + 1))[j]'(by omega) = l[p + j] := fun j h h2 => by
          rw [List.getElem_take]
          exact HAT.out j (by omega) h2
        clear h2 hmx e1 e2 hz hhi hi
        obtain ⟨b, o, rfl, hb, hcell⟩ := HD.out.2 (by omega)
        have hx := hcell (p + k) hpk
        have HQ : Hid (∀ j (h : j < (((l.drop p).take 10).take (k + 1)).length), w.cell? ⟨b, o + (p + j), none⟩ = some (.int .u8 ((((l.drop p).take 10).take (k + 1))[j].toNat : Int))) := fun j h => by
          rw [hqat j (by omega) (by rw [HLN.out]; omega)]
          exact hcell (p + j) (by rw [HLN.out]; omega)
        have HQL := Lib.hid hql
        have hrq := Lib.hid (HD.out)
        obtain ⟨A2, c2, hsl, hrd, hc2⟩ := cut_rule ((p : Int) + (k : Int) + 1) (p := p) (hi := p + k + 1) (by omega) HD.out hc (by omega) (by omega)
        have hcutE : (l.drop p).take (p + k + 1 - p) = ((l.drop p).take 10).take (k + 1) := by
          rw [List.take_take, show min (k + 1) 10 = k + 1 by omega, show p + k + 1 - p = k + 1 by omega]
        rw [hcutE] at hrd
        rw [show p + k + 1 - p = k + 1 by omega] at hsl hrd hc2
        have HRD := Lib.hid hrd
        clear hcell hqat hql hcutE hrd hrq
        generalize ((l.drop p).take 10).take (k + 1) = q at *
        have hlow2 : ¬ (128 ≤ (l[p + k]'hpk).toNat) := by omega
        have t1 : (p : Int) + (k : Int) < (n : Int) := by omega
        have t3 : ((p : Int) + (k : Int)).toNat = p + k := by omega
        have t4 : ((p : Int) + (k : Int) == (p : Int) + 10) = false := by rw [beq_eq_false_iff_ne]; omega
        have t5 : ((p : Int) + (k : Int) == (n : Int)) = false := by rw [beq_eq_false_iff_ne]; omega
        generalize (l[p + k]'hpk).toNat = x at *
        go_wp2_with fail
        clear hlow hlow2 hx t3 t4 t5
        go_loop [8, 9] (fun s i => ∃ j : Nat, j ≤ k + 1 ∧ i = .int .i64 ((p : Int) + (j : Int) - 1) ∧ s = .int .u64 (valMod (q.drop j) : Int)) (fun _ i => (intOf i + 1 - p).toNat)
        case atStart => exact ⟨k + 1, Nat.le_refl _, by go_num, by rw [List.drop_eq_nil_of_le (by rw [HQL.out]; omega)]; rfl⟩
        case round =>
          obtain ⟨j, hj, rfl, rfl⟩ := hrel
          by_cases hlt : 0 < j
          · obtain ⟨i, rfl⟩ : ∃ i, j = i + 1 := ⟨j - 1, by omega⟩
            have hkl : i < q.length := by rw [HQL.out]; omega
            have hx := HQ.out i hkl
            have HV := Lib.hid (valMod_drop q i hkl)
            have hx8 : q[i].toNat < 256 := q[i].toNat_lt
            have t3 : ((p : Int) + ((i + 1 : Nat) : Int) - 1).toNat = p + i := by omega
            have t4 : (p : Int) + ((i + 1 : Nat) : Int) - 1 = (p : Int) + (i : Int) := by omega
            rw [t4]
            clear t4 t3
            have t3 : ((p : Int) + (i : Int)).toNat = p + i := by omega
            have t5 : (p : Int) ≤ (p : Int) + (i : Int) := by omega
            have t6 : (p : Int) + (i : Int) < (n : Int) := by omega
            generalize q[i].toNat = x at *
            generalize valMod (q.drop (i + 1)) = s at *
            have HW := Lib.hid (wrap_val s x)
            go_wp2_with fail
            go_round
            case rel => exact ⟨i, by omega, by go_num, by rw [HW.out, HV.out]⟩
            case measure => simp [intOf]; omega
          · have hj0 : j = 0 := by omega
            subst hj0
            have t3 : decide ((p : Int) ≤ (p : Int) + ((0 : Nat) : Int) - 1) = false := by simp; omega
            have HV0 : Unit → valMod (q.drop 0) = valMod q := fun _ => rfl
            rw [HV0 ()]
            have hv64 := valMod_lt q
            have CV := fun W => varint_ref_any (valMod q) W hv64
            generalize hvq : valMod q = vq at *
            clear hvq
            go_wp2_with fail
            have t5 : IntKind.i64.wrap ((p : Int) + (k : Int) + 1) = (p : Int) + (k : Int) + 1 := IntWalk.i64_in _ (by omega)
            by_cases hv : varint vq = q
            · have HG : Hid (getU l p = (vq, p + k + 1, 0)) := by
                exact HOWN.out.1 hv
              obtain ⟨u0, HU0⟩ : ∃ u, Hid (w.drew = u) := ⟨_, rfl⟩
              have hu0 : Below w.heap.size w u0 := by rw [← HU0.out]; exact (Below.refl _ _).drew
              refine wp_region_held_drew (S := fun _ => True) (by kernel_rfl) True.intro (fun hHeld => ?_)
              rw [HU0.out]
              refine wpAnyH_take (i := 0) (oi := _) (v := .int .u64 (vq : Int)) rfl (by kernel_rfl) (by kernel_rfl) (by kernel_rfl) (fun _ _ _ h => h) (Or.inl ⟨by rfl, fun W _ => by rfl⟩) hHeld ?_
              try simp only [Act.put, List.getElem_toArray, List.getElem_cons_zero, List.setIfInBounds_toArray, List.set_cons_zero, List.set_cons_succ]
              refine wpAnyH_take (i := 2) (oi := _) (v := .slice (some ⟨b, o, none⟩) n c) rfl (by kernel_rfl) (by kernel_rfl) (by kernel_rfl) (fun _ _ _ h => h) (Or.inl ⟨by rfl, fun W _ => by rfl⟩) hHeld ?_
              try simp only [Act.put, List.getElem_toArray, List.getElem_cons_zero, List.getElem_cons_succ, List.setIfInBounds_toArray, List.set_cons_zero, List.set_cons_succ]
              refine wpAnyH_take (i := 3) (oi := _) (v := .int .i64 (p : Int)) rfl (by kernel_rfl) (by kernel_rfl) (by kernel_rfl) (fun _ _ _ h => h) (Or.inl ⟨by rfl, fun W _ => by rfl⟩) hHeld ?_
              try simp only [Act.put, List.getElem_toArray, List.getElem_cons_zero, List.getElem_cons_succ, List.setIfInBounds_toArray, List.set_cons_zero, List.set_cons_succ]
              refine wpAnyH_take (i := 4) (oi := _) (v := .int .i64 ((p : Int) + (k : Int))) rfl (by kernel_rfl) (by kernel_rfl) (by kernel_rfl) (fun _ _ _ h => h) (Or.inl ⟨by rfl, fun W _ => by rfl⟩) hHeld ?_
              try simp only [Act.put, List.getElem_toArray, List.getElem_cons_zero, List.getElem_cons_succ, List.setIfInBounds_toArray, List.set_cons_zero, List.set_cons_succ]
              refine wpAnyH_take (i := 5) (oi := _) (v := .int .i64 ((p : Int) + (k : Int) + 1)) rfl (by kernel_rfl) (by kernel_rfl) (by kernel_rfl) (fun _ _ _ h => h) (Or.inl ⟨by rfl, fun W _ => by go_simp⟩) hHeld ?_
              try simp only [Act.put, List.getElem_toArray, List.getElem_cons_zero, List.getElem_cons_succ, List.setIfInBounds_toArray, List.set_cons_zero, List.set_cons_succ]
              refine wpAnyH_take (i := 6) (oi := _) (v := .slice A2 (k + 1) c2) rfl (by kernel_rfl) (by kernel_rfl) (by kernel_rfl) (fun _ _ _ h => h) (Or.inl ⟨by rfl, fun W _ => by have e := hsl W; go_simp⟩) hHeld ?_
              try simp only [Act.put, List.getElem_toArray, List.getElem_cons_zero, List.getElem_cons_succ, List.setIfInBounds_toArray, List.set_cons_zero, List.set_cons_succ]
              clear hHeld
              refine wpAnyH_ready (rs := [1]) (by kernel_rfl) (by simp) ?_
              refine AllReadyH.cons (o := _) rfl (fun K hK => ?_) AllReadyH.nil
              rw [if_pos (by rfl)]
              go_wp2_with fail
              refine (CV u0).mono ?_
              rintro e u1 hput
              obtain ⟨A1, n1, c1, rfl, _, hc1, hd1, hb1⟩ := hput.str
              have hu1 : Below w.heap.size w u1 := hu0.trans (hb1.mono hu0.size)
              have hd2 := HRD.out.below hu1
              rw [hv] at hd1
              have CE := equal_yes A1 A2 n1 c1 (k + 1) c2 _ _ q u1 hd1 hd2
              clear hput hd1 hd2
              refine hK.out _ _ True.intro (fun hHeld => ?_)
              clear hK K hb1
              try simp only [Act.put, List.getElem_toArray, List.getElem_cons_zero, List.getElem_cons_succ, List.setIfInBounds_toArray, List.set_cons_zero, List.set_cons_succ]
              clear hHeld
              refine wpAnyH_ready (rs := [7]) (by kernel_rfl) (by simp) ?_
              refine AllReadyH.cons (o := _) rfl (fun K hK => ?_) AllReadyH.nil
              rw [if_pos (by rfl)]
              go_wp2_with fail
              refine CE.mono ?_
              rintro e u2 ⟨rfl, rfl⟩
              refine hK.out _ _ True.intro (fun hHeld => ?_)
              clear hK K CE
              try simp only [Act.put, List.getElem_toArray, List.getElem_cons_zero, List.getElem_cons_succ, List.setIfInBounds_toArray, List.set_cons_zero, List.set_cons_succ]
              refine wpAnyH_take (i := 8) (oi := _) (v := .bool false) rfl (by kernel_rfl) (by kernel_rfl) (by kernel_rfl) (fun _ _ _ h => h) (Or.inl ⟨by rfl, fun W _ => by rfl⟩) hHeld ?_
              try simp only [Act.put, List.getElem_toArray, List.getElem_cons_zero, List.getElem_cons_succ, List.setIfInBounds_toArray, List.set_cons_zero, List.set_cons_succ]
              refine wpAnyH_done (by kernel_rfl) ?_ _
              clear hHeld hsl CV t5 hv
              go_wp2_with fail
              go_ret3
              exact ⟨by rw [HG.out]; rfl, hu1⟩
            · have HG : Hid (getU l p = (0, 0, 10)) := by
                exact HOWN.out.2 hv
              obtain ⟨u0, HU0⟩ : ∃ u, Hid (w.drew = u) := ⟨_, rfl⟩
              have hu0 : Below w.heap.size w u0 := by rw [← HU0.out]; exact (Below.refl _ _).drew
              refine wp_region_held_drew (S := fun _ => True) (by kernel_rfl) True.intro (fun hHeld => ?_)
              rw [HU0.out]
              refine wpAnyH_take (i := 0) (oi := _) (v := .int .u64 (vq : Int)) rfl (by kernel_rfl) (by kernel_rfl) (by kernel_rfl) (fun _ _ _ h => h) (Or.inl ⟨by rfl, fun W _ => by rfl⟩) hHeld ?_
              try simp only [Act.put, List.getElem_toArray, List.getElem_cons_zero, List.setIfInBounds_toArray, List.set_cons_zero, List.set_cons_succ]
              refine wpAnyH_take (i := 2) (oi := _) (v := .slice (some ⟨b, o, none⟩) n c) rfl (by kernel_rfl) (by kernel_rfl) (by kernel_rfl) (fun _ _ _ h => h) (Or.inl ⟨by rfl, fun W _ => by rfl⟩) hHeld ?_
              try simp only [Act.put, List.getElem_toArray, List.getElem_cons_zero, List.getElem_cons_succ, List.setIfInBounds_toArray, List.set_cons_zero, List.set_cons_succ]
              refine wpAnyH_take (i := 3) (oi := _) (v := .int .i64 (p : Int)) rfl (by kernel_rfl) (by kernel_rfl) (by kernel_rfl) (fun _ _ _ h => h) (Or.inl ⟨by rfl, fun W _ => by rfl⟩) hHeld ?_
              try simp only [Act.put, List.getElem_toArray, List.getElem_cons_zero, List.getElem_cons_succ, List.setIfInBounds_toArray, List.set_cons_zero, List.set_cons_succ]
              refine wpAnyH_take (i := 4) (oi := _) (v := .int .i64 ((p : Int) + (k : Int))) rfl (by kernel_rfl) (by kernel_rfl) (by kernel_rfl) (fun _ _ _ h => h) (Or.inl ⟨by rfl, fun W _ => by rfl⟩) hHeld ?_
              try simp only [Act.put, List.getElem_toArray, List.getElem_cons_zero, List.getElem_cons_succ, List.setIfInBounds_toArray, List.set_cons_zero, List.set_cons_succ]
              refine wpAnyH_take (i := 5) (oi := _) (v := .int .i64 ((p : Int) + (k : Int) + 1)) rfl (by kernel_rfl) (by kernel_rfl) (by kernel_rfl) (fun _ _ _ h => h) (Or.inl ⟨by rfl, fun W _ => by go_simp⟩) hHeld ?_
              try simp only [Act.put, List.getElem_toArray, List.getElem_cons_zero, List.getElem_cons_succ, List.setIfInBounds_toArray, List.set_cons_zero, List.set_cons_succ]
              refine wpAnyH_take (i := 6) (oi := _) (v := .slice A2 (k + 1) c2) rfl (by kernel_rfl) (by kernel_rfl) (by kernel_rfl) (fun _ _ _ h => h) (Or.inl ⟨by rfl, fun W _ => by have e := hsl W; go_simp⟩) hHeld ?_
              try simp only [Act.put, List.getElem_toArray, List.getElem_cons_zero, List.getElem_cons_succ, List.setIfInBounds_toArray, List.set_cons_zero, List.set_cons_succ]
              clear hHeld
              refine wpAnyH_ready (rs := [1]) (by kernel_rfl) (by simp) ?_
              refine AllReadyH.cons (o := _) rfl (fun K hK => ?_) AllReadyH.nil
              rw [if_pos (by rfl)]
              go_wp2_with fail
              refine (CV u0).mono ?_
              rintro e u1 hput
              obtain ⟨A1, n1, c1, rfl, _, hc1, hd1, hb1⟩ := hput.str
              have hu1 : Below w.heap.size w u1 := hu0.trans (hb1.mono hu0.size)
              have hd2 := HRD.out.below hu1
              have CE := equal_no A1 A2 n1 c1 (k + 1) c2 _ _ _ q u1 hd1 hd2 hv
              clear hput hd1 hd2
              refine hK.out _ _ True.intro (fun hHeld => ?_)
              clear hK K hb1
              try simp only [Act.put, List.getElem_toArray, List.getElem_cons_zero, List.getElem_cons_succ, List.setIfInBounds_toArray, List.set_cons_zero, List.set_cons_succ]
              clear hHeld
              refine wpAnyH_ready (rs := [7]) (by kernel_rfl) (by simp) ?_
              refine AllReadyH.cons (o := _) rfl (fun K hK => ?_) AllReadyH.nil
              rw [if_pos (by rfl)]
              go_wp2_with fail
              refine CE.mono ?_
              rintro e u2 ⟨rfl, rfl⟩
              refine hK.out _ _ True.intro (fun hHeld => ?_)
              clear hK K CE
              try simp only [Act.put, List.getElem_toArray, List.getElem_cons_zero, List.getElem_cons_succ, List.setIfInBounds_toArray, List.set_cons_zero, List.set_cons_succ]
              refine wpAnyH_take (i := 8) (oi := _) (v := .bool true) rfl (by kernel_rfl) (by kernel_rfl) (by kernel_rfl) (fun _ _ _ h => h) (Or.inl ⟨by rfl, fun W _ => by rfl⟩) hHeld ?_
              try simp only [Act.put, List.getElem_toArray, List.getElem_cons_zero, List.getElem_cons_succ, List.setIfInBounds_toArray, List.set_cons_zero, List.set_cons_succ]
              refine wpAnyH_done (by kernel_rfl) ?_ _
              clear hHeld hsl CV t5 hv
              go_wp2_with fail
              go_ret3
              exact ⟨by rw [HG.out]; rfl, hu1⟩

theorem rget_any (l : List UInt8) (A : Option Addr) (n c : Nat) (p : Int) (w : World) (hr : Rd w w.heap.size A n l) (hn : n ≤ 20000) (hc : n ≤ c) :
    Calls Tryd.prog 18 #[.slice A n c, .int .i64 p] w fun e w' => e = .returned (tup (getU l p)) ∧ Below w.heap.size w w' := by
  by_cases hp : p < 0 ∨ (n : Int) < p
  · exact rget_off l A n c p w hr.len hn hp
  · obtain ⟨q, rfl⟩ : ∃ q : Nat, p = (q : Int) := ⟨p.toNat, by omega⟩
    exact rget_in l A n c q w hr hn hc (by omega)

set_option maxHeartbeats 800000 in
set_option maxRecDepth 100000 in
theorem rgeti_any (l : List UInt8) (A : Option Addr) (n c : Nat) (p : Int) (w : World) (hr : Rd w w.heap.size A n l) (hn : n ≤ 20000) (hc : n ≤ c) :
    Calls Tryd.prog 20 #[.slice A n c, .int .i64 p] w fun e w' => e = .returned (tupI (getI l p)) ∧ Below w.heap.size w w' := by
  have C1 := rget_any l A n c p w hr hn hc
  have hlt := getU_lt l p
  have HI : Hid (getI l p = if (getU l p).2.2 = 0 then (unplc (getU l p).1, (getU l p).2.1, 0) else (0, 0, (getU l p).2.2)) := rfl
  have HZ : Hid ((getU l p).2.2 ≠ 0 → (getU l p).1 = 0 ∧ (getU l p).2.1 = 0) := getU_zero l p
  unfold tup at C1
  generalize getU l p = r at *
  obtain ⟨v, q, x⟩ := r
  simp only at C1 hlt HI HZ
  have HC1 := Lib.hid C1
  clear C1 hr
  have hq : (v : Int) / 2 ≤ 9223372036854775807 := by omega
  have HV := Lib.hid hlt
  have hv0 : (0 : Int) ≤ (v : Int) / 2 := by omega
  have HIX : Hid (getI l p = (unplc v, q, x)) := by
    show _ = _
    rw [HI.out]
    split
    · rename_i h; rw [h]
    · rename_i h
      obtain ⟨h1, h2⟩ := HZ.out h
      rw [h1, h2]
      rfl
  clear HI HZ hlt
  by_cases h2 : v % 2 = 0
  · have HU : Hid (unplc v = (v : Int) / 2) := by show _ = _; unfold unplc; rw [if_neg (by omega)]; omega
    have hb : ((v : Int) % 2 == 0) = true := by rw [beq_iff_eq]; omega
    clear h2
    go_enter Tryd.func20, Tryd.ntmps20
    go_wp2_with fail
    refine HC1.out.mono ?_
    rintro e w1 ⟨rfl, hb1⟩
    go_wp2_with fail
    go_ret3
    exact ⟨by rw [HIX.out, HU.out]; rfl, hb1⟩
  · have HU : Hid (unplc v = -1 - (v : Int) / 2) := by show _ = _; unfold unplc; rw [if_pos (by omega)]; omega
    have hb : ((v : Int) % 2 == 0) = false := by rw [beq_eq_false_iff_ne]; omega
    clear h2
    go_enter Tryd.func20, Tryd.ntmps20
    go_wp2_with fail
    refine HC1.out.mono ?_
    rintro e w1 ⟨rfl, hb1⟩
    go_wp2_with fail
    go_ret3
    exact ⟨by rw [HIX.out, HU.out]; rfl, hb1⟩
end Go.Proofs.YtbiglickijmmhaaDoor

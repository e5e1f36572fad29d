/-
  The walk of BytesTells: it answers true, and nothing that was there has turned.
-/
import Derived.Test.YtbiglickijmmhaaDoorRefB
import Derived.Test.YtbiglickijmmhaaDoorUns
namespace Go.Proofs.YtbiglickijmmhaaDoor
open Go.RowKit

/-- What is held in a region that draws its order may grow on the way. -/
theorem wpAnyH_mono {P : Program} {md : Region.Mode} {ops : Array Oper} {Q : Exit → Act → World → Prop} {S S' : World → Prop} (h : ∀ w, S' w → S w) :
    ∀ (fuel : Nat) (listed : Array Bool) (a : Act) (w : World), wpAnyH P md ops Q S' fuel listed a w → wpAnyH P md ops Q S fuel listed a w
  | 0, _, _, _, hw => hw
  | fuel + 1, _, _, _, hw => ⟨hw.1, fun i hi => wpOp_mono (fun _ _ hk => ⟨h _ hk.1, wpAnyH_mono h fuel _ _ _ hk.2⟩) (hw.2 i hi)⟩

/-- What a call leaves that answers bytes, a number and an error. -/
def Blb (B : Nat) (w : World) (r : List UInt8 × Nat × Nat) (e : Ending) (w' : World) : Prop :=
  ∃ A n c, e = .returned (.tuple #[.slice A n c, .int .i64 (r.2.1 : Int), .int .i64 (r.2.2 : Int)]) ∧ Rd w' w'.heap.size A n r.1 ∧ Below B w w'
theorem getB_zero (l : List UInt8) (p most : Int) (h : (getB l p most).2.2 ≠ 0) : (getB l p most).1 = [] ∧ (getB l p most).2.1 = 0 := by
  unfold getB at *
  split at h
  · rename_i h1; rw [if_pos h1]; exact ⟨rfl, rfl⟩
  · rename_i h1
    rw [if_neg h1]
    split at h
    · rename_i h2; rw [if_pos h2]; exact ⟨rfl, rfl⟩
    · rename_i h2
      rw [if_neg h2]
      split at h
      · rename_i h3; rw [if_pos h3]; exact ⟨rfl, rfl⟩
      · exact absurd rfl h
theorem gb_any (l : List UInt8) (A : Option Addr) (n c : Nat) (p most : Int) (w : World) (hr : Rd w w.heap.size A n l) (hn : n ≤ 500000) (hc : n ≤ c) (hm : most ≤ 9223372036854775807) :
    Calls Tryd.prog 21 #[.slice A n c, .int .i64 p, .int .i64 most] w (Blb w.heap.size w (getB l p most)) := by
  by_cases he : (getB l p most).2.2 = 0
  · refine (getblob_ok l A n c p most w hr hn hc hm he).mono ?_
    rintro e w' ⟨v, rfl, hp⟩
    obtain ⟨A', n', c', hv, _, _, hd, hb⟩ := hp.str
    injection hv with hv
    subst hv
    exact ⟨A', n', c', by rw [he]; rfl, hd, hb⟩
  · refine (getblob_err l A n c _ p most w hr hn hc hm he).mono ?_
    rintro e w' ⟨rfl, rfl⟩
    obtain ⟨h1, h2⟩ := getB_zero l p most he
    exact ⟨none, 0, 0, by rw [h2]; rfl, by rw [h1]; exact Rd.nil, Below.refl _ _⟩
theorem rgb_any (l : List UInt8) (A : Option Addr) (n c : Nat) (p most : Int) (w : World) (hr : Rd w w.heap.size A n l) (hn : n ≤ 20000) (hc : n ≤ c) (hm : most ≤ 9223372036854775807) :
    Calls Tryd.prog 22 #[.slice A n c, .int .i64 p, .int .i64 most] w (Blb w.heap.size w (getB l p most)) := by
  by_cases he : (getB l p most).2.2 = 0
  · refine (rblob_ok l A n c p most w hr hn hc hm he).mono ?_
    rintro e w' ⟨v, rfl, hp⟩
    obtain ⟨A', n', c', hv, _, _, hd, hb⟩ := hp.str
    injection hv with hv
    subst hv
    exact ⟨A', n', c', by rw [he]; rfl, hd, hb⟩
  · refine (rblob_err l A n c p most w hr hn hc hm he).mono ?_
    rintro e w' ⟨rfl, hb⟩
    obtain ⟨h1, h2⟩ := getB_zero l p most he
    exact ⟨none, 0, 0, by rw [h2]; rfl, by rw [h1]; exact Rd.nil, hb⟩
/-- What Unseal answers. -/
def unS (l : List UInt8) : List UInt8 × Nat := if l.length < 4 then ([], 11) else if crc (l.take (l.length - 4)) = numB (l.drop (l.length - 4)) then (l.take (l.length - 4), 0) else ([], 12)
def Uns (B : Nat) (w : World) (r : List UInt8 × Nat) (e : Ending) (w' : World) : Prop :=
  ∃ A n c, e = .returned (.tuple #[.slice A n c, .int .i64 (r.2 : Int)]) ∧ Rd w' w'.heap.size A n r.1 ∧ Below B w w'
theorem un_any (l : List UInt8) (A : Option Addr) (n c : Nat) (w : World) (hr : Rd w w.heap.size A n l) (hn : n ≤ 20000) (hc : n ≤ c) (ht : Tab w) :
    Calls Tryd.prog 23 #[.slice A n c] w (Uns w.heap.size w (unS l)) := by
  have hl := hr.len
  by_cases h4 : n < 4
  · refine (unseal_short A n c w h4).mono ?_
    rintro e w' ⟨rfl, rfl⟩
    have : unS l = ([], 11) := by unfold unS; rw [if_pos (by omega)]
    rw [this]
    exact ⟨none, 0, 0, rfl, Rd.nil, Below.refl _ _⟩
  · by_cases he : crc (l.take (n - 4)) = numB (l.drop (n - 4))
    · refine (unseal_good l A n c w hr hc (by omega) (by omega) ht he).mono ?_
      rintro e w' ⟨v, rfl, hp⟩
      obtain ⟨A', n', c', hv, _, _, hd, hb⟩ := hp.str
      injection hv with hv
      subst hv
      have : unS l = (l.take (n - 4), 0) := by unfold unS; rw [hl, if_neg h4, if_pos he]
      rw [this]
      exact ⟨A', n', c', rfl, hd, hb⟩
    · refine (unseal_bad l A n c _ w hr hc (by omega) (by omega) ht he).mono ?_
      rintro e w' ⟨rfl, rfl⟩
      have : unS l = ([], 12) := by unfold unS; rw [hl, if_neg h4, if_neg he]
      rw [this]
      exact ⟨none, 0, 0, rfl, Rd.nil, Below.refl _ _⟩
theorem run_any (l : List UInt8) (A : Option Addr) (n c : Nat) (w : World) (hr : Rd w w.heap.size A n l) (hn : n ≤ 20000) (hc : n ≤ c) :
    Calls Tryd.prog 24 #[.slice A n c] w (Uns w.heap.size w (unS l)) := by
  have hl := hr.len
  by_cases h4 : n < 4
  · refine (unseal_ref_short A n c w h4).mono ?_
    rintro e w' ⟨rfl, rfl⟩
    have : unS l = ([], 11) := by unfold unS; rw [if_pos (by omega)]
    rw [this]
    exact ⟨none, 0, 0, rfl, Rd.nil, Below.refl _ _⟩
  · by_cases he : crc (l.take (n - 4)) = numB (l.drop (n - 4))
    · refine ((unseal_ref l A n c w hr hc hn (by omega)).2 he).mono ?_
      rintro e w' ⟨v, rfl, hp⟩
      obtain ⟨A', n', c', hv, _, _, hd, hb⟩ := hp
      injection hv with hv
      subst hv
      have : unS l = (l.take (n - 4), 0) := by unfold unS; rw [hl, if_neg h4, if_pos he]
      rw [this]
      exact ⟨A', n', c', rfl, hd, hb⟩
    · refine ((unseal_ref l A n c w hr hc hn (by omega)).1 he).mono ?_
      rintro e w' ⟨rfl, hb⟩
      have : unS l = ([], 12) := by unfold unS; rw [hl, if_neg h4, if_neg he]
      rw [this]
      exact ⟨none, 0, 0, rfl, Rd.nil, hb⟩

set_option maxHeartbeats 800000 in
set_option maxRecDepth 100000 in
theorem btells_far (A : Option Addr) (n : Nat) (m : Int) (k c : Nat) (p most : Int) (w : World) (hk : 300 < k) (ht : Tab w) :
    Calls Tryd.prog 3 #[.int .u64 (n : Int), .int .i64 m, .slice A k c, .int .i64 p, .int .i64 most] w fun e w' => e = .returned (.bool true) ∧ Below w.heap.size w w' := by
  have CA := Lib.hid (awake_any w ht)
  clear ht
  go_enter Tryd.func3, Tryd.ntmps3
  go_wp2_with fail
  refine CA.out.mono ?_
  rintro e w1 ⟨rfl, hb⟩
  go_wp2_with fail
  go_ret
  exact ⟨rfl, hb⟩

set_option maxHeartbeats 3200000 in
set_option maxRecDepth 100000 in
theorem btells_near (A : Option Addr) (n : Nat) (m : Int) (k c : Nat) (l : List UInt8) (p most : Int) (w : World) (hn64 : n < 2 ^ 64) (hm0 : -2 ^ 63 ≤ m) (hm1 : m < 2 ^ 63) (hk : k ≤ 300) (hkc : k ≤ c) (h : Rd w w.heap.size A k l) (hmo : most ≤ 9223372036854775807) (ht : Tab w) :
    Calls Tryd.prog 3 #[.int .u64 (n : Int), .int .i64 m, .slice A k c, .int .i64 p, .int .i64 most] w fun e w' => e = .returned (.bool true) ∧ Below w.heap.size w w' := by
  have HT := Lib.hid ht
  have HTP := Lib.hid ht.pos
  have HD := Lib.hid h
  have HN := Lib.hid hn64
  have HM0 := Lib.hid hm0
  have HM1 := Lib.hid hm1
  have HLN := Lib.hid h.len
  have HMO := Lib.hid hmo
  have C0 := Lib.hid (copybytes_any A k c l w h (by omega))
  clear h ht hn64 hm0 hm1 hmo
  go_enter Tryd.func3, Tryd.ntmps3
  go_wp2_with fail
  refine C0.out.mono ?_
  rintro e w1 hp
  obtain ⟨A1, n1, c1, rfl, _, hc1, hd1, hb1⟩ := hp.str
  have hn1 := hd1.len
  rw [HLN.out] at hn1
  subst hn1
  clear hp C0
  have HD1 := Lib.hid ((HD.out.below hb1).more hb1.size)
  have HO1 := Lib.hid hd1
  have HT1 := Lib.hid (HT.out.keep hb1 HTP.out)
  have HTP1 := Lib.hid HT1.out.pos
  have HB1 := Lib.hid hb1
  clear hd1 hb1 HT HTP HD
  have HDat : ∀ W, Below w1.heap.size w1 W → Rd W W.heap.size A k l := fun W hb => (HD1.out.below hb).more hb.size
  have HOat : ∀ W, Below w1.heap.size w1 W → Rd W W.heap.size A1 k l := fun W hb => (HO1.out.below hb).more hb.size
  have HTat : ∀ W, Below w1.heap.size w1 W → Tab W := fun W hb => HT1.out.keep hb HTP1.out
  obtain ⟨X1, HX1⟩ : ∃ s : ByteArray, Unit → (⟨(l ++ varint n).toArray⟩ : ByteArray) = s := ⟨_, fun _ => rfl⟩
  obtain ⟨X2, HX2⟩ : ∃ s : ByteArray, Unit → (⟨(l ++ varint (plc m)).toArray⟩ : ByteArray) = s := ⟨_, fun _ => rfl⟩
  obtain ⟨X3, HX3⟩ : ∃ s : ByteArray, Unit → (⟨(l ++ (varint k ++ l)).toArray⟩ : ByteArray) = s := ⟨_, fun _ => rfl⟩
  obtain ⟨X4, HX4⟩ : ∃ s : ByteArray, Unit → (⟨(l ++ be4 (crc l)).toArray⟩ : ByteArray) = s := ⟨_, fun _ => rfl⟩
  obtain ⟨X5, HX5⟩ : ∃ s : ByteArray, Unit → (⟨(getB l p most).1.toArray⟩ : ByteArray) = s := ⟨_, fun _ => rfl⟩
  obtain ⟨X6, HX6⟩ : ∃ s : ByteArray, Unit → (⟨(unS l).1.toArray⟩ : ByteArray) = s := ⟨_, fun _ => rfl⟩
  obtain ⟨X7, HX7⟩ : ∃ s : ByteArray, Unit → (⟨l.toArray⟩ : ByteArray) = s := ⟨_, fun _ => rfl⟩
  have hl20 : l.length ≤ 20000 := by rw [HLN.out]; omega
  have HL20 := Lib.hid hl20
  clear hl20
  go_wp2_with fail
  obtain ⟨u0, HU0⟩ : ∃ u, Hid (w1.drew = u) := ⟨_, rfl⟩
  have b_u0 : Below w1.heap.size w1 u0 := by rw [← HU0.out]; exact (Below.refl _ _).drew
  refine wp_region_held_drew (S := fun W => Below u0.heap.size u0 W) (by kernel_rfl) (by rw [HU0.out]; exact Below.refl _ _) (fun hHeld => ?_)
  rw [HU0.out] at hHeld ⊢
  refine wpAnyH_take (i := 0) (oi := _) (v := .slice A k c) rfl (by kernel_rfl) (by kernel_rfl) (by kernel_rfl) (fun _ _ _ h => h) (Or.inl ⟨by rfl, fun W _ => by rfl⟩) hHeld ?_
  try simp only [Act.put, List.getElem_toArray, List.getElem_cons_zero, List.setIfInBounds_toArray, List.set_cons_zero, List.set_cons_succ]
  refine wpAnyH_take (i := 2) (oi := _) (v := .int .u64 (n : Int)) rfl (by kernel_rfl) (by kernel_rfl) (by kernel_rfl) (fun _ _ _ h => h) (Or.inl ⟨by rfl, fun W _ => by rfl⟩) hHeld ?_
  try simp only [Act.put, List.getElem_toArray, List.getElem_cons_zero, List.getElem_cons_succ, List.setIfInBounds_toArray, List.set_cons_zero, List.set_cons_succ]
  refine wpAnyH_take (i := 5) (oi := _) (v := .slice A k c) rfl (by kernel_rfl) (by kernel_rfl) (by kernel_rfl) (fun _ _ _ h => h) (Or.inl ⟨by rfl, fun W _ => by rfl⟩) hHeld ?_
  try simp only [Act.put, List.getElem_toArray, List.getElem_cons_zero, List.getElem_cons_succ, List.setIfInBounds_toArray, List.set_cons_zero, List.set_cons_succ]
  refine wpAnyH_take (i := 6) (oi := _) (v := .int .u64 (n : Int)) rfl (by kernel_rfl) (by kernel_rfl) (by kernel_rfl) (fun _ _ _ h => h) (Or.inl ⟨by rfl, fun W _ => by rfl⟩) hHeld ?_
  try simp only [Act.put, List.getElem_toArray, List.getElem_cons_zero, List.getElem_cons_succ, List.setIfInBounds_toArray, List.set_cons_zero, List.set_cons_succ]
  clear hHeld
  refine wpAnyH_ready (rs := [1]) (by kernel_rfl) (by simp) ?_
  refine AllReadyH.cons (o := _) rfl (fun K hK => ?_) AllReadyH.nil
  rw [if_pos (by rfl)]
  go_wp2_with fail
  refine (copybytes_any A k c l u0 (HDat u0 b_u0) (by omega)).mono ?_
  rintro e u1 ⟨x_u1, rfl, o_u1, t_u1⟩
  have b_u1 : Below w1.heap.size w1 u1 := b_u0.trans (t_u1.mono b_u0.size)
  refine hK.out _ _ t_u1 (fun hHeld => ?_)
  clear hK K
  try simp only [Act.put, List.getElem_toArray, List.getElem_cons_zero, List.getElem_cons_succ, List.setIfInBounds_toArray, List.set_cons_zero, List.set_cons_succ]
  clear hHeld
  refine wpAnyH_ready (rs := [3]) (by kernel_rfl) (by simp) ?_
  refine AllReadyH.cons (o := _) rfl (fun K hK => ?_) AllReadyH.nil
  rw [if_pos (by rfl)]
  go_wp2_with fail
  refine (uint_any u0.heap.size l n x_u1 u1 HN.out t_u1.size HL20.out o_u1).mono ?_
  rintro e u2 hp
  obtain ⟨A_u2, n_u2, c_u2, rfl, _, hc_u2, d_u2, k_u2⟩ := hp.str
  have t_u2 : Below u0.heap.size u0 u2 := t_u1.trans k_u2
  have b_u2 : Below w1.heap.size w1 u2 := b_u0.trans (t_u2.mono b_u0.size)
  refine hK.out _ _ t_u2 (fun _ => ?_)
  clear hK K hp
  try simp only [Act.put, List.getElem_toArray, List.getElem_cons_zero, List.getElem_cons_succ, List.setIfInBounds_toArray, List.set_cons_zero, List.set_cons_succ]
  refine wpAnyH_mono (S' := fun W => Below u2.heap.size u2 W) (fun W h => t_u2.trans (h.mono t_u2.size)) _ _ _ _ ?_
  have hHeld : Below u2.heap.size u2 u2 := Below.refl _ _
  refine wpAnyH_take (i := 4) (oi := _) (v := .string X1) rfl (by kernel_rfl) (by kernel_rfl) (by kernel_rfl) (fun _ _ _ h => h) (Or.inl ⟨by rfl, fun W hS => by have e := str_rule c_u2 (d_u2.below hS); rw [HX1 ()] at e; go_simp⟩) hHeld ?_
  try simp only [Act.put, List.getElem_toArray, List.getElem_cons_zero, List.getElem_cons_succ, List.setIfInBounds_toArray, List.set_cons_zero, List.set_cons_succ]
  clear hHeld
  refine wpAnyH_ready (rs := [7]) (by kernel_rfl) (by simp) ?_
  refine AllReadyH.cons (o := _) rfl (fun K hK => ?_) AllReadyH.nil
  rw [if_pos (by rfl)]
  go_wp2_with fail
  refine (uint_ref A k c n l u2 (HDat u2 b_u2) (by omega) HN.out).mono ?_
  rintro e u3 hp
  obtain ⟨A_u3, n_u3, c_u3, rfl, _, hc_u3, d_u3, k_u3⟩ := hp.str
  have t_u3 : Below u2.heap.size u2 u3 := k_u3
  have b_u3 : Below w1.heap.size w1 u3 := b_u2.trans (t_u3.mono b_u2.size)
  refine hK.out _ _ t_u3 (fun _ => ?_)
  clear hK K hp
  try simp only [Act.put, List.getElem_toArray, List.getElem_cons_zero, List.getElem_cons_succ, List.setIfInBounds_toArray, List.set_cons_zero, List.set_cons_succ]
  refine wpAnyH_mono (S' := fun W => Below u3.heap.size u3 W) (fun W h => t_u3.trans (h.mono t_u3.size)) _ _ _ _ ?_
  have hHeld : Below u3.heap.size u3 u3 := Below.refl _ _
  refine wpAnyH_take (i := 8) (oi := _) (v := .string X1) rfl (by kernel_rfl) (by kernel_rfl) (by kernel_rfl) (fun _ _ _ h => h) (Or.inl ⟨by rfl, fun W hS => by have e := str_rule c_u3 (d_u3.below hS); rw [HX1 ()] at e; go_simp⟩) hHeld ?_
  try simp only [Act.put, List.getElem_toArray, List.getElem_cons_zero, List.getElem_cons_succ, List.setIfInBounds_toArray, List.set_cons_zero, List.set_cons_succ]
  refine wpAnyH_take (i := 9) (oi := _) (v := .bool false) rfl (by kernel_rfl) (by kernel_rfl) (by kernel_rfl) (fun _ _ _ h => h) (Or.inl ⟨by rfl, fun W _ => by go_simp⟩) hHeld ?_
  try simp only [Act.put, List.getElem_toArray, List.getElem_cons_zero, List.getElem_cons_succ, List.setIfInBounds_toArray, List.set_cons_zero, List.set_cons_succ]
  refine wpAnyH_take (i := 10) (oi := _) (v := .bool false) rfl (by kernel_rfl) (by kernel_rfl) (by kernel_rfl) (fun _ _ _ h => h) (Or.inl ⟨by rfl, fun W _ => by rfl⟩) hHeld ?_
  try simp only [Act.put, List.getElem_toArray, List.getElem_cons_zero, List.getElem_cons_succ, List.setIfInBounds_toArray, List.set_cons_zero, List.set_cons_succ]
  refine wpAnyH_take (i := 11) (oi := _) (v := .slice A k c) rfl (by kernel_rfl) (by kernel_rfl) (by kernel_rfl) (fun _ _ _ h => h) (Or.inl ⟨by rfl, fun W _ => by rfl⟩) hHeld ?_
  try simp only [Act.put, List.getElem_toArray, List.getElem_cons_zero, List.getElem_cons_succ, List.setIfInBounds_toArray, List.set_cons_zero, List.set_cons_succ]
  refine wpAnyH_take (i := 13) (oi := _) (v := .int .i64 m) rfl (by kernel_rfl) (by kernel_rfl) (by kernel_rfl) (fun _ _ _ h => h) (Or.inl ⟨by rfl, fun W _ => by rfl⟩) hHeld ?_
  try simp only [Act.put, List.getElem_toArray, List.getElem_cons_zero, List.getElem_cons_succ, List.setIfInBounds_toArray, List.set_cons_zero, List.set_cons_succ]
  refine wpAnyH_take (i := 16) (oi := _) (v := .slice A k c) rfl (by kernel_rfl) (by kernel_rfl) (by kernel_rfl) (fun _ _ _ h => h) (Or.inl ⟨by rfl, fun W _ => by rfl⟩) hHeld ?_
  try simp only [Act.put, List.getElem_toArray, List.getElem_cons_zero, List.getElem_cons_succ, List.setIfInBounds_toArray, List.set_cons_zero, List.set_cons_succ]
  refine wpAnyH_take (i := 17) (oi := _) (v := .int .i64 m) rfl (by kernel_rfl) (by kernel_rfl) (by kernel_rfl) (fun _ _ _ h => h) (Or.inl ⟨by rfl, fun W _ => by rfl⟩) hHeld ?_
  try simp only [Act.put, List.getElem_toArray, List.getElem_cons_zero, List.getElem_cons_succ, List.setIfInBounds_toArray, List.set_cons_zero, List.set_cons_succ]
  clear hHeld
  refine wpAnyH_ready (rs := [12]) (by kernel_rfl) (by simp) ?_
  refine AllReadyH.cons (o := _) rfl (fun K hK => ?_) AllReadyH.nil
  rw [if_pos (by rfl)]
  go_wp2_with fail
  refine (copybytes_any A k c l u3 (HDat u3 b_u3) (by omega)).mono ?_
  rintro e u4 ⟨x_u4, rfl, o_u4, t_u4⟩
  have b_u4 : Below w1.heap.size w1 u4 := b_u3.trans (t_u4.mono b_u3.size)
  refine hK.out _ _ t_u4 (fun hHeld => ?_)
  clear hK K
  try simp only [Act.put, List.getElem_toArray, List.getElem_cons_zero, List.getElem_cons_succ, List.setIfInBounds_toArray, List.set_cons_zero, List.set_cons_succ]
  clear hHeld
  refine wpAnyH_ready (rs := [14]) (by kernel_rfl) (by simp) ?_
  refine AllReadyH.cons (o := _) rfl (fun K hK => ?_) AllReadyH.nil
  rw [if_pos (by rfl)]
  go_wp2_with fail
  refine (int_any u3.heap.size l m x_u4 u4 HM0.out HM1.out t_u4.size HL20.out o_u4).mono ?_
  rintro e u5 hp
  obtain ⟨A_u5, n_u5, c_u5, rfl, _, hc_u5, d_u5, k_u5⟩ := hp.str
  have t_u5 : Below u3.heap.size u3 u5 := t_u4.trans k_u5
  have b_u5 : Below w1.heap.size w1 u5 := b_u3.trans (t_u5.mono b_u3.size)
  refine hK.out _ _ t_u5 (fun _ => ?_)
  clear hK K hp
  try simp only [Act.put, List.getElem_toArray, List.getElem_cons_zero, List.getElem_cons_succ, List.setIfInBounds_toArray, List.set_cons_zero, List.set_cons_succ]
  refine wpAnyH_mono (S' := fun W => Below u5.heap.size u5 W) (fun W h => t_u5.trans (h.mono t_u5.size)) _ _ _ _ ?_
  have hHeld : Below u5.heap.size u5 u5 := Below.refl _ _
  refine wpAnyH_take (i := 15) (oi := _) (v := .string X2) rfl (by kernel_rfl) (by kernel_rfl) (by kernel_rfl) (fun _ _ _ h => h) (Or.inl ⟨by rfl, fun W hS => by have e := str_rule c_u5 (d_u5.below hS); rw [HX2 ()] at e; go_simp⟩) hHeld ?_
  try simp only [Act.put, List.getElem_toArray, List.getElem_cons_zero, List.getElem_cons_succ, List.setIfInBounds_toArray, List.set_cons_zero, List.set_cons_succ]
  clear hHeld
  refine wpAnyH_ready (rs := [18]) (by kernel_rfl) (by simp) ?_
  refine AllReadyH.cons (o := _) rfl (fun K hK => ?_) AllReadyH.nil
  rw [if_pos (by rfl)]
  go_wp2_with fail
  refine (int_ref A k c m l u5 (HDat u5 b_u5) (by omega) HM0.out HM1.out).mono ?_
  rintro e u6 hp
  obtain ⟨A_u6, n_u6, c_u6, rfl, _, hc_u6, d_u6, k_u6⟩ := hp.str
  have t_u6 : Below u5.heap.size u5 u6 := k_u6
  have b_u6 : Below w1.heap.size w1 u6 := b_u5.trans (t_u6.mono b_u5.size)
  refine hK.out _ _ t_u6 (fun _ => ?_)
  clear hK K hp
  try simp only [Act.put, List.getElem_toArray, List.getElem_cons_zero, List.getElem_cons_succ, List.setIfInBounds_toArray, List.set_cons_zero, List.set_cons_succ]
  refine wpAnyH_mono (S' := fun W => Below u6.heap.size u6 W) (fun W h => t_u6.trans (h.mono t_u6.size)) _ _ _ _ ?_
  have hHeld : Below u6.heap.size u6 u6 := Below.refl _ _
  refine wpAnyH_take (i := 19) (oi := _) (v := .string X2) rfl (by kernel_rfl) (by kernel_rfl) (by kernel_rfl) (fun _ _ _ h => h) (Or.inl ⟨by rfl, fun W hS => by have e := str_rule c_u6 (d_u6.below hS); rw [HX2 ()] at e; go_simp⟩) hHeld ?_
  try simp only [Act.put, List.getElem_toArray, List.getElem_cons_zero, List.getElem_cons_succ, List.setIfInBounds_toArray, List.set_cons_zero, List.set_cons_succ]
  refine wpAnyH_take (i := 20) (oi := _) (v := .bool false) rfl (by kernel_rfl) (by kernel_rfl) (by kernel_rfl) (fun _ _ _ h => h) (Or.inl ⟨by rfl, fun W _ => by go_simp⟩) hHeld ?_
  try simp only [Act.put, List.getElem_toArray, List.getElem_cons_zero, List.getElem_cons_succ, List.setIfInBounds_toArray, List.set_cons_zero, List.set_cons_succ]
  refine wpAnyH_take (i := 21) (oi := _) (v := .bool false) rfl (by kernel_rfl) (by kernel_rfl) (by kernel_rfl) (fun _ _ _ h => h) (Or.inl ⟨by rfl, fun W _ => by go_simp⟩) hHeld ?_
  try simp only [Act.put, List.getElem_toArray, List.getElem_cons_zero, List.getElem_cons_succ, List.setIfInBounds_toArray, List.set_cons_zero, List.set_cons_succ]
  refine wpAnyH_take (i := 22) (oi := _) (v := .bool false) rfl (by kernel_rfl) (by kernel_rfl) (by kernel_rfl) (fun _ _ _ h => h) (Or.inl ⟨by rfl, fun W _ => by rfl⟩) hHeld ?_
  try simp only [Act.put, List.getElem_toArray, List.getElem_cons_zero, List.getElem_cons_succ, List.setIfInBounds_toArray, List.set_cons_zero, List.set_cons_succ]
  refine wpAnyH_take (i := 23) (oi := _) (v := .slice A k c) rfl (by kernel_rfl) (by kernel_rfl) (by kernel_rfl) (fun _ _ _ h => h) (Or.inl ⟨by rfl, fun W _ => by rfl⟩) hHeld ?_
  try simp only [Act.put, List.getElem_toArray, List.getElem_cons_zero, List.getElem_cons_succ, List.setIfInBounds_toArray, List.set_cons_zero, List.set_cons_succ]
  refine wpAnyH_take (i := 25) (oi := _) (v := .slice A1 k c1) rfl (by kernel_rfl) (by kernel_rfl) (by kernel_rfl) (fun _ _ _ h => h) (Or.inl ⟨by rfl, fun W _ => by rfl⟩) hHeld ?_
  try simp only [Act.put, List.getElem_toArray, List.getElem_cons_zero, List.getElem_cons_succ, List.setIfInBounds_toArray, List.set_cons_zero, List.set_cons_succ]
  refine wpAnyH_take (i := 28) (oi := _) (v := .slice A k c) rfl (by kernel_rfl) (by kernel_rfl) (by kernel_rfl) (fun _ _ _ h => h) (Or.inl ⟨by rfl, fun W _ => by rfl⟩) hHeld ?_
  try simp only [Act.put, List.getElem_toArray, List.getElem_cons_zero, List.getElem_cons_succ, List.setIfInBounds_toArray, List.set_cons_zero, List.set_cons_succ]
  refine wpAnyH_take (i := 29) (oi := _) (v := .slice A k c) rfl (by kernel_rfl) (by kernel_rfl) (by kernel_rfl) (fun _ _ _ h => h) (Or.inl ⟨by rfl, fun W _ => by rfl⟩) hHeld ?_
  try simp only [Act.put, List.getElem_toArray, List.getElem_cons_zero, List.getElem_cons_succ, List.setIfInBounds_toArray, List.set_cons_zero, List.set_cons_succ]
  clear hHeld
  refine wpAnyH_ready (rs := [24]) (by kernel_rfl) (by simp) ?_
  refine AllReadyH.cons (o := _) rfl (fun K hK => ?_) AllReadyH.nil
  rw [if_pos (by rfl)]
  go_wp2_with fail
  refine (copybytes_any A k c l u6 (HDat u6 b_u6) (by omega)).mono ?_
  rintro e u7 ⟨x_u7, rfl, o_u7, t_u7⟩
  have b_u7 : Below w1.heap.size w1 u7 := b_u6.trans (t_u7.mono b_u6.size)
  refine hK.out _ _ t_u7 (fun hHeld => ?_)
  clear hK K
  try simp only [Act.put, List.getElem_toArray, List.getElem_cons_zero, List.getElem_cons_succ, List.setIfInBounds_toArray, List.set_cons_zero, List.set_cons_succ]
  obtain ⟨A_u7, c_u7, rfl, hc_u7, _⟩ := own_shape o_u7
  have d_u7 := Rd.own o_u7
  clear hHeld
  refine wpAnyH_ready (rs := [26]) (by kernel_rfl) (by simp) ?_
  refine AllReadyH.cons (o := _) rfl (fun K hK => ?_) AllReadyH.nil
  rw [if_pos (by rfl)]
  go_wp2_with fail
  refine (blob_any A_u7 A1 l.length c_u7 k c1 l l u7 d_u7 (HOat u7 b_u7) HL20.out (by omega)).mono ?_
  rintro e u8 hp
  obtain ⟨A_u8, n_u8, c_u8, rfl, _, hc_u8, d_u8, k_u8⟩ := hp.str
  have t_u8 : Below u6.heap.size u6 u8 := t_u7.trans (k_u8.mono t_u7.size)
  have b_u8 : Below w1.heap.size w1 u8 := b_u6.trans (t_u8.mono b_u6.size)
  refine hK.out _ _ t_u8 (fun _ => ?_)
  clear hK K hp
  try simp only [Act.put, List.getElem_toArray, List.getElem_cons_zero, List.getElem_cons_succ, List.setIfInBounds_toArray, List.set_cons_zero, List.set_cons_succ]
  refine wpAnyH_mono (S' := fun W => Below u8.heap.size u8 W) (fun W h => t_u8.trans (h.mono t_u8.size)) _ _ _ _ ?_
  have hHeld : Below u8.heap.size u8 u8 := Below.refl _ _
  refine wpAnyH_take (i := 27) (oi := _) (v := .string X3) rfl (by kernel_rfl) (by kernel_rfl) (by kernel_rfl) (fun _ _ _ h => h) (Or.inl ⟨by rfl, fun W hS => by have e := str_rule c_u8 (d_u8.below hS); rw [HX3 ()] at e; go_simp⟩) hHeld ?_
  try simp only [Act.put, List.getElem_toArray, List.getElem_cons_zero, List.getElem_cons_succ, List.setIfInBounds_toArray, List.set_cons_zero, List.set_cons_succ]
  clear hHeld
  refine wpAnyH_ready (rs := [30]) (by kernel_rfl) (by simp) ?_
  refine AllReadyH.cons (o := _) rfl (fun K hK => ?_) AllReadyH.nil
  rw [if_pos (by rfl)]
  go_wp2_with fail
  refine (blob_ref A A k c k c l l u8 (HDat u8 b_u8) (HDat u8 b_u8) (by omega) (by omega)).mono ?_
  rintro e u9 hp
  obtain ⟨A_u9, n_u9, c_u9, rfl, _, hc_u9, d_u9, k_u9⟩ := hp.str
  have t_u9 : Below u8.heap.size u8 u9 := k_u9
  have b_u9 : Below w1.heap.size w1 u9 := b_u8.trans (t_u9.mono b_u8.size)
  refine hK.out _ _ t_u9 (fun _ => ?_)
  clear hK K hp
  try simp only [Act.put, List.getElem_toArray, List.getElem_cons_zero, List.getElem_cons_succ, List.setIfInBounds_toArray, List.set_cons_zero, List.set_cons_succ]
  refine wpAnyH_mono (S' := fun W => Below u9.heap.size u9 W) (fun W h => t_u9.trans (h.mono t_u9.size)) _ _ _ _ ?_
  have hHeld : Below u9.heap.size u9 u9 := Below.refl _ _
  refine wpAnyH_take (i := 31) (oi := _) (v := .string X3) rfl (by kernel_rfl) (by kernel_rfl) (by kernel_rfl) (fun _ _ _ h => h) (Or.inl ⟨by rfl, fun W hS => by have e := str_rule c_u9 (d_u9.below hS); rw [HX3 ()] at e; go_simp⟩) hHeld ?_
  try simp only [Act.put, List.getElem_toArray, List.getElem_cons_zero, List.getElem_cons_succ, List.setIfInBounds_toArray, List.set_cons_zero, List.set_cons_succ]
  refine wpAnyH_take (i := 32) (oi := _) (v := .bool false) rfl (by kernel_rfl) (by kernel_rfl) (by kernel_rfl) (fun _ _ _ h => h) (Or.inl ⟨by rfl, fun W _ => by go_simp⟩) hHeld ?_
  try simp only [Act.put, List.getElem_toArray, List.getElem_cons_zero, List.getElem_cons_succ, List.setIfInBounds_toArray, List.set_cons_zero, List.set_cons_succ]
  refine wpAnyH_take (i := 33) (oi := _) (v := .bool false) rfl (by kernel_rfl) (by kernel_rfl) (by kernel_rfl) (fun _ _ _ h => h) (Or.inl ⟨by rfl, fun W _ => by go_simp⟩) hHeld ?_
  try simp only [Act.put, List.getElem_toArray, List.getElem_cons_zero, List.getElem_cons_succ, List.setIfInBounds_toArray, List.set_cons_zero, List.set_cons_succ]
  refine wpAnyH_done (by kernel_rfl) ?_ _
  clear hHeld d_u2 d_u3 d_u5 d_u6 d_u7 d_u8 d_u9 o_u1 o_u4 o_u7 t_u1 t_u2 t_u3 t_u4 t_u5 t_u6 t_u7 t_u8 t_u9 b_u0 b_u1 b_u2 b_u3 b_u4 b_u5 b_u6 b_u7 b_u8 HU0 HX1 HX2 HX3
  obtain ⟨cr, HCR⟩ : ∃ x, Unit → crc l = x := ⟨_, fun _ => rfl⟩
  go_wp2_with fail
  obtain ⟨y0, HU0⟩ : ∃ u, Hid (u9.drew = u) := ⟨_, rfl⟩
  have b_y0 : Below w1.heap.size w1 y0 := by rw [← HU0.out]; exact b_u9.drew
  refine wp_region_held_drew (S := fun W => Below y0.heap.size y0 W) (by kernel_rfl) (by rw [HU0.out]; exact Below.refl _ _) (fun hHeld => ?_)
  rw [HU0.out] at hHeld ⊢
  have CC1 : Calls Tryd.prog 13 #[.slice A1 k c1] y0 fun e w' => e = .returned (.int .u32 (cr : Int)) ∧ y0 = w' := by have := crc_any l A1 k c1 _ y0 (HOat y0 b_y0) (by omega) (HTat y0 b_y0); rw [HCR ()] at this; exact this
  have CC2 : Calls Tryd.prog 14 #[.slice A k c] y0 fun e w' => e = .returned (.int .u32 (cr : Int)) ∧ y0 = w' := by have := crc_ref l A k c _ y0 (HDat y0 b_y0) (by omega); rw [HCR ()] at this; exact this
  refine wpAnyH_take (i := 0) (oi := _) (v := .slice A1 k c1) rfl (by kernel_rfl) (by kernel_rfl) (by kernel_rfl) (fun _ _ _ h => h) (Or.inl ⟨by rfl, fun W _ => by rfl⟩) hHeld ?_
  try simp only [Act.put, List.getElem_toArray, List.getElem_cons_zero, List.setIfInBounds_toArray, List.set_cons_zero, List.set_cons_succ]
  refine wpAnyH_take (i := 2) (oi := _) (v := .slice A k c) rfl (by kernel_rfl) (by kernel_rfl) (by kernel_rfl) (fun _ _ _ h => h) (Or.inl ⟨by rfl, fun W _ => by rfl⟩) hHeld ?_
  try simp only [Act.put, List.getElem_toArray, List.getElem_cons_zero, List.getElem_cons_succ, List.setIfInBounds_toArray, List.set_cons_zero, List.set_cons_succ]
  clear hHeld
  refine wpAnyH_ready (rs := [1]) (by kernel_rfl) (by simp) ?_
  refine AllReadyH.cons (o := _) rfl (fun K hK => ?_) AllReadyH.nil
  rw [if_pos (by rfl)]
  go_wp2_with fail
  refine (CC1).mono ?_
  rintro e w' ⟨rfl, rfl⟩
  refine hK.out _ _ (Below.refl _ _) (fun hHeld => ?_)
  clear hK K
  try simp only [Act.put, List.getElem_toArray, List.getElem_cons_zero, List.getElem_cons_succ, List.setIfInBounds_toArray, List.set_cons_zero, List.set_cons_succ]
  clear hHeld
  refine wpAnyH_ready (rs := [3]) (by kernel_rfl) (by simp) ?_
  refine AllReadyH.cons (o := _) rfl (fun K hK => ?_) AllReadyH.nil
  rw [if_pos (by rfl)]
  go_wp2_with fail
  refine (CC2).mono ?_
  rintro e w' ⟨rfl, rfl⟩
  refine hK.out _ _ (Below.refl _ _) (fun hHeld => ?_)
  clear hK K
  try simp only [Act.put, List.getElem_toArray, List.getElem_cons_zero, List.getElem_cons_succ, List.setIfInBounds_toArray, List.set_cons_zero, List.set_cons_succ]
  clear CC1 CC2 HCR
  refine wpAnyH_take (i := 4) (oi := _) (v := .bool false) rfl (by kernel_rfl) (by kernel_rfl) (by kernel_rfl) (fun _ _ _ h => h) (Or.inl ⟨by rfl, fun W _ => by go_simp⟩) hHeld ?_
  try simp only [Act.put, List.getElem_toArray, List.getElem_cons_zero, List.getElem_cons_succ, List.setIfInBounds_toArray, List.set_cons_zero, List.set_cons_succ]
  refine wpAnyH_take (i := 5) (oi := _) (v := .bool false) rfl (by kernel_rfl) (by kernel_rfl) (by kernel_rfl) (fun _ _ _ h => h) (Or.inl ⟨by rfl, fun W _ => by rfl⟩) hHeld ?_
  try simp only [Act.put, List.getElem_toArray, List.getElem_cons_zero, List.getElem_cons_succ, List.setIfInBounds_toArray, List.set_cons_zero, List.set_cons_succ]
  refine wpAnyH_take (i := 6) (oi := _) (v := .slice A1 k c1) rfl (by kernel_rfl) (by kernel_rfl) (by kernel_rfl) (fun _ _ _ h => h) (Or.inl ⟨by rfl, fun W _ => by rfl⟩) hHeld ?_
  try simp only [Act.put, List.getElem_toArray, List.getElem_cons_zero, List.getElem_cons_succ, List.setIfInBounds_toArray, List.set_cons_zero, List.set_cons_succ]
  refine wpAnyH_take (i := 9) (oi := _) (v := .slice A k c) rfl (by kernel_rfl) (by kernel_rfl) (by kernel_rfl) (fun _ _ _ h => h) (Or.inl ⟨by rfl, fun W _ => by rfl⟩) hHeld ?_
  try simp only [Act.put, List.getElem_toArray, List.getElem_cons_zero, List.getElem_cons_succ, List.setIfInBounds_toArray, List.set_cons_zero, List.set_cons_succ]
  clear hHeld
  refine wpAnyH_ready (rs := [7]) (by kernel_rfl) (by simp) ?_
  refine AllReadyH.cons (o := _) rfl (fun K hK => ?_) AllReadyH.nil
  rw [if_pos (by rfl)]
  go_wp2_with fail
  refine (seal_any A1 k c1 l y0 (HOat y0 b_y0) (by omega) (HTat y0 b_y0)).mono ?_
  rintro e y1 hp
  obtain ⟨A_y1, n_y1, c_y1, rfl, _, hc_y1, d_y1, k_y1⟩ := hp.str
  have t_y1 : Below y0.heap.size y0 y1 := k_y1
  have b_y1 : Below w1.heap.size w1 y1 := b_y0.trans (t_y1.mono b_y0.size)
  refine hK.out _ _ t_y1 (fun _ => ?_)
  clear hK K hp
  try simp only [Act.put, List.getElem_toArray, List.getElem_cons_zero, List.getElem_cons_succ, List.setIfInBounds_toArray, List.set_cons_zero, List.set_cons_succ]
  refine wpAnyH_mono (S' := fun W => Below y1.heap.size y1 W) (fun W h => t_y1.trans (h.mono t_y1.size)) _ _ _ _ ?_
  have hHeld : Below y1.heap.size y1 y1 := Below.refl _ _
  refine wpAnyH_take (i := 8) (oi := _) (v := .string X4) rfl (by kernel_rfl) (by kernel_rfl) (by kernel_rfl) (fun _ _ _ h => h) (Or.inl ⟨by rfl, fun W hS => by have e := str_rule c_y1 (d_y1.below hS); rw [HX4 ()] at e; go_simp⟩) hHeld ?_
  try simp only [Act.put, List.getElem_toArray, List.getElem_cons_zero, List.getElem_cons_succ, List.setIfInBounds_toArray, List.set_cons_zero, List.set_cons_succ]
  clear hHeld
  refine wpAnyH_ready (rs := [10]) (by kernel_rfl) (by simp) ?_
  refine AllReadyH.cons (o := _) rfl (fun K hK => ?_) AllReadyH.nil
  rw [if_pos (by rfl)]
  go_wp2_with fail
  refine (seal_ref A k c l y1 (HDat y1 b_y1) (by omega)).mono ?_
  rintro e y2 hp
  obtain ⟨A_y2, n_y2, c_y2, rfl, _, hc_y2, d_y2, k_y2⟩ := hp.str
  have t_y2 : Below y1.heap.size y1 y2 := k_y2
  have b_y2 : Below w1.heap.size w1 y2 := b_y1.trans (t_y2.mono b_y1.size)
  refine hK.out _ _ t_y2 (fun _ => ?_)
  clear hK K hp
  try simp only [Act.put, List.getElem_toArray, List.getElem_cons_zero, List.getElem_cons_succ, List.setIfInBounds_toArray, List.set_cons_zero, List.set_cons_succ]
  refine wpAnyH_mono (S' := fun W => Below y2.heap.size y2 W) (fun W h => t_y2.trans (h.mono t_y2.size)) _ _ _ _ ?_
  have hHeld : Below y2.heap.size y2 y2 := Below.refl _ _
  refine wpAnyH_take (i := 11) (oi := _) (v := .string X4) rfl (by kernel_rfl) (by kernel_rfl) (by kernel_rfl) (fun _ _ _ h => h) (Or.inl ⟨by rfl, fun W hS => by have e := str_rule c_y2 (d_y2.below hS); rw [HX4 ()] at e; go_simp⟩) hHeld ?_
  try simp only [Act.put, List.getElem_toArray, List.getElem_cons_zero, List.getElem_cons_succ, List.setIfInBounds_toArray, List.set_cons_zero, List.set_cons_succ]
  refine wpAnyH_take (i := 12) (oi := _) (v := .bool false) rfl (by kernel_rfl) (by kernel_rfl) (by kernel_rfl) (fun _ _ _ h => h) (Or.inl ⟨by rfl, fun W _ => by go_simp⟩) hHeld ?_
  try simp only [Act.put, List.getElem_toArray, List.getElem_cons_zero, List.getElem_cons_succ, List.setIfInBounds_toArray, List.set_cons_zero, List.set_cons_succ]
  refine wpAnyH_take (i := 13) (oi := _) (v := .bool false) rfl (by kernel_rfl) (by kernel_rfl) (by kernel_rfl) (fun _ _ _ h => h) (Or.inl ⟨by rfl, fun W _ => by go_simp⟩) hHeld ?_
  try simp only [Act.put, List.getElem_toArray, List.getElem_cons_zero, List.getElem_cons_succ, List.setIfInBounds_toArray, List.set_cons_zero, List.set_cons_succ]
  refine wpAnyH_done (by kernel_rfl) ?_ _
  clear hHeld d_y1 d_y2 t_y1 t_y2 b_y0 b_y1 HU0 HX4 b_u9
  have G0 := getuint_any l A1 k c1 _ p y2 (HOat y2 b_y2) (by omega) hc1
  have G1 := rget_any l A k c p y2 (HDat y2 b_y2) (by omega) hkc
  unfold tup at G0 G1
  obtain ⟨gv, HGV⟩ : ∃ x, Unit → (getU l p).1 = x := ⟨_, fun _ => rfl⟩
  obtain ⟨gq, HGQ⟩ : ∃ x, Unit → (getU l p).2.1 = x := ⟨_, fun _ => rfl⟩
  obtain ⟨gx, HGX⟩ : ∃ x, Unit → (getU l p).2.2 = x := ⟨_, fun _ => rfl⟩
  rw [HGV (), HGQ (), HGX ()] at G0 G1
  clear HGV HGQ HGX
  go_wp2_with fail
  refine G0.mono ?_
  rintro e w' ⟨rfl, rfl⟩
  go_wp2_with fail
  refine G1.mono ?_
  rintro e y3 ⟨rfl, t_y3⟩
  have b_y3 : Below w1.heap.size w1 y3 := b_y2.trans (t_y3.mono b_y2.size)
  clear G0 G1 t_y3 b_y2
  have G0 := getint_any l A1 k c1 _ p y3 (HOat y3 b_y3) (by omega) hc1
  have G1 := rgeti_any l A k c p y3 (HDat y3 b_y3) (by omega) hkc
  unfold tupI at G0 G1
  obtain ⟨iv, HGV⟩ : ∃ x, Unit → (getI l p).1 = x := ⟨_, fun _ => rfl⟩
  obtain ⟨iq, HGQ⟩ : ∃ x, Unit → (getI l p).2.1 = x := ⟨_, fun _ => rfl⟩
  obtain ⟨ix, HGX⟩ : ∃ x, Unit → (getI l p).2.2 = x := ⟨_, fun _ => rfl⟩
  rw [HGV (), HGQ (), HGX ()] at G0 G1
  clear HGV HGQ HGX
  go_wp2_with fail
  refine G0.mono ?_
  rintro e w' ⟨rfl, rfl⟩
  go_wp2_with fail
  refine G1.mono ?_
  rintro e y4 ⟨rfl, t_y4⟩
  have b_y4 : Below w1.heap.size w1 y4 := b_y3.trans (t_y4.mono b_y3.size)
  clear G0 G1 t_y4 b_y3
  have G0 := gb_any l A1 k c1 p most y4 (HOat y4 b_y4) (by omega) hc1 HMO.out
  obtain ⟨bq, HGQ⟩ : ∃ x, Unit → (getB l p most).2.1 = x := ⟨_, fun _ => rfl⟩
  obtain ⟨bx, HGX⟩ : ∃ x, Unit → (getB l p most).2.2 = x := ⟨_, fun _ => rfl⟩
  go_wp2_with fail
  refine G0.mono ?_
  rintro e y5 ⟨A5, n5, c5, rfl, d5, t_y5⟩
  have b_y5 : Below w1.heap.size w1 y5 := b_y4.trans (t_y5.mono b_y4.size)
  have G1 := rgb_any l A k c p most y5 (HDat y5 b_y5) (by omega) hkc HMO.out
  rw [HGQ (), HGX ()]
  clear G0 t_y5 b_y4
  go_wp2_with fail
  refine G1.mono ?_
  rintro e y6 ⟨A6, n6, c6, rfl, d6, t_y6⟩
  have b_y6 : Below w1.heap.size w1 y6 := b_y5.trans (t_y6.mono b_y5.size)
  rw [HGQ (), HGX ()]
  have s5 := str_rule c5 (d5.below t_y6)
  have s6 := str_rule c6 d6
  rw [HX5 ()] at s5 s6
  clear G1 t_y6 b_y5 d5 d6 HX5 HGQ HGX
  go_wp2_with fail
  clear s5 s6
  have G0 := un_any l A1 k c1 y6 (HOat y6 b_y6) (by omega) hc1 (HTat y6 b_y6)
  obtain ⟨ux, HGX⟩ : ∃ x, Unit → (unS l).2 = x := ⟨_, fun _ => rfl⟩
  refine G0.mono ?_
  rintro e y7 ⟨A7, n7, c7, rfl, d7, t_y7⟩
  have b_y7 : Below w1.heap.size w1 y7 := b_y6.trans (t_y7.mono b_y6.size)
  have G1 := run_any l A k c y7 (HDat y7 b_y7) (by omega) hkc
  rw [HGX ()]
  clear G0 t_y7 b_y6
  go_wp2_with fail
  refine G1.mono ?_
  rintro e y8 ⟨A8, n8, c8, rfl, d8, t_y8⟩
  have b_y8 : Below w1.heap.size w1 y8 := b_y7.trans (t_y8.mono b_y7.size)
  rw [HGX ()]
  have s7 := str_rule c7 (d7.below t_y8)
  have s8 := str_rule c8 d8
  rw [HX6 ()] at s7 s8
  have s1 := str_rule c1 (HOat y8 b_y8)
  have s0 := str_rule c (HDat y8 b_y8)
  rw [HX7 ()] at s1 s0
  have CA := Lib.hid (awake_any y8 (HTat y8 b_y8))
  have HFB := Lib.hid (show Below w.heap.size w y8 from HB1.out.trans (b_y8.mono HB1.out.size))
  clear G1 t_y8 b_y7 d7 d8 HX6 HX7 HGX b_y8
  go_wp2_with fail
  refine CA.out.mono ?_
  rintro e wz ⟨rfl, hz⟩
  go_wp2_with fail
  go_ret
  exact ⟨rfl, HFB.out.trans (hz.mono HFB.out.size)⟩

theorem btells_walk (A : Option Addr) (n : Nat) (m : Int) (k c : Nat) (l : List UInt8) (p most : Int) (w : World) (hn64 : n < 2 ^ 64) (hm0 : -2 ^ 63 ≤ m) (hm1 : m < 2 ^ 63) (hkc : k ≤ c) (h : Rd w w.heap.size A k l) (hmo : most < 2 ^ 63) (ht : Tab w) :
    Calls Tryd.prog 3 #[.int .u64 (n : Int), .int .i64 m, .slice A k c, .int .i64 p, .int .i64 most] w fun e w' => e = .returned (.bool true) ∧ Below w.heap.size w w' := by
  by_cases hk : k ≤ 300
  · exact btells_near A n m k c l p most w hn64 hm0 hm1 hk hkc h (by omega) ht
  · exact btells_far A n m k c p most w (by omega) ht
theorem btells_int (A : Option Addr) (z m : Int) (k c : Nat) (l : List UInt8) (p most : Int) (w : World) (h0 : 0 ≤ z) (h1 : z < 2 ^ 64) (hm0 : -2 ^ 63 ≤ m) (hm1 : m < 2 ^ 63) (hkc : k ≤ c) (h : Rd w w.heap.size A k l) (hmo : most < 2 ^ 63) (ht : Tab w) :
    Calls Tryd.prog 3 #[.int .u64 z, .int .i64 m, .slice A k c, .int .i64 p, .int .i64 most] w fun e w' => e = .returned (.bool true) ∧ Below w.heap.size w w' := by
  obtain ⟨n, rfl⟩ : ∃ n : Nat, z = (n : Int) := ⟨z.toNat, by omega⟩
  exact btells_walk A n m k c l p most w (by omega) hm0 hm1 hkc h hmo ht
end Go.Proofs.YtbiglickijmmhaaDoor

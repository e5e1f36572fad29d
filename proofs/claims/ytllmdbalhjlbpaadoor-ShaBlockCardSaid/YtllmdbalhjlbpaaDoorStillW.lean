/-
  The walk of ShaStill: it answers true, and nothing that was there has turned.
-/
import Derived.Test.YtllmdbalhjlbpaaDoorShaQ
import Derived.Test.YtllmdbalhjlbpaaDoorLent
import Derived.Deep.RegionHeld3
import Derived.ChangeKeysEq
namespace Go.Proofs.YtllmdbalhjlbpaaDoor
open Go.RowKit

set_option maxRecDepth 100000 in
theorem eqItems_same (l : List UInt8) (d : Nat) (W : World) : ∀ is : List Nat, (∀ i ∈ is, i < l.length) → (Op.eqItems (d + 1) 5 1 (bcs l) (bcs l) is).run Tryd.prog W = .ok true W
  | [], _ => by simp [Op.eqItems]
  | i :: is, h => by
    have hi := h i (by simp)
    obtain ⟨i0, hi0, hz0, hz1, hz2⟩ := info_parts info_u8
    have hp : (part 5 (bcs l) (i * 1)).run Tryd.prog W = .ok (.int .u8 ((l.getD i 0).toNat : Int)) W := by
      rw [Nat.mul_one]
      simp [part, sizeOf, typeInfo, hi0, hz1, bcs_at l i hi]
    have he : (Op.equalIn (d + 1) 5 (.int .u8 ((l.getD i 0).toNat : Int)) (.int .u8 ((l.getD i 0).toNat : Int))).run Tryd.prog W = .ok true W := by
      simp [Op.equalIn, run_underlying Tryd.underlying5]
    simp only [Op.eqItems, Sem.run_bind, hp, he, Result.andThen_ok, Bool.not_true, Bool.false_eq_true, if_false]
    exact eqItems_same l d W is (fun j hj => h j (by simp [hj]))
theorem cells_u8' : Tryd.prog.cellsOf 5 = 1 := by kernel_rfl
set_option maxRecDepth 100000 in
theorem equal_hash (l : List UInt8) (hl : l.length = 32) (W : World) : (Op.equal 51 (.agg (bcs l)) (.agg (bcs l))).run Tryd.prog W = .ok true W := by
  obtain ⟨i0, hi0, hz0, hz1, hz2⟩ := info_parts info_u8
  unfold Op.equal
  rw [show Op.maxDepth = 9999 + 1 from rfl, run_equalIn_array W 9999 _ _ Tryd.underlying51 hi0, cells_u8']
  exact eqItems_same l 9998 W _ (fun i hi => by rw [hl]; simpa using hi)
set_option maxRecDepth 100000 in
theorem neq_hash (cs : List Value) (l : List UInt8) (h : bvs l = cs) (hl : l.length = 32) (W : World) : (binOp .neq 51 (.agg cs.toArray) (.agg cs.toArray)).run Tryd.prog W = .ok (.bool false) W := by
  have := equal_hash l hl W
  unfold bcs at this
  rw [h] at this
  simp only [binOp]
  simp [this]
set_option maxRecDepth 100000 in
theorem eql_hash (cs : List Value) (l : List UInt8) (h : bvs l = cs) (hl : l.length = 32) (W : World) : (binOp .eql 51 (.agg cs.toArray) (.agg cs.toArray)).run Tryd.prog W = .ok (.bool true) W := by
  have := equal_hash l hl W
  unfold bcs at this
  rw [h] at this
  simp only [binOp]
  simp [this]

set_option maxHeartbeats 1600000 in
set_option maxRecDepth 100000 in
theorem still_far (A A2 : Option Addr) (n c n2 c2 : Nat) (w : World) (hn : 500 < n ∨ 500 < n2) (ht : TabS w) :
    Calls Tryd.prog 11 #[.slice A n c, .slice A2 n2 c2] w fun e w' => e = .returned (.bool true) ∧ Below w.heap.size w w' := by
  have CA := Lib.hid (awake_sha w ht)
  clear ht
  by_cases h1 : 500 < n
  · go_enter Tryd.func11, Tryd.ntmps11
    go_wp2_with fail
    refine CA.out.mono ?_
    rintro e w1 ⟨rfl, hb⟩
    go_wp2_with fail
    go_ret
    exact ⟨rfl, hb⟩
  · have h2 : 500 < n2 := by omega
    go_enter Tryd.func11, Tryd.ntmps11
    go_wp2_with fail
    refine CA.out.mono ?_
    rintro e w1 ⟨rfl, hb⟩
    go_wp2_with fail
    go_ret
    exact ⟨rfl, hb⟩

set_option maxHeartbeats 4000000 in
set_option maxRecDepth 100000 in
theorem still_near (A A2 : Option Addr) (n c n2 c2 : Nat) (l m : List UInt8) (w : World) (h : Rd w w.heap.size A n l) (hc : n ≤ c) (hn : n ≤ 500) (h2 : Rd w w.heap.size A2 n2 m) (hc2 : n2 ≤ c2) (hn2 : n2 ≤ 500) (ht : TabS w) :
    Calls Tryd.prog 11 #[.slice A n c, .slice A2 n2 c2] w fun e w' => e = .returned (.bool true) ∧ Below w.heap.size w w' := by
  have HT := Lib.hid ht
  have HP := Lib.hid ht.pos
  have HD := Lib.hid h
  have HD2 := Lib.hid h2
  obtain ⟨ch, HCH⟩ : ∃ cs, Unit → bvs (sha l) = cs := ⟨_, fun _ => rfl⟩
  obtain ⟨ck, HCK⟩ : ∃ cs, Unit → bvs (hmac l m) = cs := ⟨_, fun _ => rfl⟩
  obtain ⟨cm, HCM⟩ : ∃ cs, Unit → bvs (hmac l l) = cs := ⟨_, fun _ => rfl⟩
  -- what the calls answer, at whatever world behind w
  have OF : ∀ (B : Option Addr) (k d : Nat) (W : World), Rd W W.heap.size B n l → n ≤ d → Below w.heap.size w W → Hid (Calls Tryd.prog 34 #[.slice B n d] W fun e w' => e = .returned (.agg ch.toArray) ∧ Below W.heap.size W w') := by
    intro B k d W hr hd hb
    refine (of_any B n d l W hr hd (by omega) (HT.out.keep hb HP.out)).mono ?_
    rintro e w' ⟨rfl, hb'⟩
    exact ⟨by rw [← HCH ()]; rfl, hb'⟩
  have HM : ∀ (B B2 : Option Addr) (d d2 : Nat) (W : World), Rd W W.heap.size B n l → n ≤ d → Rd W W.heap.size B2 n2 m → Below w.heap.size w W → Hid (Calls Tryd.prog 36 #[.slice B n d, .slice B2 n2 d2] W fun e w' => e = .returned (.agg ck.toArray) ∧ Below W.heap.size W w') := by
    intro B B2 d d2 W hr hd hr2 hb
    refine (hmac_any B B2 n d n2 d2 l m W hr hd (by omega) hr2 (by omega) (HT.out.keep hb HP.out)).mono ?_
    rintro e w' ⟨rfl, hb'⟩
    exact ⟨by rw [← HCK ()]; rfl, hb'⟩
  have HL : ∀ (B B2 : Option Addr) (d d2 : Nat) (W : World), Rd W W.heap.size B n l → n ≤ d → Rd W W.heap.size B2 n l → Below w.heap.size w W → Hid (Calls Tryd.prog 36 #[.slice B n d, .slice B2 n d2] W fun e w' => e = .returned (.agg cm.toArray) ∧ Below W.heap.size W w') := by
    intro B B2 d d2 W hr hd hr2 hb
    refine (hmac_any B B2 n d n d2 l l W hr hd (by omega) hr2 (by omega) (HT.out.keep hb HP.out)).mono ?_
    rintro e w' ⟨rfl, hb'⟩
    exact ⟨by rw [← HCM ()]; rfl, hb'⟩
  have C1 := OF A 0 c w h hc (Below.refl _ _)
  clear h h2 ht
  have hchl : ch.length = 32 := by rw [← HCH (), bvs_length, sha_length]
  have hckl : ck.length = 32 := by rw [← HCK (), bvs_length, hmac, sha_length]
  have hch1 : ∀ v ∈ ch, v.oneCell' = true := by rw [← HCH ()]; exact bvs_oneCell _
  have hck1 : ∀ v ∈ ck, v.oneCell' = true := by rw [← HCK ()]; exact bvs_oneCell _
  have HCHL := Lib.hid hchl
  have HCKL := Lib.hid hckl
  have HCH1 := Lib.hid (all_oneCell_toArray hch1)
  have HCK1 := Lib.hid (all_oneCell_toArray hck1)
  clear hchl hckl hch1 hck1
  go_enter Tryd.func11, Tryd.ntmps11
  go_wp2_with fail
  refine C1.out.mono ?_
  rintro e w1 ⟨rfl, hb1⟩
  have C2 := HM A A2 c c2 w1 ((HD.out.below hb1).more hb1.size) hc ((HD2.out.below hb1).more hb1.size) hb1
  go_wp2_with fail
  refine C2.out.mono ?_
  rintro e w2 ⟨rfl, hb2'⟩
  have hb2 : Below w.heap.size w w2 := hb1.trans (hb2'.mono hb1.size)
  clear C1 C2 hb2' hb1
  go_simp
  iterate 7 (first | go_values | go_skip | go_guarded | go_step | go_upon)
  obtain ⟨Z, HZ⟩ : ∃ Z : Array Value, Unit → #[Value.int IntKind.u8 0, Value.int IntKind.u8 0, Value.int IntKind.u8 0, Value.int IntKind.u8 0, Value.int IntKind.u8 0, Value.int IntKind.u8 0, Value.int IntKind.u8 0, Value.int IntKind.u8 0, Value.int IntKind.u8 0, Value.int IntKind.u8 0, Value.int IntKind.u8 0, Value.int IntKind.u8 0, Value.int IntKind.u8 0, Value.int IntKind.u8 0, Value.int IntKind.u8 0, Value.int IntKind.u8 0, Value.int IntKind.u8 0, Value.int IntKind.u8 0, Value.int IntKind.u8 0, Value.int IntKind.u8 0, Value.int IntKind.u8 0, Value.int IntKind.u8 0, Value.int IntKind.u8 0, Value.int IntKind.u8 0, Value.int IntKind.u8 0, Value.int IntKind.u8 0, Value.int IntKind.u8 0, Value.int IntKind.u8 0, Value.int IntKind.u8 0, Value.int IntKind.u8 0, Value.int IntKind.u8 0, Value.int IntKind.u8 0] = Z := ⟨_, fun _ => rfl⟩
  have hZ : Z.size = 32 := by rw [← HZ ()]; rfl
  have HZL := Lib.hid hZ
  rw [HZ ()]
  clear hZ HZ
  refine wpList_store_row rfl _ _ _ rfl w2.heap.size ch.toArray rfl rfl _ _ ((Arr.new w2 _ _).alloc _) (by rw [List.size_toArray, HCHL.out]; kernel_rfl) (HZL.out.trans (by rw [List.size_toArray, HCHL.out])) HCH1.out ?_
  refine wpList_store_row rfl _ _ _ rfl (w2.heap.size + 1) ck.toArray rfl rfl _ _ ((Arr.newAt (w2.alloc _) _ _ (w2.heap.size + 1) (by simp)).rowOther _ _ (by omega)) (by rw [List.size_toArray, HCKL.out]; kernel_rfl) (HZL.out.trans (by rw [List.size_toArray, HCKL.out])) HCK1.out ?_
  obtain ⟨w3, hw3⟩ : ∃ w3, (((w2.alloc (.cells Z 51)).alloc (.cells Z 51)).setRow w2.heap.size ch.toArray).setRow (w2.heap.size + 1) ck.toArray = w3 := ⟨_, rfl⟩
  have HA5 := Lib.hid (show Arr w3 w2.heap.size 51 ch.toArray by
    rw [← hw3]
    exact (((Arr.new w2 Z 51).alloc _).row _).rowOther _ _ (by omega))
  have HA6 := Lib.hid (show Arr w3 (w2.heap.size + 1) 51 ck.toArray by
    rw [← hw3]
    exact Arr.row ((Arr.newAt (w2.alloc _) Z 51 (w2.heap.size + 1) (by simp)).rowOther _ _ (by omega)) _)
  have hb3 : Below w.heap.size w w3 := by
    rw [← hw3]
    exact Below.setRow (Below.setRow ((hb2.alloc hb2.size _).alloc (by simp; have := hb2.size; omega) _) hb2.size _) (by have := hb2.size; omega) _
  rw [hw3]
  clear hw3 hb2
  generalize w2.heap.size = b5 at *
  go_simp
  go_wp2_with fail
  refine (lent_any A n c l w3 ((HD.out.below hb3).more hb3.size) (by omega)).mono ?_
  rintro e w4 ⟨g7, c7, rfl, hc7, hr7, hb4'⟩
  have HA54 := Lib.hid (HA5.out.below hb4' HA5.out.lt)
  have HA64 := Lib.hid (HA6.out.below hb4' HA6.out.lt)
  have hb4 : Below w.heap.size w w4 := hb3.trans (hb4'.mono hb3.size)
  have HX4 := Lib.hid hr7
  clear hb4' HA5 HA6 hb3 hr7
  go_wp2_with fail
  refine (lent_any A2 n2 c2 m w4 ((HD2.out.below hb4).more hb4.size) (by omega)).mono ?_
  rintro e w5 ⟨g8, c8, rfl, hc8, hr8, hb5'⟩
  have HA55 := Lib.hid (HA54.out.below hb5' HA54.out.lt)
  have HA65 := Lib.hid (HA64.out.below hb5' HA64.out.lt)
  have HX5 := Lib.hid ((HX4.out.below hb5').more hb5'.size)
  have HY5 := Lib.hid hr8
  have hb5 : Below w.heap.size w w5 := hb4.trans (hb5'.mono hb4.size)
  clear hb5' HA54 HA64 HX4 hb4 hr8
  go_wp2_with fail
  refine (of_any A2 n2 c2 m w5 ((HD2.out.below hb5).more hb5.size) hc2 (by omega) (HT.out.keep hb5 HP.out)).mono ?_
  rintro e w6 ⟨rfl, hb6'⟩
  have HA56 := Lib.hid (HA55.out.below hb6' HA55.out.lt)
  have HA66 := Lib.hid (HA65.out.below hb6' HA65.out.lt)
  have HX6 := Lib.hid ((HX5.out.below hb6').more hb6'.size)
  have HY6 := Lib.hid ((HY5.out.below hb6').more hb6'.size)
  have hb6 : Below w.heap.size w w6 := hb5.trans (hb6'.mono hb5.size)
  clear hb6' HA55 HA65 HX5 HY5 hb5
  generalize bcs (sha m) = ign1 at *
  go_wp2_with fail
  refine (hmac_any A2 A n2 c2 n c m l w6 ((HD2.out.below hb6).more hb6.size) hc2 (by omega) ((HD.out.below hb6).more hb6.size) (by omega) (HT.out.keep hb6 HP.out)).mono ?_
  rintro e w7 ⟨rfl, hb7'⟩
  have HA57 := Lib.hid (HA56.out.below hb7' HA56.out.lt)
  have HA67 := Lib.hid (HA66.out.below hb7' HA66.out.lt)
  have HX7 := Lib.hid ((HX6.out.below hb7').more hb7'.size)
  have HY7 := Lib.hid ((HY6.out.below hb7').more hb7'.size)
  have hb7 : Below w.heap.size w w7 := hb6.trans (hb7'.mono hb6.size)
  clear hb7' HA56 HA66 HX6 HY6 hb6
  generalize bcs (hmac m l) = ign2 at *
  go_wp2_with fail
  -- the region of two loads and four calls, by hand
  have HR5 := Lib.hid (show w7.rangeAt b5 0 ch from HA57.out.range (by simp))
  have HR6 := Lib.hid (show w7.rangeAt (b5 + 1) 0 ck from HA67.out.range (by simp))
  have hb57 : b5 < w7.heap.size := HA57.out.lt
  have hb67 : b5 + 1 < w7.heap.size := HA67.out.lt
  have hcu := Tryd.underlying51
  have hchi : (Tryd.prog.info? 51).map (·.size) = some ch.length := by rw [HCHL.out]; kernel_rfl
  have hcki : (Tryd.prog.info? 51).map (·.size) = some ck.length := by rw [HCKL.out]; kernel_rfl
  have N1 := fun W : World => neq_hash ch (sha l) (HCH ()) (sha_length _) W
  have N2 := fun W : World => neq_hash ck (hmac l m) (HCK ()) (sha_length _) W
  have N3 := fun W : World => neq_hash cm (hmac l l) (HCM ()) (sha_length _) W
  have hcx : n ≤ c7 := by omega
  have hcy : n2 ≤ c8 := by omega
  have RX : Rd w7 w7.heap.size (some ⟨g7, 0, none⟩) n l := by
    have := HX7.out.cut hc7 (Nat.zero_le n) (by omega)
    have hl := HX7.out.len
    rw [List.length_append, show guardB.length = 4 from rfl] at hl
    rw [List.drop_zero, Nat.sub_zero, List.take_append_of_le_length (by omega), List.take_of_length_le (by omega), if_neg (by omega)] at this
    simpa [Addr.add_lit] using this
  have RY : Rd w7 w7.heap.size (some ⟨g8, 0, none⟩) n2 m := by
    have := HY7.out.cut hc8 (Nat.zero_le n2) (by omega)
    have hl := HY7.out.len
    rw [List.length_append, show guardB.length = 4 from rfl] at hl
    rw [List.drop_zero, Nat.sub_zero, List.take_append_of_le_length (by omega), List.take_of_length_le (by omega), if_neg (by omega)] at this
    simpa [Addr.add_lit] using this
  have D1 : ∀ W, Below w7.heap.size w7 W → Hid (Calls Tryd.prog 34 #[.slice (some ⟨g7, 0, none⟩) n c7] W fun e w' => e = .returned (.agg ch.toArray) ∧ Below W.heap.size W w') := fun W hb => OF _ 0 c7 W ((RX.below hb).more hb.size) hcx (hb7.trans (hb.mono hb7.size))
  have D2 : ∀ W, Below w7.heap.size w7 W → Hid (Calls Tryd.prog 36 #[.slice (some ⟨g7, 0, none⟩) n c7, .slice (some ⟨g8, 0, none⟩) n2 c8] W fun e w' => e = .returned (.agg ck.toArray) ∧ Below W.heap.size W w') := fun W hb => HM _ _ c7 c8 W ((RX.below hb).more hb.size) hcx ((RY.below hb).more hb.size) (hb7.trans (hb.mono hb7.size))
  have D3 : ∀ W, Below w7.heap.size w7 W → Hid (Calls Tryd.prog 36 #[.slice (some ⟨g7, 0, none⟩) n c7, .slice (some ⟨g7, 0, none⟩) n c7] W fun e w' => e = .returned (.agg cm.toArray) ∧ Below W.heap.size W w') := fun W hb => HL _ _ c7 c7 W ((RX.below hb).more hb.size) hcx ((RX.below hb).more hb.size) (hb7.trans (hb.mono hb7.size))
  have D4 : ∀ W, Below w7.heap.size w7 W → Hid (Calls Tryd.prog 36 #[.slice A n c, .slice A n c] W fun e w' => e = .returned (.agg cm.toArray) ∧ Below W.heap.size W w') := fun W hb => HL A A c c W ((HD.out.below (hb7.trans (hb.mono hb7.size))).more (hb7.trans (hb.mono hb7.size)).size) hc ((HD.out.below (hb7.trans (hb.mono hb7.size))).more (hb7.trans (hb.mono hb7.size)).size) (hb7.trans (hb.mono hb7.size))
  clear OF HM HL RX RY HA57 HA67
  have hu0 : Below w7.heap.size w7 w7.drew := (Below.refl _ _).drew
  refine wp_region_held_drew (S := fun w' => w'.rangeAt b5 0 ch ∧ w'.rangeAt (b5 + 1) 0 ck) (by kernel_rfl) ⟨HR5.out, HR6.out⟩ (fun hHeld => ?_)
  refine wpAnyH_take (i := 0) (oi := _) (v := .slice (some ⟨g7, 0, none⟩) n c7) rfl (by kernel_rfl) (by kernel_rfl) (by kernel_rfl) (fun _ _ _ h => h) (Or.inl ⟨by rfl, fun W _ => by rfl⟩) hHeld ?_
  try simp only [Act.put, List.getElem_toArray, List.getElem_cons_zero, List.setIfInBounds_toArray, List.set_cons_zero, List.set_cons_succ]
  refine wpAnyH_take (i := 2) (oi := _) (v := _) rfl (by kernel_rfl) (by kernel_rfl) (by kernel_rfl) (fun _ _ _ h => h) (yieldsIf_load_mid (by rfl) _ _ rfl b5 0 rfl ch _ (fun _ h => h.1) hcu rfl hchi) hHeld ?_
  try simp only [Act.put, List.getElem_toArray, List.getElem_cons_zero, List.getElem_cons_succ, List.setIfInBounds_toArray, List.set_cons_zero, List.set_cons_succ]
  clear hHeld
  refine wpAnyH_ready (rs := [1]) (by kernel_rfl) (by simp) ?_
  refine AllReadyH.cons (o := _) rfl (fun K hK => ?_) AllReadyH.nil
  rw [if_pos (by rfl)]
  go_wp2_with fail
  refine (D1 _ hu0).out.mono ?_
  rintro e u1 ⟨rfl, hu1'⟩
  have hu1 : Below w7.heap.size w7 u1 := hu0.trans (hu1'.mono hu0.size)
  refine hK.out _ _ ⟨World.rangeAt_below HR5.out hu1 hb57, World.rangeAt_below HR6.out hu1 hb67⟩ (fun hHeld => ?_)
  clear hK K hu1'
  try simp only [Act.put, List.getElem_toArray, List.getElem_cons_zero, List.getElem_cons_succ, List.setIfInBounds_toArray, List.set_cons_zero, List.set_cons_succ]
  refine wpAnyH_take (i := 3) (oi := _) (v := .bool false) rfl (by kernel_rfl) (by kernel_rfl) (by kernel_rfl) (fun _ _ _ h => h) (Or.inl ⟨by rfl, fun W _ => by go_simp⟩) hHeld ?_
  try simp only [Act.put, List.getElem_toArray, List.getElem_cons_zero, List.getElem_cons_succ, List.setIfInBounds_toArray, List.set_cons_zero, List.set_cons_succ]
  refine wpAnyH_take (i := 4) (oi := _) (v := .bool false) rfl (by kernel_rfl) (by kernel_rfl) (by kernel_rfl) (fun _ _ _ h => h) (Or.inl ⟨by rfl, fun W _ => by rfl⟩) hHeld ?_
  try simp only [Act.put, List.getElem_toArray, List.getElem_cons_zero, List.getElem_cons_succ, List.setIfInBounds_toArray, List.set_cons_zero, List.set_cons_succ]
  refine wpAnyH_take (i := 5) (oi := _) (v := .slice (some ⟨g7, 0, none⟩) n c7) rfl (by kernel_rfl) (by kernel_rfl) (by kernel_rfl) (fun _ _ _ h => h) (Or.inl ⟨by rfl, fun W _ => by rfl⟩) hHeld ?_
  try simp only [Act.put, List.getElem_toArray, List.getElem_cons_zero, List.getElem_cons_succ, List.setIfInBounds_toArray, List.set_cons_zero, List.set_cons_succ]
  refine wpAnyH_take (i := 6) (oi := _) (v := .slice (some ⟨g8, 0, none⟩) n2 c8) rfl (by kernel_rfl) (by kernel_rfl) (by kernel_rfl) (fun _ _ _ h => h) (Or.inl ⟨by rfl, fun W _ => by rfl⟩) hHeld ?_
  try simp only [Act.put, List.getElem_toArray, List.getElem_cons_zero, List.getElem_cons_succ, List.setIfInBounds_toArray, List.set_cons_zero, List.set_cons_succ]
  refine wpAnyH_take (i := 8) (oi := _) (v := _) rfl (by kernel_rfl) (by kernel_rfl) (by kernel_rfl) (fun _ _ _ h => h) (yieldsIf_load_mid (by rfl) _ _ rfl (b5 + 1) 0 rfl ck _ (fun _ h => h.2) hcu rfl hcki) hHeld ?_
  try simp only [Act.put, List.getElem_toArray, List.getElem_cons_zero, List.getElem_cons_succ, List.setIfInBounds_toArray, List.set_cons_zero, List.set_cons_succ]
  clear hHeld
  refine wpAnyH_ready (rs := [7]) (by kernel_rfl) (by simp) ?_
  refine AllReadyH.cons (o := _) rfl (fun K hK => ?_) AllReadyH.nil
  rw [if_pos (by rfl)]
  go_wp2_with fail
  refine (D2 _ hu1).out.mono ?_
  rintro e u2 ⟨rfl, hu2'⟩
  have hu2 : Below w7.heap.size w7 u2 := hu1.trans (hu2'.mono hu1.size)
  refine hK.out _ _ ⟨World.rangeAt_below HR5.out hu2 hb57, World.rangeAt_below HR6.out hu2 hb67⟩ (fun hHeld => ?_)
  clear hK K hu2'
  try simp only [Act.put, List.getElem_toArray, List.getElem_cons_zero, List.getElem_cons_succ, List.setIfInBounds_toArray, List.set_cons_zero, List.set_cons_succ]
  refine wpAnyH_take (i := 9) (oi := _) (v := .bool false) rfl (by kernel_rfl) (by kernel_rfl) (by kernel_rfl) (fun _ _ _ h => h) (Or.inl ⟨by rfl, fun W _ => by go_simp⟩) hHeld ?_
  try simp only [Act.put, List.getElem_toArray, List.getElem_cons_zero, List.getElem_cons_succ, List.setIfInBounds_toArray, List.set_cons_zero, List.set_cons_succ]
  refine wpAnyH_take (i := 10) (oi := _) (v := .bool false) rfl (by kernel_rfl) (by kernel_rfl) (by kernel_rfl) (fun _ _ _ h => h) (Or.inl ⟨by rfl, fun W _ => by rfl⟩) hHeld ?_
  try simp only [Act.put, List.getElem_toArray, List.getElem_cons_zero, List.getElem_cons_succ, List.setIfInBounds_toArray, List.set_cons_zero, List.set_cons_succ]
  refine wpAnyH_take (i := 11) (oi := _) (v := .bool false) rfl (by kernel_rfl) (by kernel_rfl) (by kernel_rfl) (fun _ _ _ h => h) (Or.inl ⟨by rfl, fun W _ => by rfl⟩) hHeld ?_
  try simp only [Act.put, List.getElem_toArray, List.getElem_cons_zero, List.getElem_cons_succ, List.setIfInBounds_toArray, List.set_cons_zero, List.set_cons_succ]
  refine wpAnyH_take (i := 12) (oi := _) (v := .slice (some ⟨g7, 0, none⟩) n c7) rfl (by kernel_rfl) (by kernel_rfl) (by kernel_rfl) (fun _ _ _ h => h) (Or.inl ⟨by rfl, fun W _ => by rfl⟩) hHeld ?_
  try simp only [Act.put, List.getElem_toArray, List.getElem_cons_zero, List.getElem_cons_succ, List.setIfInBounds_toArray, List.set_cons_zero, List.set_cons_succ]
  refine wpAnyH_take (i := 13) (oi := _) (v := .slice (some ⟨g7, 0, none⟩) n c7) rfl (by kernel_rfl) (by kernel_rfl) (by kernel_rfl) (fun _ _ _ h => h) (Or.inl ⟨by rfl, fun W _ => by rfl⟩) hHeld ?_
  try simp only [Act.put, List.getElem_toArray, List.getElem_cons_zero, List.getElem_cons_succ, List.setIfInBounds_toArray, List.set_cons_zero, List.set_cons_succ]
  refine wpAnyH_take (i := 15) (oi := _) (v := .slice A n c) rfl (by kernel_rfl) (by kernel_rfl) (by kernel_rfl) (fun _ _ _ h => h) (Or.inl ⟨by rfl, fun W _ => by rfl⟩) hHeld ?_
  try simp only [Act.put, List.getElem_toArray, List.getElem_cons_zero, List.getElem_cons_succ, List.setIfInBounds_toArray, List.set_cons_zero, List.set_cons_succ]
  refine wpAnyH_take (i := 16) (oi := _) (v := .slice A n c) rfl (by kernel_rfl) (by kernel_rfl) (by kernel_rfl) (fun _ _ _ h => h) (Or.inl ⟨by rfl, fun W _ => by rfl⟩) hHeld ?_
  try simp only [Act.put, List.getElem_toArray, List.getElem_cons_zero, List.getElem_cons_succ, List.setIfInBounds_toArray, List.set_cons_zero, List.set_cons_succ]
  clear hHeld
  refine wpAnyH_ready (rs := [14]) (by kernel_rfl) (by simp) ?_
  refine AllReadyH.cons (o := _) rfl (fun K hK => ?_) AllReadyH.nil
  rw [if_pos (by rfl)]
  go_wp2_with fail
  refine (D3 _ hu2).out.mono ?_
  rintro e u3 ⟨rfl, hu3'⟩
  have hu3 : Below w7.heap.size w7 u3 := hu2.trans (hu3'.mono hu2.size)
  refine hK.out _ _ ⟨World.rangeAt_below HR5.out hu3 hb57, World.rangeAt_below HR6.out hu3 hb67⟩ (fun hHeld => ?_)
  clear hK K hu3'
  try simp only [Act.put, List.getElem_toArray, List.getElem_cons_zero, List.getElem_cons_succ, List.setIfInBounds_toArray, List.set_cons_zero, List.set_cons_succ]
  clear hHeld
  refine wpAnyH_ready (rs := [17]) (by kernel_rfl) (by simp) ?_
  refine AllReadyH.cons (o := _) rfl (fun K hK => ?_) AllReadyH.nil
  rw [if_pos (by rfl)]
  go_wp2_with fail
  refine (D4 _ hu3).out.mono ?_
  rintro e u4 ⟨rfl, hu4'⟩
  have hu4 : Below w7.heap.size w7 u4 := hu3.trans (hu4'.mono hu3.size)
  refine hK.out _ _ ⟨World.rangeAt_below HR5.out hu4 hb57, World.rangeAt_below HR6.out hu4 hb67⟩ (fun hHeld => ?_)
  clear hK K hu4'
  try simp only [Act.put, List.getElem_toArray, List.getElem_cons_zero, List.getElem_cons_succ, List.setIfInBounds_toArray, List.set_cons_zero, List.set_cons_succ]
  refine wpAnyH_take (i := 18) (oi := _) (v := .bool false) rfl (by kernel_rfl) (by kernel_rfl) (by kernel_rfl) (fun _ _ _ h => h) (Or.inl ⟨by rfl, fun W _ => by go_simp⟩) hHeld ?_
  try simp only [Act.put, List.getElem_toArray, List.getElem_cons_zero, List.getElem_cons_succ, List.setIfInBounds_toArray, List.set_cons_zero, List.set_cons_succ]
  refine wpAnyH_take (i := 19) (oi := _) (v := .bool false) rfl (by kernel_rfl) (by kernel_rfl) (by kernel_rfl) (fun _ _ _ h => h) (Or.inl ⟨by rfl, fun W _ => by rfl⟩) hHeld ?_
  try simp only [Act.put, List.getElem_toArray, List.getElem_cons_zero, List.getElem_cons_succ, List.setIfInBounds_toArray, List.set_cons_zero, List.set_cons_succ]
  refine wpAnyH_done (by kernel_rfl) ?_ _
  clear hHeld D1 D2 D3 D4 N1 N2 N3 HR5 HR6 hu1 hu2 hu3
  have hb8 : Below w.heap.size w u4 := hb7.trans (hu4.mono hb7.size)
  have K1 := Lib.hid (kept_any (some ⟨g7, 0, none⟩) A n c7 n c l u4 ((HX7.out.below hu4).more hu4.size) hc7 ((HD.out.below hb8).more hb8.size) (by omega))
  have HY8 := Lib.hid ((HY7.out.below hu4).more hu4.size)
  clear HX7 HY7 hb7 hu4 hu0
  go_wp2_with fail
  refine K1.out.mono ?_
  clear K1
  rintro e u5 ⟨rfl, q5, rfl⟩
  have hb9 : Below w.heap.size w (u4.drewN q5) := Below.drewN hb8 q5
  have K2 := Lib.hid (kept_any (some ⟨g8, 0, none⟩) A2 n2 c8 n2 c2 m (u4.drewN q5) (HY8.out.keep (w' := u4.drewN q5) (fun p _ => rfl)) hc8 ((HD2.out.below hb9).more hb9.size) (by omega))
  clear HY8 hb8
  generalize u4.drewN q5 = u6 at *
  go_wp2_with fail
  refine K2.out.mono ?_
  clear K2
  rintro e u7 ⟨rfl, q7, rfl⟩
  have hb10 : Below w.heap.size w (u6.drewN q7) := Below.drewN hb9 q7
  have CA := Lib.hid (awake_sha (u6.drewN q7) (HT.out.keep hb10 HP.out))
  clear hb9
  generalize u6.drewN q7 = u8 at *
  go_wp2_with fail
  refine CA.out.mono ?_
  rintro e u9 ⟨rfl, hb11⟩
  go_wp2_with fail
  go_ret
  exact ⟨rfl, hb10.trans (hb11.mono hb10.size)⟩

set_option maxRecDepth 100000 in
theorem still_walk (A A2 : Option Addr) (n c n2 c2 : Nat) (l m : List UInt8) (w : World) (h : Rd w w.heap.size A n l) (hc : n ≤ c) (h2 : Rd w w.heap.size A2 n2 m) (hc2 : n2 ≤ c2) (ht : TabS w) :
    Calls Tryd.prog 11 #[.slice A n c, .slice A2 n2 c2] w fun e w' => e = .returned (.bool true) ∧ Below w.heap.size w w' := by
  by_cases hn : 500 < n ∨ 500 < n2
  · exact still_far A A2 n c n2 c2 w hn ht
  · exact still_near A A2 n c n2 c2 l m w h hc (by omega) h2 hc2 (by omega) ht
end Go.Proofs.YtllmdbalhjlbpaaDoor

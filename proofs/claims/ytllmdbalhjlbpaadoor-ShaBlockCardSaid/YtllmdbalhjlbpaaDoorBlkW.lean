/-
  The walk of ShaBlock: it answers true, and nothing that was there has turned.
-/
import Derived.Test.YtllmdbalhjlbpaaDoorStillW
import Derived.Test.YtllmdbalhjlbpaaDoorRep
namespace Go.Proofs.YtllmdbalhjlbpaaDoor
open Go.RowKit

set_option maxHeartbeats 1600000 in
set_option maxRecDepth 100000 in
theorem block_far (A A2 : Option Addr) (n c n2 c2 : Nat) (z : Int) (w : World) (hn : 250 < n ∨ 1000 < n2) (ht : TabS w) :
    Calls Tryd.prog 9 #[.slice A n c, .slice A2 n2 c2, .int .u8 z] w fun e w' => e = .returned (.bool true) ∧ Below w.heap.size w w' := by
  have CA := Lib.hid (awake_sha w ht)
  clear ht
  by_cases h1 : 250 < n
  · go_enter Tryd.func9, Tryd.ntmps9
    go_wp2_with fail
    refine CA.out.mono ?_
    rintro e w1 ⟨rfl, hb⟩
    go_wp2_with fail
    go_ret
    exact ⟨rfl, hb⟩
  · have h2 : 1000 < n2 := by omega
    go_enter Tryd.func9, Tryd.ntmps9
    go_wp2_with fail
    refine CA.out.mono ?_
    rintro e w1 ⟨rfl, hb⟩
    go_wp2_with fail
    go_ret
    exact ⟨rfl, hb⟩

set_option maxRecDepth 100000 in
theorem keyB_pad (K : List UInt8) (k : Nat) (h : K.length + k ≤ 64) : keyB (K ++ List.replicate k 0) = K ++ List.replicate (64 - K.length) 0 := by
  have hl : (K ++ List.replicate k (0 : UInt8)).length = K.length + k := by simp
  rw [keyB, if_neg (by omega), hl, List.append_assoc, List.replicate_append_replicate]
  congr 2
  omega
/-- The key as the program shortens it. -/
def shortK (l : List UInt8) : List UInt8 := if 64 < l.length then sha l else l
set_option maxRecDepth 100000 in
theorem shortK_le (l : List UInt8) : (shortK l).length ≤ 64 := by
  unfold shortK
  split
  · rw [sha_length]; omega
  · omega
set_option maxRecDepth 100000 in
theorem hmac_short (l m : List UInt8) (k : Nat) (h : (shortK l).length + k ≤ 64) : hmac (shortK l ++ List.replicate k 0) m = hmac l m := by
  unfold hmac
  rw [keyB_pad _ k h]
  have : shortK l ++ List.replicate (64 - (shortK l).length) 0 = keyB l := by
    unfold shortK keyB
    split
    · rw [sha_length]
    · rfl
  rw [this]

/-- What holds at the head of the loop over the three numbers of noughts. -/
def BlkRel (w : World) (bw gi k1 k2 : Nat) (cw : List Value) (i : Value) (wr : World) : Prop :=
  ∃ j : Nat, j ≤ 3 ∧ i = .int .i64 (j : Int) ∧ Below w.heap.size w wr ∧ Arr wr bw 51 cw.toArray ∧ Arr wr gi 3 #[.int .i64 0, .int .i64 (k1 : Int), .int .i64 (k2 : Int)]
set_option maxRecDepth 100000 in
theorem blk_at (k1 k2 q j : Nat) (hj : j < 3) (h1 : k1 + q ≤ 64) (h2 : k2 + q ≤ 64) (hq : q ≤ 64) : ∃ k, k + q ≤ 64 ∧ (#[Value.int .i64 0, .int .i64 (k1 : Int), .int .i64 (k2 : Int)] : Array Value)[j]? = some (.int .i64 (k : Int)) := by
  match j, hj with
  | 0, _ => exact ⟨0, by omega, rfl⟩
  | 1, _ => exact ⟨k1, h1, rfl⟩
  | 2, _ => exact ⟨k2, h2, rfl⟩

set_option maxHeartbeats 4000000 in
set_option maxRecDepth 100000 in
theorem block_near (A A2 : Option Addr) (n c n2 c2 z : Nat) (l m : List UInt8) (w : World) (h : Rd w w.heap.size A n l) (hc : n ≤ c) (hn : n ≤ 250) (h2 : Rd w w.heap.size A2 n2 m) (hn2 : n2 ≤ 1000) (hz : z < 256) (ht : TabS w) :
    Calls Tryd.prog 9 #[.slice A n c, .slice A2 n2 c2, .int .u8 (z : Int)] w fun e w' => e = .returned (.bool true) ∧ Below w.heap.size w w' := by
  have HT := Lib.hid ht
  have HP := Lib.hid ht.pos
  have HD := Lib.hid h
  have HD2 := Lib.hid h2
  have HLN := Lib.hid h.len
  obtain ⟨cw, HCW⟩ : ∃ cs, Unit → bvs (hmac l m) = cs := ⟨_, fun _ => rfl⟩
  have HCWL : Unit → cw.length = 32 := fun _ => by rw [← HCW (), bvs_length, hmac, sha_length]
  have HCW1 := Lib.hid (all_oneCell_toArray (show ∀ v ∈ cw, v.oneCell' = true by rw [← HCW ()]; exact bvs_oneCell _))
  have C1 : Hid (Calls Tryd.prog 36 #[.slice A n c, .slice A2 n2 c2] w fun e w' => e = .returned (.agg cw.toArray) ∧ Below w.heap.size w w') := by
    refine (hmac_any A A2 n c n2 c2 l m w h hc (by omega) h2 (by omega) ht).mono ?_
    rintro e w' ⟨rfl, hb'⟩
    exact ⟨by rw [← HCW ()]; rfl, hb'⟩
  clear h h2 ht
  obtain ⟨S, HS⟩ : ∃ s : ByteArray, Unit → (⟨(shortK l).toArray⟩ : ByteArray) = s := ⟨_, fun _ => rfl⟩
  obtain ⟨q, HQ⟩ : ∃ q, Unit → (shortK l).length = q := ⟨_, fun _ => rfl⟩
  have hq : q ≤ 64 := by rw [← HQ ()]; exact shortK_le l
  have hss : S.size = q := by rw [← HS (), ← HQ ()]; rfl
  by_cases hk : 64 < n
  case' pos =>
    have hgt : decide (64 < (n : Int)) = true := by simp; omega
    have HSK : Unit → shortK l = sha l := fun _ => by rw [shortK, if_pos (by rw [HLN.out]; exact hk)]
    have C2 : ∀ W, Below w.heap.size w W → Hid (Calls Tryd.prog 34 #[.slice A n c] W fun e w' => e = .returned (.agg (bcs (shortK l))) ∧ Below W.heap.size W w') := fun W hb => by
      have := of_any A n c l W ((HD.out.below hb).more hb.size) hc (by omega) (HT.out.keep hb HP.out)
      rw [← HSK ()] at this
      exact this
    have HQ32 : Unit → (shortK l).length = 32 := fun _ => by rw [HSK ()]; exact sha_length l
    go_enter Tryd.func9, Tryd.ntmps9
    go_wp2_with fail
    refine C1.out.mono ?_
    rintro e w1 ⟨rfl, hb1⟩
    go_simp
    iterate 4 (first | go_values | go_skip | go_guarded | go_step | go_upon)
    refine wpList_store_row rfl _ _ _ rfl w1.heap.size cw.toArray rfl rfl _ _ (Arr.new w1 _ _) (by rw [List.size_toArray, HCWL ()]; kernel_rfl) (by show 32 = cw.toArray.size; rw [List.size_toArray, HCWL ()]) HCW1.out ?_
    rw [World.setRow_alloc_new]
    obtain ⟨w2, hw2⟩ : ∃ w2, w1.alloc (.cells cw.toArray 51) = w2 := ⟨_, rfl⟩
    have HW2 := Lib.hid (show Arr w2 w1.heap.size 51 cw.toArray by rw [← hw2]; exact Arr.new _ _ _)
    have hb2 : Below w.heap.size w w2 := by rw [← hw2]; exact hb1.alloc hb1.size _
    have hbw : w.heap.size ≤ w1.heap.size := hb1.size
    rw [hw2]
    clear hw2 hb1 C1
    generalize w1.heap.size = bw at *
    have hcv := str_rule c ((HD.out.below hb2).more hb2.size)
    go_simp
    go_wp2_with fail
    refine (C2 _ hb2).out.mono ?_
    rintro e w3 ⟨rfl, hb3'⟩
    have HW3 := Lib.hid (HW2.out.below hb3' HW2.out.lt)
    have hb3 : Below w.heap.size w w3 := hb2.trans (hb3'.mono hb2.size)
    clear HW2 hb2 hb3' hcv C2
    go_simp
    iterate 4 (first | go_values | go_skip | go_guarded | go_step | go_upon)
    refine wpList_store_row rfl _ _ _ rfl w3.heap.size (bcs (shortK l)) rfl rfl _ _ (Arr.new w3 _ _) (by rw [bcs_size, HQ32 ()]; kernel_rfl) (by rw [bcs_size, HQ32 ()]; rfl) (bcs_one _) ?_
    rw [World.setRow_alloc_new]
    obtain ⟨w4, hw4⟩ : ∃ w4, w3.alloc (.cells (bcs (shortK l)) 51) = w4 := ⟨_, rfl⟩
    have HW4 := Lib.hid (show Arr w4 bw 51 cw.toArray by rw [← hw4]; exact HW3.out.alloc _)
    have HS4 := Lib.hid (show Arr w4 w3.heap.size 51 (bcs (shortK l)) by rw [← hw4]; exact Arr.new _ _ _)
    have hb4 : Below w.heap.size w w4 := by rw [← hw4]; exact hb3.alloc hb3.size _
    rw [hw4]
    clear hw4 HW3 hb3
    generalize w3.heap.size = s4 at *
    have hcv : (convert 23 9 (.slice (some ⟨s4, 0, none⟩) 32 32)).run Tryd.prog w4 = .ok (.string S) w4 := by
      have := str_rule (n := 32) 32 (by simpa using HS4.out.rd 0 32 (by rw [HQ32 ()]) : Rd w4 (s4 + 1) (some ⟨s4, 0, none⟩) 32 (shortK l))
      rw [this, HS ()]
    clear HS4 HQ32
    go_simp
    go_wp2_with fail
    obtain ⟨k1, hk1, hk1q⟩ : ∃ k1 : Nat, (z : Int) % (64 - (q : Int) + 1) = (k1 : Int) ∧ k1 + q ≤ 64 := by
      have hm := Nat.mod_lt z (show 0 < 64 - q + 1 by omega)
      refine ⟨z % (64 - q + 1), ?_, by omega⟩
      rw [show (64 - (q : Int) + 1) = ((64 - q + 1 : Nat) : Int) by omega, ← Int.natCast_emod]
    obtain ⟨k2, hk2, hk2q⟩ : ∃ k2 : Nat, 64 - (q : Int) = (k2 : Int) ∧ k2 + q ≤ 64 := ⟨64 - q, by omega, by omega⟩
    rw [hk1, hk2]
    clear hk1 hk2 hcv
    have hW5 : Arr (w4.alloc (.cells #[.int .i64 0, .int .i64 (k1 : Int), .int .i64 (k2 : Int)] 3)) bw 51 cw.toArray := HW4.out.alloc _
    have hI5 := Arr.new w4 #[.int .i64 0, .int .i64 (k1 : Int), .int .i64 (k2 : Int)] 3
    have hb5 : Below w.heap.size w (w4.alloc (.cells #[.int .i64 0, .int .i64 (k1 : Int), .int .i64 (k2 : Int)] 3)) := hb4.alloc hb4.size _
    clear HW4
    obtain ⟨gi, hgi⟩ : ∃ g, w4.heap.size = g := ⟨_, rfl⟩
    have hgw : w.heap.size ≤ gi := by rw [← hgi]; exact hb4.size
    rw [hgi] at hI5 ⊢
    clear hgi hb4
    generalize w4.alloc (.cells #[.int .i64 0, .int .i64 (k1 : Int), .int .i64 (k2 : Int)] 3) = w5 at *
    have hcu := Tryd.underlying51
    have hci : (Tryd.prog.info? 51).map (·.size) = some cw.length := by rw [HCWL ()]; kernel_rfl
    have HCL := Lib.hid (HCWL ())
    have N1 := fun W : World => neq_hash cw (hmac l m) (HCW ()) (sha_length _) W
    have HSL : Unit → S.data.toList = shortK l := fun _ => by rw [← HS ()]
    go_loopw [45] (fun i wr => BlkRel w bw gi k1 k2 cw i wr) (fun i _ => 3 - (intOf i).toNat)
    case atStart => exact ⟨0, by omega, rfl, hb5, hW5, hI5⟩
    case round =>
      clear hb5 hW5 hI5
      obtain ⟨j, hj, rfl, hbr, hWr, hIr⟩ := hrel
      have HW := Lib.hid hWr
      have HI := Lib.hid hIr
      clear hWr hIr
      by_cases hlt : j < 3
      · obtain ⟨k, hkq, hkc⟩ := blk_at k1 k2 q j hlt hk1q hk2q hq
        have c1 : wr.cell? ⟨gi, j, none⟩ = some (.int .i64 (k : Int)) := (HI.out.cell j).trans hkc
        clear hkc
        obtain ⟨R, HR⟩ : ∃ s : ByteArray, Unit → (⟨(List.replicate k 0).toArray⟩ : ByteArray) = s := ⟨_, fun _ => rfl⟩
        obtain ⟨SR, HSR⟩ : ∃ s : ByteArray, Unit → (⟨(shortK l ++ List.replicate k 0).toArray⟩ : ByteArray) = s := ⟨_, fun _ => rfl⟩
        have HSRL : Unit → SR.data.toList = shortK l ++ List.replicate k 0 := fun _ => by rw [← HSR ()]
        have HSRS : Unit → SR.size = q + k := fun _ => by
          rw [← HSR ()]
          show (shortK l ++ List.replicate k 0).toArray.size = q + k
          rw [List.size_toArray, List.length_append, List.length_replicate, HQ ()]
        have hadd : ∀ W, (Op.stringOp .add S R).run Tryd.prog W = .ok (.string SR) W := fun W => by
          rw [← HS (), ← HR (), ← HSR ()]
          unfold Op.stringOp
          rw [if_neg (by
            show ¬ (((((shortK l).toArray.size + (List.replicate k (0 : UInt8)).toArray.size : Nat)) : Int) > IntKind.i64.max)
            rw [List.size_toArray, List.size_toArray, List.length_replicate, HQ ()]
            have : IntKind.i64.max = 9223372036854775807 := by decide
            rw [this]; omega), bytes_append]
          rfl
        have CR := fun W : World => Lib.hid (show Calls Tryd.prog 44 #[.string ⟨#[0]⟩, .int .i64 (k : Int)] W fun e w' => e = .returned (.string R) ∧ Below W.heap.size W w' by
          have := repeat_nought k W (by omega)
          rw [HR ()] at this
          exact this)
        have CH : ∀ (u : World) (B : Option Addr) (d : Nat), Below w.heap.size w u → Rd u u.heap.size B SR.size SR.data.toList → SR.size ≤ d → Hid (Calls Tryd.prog 36 #[.slice B SR.size d, .slice A2 n2 c2] u fun e w' => e = .returned (.agg cw.toArray) ∧ Below u.heap.size u w') := by
          intro u B d hb hr hd
          rw [HSRL ()] at hr
          refine (hmac_any B A2 SR.size d n2 c2 _ m u hr hd (by rw [HSRS ()]; omega) ((HD2.out.below hb).more hb.size) (by omega) (HT.out.keep hb HP.out)).mono ?_
          rintro e w' ⟨rfl, hb'⟩
          exact ⟨by rw [hmac_short l m k (by rw [HQ ()]; omega), ← HCW ()]; rfl, hb'⟩
        have hbwr : bw < wr.heap.size := HW.out.lt
        have HR0 := Lib.hid (show wr.rangeAt bw 0 cw from HW.out.range (by simp))
        go_wp2_with fail
        refine wp_region_held_drew (S := fun w' => w'.rangeAt bw 0 cw) (by kernel_rfl) HR0.out (fun hHeld => ?_)
        refine wpAnyH_take (i := 0) (oi := _) (v := .string S) rfl (by kernel_rfl) (by kernel_rfl) (by kernel_rfl) (fun _ _ _ h => h) (Or.inl ⟨by rfl, fun W _ => by rfl⟩) hHeld ?_
        try simp only [Act.put, List.getElem_toArray, List.getElem_cons_zero, List.setIfInBounds_toArray, List.set_cons_zero, List.set_cons_succ]
        refine wpAnyH_take (i := 1) (oi := _) (v := .int .i64 (k : Int)) rfl (by kernel_rfl) (by kernel_rfl) (by kernel_rfl) (fun _ _ _ h => h) (Or.inl ⟨by rfl, fun W _ => by rfl⟩) hHeld ?_
        try simp only [Act.put, List.getElem_toArray, List.getElem_cons_zero, List.getElem_cons_succ, List.setIfInBounds_toArray, List.set_cons_zero, List.set_cons_succ]
        refine wpAnyH_take (i := 5) (oi := _) (v := .slice A2 n2 c2) rfl (by kernel_rfl) (by kernel_rfl) (by kernel_rfl) (fun _ _ _ h => h) (Or.inl ⟨by rfl, fun W _ => by rfl⟩) hHeld ?_
        try simp only [Act.put, List.getElem_toArray, List.getElem_cons_zero, List.getElem_cons_succ, List.setIfInBounds_toArray, List.set_cons_zero, List.set_cons_succ]
        refine wpAnyH_take (i := 7) (oi := _) (v := _) rfl (by kernel_rfl) (by kernel_rfl) (by kernel_rfl) (fun _ _ _ h => h) (yieldsIf_load_mid (by rfl) _ _ rfl bw 0 rfl cw _ (fun _ h => h) hcu rfl hci) hHeld ?_
        try simp only [Act.put, List.getElem_toArray, List.getElem_cons_zero, List.getElem_cons_succ, List.setIfInBounds_toArray, List.set_cons_zero, List.set_cons_succ]
        clear hHeld
        refine wpAnyH_ready (rs := [2]) (by kernel_rfl) (by simp) ?_
        refine AllReadyH.cons (o := _) rfl (fun K hK => ?_) AllReadyH.nil
        rw [if_pos (by rfl)]
        go_wp2_with fail
        refine (CR _).out.mono ?_
        rintro e u1 ⟨rfl, hu1'⟩
        have hu1 : Below wr.heap.size wr u1 := ((Below.refl _ _).drew).trans hu1'
        have hs1 := World.rangeAt_below HR0.out hu1 hbwr
        refine hK.out _ _ hs1 (fun hHeld => ?_)
        clear hK K hu1'
        try simp only [Act.put, List.getElem_toArray, List.getElem_cons_zero, List.getElem_cons_succ, List.setIfInBounds_toArray, List.set_cons_zero, List.set_cons_succ]
        refine wpAnyH_take (i := 3) (oi := _) (v := .string SR) rfl (by kernel_rfl) (by kernel_rfl) (by kernel_rfl) (fun _ _ _ h => h) (Or.inl ⟨by rfl, fun W _ => by go_simp⟩) hHeld ?_
        try simp only [Act.put, List.getElem_toArray, List.getElem_cons_zero, List.getElem_cons_succ, List.setIfInBounds_toArray, List.set_cons_zero, List.set_cons_succ]
        clear hHeld
        obtain ⟨c9, u2, r9, hc9, hd9, hu2'⟩ := of_string u1 SR
        have hu2 : Below wr.heap.size wr u2 := hu1.trans (hu2'.mono hu1.size)
        have hs2 := World.rangeAt_below HR0.out hu2 hbwr
        have CH2 := CH u2 _ c9 (hbr.trans (hu2.mono hbr.size)) hd9 hc9
        clear hu2' hd9
        refine wpAnyH_ready (rs := [4]) (by kernel_rfl) (by simp) ?_
        refine AllReadyH.cons (o := _) rfl (fun K hK => ?_) AllReadyH.nil
        rw [if_pos (by rfl)]
        go_wp2_with fail
        refine hK.out _ _ hs2 (fun hHeld => ?_)
        clear hK K hHeld r9
        try simp only [Act.put, List.getElem_toArray, List.getElem_cons_zero, List.getElem_cons_succ, List.setIfInBounds_toArray, List.set_cons_zero, List.set_cons_succ]
        refine wpAnyH_ready (rs := [6]) (by kernel_rfl) (by simp) ?_
        refine AllReadyH.cons (o := _) rfl (fun K hK => ?_) AllReadyH.nil
        rw [if_pos (by rfl)]
        go_wp2_with fail
        refine CH2.out.mono ?_
        rintro e u3 ⟨rfl, hu3'⟩
        have hu3 : Below wr.heap.size wr u3 := hu2.trans (hu3'.mono hu2.size)
        have hs3 := World.rangeAt_below HR0.out hu3 hbwr
        refine hK.out _ _ hs3 (fun hHeld => ?_)
        clear hK K hu3' CH2
        try simp only [Act.put, List.getElem_toArray, List.getElem_cons_zero, List.getElem_cons_succ, List.setIfInBounds_toArray, List.set_cons_zero, List.set_cons_succ]
        refine wpAnyH_take (i := 8) (oi := _) (v := .bool false) rfl (by kernel_rfl) (by kernel_rfl) (by kernel_rfl) (fun _ _ _ h => h) (Or.inl ⟨by rfl, fun W _ => by go_simp⟩) hHeld ?_
        try simp only [Act.put, List.getElem_toArray, List.getElem_cons_zero, List.getElem_cons_succ, List.setIfInBounds_toArray, List.set_cons_zero, List.set_cons_succ]
        refine wpAnyH_done (by kernel_rfl) ?_ _
        clear hHeld
        have hW3 := HW.out.below hu3 HW.out.lt
        have hI3 := HI.out.below hu3 HI.out.lt
        have hB3 : Below w.heap.size w u3 := hbr.trans (hu3.mono hbr.size)
        clear hs1 hs2 hs3 HR0 HW HI hu1 hu2 hu3
        go_wp2_with fail
        go_roundw
        case rel => exact ⟨j + 1, by omega, by go_num, hB3, hW3, hI3⟩
        case measure => simp [intOf]; omega
      · have hge : decide ((j : Int) < 3) = false := by simp; omega
        have CA := Lib.hid (awake_sha wr (HT.out.keep hbr HP.out))
        clear HW HI
        go_wp2_with fail
        refine CA.out.mono ?_
        rintro e u1 ⟨rfl, hu1⟩
        go_wp2_with fail
        go_ret
        exact ⟨rfl, hbr.trans (hu1.mono hbr.size)⟩
  case' neg =>
    have hgt : decide (64 < (n : Int)) = false := by simp; omega
    have HSK : Unit → shortK l = l := fun _ => by rw [shortK, if_neg (by rw [HLN.out]; exact hk)]
    go_enter Tryd.func9, Tryd.ntmps9
    go_wp2_with fail
    refine C1.out.mono ?_
    rintro e w1 ⟨rfl, hb1⟩
    go_simp
    iterate 4 (first | go_values | go_skip | go_guarded | go_step | go_upon)
    refine wpList_store_row rfl _ _ _ rfl w1.heap.size cw.toArray rfl rfl _ _ (Arr.new w1 _ _) (by rw [List.size_toArray, HCWL ()]; kernel_rfl) (by show 32 = cw.toArray.size; rw [List.size_toArray, HCWL ()]) HCW1.out ?_
    rw [World.setRow_alloc_new]
    obtain ⟨w2, hw2⟩ : ∃ w2, w1.alloc (.cells cw.toArray 51) = w2 := ⟨_, rfl⟩
    have HW2 := Lib.hid (show Arr w2 w1.heap.size 51 cw.toArray by rw [← hw2]; exact Arr.new _ _ _)
    have hb2 : Below w.heap.size w w2 := by rw [← hw2]; exact hb1.alloc hb1.size _
    have hbw : w.heap.size ≤ w1.heap.size := hb1.size
    rw [hw2]
    clear hw2 hb1 C1
    generalize w1.heap.size = bw at *
    have hcv := str_rule c ((HD.out.below hb2).more hb2.size)
    rw [← HSK (), HS ()] at hcv
    go_simp
    go_wp2_with fail
    generalize hww : w2 = w4 at *
    clear hww
    have HW4 := HW2
    have hb4 := hb2
    clear HW2 hb2
    obtain ⟨k1, hk1, hk1q⟩ : ∃ k1 : Nat, (z : Int) % (64 - (q : Int) + 1) = (k1 : Int) ∧ k1 + q ≤ 64 := by
      have hm := Nat.mod_lt z (show 0 < 64 - q + 1 by omega)
      refine ⟨z % (64 - q + 1), ?_, by omega⟩
      rw [show (64 - (q : Int) + 1) = ((64 - q + 1 : Nat) : Int) by omega, ← Int.natCast_emod]
    obtain ⟨k2, hk2, hk2q⟩ : ∃ k2 : Nat, 64 - (q : Int) = (k2 : Int) ∧ k2 + q ≤ 64 := ⟨64 - q, by omega, by omega⟩
    rw [hk1, hk2]
    clear hk1 hk2 hcv
    have hW5 : Arr (w4.alloc (.cells #[.int .i64 0, .int .i64 (k1 : Int), .int .i64 (k2 : Int)] 3)) bw 51 cw.toArray := HW4.out.alloc _
    have hI5 := Arr.new w4 #[.int .i64 0, .int .i64 (k1 : Int), .int .i64 (k2 : Int)] 3
    have hb5 : Below w.heap.size w (w4.alloc (.cells #[.int .i64 0, .int .i64 (k1 : Int), .int .i64 (k2 : Int)] 3)) := hb4.alloc hb4.size _
    clear HW4
    obtain ⟨gi, hgi⟩ : ∃ g, w4.heap.size = g := ⟨_, rfl⟩
    have hgw : w.heap.size ≤ gi := by rw [← hgi]; exact hb4.size
    rw [hgi] at hI5 ⊢
    clear hgi hb4
    generalize w4.alloc (.cells #[.int .i64 0, .int .i64 (k1 : Int), .int .i64 (k2 : Int)] 3) = w5 at *
    have hcu := Tryd.underlying51
    have hci : (Tryd.prog.info? 51).map (·.size) = some cw.length := by rw [HCWL ()]; kernel_rfl
    have HCL := Lib.hid (HCWL ())
    have N1 := fun W : World => neq_hash cw (hmac l m) (HCW ()) (sha_length _) W
    have HSL : Unit → S.data.toList = shortK l := fun _ => by rw [← HS ()]
    go_loopw [45] (fun i wr => BlkRel w bw gi k1 k2 cw i wr) (fun i _ => 3 - (intOf i).toNat)
    case atStart => exact ⟨0, by omega, rfl, hb5, hW5, hI5⟩
    case round =>
      clear hb5 hW5 hI5
      obtain ⟨j, hj, rfl, hbr, hWr, hIr⟩ := hrel
      have HW := Lib.hid hWr
      have HI := Lib.hid hIr
      clear hWr hIr
      by_cases hlt : j < 3
      · obtain ⟨k, hkq, hkc⟩ := blk_at k1 k2 q j hlt hk1q hk2q hq
        have c1 : wr.cell? ⟨gi, j, none⟩ = some (.int .i64 (k : Int)) := (HI.out.cell j).trans hkc
        clear hkc
        obtain ⟨R, HR⟩ : ∃ s : ByteArray, Unit → (⟨(List.replicate k 0).toArray⟩ : ByteArray) = s := ⟨_, fun _ => rfl⟩
        obtain ⟨SR, HSR⟩ : ∃ s : ByteArray, Unit → (⟨(shortK l ++ List.replicate k 0).toArray⟩ : ByteArray) = s := ⟨_, fun _ => rfl⟩
        have HSRL : Unit → SR.data.toList = shortK l ++ List.replicate k 0 := fun _ => by rw [← HSR ()]
        have HSRS : Unit → SR.size = q + k := fun _ => by
          rw [← HSR ()]
          show (shortK l ++ List.replicate k 0).toArray.size = q + k
          rw [List.size_toArray, List.length_append, List.length_replicate, HQ ()]
        have hadd : ∀ W, (Op.stringOp .add S R).run Tryd.prog W = .ok (.string SR) W := fun W => by
          rw [← HS (), ← HR (), ← HSR ()]
          unfold Op.stringOp
          rw [if_neg (by
            show ¬ (((((shortK l).toArray.size + (List.replicate k (0 : UInt8)).toArray.size : Nat)) : Int) > IntKind.i64.max)
            rw [List.size_toArray, List.size_toArray, List.length_replicate, HQ ()]
            have : IntKind.i64.max = 9223372036854775807 := by decide
            rw [this]; omega), bytes_append]
          rfl
        have CR := fun W : World => Lib.hid (show Calls Tryd.prog 44 #[.string ⟨#[0]⟩, .int .i64 (k : Int)] W fun e w' => e = .returned (.string R) ∧ Below W.heap.size W w' by
          have := repeat_nought k W (by omega)
          rw [HR ()] at this
          exact this)
        have CH : ∀ (u : World) (B : Option Addr) (d : Nat), Below w.heap.size w u → Rd u u.heap.size B SR.size SR.data.toList → SR.size ≤ d → Hid (Calls Tryd.prog 36 #[.slice B SR.size d, .slice A2 n2 c2] u fun e w' => e = .returned (.agg cw.toArray) ∧ Below u.heap.size u w') := by
          intro u B d hb hr hd
          rw [HSRL ()] at hr
          refine (hmac_any B A2 SR.size d n2 c2 _ m u hr hd (by rw [HSRS ()]; omega) ((HD2.out.below hb).more hb.size) (by omega) (HT.out.keep hb HP.out)).mono ?_
          rintro e w' ⟨rfl, hb'⟩
          exact ⟨by rw [hmac_short l m k (by rw [HQ ()]; omega), ← HCW ()]; rfl, hb'⟩
        have hbwr : bw < wr.heap.size := HW.out.lt
        have HR0 := Lib.hid (show wr.rangeAt bw 0 cw from HW.out.range (by simp))
        go_wp2_with fail
        refine wp_region_held_drew (S := fun w' => w'.rangeAt bw 0 cw) (by kernel_rfl) HR0.out (fun hHeld => ?_)
        refine wpAnyH_take (i := 0) (oi := _) (v := .string S) rfl (by kernel_rfl) (by kernel_rfl) (by kernel_rfl) (fun _ _ _ h => h) (Or.inl ⟨by rfl, fun W _ => by rfl⟩) hHeld ?_
        try simp only [Act.put, List.getElem_toArray, List.getElem_cons_zero, List.setIfInBounds_toArray, List.set_cons_zero, List.set_cons_succ]
        refine wpAnyH_take (i := 1) (oi := _) (v := .int .i64 (k : Int)) rfl (by kernel_rfl) (by kernel_rfl) (by kernel_rfl) (fun _ _ _ h => h) (Or.inl ⟨by rfl, fun W _ => by rfl⟩) hHeld ?_
        try simp only [Act.put, List.getElem_toArray, List.getElem_cons_zero, List.getElem_cons_succ, List.setIfInBounds_toArray, List.set_cons_zero, List.set_cons_succ]
        refine wpAnyH_take (i := 5) (oi := _) (v := .slice A2 n2 c2) rfl (by kernel_rfl) (by kernel_rfl) (by kernel_rfl) (fun _ _ _ h => h) (Or.inl ⟨by rfl, fun W _ => by rfl⟩) hHeld ?_
        try simp only [Act.put, List.getElem_toArray, List.getElem_cons_zero, List.getElem_cons_succ, List.setIfInBounds_toArray, List.set_cons_zero, List.set_cons_succ]
        refine wpAnyH_take (i := 7) (oi := _) (v := _) rfl (by kernel_rfl) (by kernel_rfl) (by kernel_rfl) (fun _ _ _ h => h) (yieldsIf_load_mid (by rfl) _ _ rfl bw 0 rfl cw _ (fun _ h => h) hcu rfl hci) hHeld ?_
        try simp only [Act.put, List.getElem_toArray, List.getElem_cons_zero, List.getElem_cons_succ, List.setIfInBounds_toArray, List.set_cons_zero, List.set_cons_succ]
        clear hHeld
        refine wpAnyH_ready (rs := [2]) (by kernel_rfl) (by simp) ?_
        refine AllReadyH.cons (o := _) rfl (fun K hK => ?_) AllReadyH.nil
        rw [if_pos (by rfl)]
        go_wp2_with fail
        refine (CR _).out.mono ?_
        rintro e u1 ⟨rfl, hu1'⟩
        have hu1 : Below wr.heap.size wr u1 := ((Below.refl _ _).drew).trans hu1'
        have hs1 := World.rangeAt_below HR0.out hu1 hbwr
        refine hK.out _ _ hs1 (fun hHeld => ?_)
        clear hK K hu1'
        try simp only [Act.put, List.getElem_toArray, List.getElem_cons_zero, List.getElem_cons_succ, List.setIfInBounds_toArray, List.set_cons_zero, List.set_cons_succ]
        refine wpAnyH_take (i := 3) (oi := _) (v := .string SR) rfl (by kernel_rfl) (by kernel_rfl) (by kernel_rfl) (fun _ _ _ h => h) (Or.inl ⟨by rfl, fun W _ => by go_simp⟩) hHeld ?_
        try simp only [Act.put, List.getElem_toArray, List.getElem_cons_zero, List.getElem_cons_succ, List.setIfInBounds_toArray, List.set_cons_zero, List.set_cons_succ]
        clear hHeld
        obtain ⟨c9, u2, r9, hc9, hd9, hu2'⟩ := of_string u1 SR
        have hu2 : Below wr.heap.size wr u2 := hu1.trans (hu2'.mono hu1.size)
        have hs2 := World.rangeAt_below HR0.out hu2 hbwr
        have CH2 := CH u2 _ c9 (hbr.trans (hu2.mono hbr.size)) hd9 hc9
        clear hu2' hd9
        refine wpAnyH_ready (rs := [4]) (by kernel_rfl) (by simp) ?_
        refine AllReadyH.cons (o := _) rfl (fun K hK => ?_) AllReadyH.nil
        rw [if_pos (by rfl)]
        go_wp2_with fail
        refine hK.out _ _ hs2 (fun hHeld => ?_)
        clear hK K hHeld r9
        try simp only [Act.put, List.getElem_toArray, List.getElem_cons_zero, List.getElem_cons_succ, List.setIfInBounds_toArray, List.set_cons_zero, List.set_cons_succ]
        refine wpAnyH_ready (rs := [6]) (by kernel_rfl) (by simp) ?_
        refine AllReadyH.cons (o := _) rfl (fun K hK => ?_) AllReadyH.nil
        rw [if_pos (by rfl)]
        go_wp2_with fail
        refine CH2.out.mono ?_
        rintro e u3 ⟨rfl, hu3'⟩
        have hu3 : Below wr.heap.size wr u3 := hu2.trans (hu3'.mono hu2.size)
        have hs3 := World.rangeAt_below HR0.out hu3 hbwr
        refine hK.out _ _ hs3 (fun hHeld => ?_)
        clear hK K hu3' CH2
        try simp only [Act.put, List.getElem_toArray, List.getElem_cons_zero, List.getElem_cons_succ, List.setIfInBounds_toArray, List.set_cons_zero, List.set_cons_succ]
        refine wpAnyH_take (i := 8) (oi := _) (v := .bool false) rfl (by kernel_rfl) (by kernel_rfl) (by kernel_rfl) (fun _ _ _ h => h) (Or.inl ⟨by rfl, fun W _ => by go_simp⟩) hHeld ?_
        try simp only [Act.put, List.getElem_toArray, List.getElem_cons_zero, List.getElem_cons_succ, List.setIfInBounds_toArray, List.set_cons_zero, List.set_cons_succ]
        refine wpAnyH_done (by kernel_rfl) ?_ _
        clear hHeld
        have hW3 := HW.out.below hu3 HW.out.lt
        have hI3 := HI.out.below hu3 HI.out.lt
        have hB3 : Below w.heap.size w u3 := hbr.trans (hu3.mono hbr.size)
        clear hs1 hs2 hs3 HR0 HW HI hu1 hu2 hu3
        go_wp2_with fail
        go_roundw
        case rel => exact ⟨j + 1, by omega, by go_num, hB3, hW3, hI3⟩
        case measure => simp [intOf]; omega
      · have hge : decide ((j : Int) < 3) = false := by simp; omega
        have CA := Lib.hid (awake_sha wr (HT.out.keep hbr HP.out))
        clear HW HI
        go_wp2_with fail
        refine CA.out.mono ?_
        rintro e u1 ⟨rfl, hu1⟩
        go_wp2_with fail
        go_ret
        exact ⟨rfl, hbr.trans (hu1.mono hbr.size)⟩

set_option maxRecDepth 100000 in
theorem block_walk (A A2 : Option Addr) (n c n2 c2 : Nat) (z : Int) (l m : List UInt8) (w : World) (h : Rd w w.heap.size A n l) (hc : n ≤ c) (h2 : Rd w w.heap.size A2 n2 m) (hz0 : 0 ≤ z) (hz1 : z ≤ 255) (ht : TabS w) :
    Calls Tryd.prog 9 #[.slice A n c, .slice A2 n2 c2, .int .u8 z] w fun e w' => e = .returned (.bool true) ∧ Below w.heap.size w w' := by
  by_cases hn : 250 < n ∨ 1000 < n2
  · exact block_far A A2 n c n2 c2 z w hn ht
  · obtain ⟨y, rfl⟩ := Int.eq_ofNat_of_zero_le hz0
    exact block_near A A2 n c n2 c2 y l m w h hc (by omega) h2 (by omega) (by omega) ht
end Go.Proofs.YtllmdbalhjlbpaaDoor

/-
  The contract of Hmac: the hash by a key, in two hashes. No statement of the seat is proved here.
-/
import Derived.Test.YtgdcjealhbfnaaaDoorShaN
import Derived.Deep.RegionHeld3
namespace Go.Proofs.YtgdcjealhbfnaaaDoor
open Go.RowKit

set_option maxRecDepth 100000 in
theorem World.rangeAt_below {w w' : World} {B b o : Nat} {cs : List Value} (h : w.rangeAt b o cs) (hb : Below B w w') (hlt : b < B) : w'.rangeAt b o cs := fun j v hv => (hb.cell (p := ⟨b, o + j, none⟩) hlt).trans (h j v hv)
set_option maxRecDepth 100000 in
theorem World.there_below {w w' : World} {B b o n : Nat} (h : w.there b o n) (hb : Below B w w') (hlt : b < B) : w'.there b o n := fun j hj => by
  rw [hb.cell (p := ⟨b, o + j, none⟩) hlt, hb.frozen (p := ⟨b, o + j, none⟩) hlt]
  exact h j hj
set_option maxRecDepth 100000 in
theorem Arr.range {w : World} {b : Nat} {t : TypeId} {c : Array Value} {cs : List Value} (h : Arr w b t c) (hc : c.toList = cs) : w.rangeAt b 0 cs := fun j v hv => by
  rw [Nat.zero_add, h.cell j, ← Array.getElem?_toList, hc, hv]
set_option maxRecDepth 100000 in
theorem Arr.there {w : World} {b : Nat} {t : TypeId} {c : Array Value} (h : Arr w b t c) (n : Nat) (hn : c.size = n) : w.there b 0 n := fun j hj => by
  refine ⟨?_, by rw [Nat.zero_add]; exact h.frozen j⟩
  rw [Nat.zero_add, h.cell j, Array.getElem?_eq_getElem (by omega)]
  rfl
set_option maxRecDepth 100000 in
theorem Arr.cells {b : Nat} {t : TypeId} : ∀ (vs : List Value) (o : Nat) (w : World) (c : Array Value), Arr w b t c → o + vs.length ≤ c.size →
    ∃ c', Arr (w.setCells b o vs) b t c' ∧ c'.size = c.size ∧ (∀ j, j < o → c'[j]? = c[j]?) ∧ (∀ j, j < vs.length → c'[o + j]? = vs[j]?)
  | [], o, w, c, h, _ => ⟨c, h, rfl, fun _ _ => rfl, fun j hj => by simp at hj⟩
  | v :: r, o, w, c, h, hs => by
    simp only [List.length_cons] at hs
    obtain ⟨c', h1, h2, h3, h4⟩ := Arr.cells r (o + 1) (w.setCell ⟨b, o, none⟩ v) (c.setIfInBounds o v) (h.set o v) (by simp; omega)
    refine ⟨c', h1, by rw [h2]; simp, fun j hj => ?_, fun j hj => ?_⟩
    · rw [h3 j (by omega)]
      simp [Array.getElem?_setIfInBounds]
      omega
    · rcases j with _ | j
      · rw [Nat.add_zero, h3 o (by omega)]
        simp [Array.getElem?_setIfInBounds]
        omega
      · rw [show o + (j + 1) = o + 1 + j by omega, h4 j (by simpa using hj)]
        simp
set_option maxRecDepth 100000 in
theorem Arr.whole {w : World} {b : Nat} {t : TypeId} {c : Array Value} (h : Arr w b t c) (vs : List Value) (hs : vs.length = c.size) : Arr (w.setCells b 0 vs) b t vs.toArray := by
  obtain ⟨c', h1, h2, _, h4⟩ := Arr.cells vs 0 w c h (by omega)
  have : c' = vs.toArray := by
    apply Array.ext_getElem?
    intro j
    by_cases hj : j < vs.length
    · have := h4 j hj
      rw [Nat.zero_add] at this
      rw [this]; simp
    · rw [Array.getElem?_eq_none (by omega), Array.getElem?_eq_none (by simp; omega)]
  rw [← this]; exact h1
set_option maxRecDepth 100000 in
theorem Below.setCells {B b : Nat} {a : World} (hB : B ≤ b) : ∀ (vs : List Value) (o : Nat) (w : World), Below B a w → Below B a (w.setCells b o vs)
  | [], _, _, h => h
  | _ :: r, o, _, h => Below.setCells hB r (o + 1) _ (h.setCell hB _)

set_option maxHeartbeats 1600000 in
set_option maxRecDepth 100000 in
theorem hmac_any (A A2 : Option Addr) (n c n2 c2 : Nat) (l m : List UInt8) (w : World) (h : Rd w w.heap.size A n l) (hc : n ≤ c) (hn : n ≤ 90000) (h2 : Rd w w.heap.size A2 n2 m) (hn2 : n2 ≤ 90000) (ht : TabS w) :
    Calls Tryd.prog 7 #[.slice A n c, .slice A2 n2 c2] w fun e w' => e = .returned (.agg (bcs (hmac l m))) ∧ Below w.heap.size w w' := by
  have HT := Lib.hid ht
  have HP := Lib.hid ht.pos
  have HD2 := Lib.hid h2
  obtain ⟨W0, hW0⟩ : ∃ W, w.alloc (.cells (bcs (zs 32)) 23) = W := ⟨_, rfl⟩
  have hz : W0.heap.size = w.heap.size + 1 := by rw [← hW0]; simp
  have hA : Arr W0 w.heap.size 23 (bcs (zs 32)) := by rw [← hW0]; exact Arr.new _ _ _
  have hbel : Below w.heap.size w W0 := by rw [← hW0]; exact (Below.refl _ _).alloc (Nat.le_refl _) _
  have C1 := keyblock_any A n c l W0 ((h.below hbel).more (by omega)) hc (by omega) (ht.keep hbel ht.pos)
  rw [← hW0] at C1
  have HC1 := Lib.hid C1
  clear C1 h ht h2
  go_enter Tryd.func7, Tryd.ntmps7
  go_wp2_with fail
  refine (show Calls Tryd.prog 21 _ _ _ from HC1.out).mono ?_
  clear HC1
  rw [hW0]
  clear hW0
  rintro e w1 ⟨rfl, hb1⟩
  have hz1 := hb1.size
  have HA1 := Lib.hid (hA.below hb1 (by omega))
  have hbel1 : Below w.heap.size w w1 := hbel.trans (hb1.mono (by omega))
  have hzz : w.heap.size < w1.heap.size := by omega
  clear hA hbel hb1 hz1 hz
  obtain ⟨K, HK⟩ : ∃ K, Unit → keyB l = K := ⟨_, fun _ => rfl⟩
  have HKL : Unit → K.length = 64 := fun _ => by rw [← HK ()]; exact keyB_length l
  rw [HK ()]
  go_simp
  iterate 4 (first | go_values | go_skip | go_guarded | go_step | go_upon)
  refine wpList_store_row rfl _ _ _ rfl w1.heap.size (bcs K) rfl rfl _ _ (Arr.new w1 _ _) (by rw [bcs_size, HKL ()]; kernel_rfl) (by rw [bcs_size, HKL ()]; rfl) (bcs_one _) ?_
  rw [World.setRow_alloc_new]
  obtain ⟨w2, hw2⟩ : ∃ w2, w1.alloc (.cells (bcs K) 41) = w2 := ⟨_, rfl⟩
  have hz2 : w1.heap.size < w2.heap.size := by rw [← hw2]; simp
  have HA2 := Lib.hid (show Arr w2 w.heap.size 23 (bcs (zs 32)) by rw [← hw2]; exact HA1.out.alloc _)
  have HB2 := Lib.hid (show Arr w2 w1.heap.size 41 (bcs K) by rw [← hw2]; exact Arr.new _ _ _)
  have hbel2 : Below w.heap.size w w2 := by rw [← hw2]; exact hbel1.alloc (by omega) _
  rw [hw2]
  clear hw2 HA1 hbel1
  generalize w1.heap.size = s5 at *
  go_simp
  go_wp2_with (refine wpList_load_row rfl _ _ rfl s5 rfl _ _ _ _ HB2.out Tryd.underlying41 rfl (by rw [bcs_size, HKL ()]; kernel_rfl) ?_)
  refine (held_54 K w2 (HKL ())).mono ?_
  rintro e w3 ⟨rfl, hH3, hb3⟩
  have hz3 : w2.heap.size < w3.heap.size := hH3.lt
  have hbel3 : Below w.heap.size w w3 := hbel2.trans (hb3.mono hbel2.size)
  have HA3 := Lib.hid (HA2.out.below hb3 HA2.out.lt)
  have HB3 := Lib.hid (HB2.out.below hb3 HB2.out.lt)
  have hHL : (heldB K 54).length = 64 := by rw [heldB, List.length_map, HKL ()]
  have hR3 : Rd w3 w3.heap.size (some ⟨w2.heap.size, 0, none⟩) 64 (heldB K 54) := by
    have := (hH3.rd 0 64 (by rw [hHL])).more (B' := w3.heap.size) (by omega)
    simpa using this
  have HCC := Lib.hid (concat_two (some ⟨w2.heap.size, 0, none⟩) A2 64 64 n2 c2 (heldB K 54) m w3 hR3 ((HD2.out.below hbel3).more hbel3.size) (by omega) (by omega))
  clear HA2 HB2 hbel2 hb3 hH3 hR3
  go_wp2_with fail
  refine HCC.out.mono ?_
  clear HCC
  rintro e w4 ⟨v, rfl, ho4, hb4⟩
  obtain ⟨A4, c4, rfl, hc4, _⟩ := own_shape ho4
  have hRd4 := Rd.own ho4
  have hml : m.length = n2 := HD2.out.len
  have hl4 : (heldB K 54 ++ m).length = 64 + n2 := by rw [List.length_append, hHL, hml]
  have hbel4 : Below w.heap.size w w4 := hbel3.trans (hb4.mono hbel3.size)
  have HA4 := Lib.hid (HA3.out.below hb4 HA3.out.lt)
  have HB4 := Lib.hid (HB3.out.below hb4 HB3.out.lt)
  have HO := of_any A4 _ c4 (heldB K 54 ++ m) w4 hRd4 hc4 (by rw [hl4]; omega) (HT.out.keep hbel4 HP.out)
  rw [hl4] at HO
  rw [hl4]
  replace HO := Lib.hid HO
  have HM1 : Unit → hmac l m = sha (heldB K 92 ++ sha (heldB K 54 ++ m)) := fun _ => by rw [hmac, HK ()]
  clear HA3 HB3 hbel3 hb4 ho4 hRd4 hl4 hml hHL
  go_wp2_with fail
  refine HO.out.mono ?_
  clear HO
  rintro e w5 ⟨rfl, hb5⟩
  have hbel5 : Below w.heap.size w w5 := hbel4.trans (hb5.mono hbel4.size)
  have HA5 := Lib.hid (HA4.out.below hb5 HA4.out.lt)
  have HB5 := Lib.hid (HB4.out.below hb5 HB4.out.lt)
  have hs5 : s5 < w5.heap.size := HB5.out.lt
  obtain ⟨H1, HH1⟩ : ∃ H, Unit → sha (heldB K 54 ++ m) = H := ⟨_, fun _ => rfl⟩
  have HHL : Unit → H1.length = 32 := fun _ => by rw [← HH1 ()]; exact sha_length _
  rw [HH1 ()]
  rw [HH1 ()] at HM1
  clear HA4 HB4 hbel4 hb5 hc4 hz2 hz3
  go_simp
  iterate 4 (first | go_values | go_skip | go_guarded | go_step | go_upon)
  refine wpList_store_row rfl _ _ _ rfl w5.heap.size (bcs H1) rfl rfl _ _ (Arr.new w5 _ _) (by rw [bcs_size, HHL ()]; kernel_rfl) (by rw [bcs_size, HHL ()]; rfl) (bcs_one _) ?_
  rw [World.setRow_alloc_new]
  obtain ⟨w6, hw6⟩ : ∃ w6, w5.alloc (.cells (bcs H1) 23) = w6 := ⟨_, rfl⟩
  have HA6 := Lib.hid (show Arr w6 w.heap.size 23 (bcs (zs 32)) by rw [← hw6]; exact HA5.out.alloc _)
  have HB6 := Lib.hid (show Arr w6 s5 41 (bcs K) by rw [← hw6]; exact HB5.out.alloc _)
  have HC6 := Lib.hid (show Arr w6 w5.heap.size 23 (bcs H1) by rw [← hw6]; exact Arr.new _ _ _)
  have hbel6 : Below w.heap.size w w6 := by rw [← hw6]; exact hbel5.alloc hbel5.size _
  rw [hw6]
  clear hw6 HA5 HB5 hbel5
  generalize w5.heap.size = s6 at *
  obtain ⟨cs, HCS⟩ : ∃ cs, Unit → bvs K = cs := ⟨_, fun _ => rfl⟩
  have hcl : cs.length = 64 := by rw [← HCS (), bvs_length, HKL ()]
  have hc1 : ∀ v ∈ cs, v.oneCell' = true := by rw [← HCS ()]; exact bvs_oneCell K
  have hcu := Tryd.underlying41
  have hci : (Tryd.prog.info? 41).map (·.size) = some cs.length := by rw [hcl]; kernel_rfl
  have HR6 := Lib.hid (show w6.rangeAt s5 0 cs from HB6.out.range (by rw [← HCS ()]; simp [bcs, bvs]))
  have H92 := fun W : World => Lib.hid (show Calls Tryd.prog 23 #[.agg cs.toArray, .int .u8 92] W fun e w' => e = .returned (.slice (some ⟨W.heap.size, 0, none⟩) 64 64) ∧ Arr w' W.heap.size 41 (bcs (heldB K 92)) ∧ Below W.heap.size W w' from by
    have := held_92 K W (HKL ())
    rw [show bcs K = cs.toArray from by rw [← HCS ()]; simp [bcs, bvs]] at this
    exact this)
  have hsz6 : s6 < w6.heap.size := HC6.out.lt
  have hs56 : s5 < w6.heap.size := HB6.out.lt
  have hs06 : w.heap.size < w6.heap.size := HA6.out.lt
  have HT6 := Lib.hid (show w6.there w.heap.size 0 32 from HA6.out.there 32 (by simp [bcs_size, zs]))
  go_simp
  go_wp2_with fail
  have hM2 : (heldB K 92 ++ H1).length = 96 := by rw [List.length_append, heldB, List.length_map, HKL (), HHL ()]
  have CC7 : ∀ w7, Arr w7 w6.heap.size 41 (bcs (heldB K 92)) → Below w6.heap.size w6 w7 → Hid (Calls Tryd.prog 22 #[.slice (some ⟨w7.heap.size, 0, none⟩) 2 2] (w7.alloc (.cells #[.slice (some ⟨w6.heap.size, 0, none⟩) 64 64, .slice (some ⟨s6, 0, none⟩) 32 32] 22)) fun e w' => ∃ A8 c8, e = .returned (.slice A8 96 c8) ∧ Rd w' w'.heap.size A8 96 (heldB K 92 ++ H1) ∧ 96 ≤ c8 ∧ Below w7.heap.size w7 w') := by
    intro w7 hH7 hb7
    have hKL : (heldB K 92).length = 64 := by rw [heldB, List.length_map, HKL ()]
    have r1 : Rd w7 w7.heap.size (some ⟨w6.heap.size, 0, none⟩) 64 (heldB K 92) := by
      have := (hH7.rd 0 64 (by rw [hKL])).more (B' := w7.heap.size) (by have := hH7.lt; omega)
      simpa using this
    have r2 : Rd w7 w7.heap.size (some ⟨s6, 0, none⟩) 32 H1 := by
      have h7 := HC6.out.below hb7 hsz6
      have := (h7.rd 0 32 (by rw [HHL ()])).more (B' := w7.heap.size) (by have := h7.lt; omega)
      simpa using this
    refine (concat_two (some ⟨w6.heap.size, 0, none⟩) (some ⟨s6, 0, none⟩) 64 64 32 32 (heldB K 92) H1 w7 r1 r2 (by omega) (by omega)).mono ?_
    rintro e w8 ⟨v, rfl, ho, hb⟩
    obtain ⟨A8, c8, rfl, hc8, _⟩ := own_shape ho
    have := Rd.own ho
    rw [hM2] at this hc8
    exact ⟨A8, c8, by rw [hM2], this, hc8, hb⟩
  have HTX := Lib.hid (HT.out.keep hbel6 HP.out)
  have hp6 : 0 < w6.heap.size := by have := HP.out; omega
  have HM2 := Lib.hid hM2
  obtain ⟨cs9, HCS9⟩ : ∃ cs, Unit → bvs (sha (heldB K 92 ++ H1)) = cs := ⟨_, fun _ => rfl⟩
  have h9l : cs9.length = 32 := by rw [← HCS9 (), bvs_length, sha_length]
  have h9c : ∀ v ∈ cs9, v.oneCell' = true := by rw [← HCS9 ()]; exact bvs_oneCell _
  have h9i : (Tryd.prog.info? 23).map (·.size) = some cs9.length := by rw [h9l]; kernel_rfl
  have COO : ∀ w8 A8 c8, Rd w8 w8.heap.size A8 96 (heldB K 92 ++ H1) → 96 ≤ c8 → Below w6.heap.size w6 w8 → Hid (Calls Tryd.prog 5 #[.slice A8 96 c8] w8 fun e w' => e = .returned (.agg cs9.toArray) ∧ Below w8.heap.size w8 w') := by
    intro w8 A8 c8 hd hc hb
    refine (of_any A8 96 c8 (heldB K 92 ++ H1) w8 hd hc (by omega) (HTX.out.keep hb hp6)).mono ?_
    rintro e w' ⟨rfl, hb'⟩
    exact ⟨by rw [← HCS9 ()]; rfl, hb'⟩
  have HA6b := Lib.hid (show Arr w6 w.heap.size 23 (bcs (zs 32)) from HA6.out)
  clear hM2 HA6 HB6 HC6 HT HP
  go_region_held3 (fun w' => w'.rangeAt s5 0 cs ∧ w'.there w.heap.size 0 32)
    (first
      | exact ⟨HR6.out, HT6.out⟩
      | exact ⟨hr9, ht9⟩
      | exact ⟨hr8, ht8⟩
      | exact ⟨hr7, ht7⟩
      | exact ⟨World.rangeAt_alloc hr7 _, World.there_alloc ht7 _⟩
      | exact ⟨World.rangeAt_setCells_apart hr9 _ _ _ (.inl (by omega)), World.there_setCells ht9 _ _ _⟩
      | go_keep_ranges)
    (first
      | (go_at_call 23; (refine ((H92 _).out).mono ?_); rintro e w7 ⟨rfl, hH7, hb7'⟩; have hb7 : Below w6.heap.size w6 w7 := ((Below.refl _ _).drew).trans hb7'; have hr7 := World.rangeAt_below HR6.out hb7 hs56; have ht7 := World.there_below HT6.out hb7 hs06; have hcc := CC7 w7 hH7 hb7; clear hH7 hb7')
      | (go_at_call 22; (refine hcc.out.mono ?_); rintro e w8 ⟨A8, c8, rfl, hd8, hc8, hb8⟩; have hr8 := World.rangeAt_below hr7 hb8 (by have := hb7.size; omega); have ht8 := World.there_below ht7 hb8 (by have := hb7.size; omega); have hb68 : Below w6.heap.size w6 w8 := hb7.trans (hb8.mono hb7.size); have hoo := COO w8 A8 c8 hd8 hc8 hb68; clear hcc hd8)
      | (go_at_call 5; (refine hoo.out.mono ?_); rintro e w9 ⟨rfl, hb9⟩; have hr9 := World.rangeAt_below hr8 hb9 (by have := hb68.size; omega); have ht9 := World.there_below ht8 hb9 (by have := hb68.size; omega); have ht9' : w9.there w.heap.size 0 cs9.length := (by rw [h9l]; exact ht9); have hb69 : Below w6.heap.size w6 w9 := hb68.trans (hb9.mono hb68.size); clear hoo))
  have hA9 : Arr w9 w.heap.size 23 (bcs (zs 32)) := HA6b.out.below hb69 hs06
  have hFA := hA9.whole cs9 (by rw [h9l]; simp [bcs_size, zs])
  have hFB : Below w.heap.size w (w9.setCells w.heap.size 0 cs9) := Below.setCells (Nat.le_refl _) cs9 0 w9 (hbel6.trans (hb69.mono hbel6.size))
  have HFA := Lib.hid hFA
  clear hFA hA9 hr9 ht9 ht9' hr8 ht8 hr7 ht7
  generalize w9.setCells w.heap.size 0 cs9 = w10 at *
  go_wp2_with fail
  exact bodyPost_ret (v := .agg cs9.toArray) (results_cell_row rfl _ _ w.heap.size _ _ _ _ rfl HFA.out Tryd.underlying23 rfl (by rw [List.size_toArray, h9l]; kernel_rfl)) rfl ⟨by rw [HM1 (), ← HCS9 ()]; rfl, hFB⟩
end Go.Proofs.YtgdcjealhbfnaaaDoor

/-
  The walk of ShaPublished: it answers true, and nothing that was there has turned.
-/
import Derived.Test.YtllmdbalhjlbpaaDoorRep
import Derived.Test.YtllmdbalhjlbpaaDoorMil
namespace Go.Proofs.YtllmdbalhjlbpaaDoor
open Go.RowKit

set_option maxRecDepth 100000 in
theorem repeat_byte (x : UInt8) (s : ByteArray) (hs : s = ⟨#[x]⟩) (c : Nat) (z : Int) (hz : z = (c : Int)) (hc : c ≤ 2000000) (w : World) :
    Calls Tryd.prog 44 #[.string s, .int .i64 z] w fun e w' => e = .returned (.string ⟨(List.replicate c x).toArray⟩) ∧ Below w.heap.size w w' := by
  subst hs hz
  have h1 : (⟨#[x]⟩ : ByteArray).size = 1 := rfl
  have := Tryd.strings_Repeat ⟨#[x]⟩ c w (by omega) (by rw [h1]; omega)
  rw [show Lib.repeatL (⟨#[x]⟩ : ByteArray).data.toList c = List.replicate c x from repeat_one x c] at this
  exact this
set_option maxRecDepth 100000 in
theorem pub_1 : hexB (sha (⟨#[97, 98, 99, 100, 98, 99, 100, 101, 99, 100, 101, 102, 100, 101, 102, 103, 101, 102, 103, 104, 102, 103, 104, 105, 103, 104, 105, 106, 104, 105, 106, 107, 105, 106, 107, 108, 106, 107, 108, 109, 107, 108, 109, 110, 108, 109, 110, 111, 109, 110, 111, 112, 110, 111, 112, 113]⟩ : ByteArray).data.toList) = (⟨#[50, 52, 56, 100, 54, 97, 54, 49, 100, 50, 48, 54, 51, 56, 98, 56, 101, 53, 99, 48, 50, 54, 57, 51, 48, 99, 51, 101, 54, 48, 51, 57, 97, 51, 51, 99, 101, 52, 53, 57, 54, 52, 102, 102, 50, 49, 54, 55, 102, 54, 101, 99, 101, 100, 100, 52, 49, 57, 100, 98, 48, 54, 99, 49]⟩ : ByteArray).data.toList := by decide +kernel
set_option maxRecDepth 100000 in
theorem pub_k0 : hexB (hmac (List.replicate 20 11) (⟨#[72, 105, 32, 84, 104, 101, 114, 101]⟩ : ByteArray).data.toList) = (⟨#[98, 48, 51, 52, 52, 99, 54, 49, 100, 56, 100, 98, 51, 56, 53, 51, 53, 99, 97, 56, 97, 102, 99, 101, 97, 102, 48, 98, 102, 49, 50, 98, 56, 56, 49, 100, 99, 50, 48, 48, 99, 57, 56, 51, 51, 100, 97, 55, 50, 54, 101, 57, 51, 55, 54, 99, 50, 101, 51, 50, 99, 102, 102, 55]⟩ : ByteArray).data.toList := by decide +kernel
set_option maxRecDepth 100000 in
theorem pub_k1 : hexB (hmac (List.replicate 20 170) (List.replicate 50 221)) = (⟨#[55, 55, 51, 101, 97, 57, 49, 101, 51, 54, 56, 48, 48, 101, 52, 54, 56, 53, 52, 100, 98, 56, 101, 98, 100, 48, 57, 49, 56, 49, 97, 55, 50, 57, 53, 57, 48, 57, 56, 98, 51, 101, 102, 56, 99, 49, 50, 50, 100, 57, 54, 51, 53, 53, 49, 52, 99, 101, 100, 53, 54, 53, 102, 101]⟩ : ByteArray).data.toList := by decide +kernel
set_option maxRecDepth 100000 in
theorem pub_k2 : hexB (hmac (List.replicate 131 170) (⟨#[84, 101, 115, 116, 32, 85, 115, 105, 110, 103, 32, 76, 97, 114, 103, 101, 114, 32, 84, 104, 97, 110, 32, 66, 108, 111, 99, 107, 45, 83, 105, 122, 101, 32, 75, 101, 121, 32, 45, 32, 72, 97, 115, 104, 32, 75, 101, 121, 32, 70, 105, 114, 115, 116]⟩ : ByteArray).data.toList) = (⟨#[54, 48, 101, 52, 51, 49, 53, 57, 49, 101, 101, 48, 98, 54, 55, 102, 48, 100, 56, 97, 50, 54, 97, 97, 99, 98, 102, 53, 98, 55, 55, 102, 56, 101, 48, 98, 99, 54, 50, 49, 51, 55, 50, 56, 99, 53, 49, 52, 48, 53, 52, 54, 48, 52, 48, 102, 48, 101, 101, 51, 55, 102, 53, 52]⟩ : ByteArray).data.toList := by decide +kernel

set_option maxHeartbeats 4000000 in
set_option maxRecDepth 100000 in
theorem published_walk (w : World) (ht : TabS w) :
    Calls Tryd.prog 8 #[] w fun e w' => e = .returned (.bool true) ∧ Below w.heap.size w w' := by
  have HT := Lib.hid ht
  have HP := Lib.hid ht.pos
  obtain ⟨N, HN⟩ : ∃ N : Nat, Unit → N = 1000000 := ⟨1000000, fun _ => rfl⟩
  obtain ⟨R1, HR1⟩ : ∃ s : ByteArray, Unit → (⟨(List.replicate N 97).toArray⟩ : ByteArray) = s := ⟨_, fun _ => rfl⟩
  have DR1 : Unit → R1.data.toList = List.replicate N 97 := fun _ => by rw [← HR1 ()]
  have SR1 : Unit → R1.size = N := fun _ => by rw [← HR1 ()]; show (List.replicate N (97 : UInt8)).toArray.size = N; rw [List.size_toArray, List.length_replicate]
  have CR1 := fun W : World => Lib.hid (show Calls Tryd.prog 44 #[.string ⟨#[97]⟩, .int .i64 1000000] W fun e w' => e = .returned (.string R1) ∧ Below W.heap.size W w' by
    have := repeat_byte 97 ⟨#[97]⟩ rfl N 1000000 (by rw [HN ()]; rfl) (by rw [HN ()]; omega) W
    rw [HR1 ()] at this
    exact this)
  obtain ⟨R2, HR2⟩ : ∃ s : ByteArray, Unit → (⟨(List.replicate 20 11).toArray⟩ : ByteArray) = s := ⟨_, fun _ => rfl⟩
  have DR2 : Unit → R2.data.toList = List.replicate 20 11 := fun _ => by rw [← HR2 ()]
  have SR2 : Unit → R2.size = 20 := fun _ => by rw [← HR2 ()]; show (List.replicate 20 (11 : UInt8)).toArray.size = 20; rw [List.size_toArray, List.length_replicate]
  have CR2 := fun W : World => Lib.hid (show Calls Tryd.prog 44 #[.string ⟨#[11]⟩, .int .i64 20] W fun e w' => e = .returned (.string R2) ∧ Below W.heap.size W w' by
    have := repeat_byte 11 ⟨#[11]⟩ rfl 20 20 (by rfl) (by omega) W
    rw [HR2 ()] at this
    exact this)
  obtain ⟨R3, HR3⟩ : ∃ s : ByteArray, Unit → (⟨(List.replicate 20 170).toArray⟩ : ByteArray) = s := ⟨_, fun _ => rfl⟩
  have DR3 : Unit → R3.data.toList = List.replicate 20 170 := fun _ => by rw [← HR3 ()]
  have SR3 : Unit → R3.size = 20 := fun _ => by rw [← HR3 ()]; show (List.replicate 20 (170 : UInt8)).toArray.size = 20; rw [List.size_toArray, List.length_replicate]
  have CR3 := fun W : World => Lib.hid (show Calls Tryd.prog 44 #[.string ⟨#[170]⟩, .int .i64 20] W fun e w' => e = .returned (.string R3) ∧ Below W.heap.size W w' by
    have := repeat_byte 170 ⟨#[170]⟩ rfl 20 20 (by rfl) (by omega) W
    rw [HR3 ()] at this
    exact this)
  obtain ⟨R4, HR4⟩ : ∃ s : ByteArray, Unit → (⟨(List.replicate 50 221).toArray⟩ : ByteArray) = s := ⟨_, fun _ => rfl⟩
  have DR4 : Unit → R4.data.toList = List.replicate 50 221 := fun _ => by rw [← HR4 ()]
  have SR4 : Unit → R4.size = 50 := fun _ => by rw [← HR4 ()]; show (List.replicate 50 (221 : UInt8)).toArray.size = 50; rw [List.size_toArray, List.length_replicate]
  have CR4 := fun W : World => Lib.hid (show Calls Tryd.prog 44 #[.string ⟨#[221]⟩, .int .i64 50] W fun e w' => e = .returned (.string R4) ∧ Below W.heap.size W w' by
    have := repeat_byte 221 ⟨#[221]⟩ rfl 50 50 (by rfl) (by omega) W
    rw [HR4 ()] at this
    exact this)
  obtain ⟨R5, HR5⟩ : ∃ s : ByteArray, Unit → (⟨(List.replicate 131 170).toArray⟩ : ByteArray) = s := ⟨_, fun _ => rfl⟩
  have DR5 : Unit → R5.data.toList = List.replicate 131 170 := fun _ => by rw [← HR5 ()]
  have SR5 : Unit → R5.size = 131 := fun _ => by rw [← HR5 ()]; show (List.replicate 131 (170 : UInt8)).toArray.size = 131; rw [List.size_toArray, List.length_replicate]
  have CR5 := fun W : World => Lib.hid (show Calls Tryd.prog 44 #[.string ⟨#[170]⟩, .int .i64 131] W fun e w' => e = .returned (.string R5) ∧ Below W.heap.size W w' by
    have := repeat_byte 170 ⟨#[170]⟩ rfl 131 131 (by rfl) (by omega) W
    rw [HR5 ()] at this
    exact this)
  have P1 := fun (W : World) (hb : Below w.heap.size w W) => Lib.hid (hashes_yes ⟨#[97, 98, 99, 100, 98, 99, 100, 101, 99, 100, 101, 102, 100, 101, 102, 103, 101, 102, 103, 104, 102, 103, 104, 105, 103, 104, 105, 106, 104, 105, 106, 107, 105, 106, 107, 108, 106, 107, 108, 109, 107, 108, 109, 110, 108, 109, 110, 111, 109, 110, 111, 112, 110, 111, 112, 113]⟩ ⟨#[50, 52, 56, 100, 54, 97, 54, 49, 100, 50, 48, 54, 51, 56, 98, 56, 101, 53, 99, 48, 50, 54, 57, 51, 48, 99, 51, 101, 54, 48, 51, 57, 97, 51, 51, 99, 101, 52, 53, 57, 54, 52, 102, 102, 50, 49, 54, 55, 102, 54, 101, 99, 101, 100, 100, 52, 49, 57, 100, 98, 48, 54, 99, 49]⟩ W (by decide) (HT.out.keep hb HP.out) (by exact pub_1))
  have P2 := fun (W : World) (hb : Below w.heap.size w W) => Lib.hid (hashes_yes R1 ⟨#[99, 100, 99, 55, 54, 101, 53, 99, 57, 57, 49, 52, 102, 98, 57, 50, 56, 49, 97, 49, 99, 55, 101, 50, 56, 52, 100, 55, 51, 101, 54, 55, 102, 49, 56, 48, 57, 97, 52, 56, 97, 52, 57, 55, 50, 48, 48, 101, 48, 52, 54, 100, 51, 57, 99, 99, 99, 55, 49, 49, 50, 99, 100, 48]⟩ W (by rw [SR1 (), HN ()]; omega) (HT.out.keep hb HP.out) (by rw [DR1 (), HN ()]; exact mil_hash))
  have P3 := fun (W : World) (hb : Below w.heap.size w W) => Lib.hid (keyed_yes R2 ⟨#[72, 105, 32, 84, 104, 101, 114, 101]⟩ ⟨#[98, 48, 51, 52, 52, 99, 54, 49, 100, 56, 100, 98, 51, 56, 53, 51, 53, 99, 97, 56, 97, 102, 99, 101, 97, 102, 48, 98, 102, 49, 50, 98, 56, 56, 49, 100, 99, 50, 48, 48, 99, 57, 56, 51, 51, 100, 97, 55, 50, 54, 101, 57, 51, 55, 54, 99, 50, 101, 51, 50, 99, 102, 102, 55]⟩ W (by rw [SR2 ()]; omega) (by decide) (HT.out.keep hb HP.out) (by rw [DR2 ()]; exact pub_k0))
  have P4 := fun (W : World) (hb : Below w.heap.size w W) => Lib.hid (keyed_yes R3 R4 ⟨#[55, 55, 51, 101, 97, 57, 49, 101, 51, 54, 56, 48, 48, 101, 52, 54, 56, 53, 52, 100, 98, 56, 101, 98, 100, 48, 57, 49, 56, 49, 97, 55, 50, 57, 53, 57, 48, 57, 56, 98, 51, 101, 102, 56, 99, 49, 50, 50, 100, 57, 54, 51, 53, 53, 49, 52, 99, 101, 100, 53, 54, 53, 102, 101]⟩ W (by rw [SR3 ()]; omega) (by rw [SR4 ()]; omega) (HT.out.keep hb HP.out) (by rw [DR3 (), DR4 ()]; exact pub_k1))
  have P5 := fun (W : World) (hb : Below w.heap.size w W) => Lib.hid (keyed_yes R5 ⟨#[84, 101, 115, 116, 32, 85, 115, 105, 110, 103, 32, 76, 97, 114, 103, 101, 114, 32, 84, 104, 97, 110, 32, 66, 108, 111, 99, 107, 45, 83, 105, 122, 101, 32, 75, 101, 121, 32, 45, 32, 72, 97, 115, 104, 32, 75, 101, 121, 32, 70, 105, 114, 115, 116]⟩ ⟨#[54, 48, 101, 52, 51, 49, 53, 57, 49, 101, 101, 48, 98, 54, 55, 102, 48, 100, 56, 97, 50, 54, 97, 97, 99, 98, 102, 53, 98, 55, 55, 102, 56, 101, 48, 98, 99, 54, 50, 49, 51, 55, 50, 56, 99, 53, 49, 52, 48, 53, 52, 54, 48, 52, 48, 102, 48, 101, 101, 51, 55, 102, 53, 52]⟩ W (by rw [SR5 ()]; omega) (by decide) (HT.out.keep hb HP.out) (by rw [DR5 ()]; exact pub_k2))
  have P6 := fun (W : World) (hb : Below w.heap.size w W) => Lib.hid (awake_sha W (HT.out.keep hb HP.out))
  clear ht
  have hb0 : Below w.heap.size w w := Below.refl _ _
  go_enter Tryd.func8, Tryd.ntmps8
  go_wp2_with fail
  refine (P1 _ hb0).out.mono ?_
  rintro e w1 ⟨rfl, hc1⟩
  have hb1 : Below w.heap.size w w1 := hb0.trans (hc1.mono hb0.size)
  clear hc1
  go_wp2_with fail
  refine (CR1 _).out.mono ?_
  rintro e w2 ⟨rfl, hc2⟩
  have hb2 : Below w.heap.size w w2 := hb1.trans (hc2.mono hb1.size)
  clear hc2
  go_wp2_with fail
  refine (P2 _ hb2).out.mono ?_
  rintro e w3 ⟨rfl, hc3⟩
  have hb3 : Below w.heap.size w w3 := hb2.trans (hc3.mono hb2.size)
  clear hc3
  go_wp2_with fail
  refine (CR2 _).out.mono ?_
  rintro e w4 ⟨rfl, hc4⟩
  have hb4 : Below w.heap.size w w4 := hb3.trans (hc4.mono hb3.size)
  clear hc4
  go_wp2_with fail
  refine (P3 _ hb4).out.mono ?_
  rintro e w5 ⟨rfl, hc5⟩
  have hb5 : Below w.heap.size w w5 := hb4.trans (hc5.mono hb4.size)
  clear hc5
  go_wp2_with fail
  refine (CR3 _).out.mono ?_
  rintro e w6 ⟨rfl, hc6⟩
  have hb6 : Below w.heap.size w w6 := hb5.trans (hc6.mono hb5.size)
  clear hc6
  go_wp2_with fail
  refine (CR4 _).out.mono ?_
  rintro e w7 ⟨rfl, hc7⟩
  have hb7 : Below w.heap.size w w7 := hb6.trans (hc7.mono hb6.size)
  clear hc7
  go_wp2_with fail
  refine (P4 _ hb7).out.mono ?_
  rintro e w8 ⟨rfl, hc8⟩
  have hb8 : Below w.heap.size w w8 := hb7.trans (hc8.mono hb7.size)
  clear hc8
  go_wp2_with fail
  refine (CR5 _).out.mono ?_
  rintro e w9 ⟨rfl, hc9⟩
  have hb9 : Below w.heap.size w w9 := hb8.trans (hc9.mono hb8.size)
  clear hc9
  go_wp2_with fail
  refine (P5 _ hb9).out.mono ?_
  rintro e w10 ⟨rfl, hc10⟩
  have hb10 : Below w.heap.size w w10 := hb9.trans (hc10.mono hb9.size)
  clear hc10
  go_wp2_with fail
  refine (P6 _ hb10).out.mono ?_
  rintro e w11 ⟨rfl, hc11⟩
  have hb11 : Below w.heap.size w w11 := hb10.trans (hc11.mono hb10.size)
  clear hc11
  go_wp2_with fail
  go_ret
  exact ⟨rfl, hb11⟩
end Go.Proofs.YtllmdbalhjlbpaaDoor

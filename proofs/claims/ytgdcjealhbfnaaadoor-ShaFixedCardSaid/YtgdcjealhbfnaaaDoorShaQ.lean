/-
  The contracts of hashes, keyed and awake: the chapter's examples come out. No statement of the seat is proved here.
-/
import Derived.Test.YtgdcjealhbfnaaaDoorShaG
import Derived.Test.YtgdcjealhbfnaaaDoorShaH
namespace Go.Proofs.YtgdcjealhbfnaaaDoor
open Go.RowKit

set_option maxRecDepth 100000 in
theorem bytes_eq (l : List UInt8) (t : ByteArray) (h : l = t.data.toList) : (⟨l.toArray⟩ : ByteArray) = t := by
  subst h
  cases t
  simp
set_option maxHeartbeats 800000 in
set_option maxRecDepth 100000 in
theorem hashes_yes (s t : ByteArray) (w : World) (hs : s.size ≤ 2000000) (ht : TabS w) (he : hexB (sha s.data.toList) = t.data.toList) :
    Calls Tryd.prog 26 #[.string s, .string t] w fun e w' => e = .returned (.bool true) ∧ Below w.heap.size w w' := by
  obtain ⟨c1, w1, r1, hc1, hd1, hb1⟩ := of_string w s
  have C1 := Lib.hid (of_any _ s.size c1 _ w1 hd1 hc1 (by omega) (ht.keep hb1 ht.pos))
  have C2 := fun W : World => Lib.hid (show Calls Tryd.prog 10 #[.agg (bcs (sha s.data.toList))] W fun e w' => e = .returned (.string t) ∧ Below W.heap.size W w' by
    have := hex_any (sha s.data.toList) W (sha_length _)
    rw [bytes_eq _ t he] at this
    exact this)
  clear he ht hd1
  go_enter Tryd.func26, Tryd.ntmps26
  go_wp2_with fail
  refine C1.out.mono ?_
  rintro e w2 ⟨rfl, hb2⟩
  go_wp2_with fail
  refine (C2 w2).out.mono ?_
  rintro e w3 ⟨rfl, hb3⟩
  have hb : Below w.heap.size w w3 := (hb1.trans (hb2.mono hb1.size)).trans (hb3.mono ((hb1.trans (hb2.mono hb1.size)).size))
  go_wp2_with fail
  go_ret
  exact ⟨by simp, hb⟩

set_option maxHeartbeats 800000 in
set_option maxRecDepth 100000 in
theorem keyed_yes (k s t : ByteArray) (w : World) (hk : k.size ≤ 80000) (hs : s.size ≤ 80000) (ht : TabS w) (he : hexB (hmac k.data.toList s.data.toList) = t.data.toList) :
    Calls Tryd.prog 27 #[.string k, .string s, .string t] w fun e w' => e = .returned (.bool true) ∧ Below w.heap.size w w' := by
  obtain ⟨c1, w1, r1, hc1, hd1, hb1⟩ := of_string w k
  obtain ⟨c2, w2, r2, hc2, hd2, hb2⟩ := of_string w1 s
  have hb12 := hb1.trans (hb2.mono hb1.size)
  have C1 := Lib.hid (hmac_any _ _ k.size c1 s.size c2 _ _ w2 ((hd1.below hb2).more hb2.size) hc1 (by omega) hd2 (by omega) (ht.keep hb12 ht.pos))
  have C2 := fun W : World => Lib.hid (show Calls Tryd.prog 10 #[.agg (bcs (hmac k.data.toList s.data.toList))] W fun e w' => e = .returned (.string t) ∧ Below W.heap.size W w' by
    have := hex_any (hmac k.data.toList s.data.toList) W (sha_length _)
    rw [bytes_eq _ t he] at this
    exact this)
  clear he ht hd1 hd2
  go_enter Tryd.func27, Tryd.ntmps27
  go_wp2_with fail
  refine C1.out.mono ?_
  rintro e w3 ⟨rfl, hb3⟩
  go_wp2_with fail
  refine (C2 w3).out.mono ?_
  rintro e w4 ⟨rfl, hb4⟩
  have hb : Below w.heap.size w w4 := (hb12.trans (hb3.mono hb12.size)).trans (hb4.mono ((hb12.trans (hb3.mono hb12.size)).size))
  go_wp2_with fail
  go_ret
  exact ⟨by simp, hb⟩

set_option maxRecDepth 100000 in
theorem ex1 : hexB (sha (⟨#[]⟩ : ByteArray).data.toList) = (⟨#[101, 51, 98, 48, 99, 52, 52, 50, 57, 56, 102, 99, 49, 99, 49, 52, 57, 97, 102, 98, 102, 52, 99, 56, 57, 57, 54, 102, 98, 57, 50, 52, 50, 55, 97, 101, 52, 49, 101, 52, 54, 52, 57, 98, 57, 51, 52, 99, 97, 52, 57, 53, 57, 57, 49, 98, 55, 56, 53, 50, 98, 56, 53, 53]⟩ : ByteArray).data.toList := by decide +kernel
set_option maxRecDepth 100000 in
theorem ex2 : hexB (sha (⟨#[97, 98, 99]⟩ : ByteArray).data.toList) = (⟨#[98, 97, 55, 56, 49, 54, 98, 102, 56, 102, 48, 49, 99, 102, 101, 97, 52, 49, 52, 49, 52, 48, 100, 101, 53, 100, 97, 101, 50, 50, 50, 51, 98, 48, 48, 51, 54, 49, 97, 51, 57, 54, 49, 55, 55, 97, 57, 99, 98, 52, 49, 48, 102, 102, 54, 49, 102, 50, 48, 48, 49, 53, 97, 100]⟩ : ByteArray).data.toList := by decide +kernel
set_option maxRecDepth 100000 in
theorem ex3 : hexB (hmac (⟨#[74, 101, 102, 101]⟩ : ByteArray).data.toList (⟨#[119, 104, 97, 116, 32, 100, 111, 32, 121, 97, 32, 119, 97, 110, 116, 32, 102, 111, 114, 32, 110, 111, 116, 104, 105, 110, 103, 63]⟩ : ByteArray).data.toList) = (⟨#[53, 98, 100, 99, 99, 49, 52, 54, 98, 102, 54, 48, 55, 53, 52, 101, 54, 97, 48, 52, 50, 52, 50, 54, 48, 56, 57, 53, 55, 53, 99, 55, 53, 97, 48, 48, 51, 102, 48, 56, 57, 100, 50, 55, 51, 57, 56, 51, 57, 100, 101, 99, 53, 56, 98, 57, 54, 52, 101, 99, 51, 56, 52, 51]⟩ : ByteArray).data.toList := by decide +kernel

set_option maxHeartbeats 800000 in
set_option maxRecDepth 100000 in
theorem awake_sha (w : World) (ht : TabS w) :
    Calls Tryd.prog 9 #[] w fun e w' => e = .returned (.bool true) ∧ Below w.heap.size w w' := by
  have C1 := Lib.hid (hashes_yes ⟨#[]⟩ ⟨#[101, 51, 98, 48, 99, 52, 52, 50, 57, 56, 102, 99, 49, 99, 49, 52, 57, 97, 102, 98, 102, 52, 99, 56, 57, 57, 54, 102, 98, 57, 50, 52, 50, 55, 97, 101, 52, 49, 101, 52, 54, 52, 57, 98, 57, 51, 52, 99, 97, 52, 57, 53, 57, 57, 49, 98, 55, 56, 53, 50, 98, 56, 53, 53]⟩ w (by decide) ht ex1)
  have HT := Lib.hid ht
  have hp := ht.pos
  clear ht
  go_enter Tryd.func9, Tryd.ntmps9
  go_wp2_with fail
  refine C1.out.mono ?_
  rintro e w1 ⟨rfl, hb1⟩
  have C2 := Lib.hid (hashes_yes ⟨#[97, 98, 99]⟩ ⟨#[98, 97, 55, 56, 49, 54, 98, 102, 56, 102, 48, 49, 99, 102, 101, 97, 52, 49, 52, 49, 52, 48, 100, 101, 53, 100, 97, 101, 50, 50, 50, 51, 98, 48, 48, 51, 54, 49, 97, 51, 57, 54, 49, 55, 55, 97, 57, 99, 98, 52, 49, 48, 102, 102, 54, 49, 102, 50, 48, 48, 49, 53, 97, 100]⟩ w1 (by decide) (HT.out.keep hb1 hp) ex2)
  go_wp2_with fail
  refine C2.out.mono ?_
  rintro e w2 ⟨rfl, hb2⟩
  have hb12 := hb1.trans (hb2.mono hb1.size)
  have C3 := Lib.hid (keyed_yes ⟨#[74, 101, 102, 101]⟩ ⟨#[119, 104, 97, 116, 32, 100, 111, 32, 121, 97, 32, 119, 97, 110, 116, 32, 102, 111, 114, 32, 110, 111, 116, 104, 105, 110, 103, 63]⟩ ⟨#[53, 98, 100, 99, 99, 49, 52, 54, 98, 102, 54, 48, 55, 53, 52, 101, 54, 97, 48, 52, 50, 52, 50, 54, 48, 56, 57, 53, 55, 53, 99, 55, 53, 97, 48, 48, 51, 102, 48, 56, 57, 100, 50, 55, 51, 57, 56, 51, 57, 100, 101, 99, 53, 56, 98, 57, 54, 52, 101, 99, 51, 56, 52, 51]⟩ w2 (by decide) (by decide) (HT.out.keep hb12 hp) ex3)
  go_wp2_with fail
  refine C3.out.mono ?_
  rintro e w3 ⟨rfl, hb3⟩
  go_wp2_with fail
  go_ret
  exact ⟨rfl, hb12.trans (hb3.mono hb12.size)⟩
end Go.Proofs.YtgdcjealhbfnaaaDoor

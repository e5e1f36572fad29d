/-
  The hash of a million letters a: its parts put together. No statement of the seat is proved here.
-/
import Derived.Test.YtllmdbalhjlbpaaDoorMilA
import Derived.Test.YtllmdbalhjlbpaaDoorMilB
import Derived.Test.YtllmdbalhjlbpaaDoorMilC
import Derived.Test.YtllmdbalhjlbpaaDoorMilD
namespace Go.Proofs.YtllmdbalhjlbpaaDoor
theorem kwA_at : ∀ t : Fin 64, kwA.getD t.val 0 = kwl (rollW (List.replicate 64 97) 64) t.val := by decide +kernel
theorem mil_chain : chain kwA 15625 (stOf seats0) = ⟨2061136107, 1745259042, 791610055, 2140370626, 1884297759, 3529239238, 671294972, 693152569⟩ := by
  have h0 : stOf seats0 = ⟨1779033703, 3144134277, 1013904242, 2773480762, 1359893119, 2600822924, 528734635, 1541459225⟩ := by decide +kernel
  rw [h0]
  rw [show (15625 : Nat) = 1302 + 14323 from rfl, chain_add, mil_0]
  rw [show (14323 : Nat) = 1302 + 13021 from rfl, chain_add, mil_1]
  rw [show (13021 : Nat) = 1302 + 11719 from rfl, chain_add, mil_2]
  rw [show (11719 : Nat) = 1302 + 10417 from rfl, chain_add, mil_3]
  rw [show (10417 : Nat) = 1302 + 9115 from rfl, chain_add, mil_4]
  rw [show (9115 : Nat) = 1302 + 7813 from rfl, chain_add, mil_5]
  rw [show (7813 : Nat) = 1302 + 6511 from rfl, chain_add, mil_6]
  rw [show (6511 : Nat) = 1302 + 5209 from rfl, chain_add, mil_7]
  rw [show (5209 : Nat) = 1302 + 3907 from rfl, chain_add, mil_8]
  rw [show (3907 : Nat) = 1302 + 2605 from rfl, chain_add, mil_9]
  rw [show (2605 : Nat) = 1302 + 1303 from rfl, chain_add, mil_10]
  exact mil_11
theorem seats0_length : seats0.length = 8 := rfl
theorem mil_seats : absorb 15625 seats0 (List.replicate 1000000 97) = [BitVec.ofNat 32 2061136107, BitVec.ofNat 32 1745259042, BitVec.ofNat 32 791610055, BitVec.ofNat 32 2140370626, BitVec.ofNat 32 1884297759, BitVec.ofNat 32 3529239238, BitVec.ofNat 32 671294972, BitVec.ofNat 32 693152569] := by
  refine list_of_st _ (by rw [absorb_length, seats0_length]) 2061136107 1745259042 791610055 2140370626 1884297759 3529239238 671294972 693152569 ?_
  rw [absorb_same 97 kwA (by decide +kernel) (fun t ht => kwA_at ⟨t, ht⟩) 15625 seats0 1000000 rfl (by decide)]
  exact mil_chain
theorem mil_end : hexB (seatB (absorb 1 [BitVec.ofNat 32 2061136107, BitVec.ofNat 32 1745259042, BitVec.ofNat 32 791610055, BitVec.ofNat 32 2140370626, BitVec.ofNat 32 1884297759, BitVec.ofNat 32 3529239238, BitVec.ofNat 32 671294972, BitVec.ofNat 32 693152569] (msgEnd [] 1000000))) = (⟨#[99, 100, 99, 55, 54, 101, 53, 99, 57, 57, 49, 52, 102, 98, 57, 50, 56, 49, 97, 49, 99, 55, 101, 50, 56, 52, 100, 55, 51, 101, 54, 55, 102, 49, 56, 48, 57, 97, 52, 56, 97, 52, 57, 55, 50, 48, 48, 101, 48, 52, 54, 100, 51, 57, 99, 99, 99, 55, 49, 49, 50, 99, 100, 48]⟩ : ByteArray).data.toList := by decide +kernel
theorem mil_hash : hexB (sha (List.replicate 1000000 97)) = (⟨#[99, 100, 99, 55, 54, 101, 53, 99, 57, 57, 49, 52, 102, 98, 57, 50, 56, 49, 97, 49, 99, 55, 101, 50, 56, 52, 100, 55, 51, 101, 54, 55, 102, 49, 56, 48, 57, 97, 52, 56, 97, 52, 57, 55, 50, 48, 48, 101, 48, 52, 54, 100, 51, 57, 99, 99, 99, 55, 49, 49, 50, 99, 100, 48]⟩ : ByteArray).data.toList := by
  unfold sha
  rw [List.length_replicate, show (1000000 : Nat) / 64 = 15625 from rfl, show endSize (1000000 % 64) / 64 = 1 from rfl, mil_seats, List.drop_replicate, show (1000000 : Nat) - 64 * 15625 = 0 from rfl, List.replicate_zero]
  exact mil_end
end Go.Proofs.YtllmdbalhjlbpaaDoor

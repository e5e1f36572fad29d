/-
  What Hmac's contract leans on: keyBlock of any key, held by the two marks. No statement of the seat is proved here.
-/
import Derived.Test.YtgdcjealhbfnaaaDoorShaB
import Derived.Test.YtgdcjealhbfnaaaDoorShaK
import Derived.Deep.RegionHeld3
namespace Go.Proofs.YtgdcjealhbfnaaaDoor
open Go.RowKit

set_option maxRecDepth 100000 in
theorem keyB_length (l : List UInt8) : (keyB l).length = 64 := by
  unfold keyB
  split
  · rw [List.length_append, sha_length, List.length_replicate]
  · rw [List.length_append, List.length_replicate]; omega
set_option maxRecDepth 100000 in
theorem keyblock_any (A : Option Addr) (n c : Nat) (l : List UInt8) (w : World) (h : Rd w w.heap.size A n l) (hc : n ≤ c) (hn2 : n ≤ 1099511627776) (ht : TabS w) :
    Calls Tryd.prog 21 #[.slice A n c] w fun e w' => e = .returned (.agg (bcs (keyB l))) ∧ Below w.heap.size w w' := by
  by_cases hn : 64 < n
  · exact keyblock_long A n c l w h hc hn hn2 ht
  · exact keyblock_short A n c l w h (by omega)
set_option maxRecDepth 100000 in
theorem held_54 (l : List UInt8) (w : World) (hl : l.length = 64) : Calls Tryd.prog 23 #[.agg (bcs l), .int .u8 54] w fun e w' => e = .returned (.slice (some ⟨w.heap.size, 0, none⟩) 64 64) ∧ Arr w' w.heap.size 41 (bcs (heldB l 54)) ∧ Below w.heap.size w w' := held_any l 54 w hl
set_option maxRecDepth 100000 in
theorem held_92 (l : List UInt8) (w : World) (hl : l.length = 64) : Calls Tryd.prog 23 #[.agg (bcs l), .int .u8 92] w fun e w' => e = .returned (.slice (some ⟨w.heap.size, 0, none⟩) 64 64) ∧ Arr w' w.heap.size 41 (bcs (heldB l 92)) ∧ Below w.heap.size w w' := held_any l 92 w hl
end Go.Proofs.YtgdcjealhbfnaaaDoor

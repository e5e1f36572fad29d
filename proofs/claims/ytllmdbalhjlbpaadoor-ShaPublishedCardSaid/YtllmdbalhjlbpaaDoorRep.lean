/-
  strings.Repeat of one nought. No statement of the seat is proved here.
-/
import Derived.Test.YtllmdbalhjlbpaaDoorShaQ
import Derived.Test.YtllmdbalhjlbpaaDoorLayRep
namespace Go.Proofs.YtllmdbalhjlbpaaDoor
open Go.RowKit

theorem repeat_one (x : UInt8) : ∀ k, Lib.repeatL [x] k = List.replicate k x
  | 0 => rfl
  | k + 1 => by rw [Lib.repeatL, repeat_one x k, List.replicate_succ]; rfl
set_option maxRecDepth 100000 in
theorem repeat_nought (k : Nat) (w : World) (hk : k ≤ 64) : Calls Tryd.prog 44 #[.string ⟨#[0]⟩, .int .i64 (k : Int)] w fun e w' => e = .returned (.string ⟨(List.replicate k 0).toArray⟩) ∧ Below w.heap.size w w' := by
  have h1 : (⟨#[0]⟩ : ByteArray).size = 1 := rfl
  have := Tryd.strings_Repeat ⟨#[0]⟩ k w (by omega) (by rw [h1]; omega)
  rw [show Lib.repeatL (⟨#[0]⟩ : ByteArray).data.toList k = List.replicate k 0 from repeat_one 0 k] at this
  exact this
end Go.Proofs.YtllmdbalhjlbpaaDoor

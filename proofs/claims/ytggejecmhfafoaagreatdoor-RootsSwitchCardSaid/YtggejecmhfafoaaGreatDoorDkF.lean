/-
  The contract of a disk's fresh. No statement of the seat is proved here.
-/
import Derived.Test.YtggejecmhfafoaaGreatDoorDkE
import Derived.Test.YtggejecmhfafoaaGreatDoorApp
namespace Go.Proofs.YtggejecmhfafoaaGreatDoor
open Go.RowKit

/-- In memory of their own: the same bytes. -/
theorem dfresh_any (A : Option Addr) (n c : Nat) (l : List UInt8) (w : World) (h : Rd w w.heap.size A n l) (hn : n ≤ 16777216) :
    Calls Tryz.prog 55 #[.slice A n c] w (Put w.heap.size w l) := by
  have H := Lib.hid h
  clear h
  have HO := Lib.hid (World.ownsRow_nil w w.heap.size 5 1)
  go_enter Tryz.func55, Tryz.ntmps55
  go_wp2_with (at_builtin; refine wpList_append_rd _ rfl (.const (.slice none 0 0)) (.tmp 3) rfl w.heap.size w.heap.size _ [] rfl HO.out _ _ _ l rfl H.out (by simp; omega) (by simp) ?_; intro v' w2 hown2 hgrow)
  go_ret
  exact ⟨_, rfl, hown2, (Below.refl _ _).grown hgrow (Nat.le_refl _) (fun g hg => (HO.out.lt g hg).1)⟩
end Go.Proofs.YtggejecmhfafoaaGreatDoor

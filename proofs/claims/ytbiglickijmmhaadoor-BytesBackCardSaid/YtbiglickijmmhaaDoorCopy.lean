/-
  The contracts of CopyBytes and fresh. No statement of the seat is proved here.
-/
import Derived.Test.YtbiglickijmmhaaDoorAwake
namespace Go.Proofs.YtbiglickijmmhaaDoor
open Go.RowKit

theorem copybytes_any (A : Option Addr) (n c : Nat) (l : List UInt8) (w : World) (h : Rd w w.heap.size A n l) (hn : n ≤ 500000) :
    Calls Tryd.prog 6 #[.slice A n c] w (Put w.heap.size w l) := by
  have H := Lib.hid h
  clear h
  have ho : (w.alloc (.cells #[] 5)).ownsRow w.heap.size 5 1 (.slice (some ⟨w.heap.size, 0, none⟩) 0 0) ([] : List UInt8).length (bvs []) :=
    World.ownsRow_made w #[] 0 (Nat.le_refl _) (by unfold maxLen; omega) rfl
  have HO := Lib.hid ho
  clear ho
  go_enter Tryd.func6, Tryd.ntmps6
  go_wp2_with (at_builtin; refine wpList_append_rd _ rfl (.tmp 3) (.tmp 4) rfl w.heap.size w.heap.size _ [] rfl HO.out _ _ _ l rfl (H.out.alloc (Nat.le_refl _) _) (by simp; omega) (by simp) ?_; intro v' w2 hown2 hgrow)
  go_ret
  exact ⟨_, rfl, hown2, ((Below.refl _ _).alloc (Nat.le_refl _) _).grown hgrow (by simp) (fun g hg => (HO.out.lt g hg).1)⟩

theorem fresh_any (A : Option Addr) (n c : Nat) (l : List UInt8) (w : World) (h : Rd w w.heap.size A n l) (hn : n ≤ 500000) :
    Calls Tryd.prog 38 #[.slice A n c] w (Put w.heap.size w l) := by
  have H := Lib.hid h
  clear h
  have HO := Lib.hid (World.ownsRow_nil w w.heap.size 5 1)
  go_enter Tryd.func38, Tryd.ntmps38
  go_wp2_with (at_builtin; refine wpList_append_rd _ rfl (.const (.slice none 0 0)) (.tmp 3) rfl w.heap.size w.heap.size _ [] rfl HO.out _ _ _ l rfl H.out (by simp; omega) (by simp) ?_; intro v' w2 hown2 hgrow)
  go_ret
  exact ⟨_, rfl, hown2, (Below.refl _ _).grown hgrow (Nat.le_refl _) (fun g hg => (HO.out.lt g hg).1)⟩
end Go.Proofs.YtbiglickijmmhaaDoor

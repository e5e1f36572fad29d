/-
  Craft: the chapter's examples; the walk of CraftCan. No statement of the seat is proved here.
-/
import Derived.Test.YtmallcjhccbgdaaDoorCrC
namespace Go.Proofs.YtmallcjhccbgdaaDoor
open Go.RowKit Go.Deep

theorem mk_ex1 : MakeE [(3, 3), (0, 0)] 0 = 0 ∧ MakeL [(3, 3), (0, 0)] 0 = [(3, 2), (5, 4)] := by decide +kernel
theorem mk_ex2 : MakeE [(3, 16)] 0 = 104 := by decide +kernel
theorem can_ex : canL [(3, 1), (0, 0)] = [0] := by decide +kernel
theorem lit_sl (W : World) (l : List (Nat × Int)) (cs : Array Value) (h : cs = (slC l).toArray) : RdS (W.alloc (.cells cs 34)) (some ⟨W.heap.size, 0, none⟩) l.length l := RdS.blk (by rw [← h]; exact heap_alloc_new W _)
theorem lit_i (W : World) (l : List Int) (cs : Array Value) (h : cs = (ivI l).toArray) : RdI (W.alloc (.cells cs 3)) (some ⟨W.heap.size, 0, none⟩) l.length l := RdI.blk (by rw [← h]; exact heap_alloc_new W _)
section
variable {w : World} {A : Option Addr} {n c lo : Nat} {l : List (Nat × Int)}
set_option maxRecDepth 100000 in
set_option maxHeartbeats 1600000 in
/-- The chapter's examples. -/
theorem cawake_any (ht : ItT w) : Calls Tryd.prog 4 #[] w fun e w' => e = .returned (.bool true) ∧ Fr No w w' := by
  have hby1 : By [(3, 3), (0, 0)] := fun s hs => by simp at hs; rcases hs with rfl | rfl <;> decide
  have hby2 : By [(3, 16)] := fun s hs => by simp at hs; subst hs; decide
  have hby3 : By [(3, 1), (0, 0)] := fun s hs => by simp at hs; rcases hs with rfl | rfl <;> decide
  have HM1 : Hid (∀ W A c, Fr No w W → RdS W A 2 [(3, 3), (0, 0)] → Calls Tryd.prog 5 #[.slice A 2 c, .int .i64 0] W fun e w' => ∃ A' c', e = .returned (.tuple #[.slice A' 2 c', .int .i64 0]) ∧ RdS w' A' 2 [(3, 2), (5, 4)] ∧ Fr No W w') :=
    Lib.hid fun W A c hW hx => (Make_any (ht.no hW) hx hby1 c (by decide) 0).mono (fun _ _ ⟨A', c', h1, h2, h3⟩ => by rw [mk_ex1.1] at h1; rw [mk_ex1.2] at h2; exact ⟨A', c', h1, h2.rd, h3⟩)
  have HM2 : Hid (∀ W A c, Fr No w W → RdS W A 1 [(3, 16)] → Calls Tryd.prog 5 #[.slice A 1 c, .int .i64 0] W fun e w' => ∃ A' c', e = .returned (.tuple #[.slice A' 1 c', .int .i64 104]) ∧ Fr No W w') :=
    Lib.hid fun W A c hW hx => (Make_any (ht.no hW) hx hby2 c (by decide) 0).mono (fun _ _ ⟨A', c', h1, h2, h3⟩ => by rw [mk_ex2] at h1; exact ⟨A', c', h1, h3⟩)
  have HC : Hid (∀ W A c, Fr No w W → RdS W A 2 [(3, 1), (0, 0)] → Calls Tryd.prog 9 #[.slice A 2 c] W fun e w' => ∃ A' c', e = .returned (.slice A' 1 c') ∧ RdI w' A' 1 [0] ∧ Fr No W w') :=
    Lib.hid fun W A c hW hx => (Can_any (ht.no hW) hx hby3 c (by decide)).mono (fun _ _ ⟨A', c', h1, h2, h3⟩ => by rw [can_ex] at h1 h2; exact ⟨A', c', h1, h2.rd, h3⟩)
  clear ht hby1 hby2 hby3
  go_enter Tryd.func4, Tryd.ntmps4
  go_wp2_with fail
  refine (HM1.out _ _ _ (Fr.alloc No _ _) (lit_sl w [(3, 3), (0, 0)] _ rfl)).mono ?_
  rintro e w1 ⟨A1, c1, rfl, hr, hf⟩
  have HF1 := Lib.hid ((Fr.alloc No w _).no_trans hf)
  have HR1 := Lib.hid hr
  clear hr hf HM1
  go_wp2_with fail
  refine (HM2.out _ _ _ (HF1.out.no_trans (Fr.alloc No _ _)) (lit_sl w1 [(3, 16)] _ rfl)).mono ?_
  rintro e w2 ⟨A2, c2, rfl, hf⟩
  have HF2 := Lib.hid (HF1.out.no_trans ((Fr.alloc No w1 _).no_trans hf))
  have HR1 := Lib.hid (HR1.out.no ((Fr.alloc No w1 _).no_trans hf))
  clear hf HM2 HF1
  go_wp2_with fail
  refine (same_yes (HR1.out.no (Fr.alloc No _ _)) (lit_sl w2 [(3, 2), (5, 4)] _ rfl) c1 2 (by decide)).mono ?_
  rintro e w3 ⟨rfl, hf⟩
  have HF3 := Lib.hid (HF2.out.no_trans ((Fr.alloc No w2 _).no_trans hf))
  clear hf HF2 HR1
  go_wp2_with fail
  refine (HC.out _ _ _ (HF3.out.no_trans (Fr.alloc No _ _)) (lit_sl w3 [(3, 1), (0, 0)] _ rfl)).mono ?_
  rintro e w4 ⟨A4, c4, rfl, hr, hf⟩
  have HF4 := Lib.hid (HF3.out.no_trans ((Fr.alloc No w3 _).no_trans hf))
  have HR4 := Lib.hid hr
  clear hr hf HC HF3
  go_wp2_with fail
  refine (same_ints (HR4.out.no (Fr.alloc No _ _)) (lit_i w4 [0] _ rfl) c4 1 (by decide)).mono ?_
  rintro e w5 ⟨rfl, hf⟩
  have HF5 := Lib.hid (HF4.out.no_trans ((Fr.alloc No w4 _).no_trans hf))
  clear hf HF4 HR4
  go_wp2_with fail
  go_ret
  exact ⟨rfl, HF5.out⟩
theorem cawake_w (ht : ItT w) : ∀ W, Fr No w W → Calls Tryd.prog 4 #[] W fun e w' => e = .returned (.bool true) ∧ Fr No w w' :=
  fun _ hW => (cawake_any (ht.no hW)).mono (fun _ _ ⟨h1, h2⟩ => ⟨h1, hW.no_trans h2⟩)
end
end Go.Proofs.YtmallcjhccbgdaaDoor

/-
  DiskNone: the walk. No statement of the seat is proved here.
-/
import Derived.Test.YtjmhjmipnhibhaaDlA
namespace Go.Proofs.Ytjmhjmipnhibhaa
open Go.RowKit Go.Maps Go.Sort

set_option maxRecDepth 100000 in
theorem none_walk (nm : ByteArray) (n : Int) (A : Option Addr) (ln c : Nat) (w : World) :
    Calls Try.prog 4 #[.string nm, .int .i64 n, .slice A ln c] w fun e w' => e = .returned (.bool true) ∧ Below w.heap.size w w' := by
  have HA := Lib.hid (fun W => awake_any W)
  obtain ⟨W0, HW0⟩ : ∃ W0, Hid ((w.alloc (.cells #[.bool false, .bool false, .int .i64 0, .pointer none, .int .i64 0, .map none] 48)).alloc (.cells #[.pointer none, .pointer (some ⟨w.heap.size, 0, none⟩)] 22) = W0) := ⟨_, rfl⟩
  have HF0 := Lib.hid (show Fr No w W0 by rw [← HW0.out]; exact (Fr.alloc _ _ _).no_trans (Fr.alloc _ _ _))
  have hD : W0.heap[w.heap.size]? = some (.cells #[.bool false, .bool false, .int .i64 0, .pointer none, .int .i64 0, .map none] 48 (0, 0)) := by
    rw [← HW0.out]; exact (Below.heap_alloc _ _ _ (by simp)).trans (heap_alloc_new w _)
  have hR : W0.heap[w.heap.size + 1]? = some (.cells #[.pointer none, .pointer (some ⟨w.heap.size, 0, none⟩)] 22 (0, 0)) := by
    rw [← HW0.out]; exact heap2 w _ _
  have HZ : Hid (∀ W, Fr No W0 W → W.cell? ⟨w.heap.size, 3, none⟩ = some (.pointer none)) := by
    show ∀ W, _ → _
    intro W hf
    exact hf.cell (by unfold World.cell?; rw [hD]; rfl) (fun e => e)
  have HR0 : Hid (∀ W, Fr No W0 W → W.cell? ⟨w.heap.size + 1, 0, none⟩ = some (.pointer none)) := by
    show ∀ W, _ → _
    intro W hf
    exact hf.cell (by unfold World.cell?; rw [hR]; rfl) (fun e => e)
  have HR1 : Hid (∀ W, Fr No W0 W → W.cell? ⟨w.heap.size + 1, 1, none⟩ = some (.pointer (some ⟨w.heap.size, 0, none⟩))) := by
    show ∀ W, _ → _
    intro W hf
    exact hf.cell (by unfold World.cell?; rw [hR]; rfl) (fun e => e)
  clear hD hR
  go_enter Try.func4, Try.ntmps4
  go_wp2_with fail
  rw [HW0.out]
  go_loopw [14] (fun u wr => ∃ i : Nat, i ≤ 2 ∧ u = .int .i64 (i : Int) ∧ Fr No W0 wr) (fun u _ => 2 - (intOf u).toNat)
  case atStart => exact ⟨0, by omega, rfl, Fr.refl _ _⟩
  case round =>
    obtain ⟨i, hi, rfl, hf⟩ := hrel
    have HFr := Lib.hid hf
    clear hf
    by_cases h2 : i = 2
    · subst h2
      go_wp2_with fail
      refine (HA.out _).mono ?_
      rintro e w2 ⟨rfl, hb⟩
      have HB := Lib.hid hb
      clear hb
      go_wp2_with fail
      go_ret
      exact ⟨rfl, ((HF0.out.no_trans HFr.out).no_trans (Fr.of_below HB.out)).noBelow⟩
    · by_cases h1 : i = 1
      · subst h1
        have hr := HR1.out _ HFr.out
        clear h2 hi
        go_wp2_with fail
        refine (arm_zero w.heap.size n _ (HZ.out _ (by repeat (first | exact HFr.out | refine Fr.no_trans ?_ (Fr.alloc _ _ _))))).mono ?_
        rintro e y1 ⟨rfl, hw⟩
        have HF1 := Lib.hid (show Fr No W0 y1 by first | (rw [← hw]; repeat (first | exact HFr.out | refine Fr.no_trans ?_ (Fr.alloc _ _ _))) | (rw [hw]; repeat (first | exact HFr.out | refine Fr.no_trans ?_ (Fr.alloc _ _ _))))
        clear hw
        go_wp2_with fail
        refine (crash_zero w.heap.size _ _ (HZ.out _ (by repeat (first | exact HF1.out | refine Fr.no_trans ?_ (Fr.alloc _ _ _))))).mono ?_
        rintro e y2 ⟨rfl, hw⟩
        have HF2 := Lib.hid (show Fr No W0 y2 by first | (rw [← hw]; repeat (first | exact HF1.out | refine Fr.no_trans ?_ (Fr.alloc _ _ _))) | (rw [hw]; repeat (first | exact HF1.out | refine Fr.no_trans ?_ (Fr.alloc _ _ _))))
        clear hw
        go_wp2_with fail
        refine (read_zero w.heap.size nm _ (HZ.out _ (by repeat (first | exact HF2.out | refine Fr.no_trans ?_ (Fr.alloc _ _ _))))).mono ?_
        rintro e y3 ⟨rfl, hw⟩
        have HF3 := Lib.hid (show Fr No W0 y3 by first | (rw [← hw]; repeat (first | exact HF2.out | refine Fr.no_trans ?_ (Fr.alloc _ _ _))) | (rw [hw]; repeat (first | exact HF2.out | refine Fr.no_trans ?_ (Fr.alloc _ _ _))))
        clear hw
        go_wp2_with fail
        refine (dappend_zero w.heap.size nm _ _ (HZ.out _ (by repeat (first | exact HF3.out | refine Fr.no_trans ?_ (Fr.alloc _ _ _))))).mono ?_
        rintro e y4 ⟨rfl, hw⟩
        have HF4 := Lib.hid (show Fr No W0 y4 by first | (rw [← hw]; repeat (first | exact HF3.out | refine Fr.no_trans ?_ (Fr.alloc _ _ _))) | (rw [hw]; repeat (first | exact HF3.out | refine Fr.no_trans ?_ (Fr.alloc _ _ _))))
        clear hw
        go_wp2_with fail
        refine (sync_zero w.heap.size nm _ (HZ.out _ (by repeat (first | exact HF4.out | refine Fr.no_trans ?_ (Fr.alloc _ _ _))))).mono ?_
        rintro e y5 ⟨rfl, hw⟩
        have HF5 := Lib.hid (show Fr No W0 y5 by first | (rw [← hw]; repeat (first | exact HF4.out | refine Fr.no_trans ?_ (Fr.alloc _ _ _))) | (rw [hw]; repeat (first | exact HF4.out | refine Fr.no_trans ?_ (Fr.alloc _ _ _))))
        clear hw
        go_wp2_with fail
        refine (cut_zero w.heap.size nm n _ (HZ.out _ (by repeat (first | exact HF5.out | refine Fr.no_trans ?_ (Fr.alloc _ _ _))))).mono ?_
        rintro e y6 ⟨rfl, hw⟩
        have HF6 := Lib.hid (show Fr No W0 y6 by first | (rw [← hw]; repeat (first | exact HF5.out | refine Fr.no_trans ?_ (Fr.alloc _ _ _))) | (rw [hw]; repeat (first | exact HF5.out | refine Fr.no_trans ?_ (Fr.alloc _ _ _))))
        clear hw
        go_wp2_with fail
        refine (remove_zero w.heap.size nm _ (HZ.out _ (by repeat (first | exact HF6.out | refine Fr.no_trans ?_ (Fr.alloc _ _ _))))).mono ?_
        rintro e y7 ⟨rfl, hw⟩
        have HF7 := Lib.hid (show Fr No W0 y7 by first | (rw [← hw]; repeat (first | exact HF6.out | refine Fr.no_trans ?_ (Fr.alloc _ _ _))) | (rw [hw]; repeat (first | exact HF6.out | refine Fr.no_trans ?_ (Fr.alloc _ _ _))))
        clear hw
        go_wp2_with fail
        refine (rename_zero w.heap.size nm nm _ (HZ.out _ (by repeat (first | exact HF7.out | refine Fr.no_trans ?_ (Fr.alloc _ _ _))))).mono ?_
        rintro e y8 ⟨rfl, hw⟩
        have HF8 := Lib.hid (show Fr No W0 y8 by first | (rw [← hw]; repeat (first | exact HF7.out | refine Fr.no_trans ?_ (Fr.alloc _ _ _))) | (rw [hw]; repeat (first | exact HF7.out | refine Fr.no_trans ?_ (Fr.alloc _ _ _))))
        clear hw
        go_wp2_with fail
        refine (tells_yes _ _ 6 6 1 (by omega) (fun j hj => ?_)).mono ?_
        · rw [World.cell?_alloc_mark]
          rcases j with _ | _ | _ | _ | _ | _ | j <;> first | rfl | omega
        rintro e y9 ⟨rfl, hw⟩
        have HF9 := Lib.hid (show Fr No W0 y9 by rw [← hw]; repeat (first | exact HF8.out | refine Fr.no_trans ?_ (Fr.alloc _ _ _)))
        clear hw
        go_wp2_with fail
        refine (down_zero w.heap.size  _ (HZ.out _ (by repeat (first | exact HF9.out | refine Fr.no_trans ?_ (Fr.alloc _ _ _))))).mono ?_
        rintro e y10 ⟨rfl, hw⟩
        have HF10 := Lib.hid (show Fr No W0 y10 by first | (rw [← hw]; repeat (first | exact HF9.out | refine Fr.no_trans ?_ (Fr.alloc _ _ _))) | (rw [hw]; repeat (first | exact HF9.out | refine Fr.no_trans ?_ (Fr.alloc _ _ _))))
        clear hw
        go_wp2_with fail
        refine (list_zero w.heap.size  _ (HZ.out _ (by repeat (first | exact HF10.out | refine Fr.no_trans ?_ (Fr.alloc _ _ _))))).mono ?_
        rintro e y11 ⟨rfl, hw⟩
        have HF11 := Lib.hid (show Fr No W0 y11 by first | (rw [← hw]; repeat (first | exact HF10.out | refine Fr.no_trans ?_ (Fr.alloc _ _ _))) | (rw [hw]; repeat (first | exact HF10.out | refine Fr.no_trans ?_ (Fr.alloc _ _ _))))
        clear hw
        go_wp2_with fail
        refine (used_zero w.heap.size  _ (HZ.out _ (by repeat (first | exact HF11.out | refine Fr.no_trans ?_ (Fr.alloc _ _ _))))).mono ?_
        rintro e y12 ⟨rfl, hw⟩
        have HF12 := Lib.hid (show Fr No W0 y12 by first | (rw [← hw]; repeat (first | exact HF11.out | refine Fr.no_trans ?_ (Fr.alloc _ _ _))) | (rw [hw]; repeat (first | exact HF11.out | refine Fr.no_trans ?_ (Fr.alloc _ _ _))))
        clear hw
        go_wp2_with fail
        refine (size_zero w.heap.size nm _ (HZ.out _ (by repeat (first | exact HF12.out | refine Fr.no_trans ?_ (Fr.alloc _ _ _))))).mono ?_
        rintro e y13 ⟨rfl, hw⟩
        have HF13 := Lib.hid (show Fr No W0 y13 by first | (rw [← hw]; repeat (first | exact HF12.out | refine Fr.no_trans ?_ (Fr.alloc _ _ _))) | (rw [hw]; repeat (first | exact HF12.out | refine Fr.no_trans ?_ (Fr.alloc _ _ _))))
        clear hw
        go_wp2_with fail
        refine (synced_zero w.heap.size nm _ (HZ.out _ (by repeat (first | exact HF13.out | refine Fr.no_trans ?_ (Fr.alloc _ _ _))))).mono ?_
        rintro e y14 ⟨rfl, hw⟩
        have HF14 := Lib.hid (show Fr No W0 y14 by first | (rw [← hw]; repeat (first | exact HF13.out | refine Fr.no_trans ?_ (Fr.alloc _ _ _))) | (rw [hw]; repeat (first | exact HF13.out | refine Fr.no_trans ?_ (Fr.alloc _ _ _))))
        clear hw
        go_wp2_with fail
        go_roundw
        case rel => exact ⟨2, by omega, rfl, by repeat (first | exact HF14.out | refine Fr.no_trans ?_ (Fr.alloc _ _ _))⟩
        case measure => simp [intOf]
      · have h0 : i = 0 := by omega
        subst h0
        have hr := HR0.out _ HFr.out
        clear h2 h1 hi
        go_wp2_with fail
        refine (arm_nil n _).mono ?_
        rintro e y1 ⟨rfl, hw⟩
        have HF1 := Lib.hid (show Fr No W0 y1 by first | (rw [← hw]; repeat (first | exact HFr.out | refine Fr.no_trans ?_ (Fr.alloc _ _ _))) | (rw [hw]; repeat (first | exact HFr.out | refine Fr.no_trans ?_ (Fr.alloc _ _ _))))
        clear hw
        go_wp2_with fail
        refine (crash_nil _ _).mono ?_
        rintro e y2 ⟨rfl, hw⟩
        have HF2 := Lib.hid (show Fr No W0 y2 by first | (rw [← hw]; repeat (first | exact HF1.out | refine Fr.no_trans ?_ (Fr.alloc _ _ _))) | (rw [hw]; repeat (first | exact HF1.out | refine Fr.no_trans ?_ (Fr.alloc _ _ _))))
        clear hw
        go_wp2_with fail
        refine (read_nil nm _).mono ?_
        rintro e y3 ⟨rfl, hw⟩
        have HF3 := Lib.hid (show Fr No W0 y3 by first | (rw [← hw]; repeat (first | exact HF2.out | refine Fr.no_trans ?_ (Fr.alloc _ _ _))) | (rw [hw]; repeat (first | exact HF2.out | refine Fr.no_trans ?_ (Fr.alloc _ _ _))))
        clear hw
        go_wp2_with fail
        refine (dappend_nil nm _ _).mono ?_
        rintro e y4 ⟨rfl, hw⟩
        have HF4 := Lib.hid (show Fr No W0 y4 by first | (rw [← hw]; repeat (first | exact HF3.out | refine Fr.no_trans ?_ (Fr.alloc _ _ _))) | (rw [hw]; repeat (first | exact HF3.out | refine Fr.no_trans ?_ (Fr.alloc _ _ _))))
        clear hw
        go_wp2_with fail
        refine (sync_nil nm _).mono ?_
        rintro e y5 ⟨rfl, hw⟩
        have HF5 := Lib.hid (show Fr No W0 y5 by first | (rw [← hw]; repeat (first | exact HF4.out | refine Fr.no_trans ?_ (Fr.alloc _ _ _))) | (rw [hw]; repeat (first | exact HF4.out | refine Fr.no_trans ?_ (Fr.alloc _ _ _))))
        clear hw
        go_wp2_with fail
        refine (cut_nil nm n _).mono ?_
        rintro e y6 ⟨rfl, hw⟩
        have HF6 := Lib.hid (show Fr No W0 y6 by first | (rw [← hw]; repeat (first | exact HF5.out | refine Fr.no_trans ?_ (Fr.alloc _ _ _))) | (rw [hw]; repeat (first | exact HF5.out | refine Fr.no_trans ?_ (Fr.alloc _ _ _))))
        clear hw
        go_wp2_with fail
        refine (remove_nil nm _).mono ?_
        rintro e y7 ⟨rfl, hw⟩
        have HF7 := Lib.hid (show Fr No W0 y7 by first | (rw [← hw]; repeat (first | exact HF6.out | refine Fr.no_trans ?_ (Fr.alloc _ _ _))) | (rw [hw]; repeat (first | exact HF6.out | refine Fr.no_trans ?_ (Fr.alloc _ _ _))))
        clear hw
        go_wp2_with fail
        refine (rename_nil nm nm _).mono ?_
        rintro e y8 ⟨rfl, hw⟩
        have HF8 := Lib.hid (show Fr No W0 y8 by first | (rw [← hw]; repeat (first | exact HF7.out | refine Fr.no_trans ?_ (Fr.alloc _ _ _))) | (rw [hw]; repeat (first | exact HF7.out | refine Fr.no_trans ?_ (Fr.alloc _ _ _))))
        clear hw
        go_wp2_with fail
        refine (tells_yes _ _ 6 6 1 (by omega) (fun j hj => ?_)).mono ?_
        · rw [World.cell?_alloc_mark]
          rcases j with _ | _ | _ | _ | _ | _ | j <;> first | rfl | omega
        rintro e y9 ⟨rfl, hw⟩
        have HF9 := Lib.hid (show Fr No W0 y9 by rw [← hw]; repeat (first | exact HF8.out | refine Fr.no_trans ?_ (Fr.alloc _ _ _)))
        clear hw
        go_wp2_with fail
        refine (down_nil  _).mono ?_
        rintro e y10 ⟨rfl, hw⟩
        have HF10 := Lib.hid (show Fr No W0 y10 by first | (rw [← hw]; repeat (first | exact HF9.out | refine Fr.no_trans ?_ (Fr.alloc _ _ _))) | (rw [hw]; repeat (first | exact HF9.out | refine Fr.no_trans ?_ (Fr.alloc _ _ _))))
        clear hw
        go_wp2_with fail
        refine (list_nil  _).mono ?_
        rintro e y11 ⟨rfl, hw⟩
        have HF11 := Lib.hid (show Fr No W0 y11 by first | (rw [← hw]; repeat (first | exact HF10.out | refine Fr.no_trans ?_ (Fr.alloc _ _ _))) | (rw [hw]; repeat (first | exact HF10.out | refine Fr.no_trans ?_ (Fr.alloc _ _ _))))
        clear hw
        go_wp2_with fail
        refine (used_nil  _).mono ?_
        rintro e y12 ⟨rfl, hw⟩
        have HF12 := Lib.hid (show Fr No W0 y12 by first | (rw [← hw]; repeat (first | exact HF11.out | refine Fr.no_trans ?_ (Fr.alloc _ _ _))) | (rw [hw]; repeat (first | exact HF11.out | refine Fr.no_trans ?_ (Fr.alloc _ _ _))))
        clear hw
        go_wp2_with fail
        refine (size_nil nm _).mono ?_
        rintro e y13 ⟨rfl, hw⟩
        have HF13 := Lib.hid (show Fr No W0 y13 by first | (rw [← hw]; repeat (first | exact HF12.out | refine Fr.no_trans ?_ (Fr.alloc _ _ _))) | (rw [hw]; repeat (first | exact HF12.out | refine Fr.no_trans ?_ (Fr.alloc _ _ _))))
        clear hw
        go_wp2_with fail
        refine (synced_nil nm _).mono ?_
        rintro e y14 ⟨rfl, hw⟩
        have HF14 := Lib.hid (show Fr No W0 y14 by first | (rw [← hw]; repeat (first | exact HF13.out | refine Fr.no_trans ?_ (Fr.alloc _ _ _))) | (rw [hw]; repeat (first | exact HF13.out | refine Fr.no_trans ?_ (Fr.alloc _ _ _))))
        clear hw
        go_wp2_with fail
        go_roundw
        case rel => exact ⟨1, by omega, rfl, by repeat (first | exact HF14.out | refine Fr.no_trans ?_ (Fr.alloc _ _ _))⟩
        case measure => simp [intOf]
end Go.Proofs.Ytjmhjmipnhibhaa

/-
  Is there room? No statement of the seat is proved here.
-/
import Derived.Test.YtggejecmhfafoaaGreatDoorDkM
import Derived.Deep.RegionHeld3
namespace Go.Proofs.YtggejecmhfafoaaGreatDoor
open Go.RowKit Go.Maps

set_option maxRecDepth 100000 in
theorem Fr.drew (F : Nat → Prop) (w : World) : Fr F w w.drew := ⟨rfl, rfl, rfl, Nat.le_refl _, fun _ _ _ => rfl⟩
set_option maxRecDepth 100000 in
theorem len_run {w : World} {M n : Nat} {fs : List Fl} (hm : w.ownsMap Tryz.prog 9 flR M n (dat fs)) (ty : TypeId) : (Builtin.len_ #[46] ty #[.map (some M)]).run Tryz.prog w = .ok (.int .i64 (fs.length : Int)) w := by
  have h := hm.len Tryz.underlying46 ty
  rw [dat_size] at h
  exact h
/-- May n bytes more stand in the file of that name? -/
def St.fits (s : St) (nm : List UInt8) (n : Nat) : Bool := decide (used s.fs + n ≤ s.mo) && ((fnd nm s.fs).isSome || decide (s.fs.length < 200))
set_option maxRecDepth 100000 in
theorem hasroom_any {w : World} {D M : Nat} {s : St} (h : Dsk w D M s) (nm : ByteArray) (hs : nm.size ≤ maxLen) (n : Nat) :
    Calls Tryz.prog 54 #[.pointer (some ⟨D, 0, none⟩), .string nm, .int .i64 (n : Int)] w fun e w' =>
      e = .returned (.bool (s.fits nm.data.toList n)) ∧ Fr No w w' := by
  have HU := Lib.hid (fun W (hf : Fr No w W) => used_any (h.no hf))
  have c4 := h.c4
  have c5 := h.c5
  have H := Lib.hid h
  have hwr : IntKind.i64.wrap ((s.mo : Int) - (used s.fs : Int)) = (s.mo : Int) - (used s.fs : Int) := IntWalk.i64_in _ (by have := h.room; have := h.most; omega)
  clear h
  by_cases hr : used s.fs + n ≤ s.mo
  · have hd : decide ((s.mo : Int) - (used s.fs : Int) < (n : Int)) = false := by simp; omega
    cases hf : fnd nm.data.toList s.fs with
    | none =>
      by_cases hq : s.fs.length < 200
      · have HQ : Hid (s.fits nm.data.toList n = true) := by show _ = _; unfold St.fits; simp [hf, hq, hr]
        have hd2 : decide ((s.fs.length : Int) < 200) = true := by simp; omega
        have HF := Lib.hid hf
        rw [HQ.out]
        clear hf hq hr
        go_enter Tryz.func54, Tryz.ntmps54
        go_wp2_with fail
        go_region_held3 (fun w' => w'.cell? ⟨D, 4, none⟩ = some (.int .i64 (s.mo : Int)))
          (first | exact c41 | exact c4)
          (first | (go_at_call 67; (refine (HU.out _ (Fr.drew _ _)).mono ?_); rintro e w1 ⟨rfl, hf1⟩; have HF1 := Lib.hid ((Fr.drew No w).no_trans hf1); have c41 := (H.out.no HF1.out).c4; have c51 := (H.out.no HF1.out).c5; have HH := Lib.hid (H.out.no (HF1.out.no_trans (Fr.alloc No w1 (.cells #[.slice none 0 0, .int .i64 0] 60)))); have c52 := HH.out.c5; have len2 := len_run HH.out.map; clear hf1))
        go_wp2_with (at_lookup; refine wpList_look_ok rfl _ _ rfl (H.out.no HF1.out).map nm hs rfl rfl ?_; rw [HF.out])
        go_ret
        refine ⟨rfl, ?_⟩
        first | exact HF1.out | exact HF1.out.no_trans (Fr.alloc _ _ _)
      · have HQ : Hid (s.fits nm.data.toList n = false) := by show _ = _; unfold St.fits; simp [hf]; omega
        have hd2 : decide ((s.fs.length : Int) < 200) = false := by simp; omega
        have HF := Lib.hid hf
        rw [HQ.out]
        clear hf hq hr
        go_enter Tryz.func54, Tryz.ntmps54
        go_wp2_with fail
        go_region_held3 (fun w' => w'.cell? ⟨D, 4, none⟩ = some (.int .i64 (s.mo : Int)))
          (first | exact c41 | exact c4)
          (first | (go_at_call 67; (refine (HU.out _ (Fr.drew _ _)).mono ?_); rintro e w1 ⟨rfl, hf1⟩; have HF1 := Lib.hid ((Fr.drew No w).no_trans hf1); have c41 := (H.out.no HF1.out).c4; have c51 := (H.out.no HF1.out).c5; have HH := Lib.hid (H.out.no (HF1.out.no_trans (Fr.alloc No w1 (.cells #[.slice none 0 0, .int .i64 0] 60)))); have c52 := HH.out.c5; have len2 := len_run HH.out.map; clear hf1))
        go_wp2_with (at_lookup; refine wpList_look_ok rfl _ _ rfl (H.out.no HF1.out).map nm hs rfl rfl ?_; rw [HF.out])
        go_ret
        refine ⟨rfl, ?_⟩
        first | exact HF1.out | exact HF1.out.no_trans (Fr.alloc _ _ _)
    | some f =>
      have HQ : Hid (s.fits nm.data.toList n = true) := by show _ = _; unfold St.fits; simp [hf, hr]
      have HF := Lib.hid hf
      rw [HQ.out]
      clear hf hr
      go_enter Tryz.func54, Tryz.ntmps54
      go_wp2_with fail
      go_region_held3 (fun w' => w'.cell? ⟨D, 4, none⟩ = some (.int .i64 (s.mo : Int)))
        (first | exact c41 | exact c4)
        (first | (go_at_call 67; (refine (HU.out _ (Fr.drew _ _)).mono ?_); rintro e w1 ⟨rfl, hf1⟩; have HF1 := Lib.hid ((Fr.drew No w).no_trans hf1); have c41 := (H.out.no HF1.out).c4; have c51 := (H.out.no HF1.out).c5; have HH := Lib.hid (H.out.no (HF1.out.no_trans (Fr.alloc No w1 (.cells #[.slice none 0 0, .int .i64 0] 60)))); have c52 := HH.out.c5; have len2 := len_run HH.out.map; clear hf1))
      go_wp2_with (at_lookup; refine wpList_look_ok rfl _ _ rfl (H.out.no HF1.out).map nm hs rfl rfl ?_; rw [HF.out]; unfold Fl.val)
      go_ret
      refine ⟨rfl, ?_⟩
      first | exact HF1.out | exact HF1.out.no_trans (Fr.alloc _ _ _)
  · have hd : decide ((s.mo : Int) - (used s.fs : Int) < (n : Int)) = true := by simp; omega
    have HQ : Hid (s.fits nm.data.toList n = false) := by show _ = _; unfold St.fits; simp [hr]
    rw [HQ.out]
    clear hr
    go_enter Tryz.func54, Tryz.ntmps54
    go_wp2_with fail
    go_region_held3 (fun w' => w'.cell? ⟨D, 4, none⟩ = some (.int .i64 (s.mo : Int)))
      (first | exact c41 | exact c4)
      (first | (go_at_call 67; (refine (HU.out _ (Fr.drew _ _)).mono ?_); rintro e w1 ⟨rfl, hf1⟩; have HF1 := Lib.hid ((Fr.drew No w).no_trans hf1); have c41 := (H.out.no HF1.out).c4; have c51 := (H.out.no HF1.out).c5; have HH := Lib.hid (H.out.no (HF1.out.no_trans (Fr.alloc No w1 (.cells #[.slice none 0 0, .int .i64 0] 60)))); have c52 := HH.out.c5; have len2 := len_run HH.out.map; clear hf1))
    go_wp2_with fail
    go_ret
    exact ⟨rfl, HF1.out⟩
end Go.Proofs.YtggejecmhfafoaaGreatDoor

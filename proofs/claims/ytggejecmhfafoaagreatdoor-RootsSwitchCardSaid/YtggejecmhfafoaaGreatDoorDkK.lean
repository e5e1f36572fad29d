/-
  What a disk tells that turns nothing: find, Read, Size, Synced. No statement of the seat is proved here.
-/
import Derived.Test.YtggejecmhfafoaaGreatDoorDkJ
namespace Go.Proofs.YtggejecmhfafoaaGreatDoor
open Go.RowKit Go.Maps

/-- What find answers. -/
def St.ask (s : St) (nm : List UInt8) : Value × Int :=
  if s.fl then (.agg #[.slice none 0 0, .int .i64 0], 15) else match fnd nm s.fs with
    | none => (.agg #[.slice none 0 0, .int .i64 0], 13)
    | some f => (f.val, 0)

set_option maxRecDepth 100000 in
theorem find_any {w : World} {D M : Nat} {s : St} (h : Dsk w D M s) (nm : ByteArray) (hs : nm.size ≤ maxLen) :
    Calls Tryz.prog 32 #[.pointer (some ⟨D, 0, none⟩), .string nm] w fun e w' =>
      e = .returned (.tuple #[(s.ask nm.data.toList).1, .int .i64 (s.ask nm.data.toList).2]) ∧ Fr No w w' := by
  have H1 := Lib.hid (h.no (Fr.alloc No w (.cells #[.slice none 0 0, .int .i64 0] 60)))
  obtain ⟨fl, bd, lf, mo, fs⟩ := s
  cases fl with
  | true =>
    have HR := Lib.hid (ready_down D _ H1.out.c3 H1.out.c0)
    clear h
    go_enter Tryz.func32, Tryz.ntmps32
    go_wp2_with fail
    refine HR.out.mono ?_
    rintro e w' ⟨rfl, rfl⟩
    go_wp2_with fail
    refine bodyPost_ret (results_cell_tmp_row (p := 4) rfl _ _ w.heap.size 60 #[.slice none 0 0, .int .i64 0] (0, 0) _ rfl (heap_alloc_new w _) Tryz.underlying60 rfl (by kernel_rfl)) rfl ?_
    exact ⟨rfl, Fr.alloc _ _ _⟩
  | false =>
    have HR := Lib.hid (ready_up D _ H1.out.c3 H1.out.c0)
    have c5 := H1.out.c5
    clear h
    cases hf : fnd nm.data.toList fs with
    | none =>
      have HF := Lib.hid hf
      clear hf
      go_enter Tryz.func32, Tryz.ntmps32
      go_wp2_with fail
      refine HR.out.mono ?_
      rintro e w' ⟨rfl, rfl⟩
      go_wp2_with (at_lookup; refine wpList_look_ok rfl _ _ rfl H1.out.map nm hs rfl rfl ?_; rw [HF.out])
      refine bodyPost_ret (results_cell_tmp_row (p := 4) rfl _ _ w.heap.size 60 #[.slice none 0 0, .int .i64 0] (0, 0) _ rfl ((Below.heap_alloc _ _ _ (by simp)).trans (heap_alloc_new w _)) Tryz.underlying60 rfl (by kernel_rfl)) rfl ?_
      refine ⟨?_, (Fr.alloc _ _ _).no_trans (Fr.alloc _ _ _)⟩
      unfold St.ask
      rw [HF.out]
      rfl
    | some f =>
      have HF := Lib.hid hf
      clear hf
      go_enter Tryz.func32, Tryz.ntmps32
      go_wp2_with fail
      refine HR.out.mono ?_
      rintro e w' ⟨rfl, rfl⟩
      go_wp2_with (at_lookup; refine wpList_look_ok rfl _ _ rfl H1.out.map nm hs rfl rfl ?_; rw [HF.out]; unfold Fl.val)
      refine bodyPost_ret (results_cell_tmp_row (p := 4) rfl _ _ w.heap.size 60 #[.slice f.A f.bs.length f.c, .int .i64 (f.fm : Int)] (0, 0) _ rfl ((Below.heap_alloc _ _ _ (by simp)).trans (heap_alloc_new w _)) Tryz.underlying60 rfl (by kernel_rfl)) rfl ?_
      refine ⟨?_, (Fr.alloc _ _ _).no_trans (Fr.alloc _ _ _)⟩
      unfold St.ask
      rw [HF.out]
      rfl
/-- Why a file is not to be had; 0: it is. -/
def St.err (s : St) (nm : List UInt8) : Int := if s.fl then 15 else match fnd nm s.fs with
  | none => 13
  | some _ => 0
set_option maxRecDepth 100000 in
theorem find_bad {w : World} {D M : Nat} {s : St} (h : Dsk w D M s) (nm : ByteArray) (hs : nm.size ≤ maxLen) (hk : s.err nm.data.toList ≠ 0) :
    Calls Tryz.prog 32 #[.pointer (some ⟨D, 0, none⟩), .string nm] w fun e w' =>
      e = .returned (.tuple #[.agg #[.slice none 0 0, .int .i64 0], .int .i64 (s.err nm.data.toList)]) ∧ Fr No w w' := by
  refine (find_any h nm hs).mono ?_
  rintro e w' ⟨rfl, hf⟩
  refine ⟨?_, hf⟩
  unfold St.err at hk ⊢
  unfold St.ask
  cases hfl : s.fl with
  | true => rfl
  | false =>
    rw [hfl] at hk
    cases hf : fnd nm.data.toList s.fs with
    | none => rfl
    | some f => rw [hf] at hk; exact absurd rfl hk
set_option maxRecDepth 100000 in
theorem find_ok {w : World} {D M : Nat} {s : St} (h : Dsk w D M s) (nm : ByteArray) (hs : nm.size ≤ maxLen) (hfl : s.fl = false) (f : Fl) (hf : fnd nm.data.toList s.fs = some f) :
    Calls Tryz.prog 32 #[.pointer (some ⟨D, 0, none⟩), .string nm] w fun e w' =>
      e = .returned (.tuple #[.agg #[.slice f.A f.bs.length f.c, .int .i64 (f.fm : Int)], .int .i64 0]) ∧ Fr No w w' := by
  refine (find_any h nm hs).mono ?_
  rintro e w' ⟨rfl, hfr⟩
  refine ⟨?_, hfr⟩
  unfold St.ask
  rw [hfl, hf]
  rfl
set_option maxRecDepth 100000 in
theorem sync_bad {w : World} {D M : Nat} {s : St} (h : Dsk w D M s) (nm : ByteArray) (hs : nm.size ≤ maxLen) (hk : s.err nm.data.toList ≠ 0) :
    Calls Tryz.prog 43 #[.pointer (some ⟨D, 0, none⟩), .string nm] w fun e w' =>
      e = .returned (.int .i64 (s.err nm.data.toList)) ∧ Fr No w w' := by
  have HC := Lib.hid (fun w2 (hf : Fr No w w2) => find_bad (h.no hf) nm hs hk)
  clear h
  obtain ⟨k, HK⟩ : ∃ k, Hid (s.err nm.data.toList = k) := ⟨_, rfl⟩
  rw [HK.out] at hk HC ⊢
  have hz : (k == 0) = false := by rw [beq_eq_false_iff_ne]; exact hk
  clear hk
  go_enter Tryz.func43, Tryz.ntmps43
  go_wp2_with fail
  refine (HC.out _ (by first | exact Fr.refl _ _ | exact Fr.alloc _ _ _)).mono ?_
  rintro e w' ⟨rfl, hf⟩
  have HF := Lib.hid hf
  clear hf
  go_wp2_with fail
  go_ret
  refine ⟨rfl, ?_⟩
  first
    | exact HF.out
    | exact (HF.out).no_trans (Fr.alloc _ _ _)
    | exact (Fr.alloc _ _ _).no_trans HF.out
    | exact ((Fr.alloc _ _ _).no_trans HF.out).no_trans (Fr.alloc _ _ _)
set_option maxRecDepth 100000 in
theorem rename_bad {w : World} {D M : Nat} {s : St} (h : Dsk w D M s) (nm : ByteArray) (t : ByteArray) (hs : nm.size ≤ maxLen) (hk : s.err nm.data.toList ≠ 0) :
    Calls Tryz.prog 45 #[.pointer (some ⟨D, 0, none⟩), .string nm, .string t] w fun e w' =>
      e = .returned (.int .i64 (s.err nm.data.toList)) ∧ Fr No w w' := by
  have HC := Lib.hid (fun w2 (hf : Fr No w w2) => find_bad (h.no hf) nm hs hk)
  clear h
  obtain ⟨k, HK⟩ : ∃ k, Hid (s.err nm.data.toList = k) := ⟨_, rfl⟩
  rw [HK.out] at hk HC ⊢
  have hz : (k == 0) = false := by rw [beq_eq_false_iff_ne]; exact hk
  clear hk
  go_enter Tryz.func45, Tryz.ntmps45
  go_wp2_with fail
  refine (HC.out _ (by first | exact Fr.refl _ _ | exact Fr.alloc _ _ _)).mono ?_
  rintro e w' ⟨rfl, hf⟩
  have HF := Lib.hid hf
  clear hf
  go_wp2_with fail
  go_ret
  refine ⟨rfl, ?_⟩
  first
    | exact HF.out
    | exact (HF.out).no_trans (Fr.alloc _ _ _)
    | exact (Fr.alloc _ _ _).no_trans HF.out
    | exact ((Fr.alloc _ _ _).no_trans HF.out).no_trans (Fr.alloc _ _ _)
set_option maxRecDepth 100000 in
theorem remove_bad {w : World} {D M : Nat} {s : St} (h : Dsk w D M s) (nm : ByteArray) (hs : nm.size ≤ maxLen) (hk : s.err nm.data.toList ≠ 0) :
    Calls Tryz.prog 14 #[.pointer (some ⟨D, 0, none⟩), .string nm] w fun e w' =>
      e = .returned (.int .i64 (s.err nm.data.toList)) ∧ Fr No w w' := by
  have HC := Lib.hid (fun w2 (hf : Fr No w w2) => find_bad (h.no hf) nm hs hk)
  clear h
  obtain ⟨k, HK⟩ : ∃ k, Hid (s.err nm.data.toList = k) := ⟨_, rfl⟩
  rw [HK.out] at hk HC ⊢
  have hz : (k == 0) = false := by rw [beq_eq_false_iff_ne]; exact hk
  clear hk
  go_enter Tryz.func14, Tryz.ntmps14
  go_wp2_with fail
  refine (HC.out _ (by first | exact Fr.refl _ _ | exact Fr.alloc _ _ _)).mono ?_
  rintro e w' ⟨rfl, hf⟩
  have HF := Lib.hid hf
  clear hf
  go_wp2_with fail
  go_ret
  refine ⟨rfl, ?_⟩
  first
    | exact HF.out
    | exact (HF.out).no_trans (Fr.alloc _ _ _)
    | exact (Fr.alloc _ _ _).no_trans HF.out
    | exact ((Fr.alloc _ _ _).no_trans HF.out).no_trans (Fr.alloc _ _ _)
set_option maxRecDepth 100000 in
theorem cut_bad {w : World} {D M : Nat} {s : St} (h : Dsk w D M s) (nm : ByteArray) (n : Int) (hs : nm.size ≤ maxLen) (hk : s.err nm.data.toList ≠ 0) :
    Calls Tryz.prog 15 #[.pointer (some ⟨D, 0, none⟩), .string nm, .int .i64 n] w fun e w' =>
      e = .returned (.int .i64 (s.err nm.data.toList)) ∧ Fr No w w' := by
  have HC := Lib.hid (fun w2 (hf : Fr No w w2) => find_bad (h.no hf) nm hs hk)
  clear h
  obtain ⟨k, HK⟩ : ∃ k, Hid (s.err nm.data.toList = k) := ⟨_, rfl⟩
  rw [HK.out] at hk HC ⊢
  have hz : (k == 0) = false := by rw [beq_eq_false_iff_ne]; exact hk
  clear hk
  go_enter Tryz.func15, Tryz.ntmps15
  go_wp2_with fail
  refine (HC.out _ (by first | exact Fr.refl _ _ | exact Fr.alloc _ _ _)).mono ?_
  rintro e w' ⟨rfl, hf⟩
  have HF := Lib.hid hf
  clear hf
  go_wp2_with fail
  go_ret
  refine ⟨rfl, ?_⟩
  first
    | exact HF.out
    | exact (HF.out).no_trans (Fr.alloc _ _ _)
    | exact (Fr.alloc _ _ _).no_trans HF.out
    | exact ((Fr.alloc _ _ _).no_trans HF.out).no_trans (Fr.alloc _ _ _)
set_option maxRecDepth 100000 in
theorem read_bad {w : World} {D M : Nat} {s : St} (h : Dsk w D M s) (nm : ByteArray) (hs : nm.size ≤ maxLen) (hk : s.err nm.data.toList ≠ 0) :
    Calls Tryz.prog 50 #[.pointer (some ⟨D, 0, none⟩), .string nm] w fun e w' =>
      e = .returned (.tuple #[.slice none 0 0, .int .i64 (s.err nm.data.toList)]) ∧ Fr No w w' := by
  have HC := Lib.hid (fun w2 (hf : Fr No w w2) => find_bad (h.no hf) nm hs hk)
  clear h
  obtain ⟨k, HK⟩ : ∃ k, Hid (s.err nm.data.toList = k) := ⟨_, rfl⟩
  rw [HK.out] at hk HC ⊢
  have hz : (k == 0) = false := by rw [beq_eq_false_iff_ne]; exact hk
  clear hk
  go_enter Tryz.func50, Tryz.ntmps50
  go_wp2_with fail
  refine (HC.out _ (by first | exact Fr.refl _ _ | exact Fr.alloc _ _ _)).mono ?_
  rintro e w' ⟨rfl, hf⟩
  have HF := Lib.hid hf
  clear hf
  go_wp2_with fail
  go_ret2
  refine ⟨rfl, ?_⟩
  first
    | exact HF.out
    | exact (HF.out).no_trans (Fr.alloc _ _ _)
    | exact (Fr.alloc _ _ _).no_trans HF.out
    | exact ((Fr.alloc _ _ _).no_trans HF.out).no_trans (Fr.alloc _ _ _)
end Go.Proofs.YtggejecmhfafoaaGreatDoor

/-
  All names of a disk, rising. No statement of the seat is proved here.
-/
import Derived.Test.YtggejecmhfafoaaGreatDoorDkT
import Derived.Test.YtggejecmhfafoaaGreatDoorLayIt
import Derived.TacticsInMore
import Derived.OwnWalkIn
namespace Go.Proofs.YtggejecmhfafoaaGreatDoor
open Go.RowKit Go.Maps Go.Sort

set_option maxRecDepth 100000 in
theorem before_le : ∀ {a b : List UInt8}, bytesBefore a b = true → a ≤ b
  | [], [], h => by cases h
  | [], b :: s, _ => List.nil_le _
  | a :: r, [], h => by cases h
  | a :: r, b :: s, h => by
    simp only [bytesBefore, Bool.or_eq_true, decide_eq_true_eq, Bool.and_eq_true, beq_iff_eq] at h
    rw [List.cons_le_cons_iff]
    rcases h with h | ⟨h, h2⟩
    · exact .inl h
    · exact .inr ⟨h, before_le h2⟩
set_option maxRecDepth 100000 in
theorem sorted_names {w : World} {D M : Nat} {s : St} (h : Dsk w D M s) {ss : List (List UInt8)} (hp : ss.Perm (s.fs.map (·.nm))) : ss.mergeSort (fun x y => decide (x ≤ y)) = s.fs.map (·.nm) := by
  have e := mergeSort_of_perm hp
  have e2 : (s.fs.map (·.nm)).mergeSort leB = s.fs.map (·.nm) := by
    refine List.mergeSort_of_pairwise ?_
    rw [List.pairwise_map]
    exact h.rising.imp (fun hb => by simpa using before_le hb)
  exact e.trans e2
set_option maxRecDepth 100000 in
theorem list_any {w : World} {D M : Nat} {s : St} (h : Dsk w D M s) :
    Calls Tryz.prog 23 #[.pointer (some ⟨D, 0, none⟩)] w fun e w' =>
      ∃ v, e = .returned v ∧ w'.ownsRow w.heap.size 9 1 v s.fs.length ((s.fs.map (·.nm)).map Proofs.encStr) ∧ Fr No w w' := by
  have HM := Lib.hid (made_any D w h.c3)
  have c5 := h.c5
  have H := Lib.hid h
  have hmax : Maps.size (dat s.fs) ≤ maxLen := by rw [dat_size]; have := h.few; unfold maxLen; omega
  have hbytes : Maps.size (dat s.fs) * 16 ≤ 140737488355328 := by rw [dat_size]; have := h.few; omega
  clear h
  refine (callsIn_wide (n := 6)).1 ?_
  have hfK : Fence.wide.fn 48 := trivial
  have hfS : Fence.wide.fn 47 := trivial
  have hfM : Fence.wide.fn 17 := trivial
  refine callsIn_of_wp Tryz.func23 rfl trivial ?_ rfl
  simp only [Tryz.ntmps23, List.size_toArray, List.length_cons, List.length_nil, Nat.reduceAdd, Nat.reduceSub, Array.replicate_succ, Array.replicate_zero, List.push_toArray, List.append_toArray, List.nil_append, List.cons_append]
  gi_wp2_with (first
    | (gi_at_call 17; refine ((callsIn_wide (n := 5)).2 HM.out).mono ?_; rintro e w' ⟨rfl, rfl⟩)
    | (gi_at_call 48; refine (Tryz.maps_Keys_48 _ _).mono ?_; rintro e w' ⟨rfl, rfl⟩)
    | (gi_at_call 47; refine (Tryz.slices_Sorted_keys_47_48 M s.fs.length (dat s.fs) flR w H.out.map hmax hbytes).mono ?_; rintro e w' ⟨v, ss, rfl, hS, hrow, hnil, hb⟩))
  go_ret
  rw [dat_keys] at hS
  have hl := hS.length_eq
  rw [List.length_map] at hl
  rw [sorted_names H.out hS, hl] at hrow
  refine ⟨v, rfl, own_base hrow (by simp), (Fr.alloc No w _).no_trans (Fr.of_below hb)⟩
end Go.Proofs.YtggejecmhfafoaaGreatDoor

/-
  The document's root words, as it prints them, are the program's. No statement of the seat is proved here.
-/
import Derived.Test.YtgdcjealhbfnaaaDoorRfB
namespace Go.Proofs.YtgdcjealhbfnaaaDoor
open Go.RowKit

def dsC : List Nat := [4, 2, 8, 10, 2, 15, 9, 8, 7, 1, 3, 7, 4, 4, 9, 1, 11, 5, 12, 0, 15, 11, 12, 15, 14, 9, 11, 5, 13, 11, 10, 5, 3, 9, 5, 6, 12, 2, 5, 11, 5, 9, 15, 1, 1, 1, 15, 1, 9, 2, 3, 15, 8, 2, 10, 4, 10, 11, 1, 12, 5, 14, 13, 5, 13, 8, 0, 7, 10, 10, 9, 8, 1, 2, 8, 3, 5, 11, 0, 1, 2, 4, 3, 1, 8, 5, 11, 14, 5, 5, 0, 12, 7, 13, 12, 3, 7, 2, 11, 14, 5, 13, 7, 4, 8, 0, 13, 14, 11, 1, 15, 14, 9, 11, 13, 12, 0, 6, 10, 7, 12, 1, 9, 11, 15, 1, 7, 4, 14, 4, 9, 11, 6, 9, 12, 1, 14, 15, 11, 14, 4, 7, 8, 6, 0, 15, 12, 1, 9, 13, 12, 6, 2, 4, 0, 12, 10, 1, 12, 12, 2, 13, 14, 9, 2, 12, 6, 15, 4, 10, 7, 4, 8, 4, 10, 10, 5, 12, 11, 0, 10, 9, 13, 12, 7, 6, 15, 9, 8, 8, 13, 10, 9, 8, 3, 14, 5, 1, 5, 2, 10, 8, 3, 1, 12, 6, 6, 13, 11, 0, 0, 3, 2, 7, 12, 8, 11, 15, 5, 9, 7, 15, 12, 7, 12, 6, 14, 0, 0, 11, 15, 3, 13, 5, 10, 7, 9, 1, 4, 7, 0, 6, 12, 10, 6, 3, 5, 1, 1, 4, 2, 9, 2, 9, 6, 7, 2, 7, 11, 7, 0, 10, 8, 5, 2, 14, 1, 11, 2, 1, 3, 8, 4, 13, 2, 12, 6, 13, 15, 12, 5, 3, 3, 8, 0, 13, 1, 3, 6, 5, 0, 10, 7, 3, 5, 4, 7, 6, 6, 10, 0, 10, 11, 11, 8, 1, 12, 2, 12, 9, 2, 14, 9, 2, 7, 2, 2, 12, 8, 5, 10, 2, 11, 15, 14, 8, 10, 1, 10, 8, 1, 10, 6, 6, 4, 11, 12, 2, 4, 11, 8, 11, 7, 0, 12, 7, 6, 12, 5, 1, 10, 3, 13, 1, 9, 2, 14, 8, 1, 9, 13, 6, 9, 9, 0, 6, 2, 4, 15, 4, 0, 14, 3, 5, 8, 5, 1, 0, 6, 10, 10, 0, 7, 0, 1, 9, 10, 4, 12, 1, 1, 6, 1, 14, 3, 7, 6, 12, 0, 8, 2, 7, 4, 8, 7, 7, 4, 12, 3, 4, 11, 0, 11, 12, 11, 5, 3, 9, 1, 12, 0, 12, 11, 3, 4, 14, 13, 8, 10, 10, 4, 10, 5, 11, 9, 12, 12, 10, 4, 15, 6, 8, 2, 14, 6, 15, 15, 3, 7, 4, 8, 15, 8, 2, 14, 14, 7, 8, 10, 5, 6, 3, 6, 15, 8, 4, 12, 8, 7, 8, 1, 4, 8, 12, 12, 7, 0, 2, 0, 8, 9, 0, 11, 14, 15, 15, 15, 10, 10, 4, 5, 0, 6, 12, 14, 11, 11, 14, 15, 9, 10, 3, 15, 7, 12, 6, 7, 1, 7, 8, 15, 2]
def dsQ : List Nat := [6, 10, 0, 9, 14, 6, 6, 7, 11, 11, 6, 7, 10, 14, 8, 5, 3, 12, 6, 14, 15, 3, 7, 2, 10, 5, 4, 15, 15, 5, 3, 10, 5, 1, 0, 14, 5, 2, 7, 15, 9, 11, 0, 5, 6, 8, 8, 12, 1, 15, 8, 3, 13, 9, 10, 11, 5, 11, 14, 0, 12, 13, 1, 9]
theorem digits_16 (ds : List Nat) (h : ds.all (· < 16) = true) (j : Nat) : ds.getD j 0 < 16 := by
  rw [List.getD_eq_getElem?_getD]
  by_cases hj : j < ds.length
  · rw [List.getElem?_eq_getElem hj]
    have := List.all_eq_true.1 h _ (List.getElem_mem hj)
    simpa using this
  · rw [List.getElem?_eq_none (by omega)]
    decide
set_option maxRecDepth 100000 in
theorem dsC_16 : dsC.all (· < 16) = true := by decide +kernel
set_option maxRecDepth 100000 in
theorem dsQ_16 : dsQ.all (· < 16) = true := by decide +kernel
set_option maxRecDepth 100000 in
theorem cubes_print : ∀ i : Fin 64, accN dsC i.val 8 = (cubes.getD i.val 0).toNat := by decide +kernel
set_option maxRecDepth 100000 in
theorem squares_print : ∀ i : Fin 8, accN dsQ i.val 8 = (seats0.getD i.val 0).toNat := by decide +kernel
theorem text_digits (s : ByteArray) (ds : List Nat) (h : s.data.toList = ds.map hexDigit) (j : Nat) (hj : j < ds.length) : s.data.toList[j]? = some (hexDigit (ds.getD j 0)) := by
  rw [h, List.getElem?_map, List.getD_eq_getElem?_getD, List.getElem?_eq_getElem hj]
  rfl
set_option maxRecDepth 100000 in
theorem cube_any (s : ByteArray) (h : s.data.toList = dsC.map hexDigit) (t : Nat) (w : World) (ht : t < 64) :
    Calls Tryd.prog 17 #[.string s, .int .i64 (t : Int)] w fun e w' => e = .returned (.int .u32 ((cubes.getD t 0).toNat : Int)) ∧ w = w' := by
  have := printed_any s dsC t w (digits_16 dsC dsC_16) (fun j hj => text_digits s dsC h j (by rw [show dsC.length = 512 by decide +kernel]; omega)) ht
  rw [cubes_print ⟨t, ht⟩] at this
  exact this
set_option maxRecDepth 100000 in
theorem square_any (s : ByteArray) (h : s.data.toList = dsQ.map hexDigit) (t : Nat) (w : World) (ht : t < 8) :
    Calls Tryd.prog 17 #[.string s, .int .i64 (t : Int)] w fun e w' => e = .returned (.int .u32 ((seats0.getD t 0).toNat : Int)) ∧ w = w' := by
  have := printed_any s dsQ t w (digits_16 dsQ dsQ_16) (fun j hj => text_digits s dsQ h j (by rw [show dsQ.length = 64 by decide +kernel]; omega)) (by omega)
  rw [squares_print ⟨t, ht⟩] at this
  exact this
end Go.Proofs.YtgdcjealhbfnaaaDoor

/-
  The document's disk in a world: its files, Find, Used, New, Arm. No statement of the seat is proved here.
-/
import Derived.Test.YtnkgcafebmacjaaDtA
namespace Go.Proofs.Ytnkgcafebmacjaa
open Go.RowKit Go.Maps

/-- A slice of files: at each place a name, a slice of bytes, a number. -/
structure Rk (w : World) (A : Option Addr) (n : Nat) (fs : List Fl) : Prop where
  len : fs.length = n
  at_ : 0 < n → ∃ b o, A = some ⟨b, o, none⟩ ∧ b < w.heap.size ∧ ∀ j f, fs[j]? = some f → w.cell? ⟨b, o + j * 3, none⟩ = some (.string ⟨f.nm.toArray⟩) ∧ w.cell? ⟨b, o + j * 3 + 1, none⟩ = some (.slice f.A f.bs.length f.c) ∧ w.cell? ⟨b, o + j * 3 + 2, none⟩ = some (.int .i64 (f.fm : Int))
  rd : ∀ f ∈ fs, Rd w w.heap.size f.A f.bs.length f.bs
section
variable {w w' : World} {A : Option Addr} {n : Nat} {fs : List Fl}
theorem Rk.nil (w : World) : Rk w none 0 [] := ⟨rfl, fun h => by omega, fun f hf => by cases hf⟩
set_option maxRecDepth 100000 in
theorem Rk.no (h : Rk w A n fs) (hf : Fr No w w') : Rk w' A n fs := by
  refine ⟨h.len, fun hn => ?_, fun f hm => (hf.rd (Nat.le_refl _) (h.rd f hm)).more hf.size⟩
  obtain ⟨b, o, e, hb, hc⟩ := h.at_ hn
  refine ⟨b, o, e, Nat.lt_of_lt_of_le hb hf.size, fun j f hj => ?_⟩
  obtain ⟨c0, c1, c2⟩ := hc j f hj
  exact ⟨hf.cell c0 (fun e => e), hf.cell c1 (fun e => e), hf.cell c2 (fun e => e)⟩
end
set_option maxRecDepth 100000 in
theorem rfind_any {w : World} {A : Option Addr} {n c : Nat} {fs : List Fl} (h : Rk w A n fs) (hn : n ≤ 1000) (mo lf : Int) (dn : Bool) (nm : ByteArray) :
    Calls Try.prog 25 #[.agg #[.int .i64 mo, .slice A n c, .int .i64 lf, .bool dn], .string nm] w fun e w' =>
      ∃ z : Int, e = .returned (.int .i64 z) ∧ Fr No w w' ∧ ((z = -1 ∧ ∀ f ∈ fs, f.nm ≠ nm.data.toList) ∨ (∃ (i : Nat) (f : Fl), fs[i]? = some f ∧ f.nm = nm.data.toList ∧ z = (i : Int))) := by
  have H := Lib.hid (h.no (Fr.alloc No w (.cells #[.int .i64 mo, .slice A n c, .int .i64 lf, .bool dn] 29)))
  have HLN := Lib.hid h.len
  have hw0 : IntKind.i64.wrap ((n : Int) - 1) = (n : Int) - 1 := IntWalk.i64_in _ (by omega)
  clear h
  go_enter Try.func25, Try.ntmps25
  go_wp2_with fail
  go_loop [5] (fun u => ∃ z : Int, -1 ≤ z ∧ z < n ∧ u = .int .i64 z ∧ Hid (∀ (j : Nat) f, z < j → fs[j]? = some f → f.nm ≠ nm.data.toList)) (fun u => (intOf u + 1).toNat)
  case atStart => exact ⟨_, by omega, by omega, rfl, fun j f hj hf => by have := (List.getElem?_eq_some_iff.1 hf).1; have := HLN.out; omega⟩
  case round =>
    obtain ⟨z, hz, hzn, rfl, hall⟩ := hrel
    by_cases h0 : 0 ≤ z
    · obtain ⟨i, rfl⟩ : ∃ i : Nat, z = (i : Int) := ⟨z.toNat, by omega⟩
      obtain ⟨f, hf⟩ : ∃ f, fs[i]? = some f := ⟨_, List.getElem?_eq_getElem (by have := HLN.out; omega)⟩
      obtain ⟨b, o, rfl, hb, hc⟩ := H.out.at_ (by omega)
      obtain ⟨c0, _, _⟩ := hc i f hf
      have HF := Lib.hid hf
      have hwz : IntKind.i64.wrap ((i : Int) - 1) = (i : Int) - 1 := IntWalk.i64_in _ (by omega)
      have hin : i < n := by omega
      obtain ⟨tx, HTX⟩ : ∃ tx : ByteArray, Hid ((⟨f.nm.toArray⟩ : ByteArray) = tx) := ⟨_, rfl⟩
      rw [HTX.out] at c0
      clear hc hf
      by_cases heq : tx = nm
      · subst heq
        go_wp2_with fail
        go_ret
        exact ⟨_, rfl, Fr.alloc _ _ _, .inr ⟨i, f, HF.out, by rw [← HTX.out], rfl⟩⟩
      · have hbq : (tx.toList == nm.toList) = false := by
          rw [beq_eq_false_iff_ne, ByteArray.toList_eq, ByteArray.toList_eq]
          exact fun e => heq (ByteArray.ext (Array.toList_inj.1 e))
        go_wp2_with fail
        go_round
        case rel => exact ⟨(i : Int) - 1, by omega, by omega, by go_num, fun j g hj hg => by
          by_cases hji : j = i
          · subst hji
            rw [HF.out] at hg
            injection hg with hg
            intro e
            apply heq
            rw [← HTX.out, hg, e]
          · exact hall.out j g (by omega) hg⟩
        case measure => simp [intOf]
    · have hz1 : z = -1 := by omega
      subst hz1
      go_wp2_with fail
      go_ret
      exact ⟨_, rfl, Fr.alloc _ _ _, .inl ⟨rfl, fun f hf => by
        obtain ⟨j, hj, e⟩ := List.getElem_of_mem hf
        exact hall.out j f (by omega) (by rw [List.getElem?_eq_getElem hj, e])⟩⟩
set_option maxRecDepth 100000 in
theorem rused_any {w : World} {A : Option Addr} {n c : Nat} {fs : List Fl} (h : Rk w A n fs) (hn : n ≤ 1000) (hu : used fs ≤ 100000000) (mo lf : Int) (dn : Bool) :
    Calls Try.prog 40 #[.agg #[.int .i64 mo, .slice A n c, .int .i64 lf, .bool dn]] w fun e w' => e = .returned (.int .i64 (used fs : Int)) ∧ Fr No w w' := by
  have H := Lib.hid (h.no (Fr.alloc No w (.cells #[.int .i64 mo, .slice A n c, .int .i64 lf, .bool dn] 29)))
  have HLN := Lib.hid h.len
  have HU := Lib.hid hu
  clear h hu
  go_enter Try.func40, Try.ntmps40
  go_wp2_with fail
  go_loop [3, 4] (fun us ui => ∃ i : Nat, i ≤ n ∧ us = .int .i64 (used (fs.take i) : Int) ∧ ui = .int .i64 (i : Int)) (fun _ ui => n - (intOf ui).toNat)
  case atStart => exact ⟨0, by omega, rfl, rfl⟩
  case round =>
    obtain ⟨i, hi, rfl, rfl⟩ := hrel
    by_cases hlt : i < n
    · obtain ⟨f, hf⟩ : ∃ f, fs[i]? = some f := ⟨_, List.getElem?_eq_getElem (by have := HLN.out; omega)⟩
      obtain ⟨b, o, rfl, hb, hc⟩ := H.out.at_ (by omega)
      obtain ⟨_, c1, _⟩ := hc i f hf
      have HST := Lib.hid (show used (fs.take (i + 1)) = used (fs.take i) + f.bs.length by rw [List.take_add_one, hf]; simp [used])
      have hle : used (fs.take (i + 1)) ≤ used fs := by
        have e : used fs = used (fs.take (i + 1)) + used (fs.drop (i + 1)) := by
          unfold used
          rw [← List.sum_append, ← List.map_append, List.take_append_drop]
        omega
      have hws : IntKind.i64.wrap ((used (fs.take i) : Int) + (f.bs.length : Int)) = ((used (fs.take (i + 1)) : Nat) : Int) := by
        have := HU.out
        rw [HST.out] at hle ⊢
        rw [← Int.natCast_add]
        exact IntWalk.i64_in _ (by omega)
      have hwi : IntKind.i64.wrap ((i : Int) + 1) = ((i + 1 : Nat) : Int) := by
        rw [show ((i : Int) + 1) = ((i + 1 : Nat) : Int) by omega]
        exact IntWalk.i64_in _ (by omega)
      clear hc hf hle
      go_wp2_with fail
      go_round
      case rel => exact ⟨i + 1, by omega, by rw [HST.out, Int.natCast_add], by go_num⟩
      case measure => simp [intOf]; omega
    · have hie : i = n := by omega
      subst hie
      have hall : fs.take i = fs := by rw [List.take_of_length_le (by have := HLN.out; omega)]
      rw [hall]
      go_wp2_with fail
      go_ret
      exact ⟨rfl, Fr.alloc _ _ _⟩
end Go.Proofs.Ytnkgcafebmacjaa

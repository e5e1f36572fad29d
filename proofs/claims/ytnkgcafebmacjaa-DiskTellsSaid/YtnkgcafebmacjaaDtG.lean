/-
  The document's disk: Read. No statement of the seat is proved here.
-/
import Derived.Test.YtnkgcafebmacjaaDtF
namespace Go.Proofs.Ytnkgcafebmacjaa
open Go.RowKit Go.Maps

/-- What Read of the document's disk tells. -/
def Rdd (fs : List Fl) (dn : Bool) (nm : List UInt8) (v : Value) (x : Int) : Prop :=
  (dn = true ∧ v = .slice none 0 0 ∧ x = 15) ∨ (dn = false ∧ (∀ f ∈ fs, f.nm ≠ nm) ∧ v = .slice none 0 0 ∧ x = 13) ∨ (dn = false ∧ ∃ (i : Nat) (f : Fl), fs[i]? = some f ∧ f.nm = nm ∧ v = .slice f.A f.bs.length f.c ∧ x = 0)
set_option maxRecDepth 100000 in
theorem rread_any {w : World} {A : Option Addr} {n c : Nat} {fs : List Fl} (h : Rk w A n fs) (hn : n ≤ 1000) (mo lf : Int) (dn : Bool) (nm : ByteArray) :
    Calls Try.prog 23 #[.agg #[.int .i64 mo, .slice A n c, .int .i64 lf, .bool dn], .string nm] w fun e w' =>
      ∃ v x, e = .returned (.tuple #[v, .int .i64 x]) ∧ Fr No w w' ∧ Rdd fs dn nm.data.toList v x := by
  have hf0 := Fr.alloc No w (.cells #[.int .i64 mo, .slice A n c, .int .i64 lf, .bool dn] 29)
  have HAS := Lib.hid (rask_any (c := c) (h.no hf0) hn mo lf dn nm)
  have H := Lib.hid (h.no hf0)
  clear h
  go_enter Try.func23, Try.ntmps23
  go_wp2_with fail
  refine HAS.out.mono ?_
  rintro e w1 ⟨z, rfl, hf, hz⟩
  have hc1 : w1.cell? ⟨w.heap.size, 1, none⟩ = some (.slice A n c) := hf.cell (by unfold World.cell?; rw [heap_alloc_new]; rfl) (fun e => e)
  have HF := Lib.hid (hf0.no_trans hf)
  have HK := Lib.hid (H.out.no hf)
  have HZ := Lib.hid hz
  have HLN := Lib.hid HK.out.len
  clear hf hz hf0 HAS H
  cases dn with
  | true =>
    go_wp2_with fail
    go_ret2
    exact ⟨_, _, rfl, HF.out, .inl ⟨rfl, rfl, rfl⟩⟩
  | false =>
    rcases HZ.out with ⟨rfl, hno⟩ | ⟨i, f, hi, hfn, rfl⟩
    · have hd : (if false = true then (15 : Int) else if (-1 : Int) < 0 then 13 else 0) = 13 := rfl
      rw [hd]
      go_wp2_with fail
      go_ret2
      exact ⟨_, _, rfl, HF.out, .inr (.inl ⟨rfl, hno, rfl, rfl⟩)⟩
    · have hd : (if false = true then (15 : Int) else if ((i : Nat) : Int) < 0 then 13 else 0) = 0 := by
        rw [if_neg (by simp), if_neg (by omega)]
      rw [hd]
      have hin : i < n := by have := (List.getElem?_eq_some_iff.1 hi).1; have := HLN.out; omega
      obtain ⟨b, o, rfl, hb, hc⟩ := HK.out.at_ (by omega)
      obtain ⟨_, c1, _⟩ := hc i f hi
      have hi1 : (i : Int) < (n : Int) := by omega
      have HI := Lib.hid hi
      clear hc hd hi HZ
      go_wp2_with fail
      go_ret2
      exact ⟨_, _, rfl, HF.out, .inr (.inr ⟨rfl, i, f, HI.out, hfn, rfl, rfl⟩)⟩
end Go.Proofs.Ytnkgcafebmacjaa

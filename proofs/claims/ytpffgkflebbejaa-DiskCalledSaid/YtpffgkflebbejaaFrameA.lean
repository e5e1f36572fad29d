/-
  An array of six bytes, and a list of pairs of bytes, that came in, opened. No statement of the seat is proved here.
-/
import Derived.Test.YtpffgkflebbejaaFrameD
namespace Go.Proofs.Ytpffgkflebbejaa
open Go.ChangeShapes Go.WideShapes Go.ChangeAt Go.RowKit Go.Deep

set_option maxRecDepth 100000 in
theorem cells_arr6 : Try.prog.cellsOf 53 = 6 := by kernel_rfl
set_option maxRecDepth 100000 in
theorem cells_arr2 : Try.prog.cellsOf 56 = 2 := by kernel_rfl
set_option maxRecDepth 100000 in
theorem open_arr6 {H : Type} {enc : TypeId × Value → H} {W : World} {held : Bool} {v : Value} {d : DataW H} {p : List MemPlace} {base : Nat} {r : Reach} {b0 : Nat}
    (hv : Value.okWide Try.prog W r b0 53 v) (h : DataW.Trod enc Try.prog W base (fun _ => true) held 53 v d p) : ∃ l : List UInt8, v = .agg (bvs l).toArray ∧ l.length = 6 := by
  have hs : ∃ cs, v = .agg cs ∧ cs.size = Try.prog.cellsOf 53 := by
    simp only [Value.okWide, Try.underlying53] at hv
    obtain ⟨cs, h1, h2, _⟩ := hv
    exact ⟨cs, h1, h2⟩
  obtain ⟨cs, rfl, hsz⟩ := hs
  rw [cells_arr6] at hsz
  obtain ⟨fuel, hf⟩ := h
  obtain ⟨xs, m, _, _, _, hxl, hx⟩ := DataW.trod_array Try.underlying53 hf
  rw [cells_u8] at hx
  have hall : ∀ i (hi : i < cs.size), ∃ z : Int, cs[i] = .int .u8 z ∧ 0 ≤ z ∧ z ≤ 255 := by
    intro i hi
    have h1 := hx i (by omega)
    have hxi : i < xs.length := by omega
    rw [List.getElem?_eq_getElem hxi] at h1
    obtain ⟨z, hz, _, hw⟩ := DataW.trod_int Try.underlying5 h1
    have hb := bounds_u8 hw
    refine ⟨z, ?_, hb.1, hb.2⟩
    have hcl : (Value.agg cs).cells = cs := rfl
    rw [hcl, Nat.mul_one, List.drop_eq_getElem_cons (by simpa using hi), List.take_succ_cons, List.take_zero] at hz
    have := (List.cons.inj hz).1
    simpa using this
  refine ⟨cs.toList.map (fun v => match v with | .int _ z => UInt8.ofNat z.toNat | _ => 0), ?_, by simp [hsz]⟩
  congr 1
  apply Array.ext
  · simp [bvs]
  · intro i h1 h2
    obtain ⟨z, hz, h0, h255⟩ := hall i h1
    simp only [bvs, List.map_map, List.getElem_toArray, List.getElem_map, Function.comp, Array.getElem_toList, hz, UInt8.toNat_ofNat']
    congr 1
    omega
/-- Two bytes, as they stand in cells. -/
def PrAt (W : World) (a : Addr) (x : Nat × Nat) : Prop := W.cell? a = some (.int .u8 (x.1 : Int)) ∧ W.cell? (a.add 1) = some (.int .u8 (x.2 : Int))
set_option maxRecDepth 100000 in
theorem open_pairs {H : Type} {enc : TypeId × Value → H} {W : World} {held : Bool} {A : Option Addr} {n c : Nat} {d : DataW H} {p : List MemPlace} {base : Nat}
    (h : DataW.Trod enc Try.prog W base (fun _ => true) held 54 (Value.slice A n c) d p) : n ≤ c ∧ c ≤ maxLen ∧ ∃ xs, RowOf W 2 (PrAt W) A n xs := by
  refine open_row 2 (PrAt W) Try.underlying54 cells_arr2 (fun a cs fuel x hc hx => ?_) (fun a y hy => ⟨_, hy.1⟩) h
  obtain ⟨_, hlen, hat⟩ := World.cells?_some hc
  obtain ⟨xs, m, _, _, _, hxl, hx⟩ := DataW.trod_array Try.underlying56 hx
  rw [cells_u8] at hx
  match cs, hlen with
  | [u0, u1], _ =>
    have c0 := hat 0 (by omega)
    have c1 := hat 1 (by omega)
    have f0 := hx 0 (by omega)
    have f1 := hx 1 (by omega)
    rw [List.getElem?_eq_getElem (by omega)] at f0 f1
    obtain ⟨k0, e0, _, w0⟩ := DataW.trod_int Try.underlying5 f0
    obtain ⟨k1, e1, _, w1⟩ := DataW.trod_int Try.underlying5 f1
    have q0 : u0 = .int .u8 k0 := by simpa using e0
    have q1 : u1 = .int .u8 k1 := by simpa using e1
    subst q0 q1
    have b0 := bounds_u8 w0
    have b1 := bounds_u8 w1
    refine ⟨(k0.toNat, k1.toNat), ?_, ?_⟩
    · have e : ((k0.toNat : Nat) : Int) = k0 := by omega
      show _ = some (Value.int .u8 ((k0.toNat : Nat) : Int))
      rw [e]
      have ea : a.add 0 = a := by obtain ⟨b, o, sp⟩ := a; simp [Addr.add]
      rw [ea] at c0
      simpa using c0
    · have e : ((k1.toNat : Nat) : Int) = k1 := by omega
      show _ = some (Value.int .u8 ((k1.toNat : Nat) : Int))
      rw [e]
      simpa using c1
end Go.Proofs.Ytpffgkflebbejaa

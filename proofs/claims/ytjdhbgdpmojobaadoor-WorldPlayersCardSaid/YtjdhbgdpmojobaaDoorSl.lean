/-
  Parts of slices of bytes, bytes as a text, a text as bytes. No statement of the seat is proved here.
-/
import Derived.Test.YtjdhbgdpmojobaaDoorPut
namespace Go.Proofs.YtjdhbgdpmojobaaDoor
open Go.RowKit

theorem own_mono {w : World} {B B' : Nat} {e : TypeId} {size n : Nat} {v : Value} {xs : List Value} (h : w.ownsRow B' e size v n xs) (hB : B ≤ B') : w.ownsRow B e size v n xs := by
  refine ⟨h.1, ?_⟩
  rcases h.2 with hv | ⟨g, cap, cur, hv, hg, hr⟩
  · exact .inl hv
  · exact .inr ⟨g, cap, cur, hv, Nat.le_trans hB hg, hr⟩
theorem own_shape {w : World} {B n : Nat} {e : TypeId} {v : Value} {xs : List Value} (h : w.ownsRow B e 1 v n xs) : ∃ A c, v = .slice A n c ∧ n ≤ c ∧ c ≤ maxLen := by
  rcases h.2 with ⟨rfl, rfl⟩ | ⟨g, cap, cur, rfl, _, _, h1, h2, _⟩
  · exact ⟨none, 0, rfl, Nat.le_refl _, Nat.zero_le _⟩
  · exact ⟨_, cap, rfl, h1, h2⟩
theorem Rd.new (w : World) (l : List UInt8) (cs : Array Value) (h : cs.toList = bvs l) (fr : Nat × Nat) : Rd (w.alloc (.cells cs 5 fr)) (w.heap.size + 1) (some ⟨w.heap.size, 0, none⟩) l.length l := by
  refine ⟨rfl, fun _ => ⟨w.heap.size, 0, rfl, by omega, fun j hj => ?_⟩⟩
  rw [World.cell?_alloc_mark, ← Array.getElem?_toList, h, Nat.zero_add, bvs_at l j hj]
theorem Rd.cut {w : World} {B n c p hi : Nat} {A : Option Addr} {l : List UInt8} (h : Rd w B A n l) (hc : n ≤ c) (h1 : p ≤ hi) (h2 : hi ≤ n) :
    Rd w B (if c = p then A else A.map (·.add p)) (hi - p) ((l.drop p).take (hi - p)) := by
  have hl := h.len
  refine ⟨by rw [List.length_take, List.length_drop]; omega, fun hn => ?_⟩
  obtain ⟨b, o, rfl, hb, hcell⟩ := h.2 (by omega)
  rw [if_neg (by omega)]
  refine ⟨b, o + p, by simp [Addr.add_lit], hb, fun j hj => ?_⟩
  have hj' : j < hi - p := by rw [List.length_take] at hj; omega
  rw [Nat.add_assoc, hcell (p + j) (by omega)]
  simp
set_option maxRecDepth 100000 in
/-- A part of a slice of bytes, as the model cuts it; what it reads as. -/
theorem cut_rule {w : World} {B n c p hi : Nat} {A : Option Addr} {l : List UInt8} (z : Int) (hz : z = (hi : Int)) (h : Rd w B A n l) (hc : n ≤ c) (h1 : p ≤ hi) (h2 : hi ≤ n) :
    ∃ A' c', (∀ W : World, (Instr.slice 47 (.slice A n c) (some (.int .i64 (p : Int))) (some (.int .i64 z)) none).run Tryd.prog W = .ok (.slice A' (hi - p) c') W) ∧ Rd w B A' (hi - p) ((l.drop p).take (hi - p)) ∧ hi - p ≤ c' := by
  obtain ⟨i0, hi0, hz0, hz1, hz2⟩ := info_parts info_u8
  refine ⟨_, c - p, fun W => ?_, h.cut hc h1 h2, by omega⟩
  subst hz
  rw [run_slice_lh W 47 A n c Tryd.underlying47 .i64 .i64 (p : Int) (hi : Int) (by omega) (by omega) (by omega)]
  have he : Tryd.prog.elem 47 = 5 := by simp [Program.elem, Tryd.underlying47]
  rw [he]
  simp [sizeOf, typeInfo, hi0, hz1, sliced]
set_option maxRecDepth 100000 in
theorem pre_rule {w : World} {B n c hi : Nat} {A : Option Addr} {l : List UInt8} (z : Int) (hz : z = (hi : Int)) (h : Rd w B A n l) (hc : n ≤ c) (h2 : hi ≤ n) :
    ∃ A' c', (∀ W : World, (Instr.slice 47 (.slice A n c) none (some (.int .i64 z)) none).run Tryd.prog W = .ok (.slice A' hi c') W) ∧ Rd w B A' hi (l.take hi) ∧ hi ≤ c' := by
  obtain ⟨i0, hi0, hz0, hz1, hz2⟩ := info_parts info_u8
  have hcut := h.cut hc (Nat.zero_le hi) h2
  refine ⟨(if c = 0 then A else A.map (·.add 0)), c, fun W => ?_, by simpa using hcut, by omega⟩
  subst hz
  rw [run_slice_h W 47 A n c Tryd.underlying47 .i64 (hi : Int) (by omega) (by omega)]
  have he : Tryd.prog.elem 47 = 5 := by simp [Program.elem, Tryd.underlying47]
  rw [he]
  simp [sizeOf, typeInfo, hi0, hz1, sliced]
set_option maxRecDepth 100000 in
theorem post_rule {w : World} {B n c p : Nat} {A : Option Addr} {l : List UInt8} (z : Int) (hz : z = (p : Int)) (h : Rd w B A n l) (hc : n ≤ c) (h1 : p ≤ n) :
    ∃ A' c', (∀ W : World, (Instr.slice 47 (.slice A n c) (some (.int .i64 z)) none none).run Tryd.prog W = .ok (.slice A' (n - p) c') W) ∧ Rd w B A' (n - p) (l.drop p) ∧ n - p ≤ c' := by
  obtain ⟨i0, hi0, hz0, hz1, hz2⟩ := info_parts info_u8
  have hcut := h.cut hc h1 (Nat.le_refl n)
  have hl := h.len
  rw [List.take_of_length_le (by rw [List.length_drop]; omega)] at hcut
  refine ⟨(if c = p then A else A.map (·.add p)), c - p, fun W => ?_, hcut, by omega⟩
  subst hz
  rw [run_slice_l W 47 A n c Tryd.underlying47 .i64 (p : Int) (by omega) (by omega)]
  have he : Tryd.prog.elem 47 = 5 := by simp [Program.elem, Tryd.underlying47]
  rw [he]
  simp [sizeOf, typeInfo, hi0, hz1, sliced]
set_option maxRecDepth 100000 in
/-- Bytes as a text. -/
theorem str_rule {w : World} {B n : Nat} {A : Option Addr} {l : List UInt8} (c : Nat) (h : Rd w B A n l) : (convert 47 9 (.slice A n c)).run Tryd.prog w = .ok (.string ⟨l.toArray⟩) w := by
  obtain ⟨rfl, h2⟩ := h
  rcases A with _ | ad
  · have hl : l = [] := by
      cases l with
      | nil => rfl
      | cons x l => obtain ⟨b, o, h, _⟩ := h2 (by simp); cases h
    subst hl
    rw [run_convert_bytes_string w 47 9 5 none _ c Tryd.underlying47 Tryd.underlying5 Tryd.underlying9]
    simp [Conv.bytesToString]
    rfl
  · refine run_convert_bytes_back w 47 9 5 ad c l Tryd.underlying47 Tryd.underlying5 Tryd.underlying9 fun j hj => ?_
    obtain ⟨b, o, h, _, hc⟩ := h2 (by omega)
    injection h with h
    subst h
    rw [Addr.add_lit]
    exact hc j hj
/-- What a call leaves that answers bytes: a slice that is those bytes as a text, and reads so. -/
def Str (B : Nat) (w : World) (l : List UInt8) (e : Ending) (w' : World) : Prop :=
  ∃ A n c, e = .returned (.slice A n c) ∧ (convert 47 9 (.slice A n c)).run Tryd.prog w' = .ok (.string ⟨l.toArray⟩) w' ∧ n ≤ c ∧ Rd w' w'.heap.size A n l ∧ Below B w w'
theorem Put.str {B : Nat} {w w' : World} {l : List UInt8} {e : Ending} (h : Put B w l e w') : Str B w l e w' := by
  obtain ⟨v, rfl, ho, hb⟩ := h
  obtain ⟨A, c, rfl, hc, _⟩ := own_shape ho
  exact ⟨A, _, c, rfl, str_rule c (Rd.own ho), hc, Rd.own ho, hb⟩
/-- A text as bytes: what the conversion lays, and that it reads so. -/
theorem Rd.ofString (w : World) (s : ByteArray) (fr : Nat × Nat) (G : Nat) : Rd (w.alloc (.cells (bytesRow s G) 5 fr)) (w.heap.size + 1) (some ⟨w.heap.size, 0, none⟩) s.size s.data.toList := by
  refine ⟨by rw [Array.length_toList]; rfl, fun _ => ⟨w.heap.size, 0, rfl, by omega, fun j hj => ?_⟩⟩
  rw [World.cell?_alloc_mark, Nat.zero_add, bytesRow_at s G j (by simpa using hj)]
  rfl
theorem of_string (w : World) (s : ByteArray) : ∃ c w', (convert 9 47 (.string s)).run Tryd.prog w = .ok (.slice (some ⟨w.heap.size, 0, none⟩) s.size c) w' ∧ s.size ≤ c ∧
    Rd w' w'.heap.size (some ⟨w.heap.size, 0, none⟩) s.size s.data.toList ∧ Below w.heap.size w w' := by
  refine ⟨_, _, run_bytes_of_string (P := Tryd.prog) w 9 47 5 s Tryd.underlying9 Tryd.underlying47 Tryd.underlying5, grownCap_ge w _ _ _, ?_, ?_⟩
  · exact (Rd.ofString w.drew s _ _).more (by simp)
  · exact ((Below.refl _ _).drew).alloc (Nat.le_refl _) _
end Go.Proofs.YtjdhbgdpmojobaaDoor

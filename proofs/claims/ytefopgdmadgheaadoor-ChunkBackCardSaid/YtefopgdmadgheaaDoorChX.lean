/-
  Two cells picked; what Fill does to boxes; the walk of ChunkBoxes. No statement of the seat is proved here.
-/
import Derived.Test.YtefopgdmadgheaaDoorChV
import Derived.Test.YtefopgdmadgheaaDoorPik
namespace Go.Proofs.YtefopgdmadgheaaDoor
open Go.RowKit Go.Deep

theorem chs_iff {cs : List Nat} {a : Nat} (ha : a < cs.length) : (a : Int) ∈ chs 0 cs ↔ cs[a] = 9 := by
  rw [chs_at ha]
  constructor
  · intro h
    rcases List.mem_append.1 h with h1 | h1
    · exact absurd (chs_low _ h1) (by omega)
    · rcases List.mem_append.1 h1 with h2 | h2
      · split at h2
        · assumption
        · cases h2
      · exact absurd (chs_high _ h2) (by omega)
  · intro h
    rw [if_pos h]
    simp
theorem bagAt_boxes {cs : List Nat} (g : Int → List (Nat × Int)) {c : Int} (hc : c ∈ chs 0 cs) : bagAt (boxes cs g) c = g c := by
  have hs : ((boxes cs g).map Prod.fst).Pairwise (· < ·) := by
    unfold boxes
    rw [List.map_map]
    have : (Prod.fst ∘ fun c => (c, g c)) = (id : Int → Int) := rfl
    rw [this, List.map_id]
    exact chs_sorted _ _
  have := bagAt_mem hs (b := (c, g c)) (List.mem_map_of_mem hc)
  exact this
theorem boxes_fst (cs : List Nat) (g : Int → List (Nat × Int)) : (boxes cs g).map Prod.fst = chs 0 cs := by
  unfold boxes
  rw [List.map_map]
  have : (Prod.fst ∘ fun c => (c, g c)) = (id : Int → Int) := rfl
  rw [this, List.map_id]
theorem bagAt_nil {bs : List Bp} (P : List (Nat × Int) → Prop) (h0 : P []) (h : ∀ b ∈ bs, P b.2) (c : Int) : P (bagAt bs c) := by
  unfold bagAt
  cases hf : bs.find? (fun b => b.1 == c) with
  | none => exact h0
  | some b => exact h b (List.mem_of_find?_eq_some hf)
theorem Rgt.bag {d : Ck} (r : Rgt d) {c : Int} (hc : c ∈ chs 0 d.cs) : (bagAt d.bs c).length = 6 ∧ rgt (bagAt d.bs c) = true := by
  rw [← r.bc] at hc
  obtain ⟨b, hb, rfl⟩ := List.mem_map.1 hc
  rw [bagAt_mem r.srt hb]
  exact r.br b hb
theorem up_b {d : Ck} (hb : ByC d) (cs' : List Nat) {cell : Int} {l : List (Nat × Int)} (hl : By l) : ∀ b ∈ boxes cs' (upB d.bs cell l), By b.2 := fun b h => by
  obtain ⟨c, hc, rfl⟩ := List.mem_map.1 h
  show By (upB d.bs cell l c)
  unfold upB
  split
  · exact hl
  · exact bagAt_nil By (fun s hs => by cases hs) hb.b3 c
theorem fill_b {d : Ck} (hb : ByC d) {cell : Int} {l : List (Nat × Int)} (hl : By l) : ByC (fillCk d cell l) := by
  unfold fillCk
  split
  · exact ⟨hb.b1, hb.b2, up_b hb _ hl⟩
  · exact hb
theorem fill_r {d : Ck} (r : Rgt d) {cell : Int} {l : List (Nat × Int)} : Rgt (fillCk d cell l) := by
  unfold fillCk
  split
  · rename_i h
    have hl : l.length = 6 ∧ rgt l = true := by
      unfold fillE at h
      split at h
      · exact absurd h (by decide)
      · split at h
        · exact absurd h (by decide)
        · rename_i h2
          simpa using h2
    refine ⟨r.x0, r.x1, r.y0, r.y1, r.cl, r.cm, r.hl, r.hm, boxes_fst _ _, fun b hb => ?_⟩
    obtain ⟨c, hc, rfl⟩ := List.mem_map.1 hb
    show (upB d.bs cell l c).length = 6 ∧ rgt (upB d.bs cell l c) = true
    unfold upB
    split
    · exact hl
    · exact r.bag hc
  · exact r
/-- What is told of a box behind Fill. -/
theorem fill_box {d : Ck} {a b : Nat} (hb : b < d.cs.length) (l : List (Nat × Int)) :
    hasB (fillCk d (a : Int) l).cs (b : Int) = hasB d.cs (b : Int) ∧ (if hasB d.cs (b : Int) then bagAt (fillCk d (a : Int) l).bs (b : Int) else []) = (if a = b ∧ fillE d (a : Int) l = 0 then l else if hasB d.cs (b : Int) then bagAt d.bs (b : Int) else []) := by
  by_cases h0 : fillE d (a : Int) l = 0
  · have e : fillCk d (a : Int) l = { d with bs := boxes d.cs (upB d.bs (a : Int) l) } := by unfold fillCk; rw [if_pos h0]
    rw [e]
    refine ⟨rfl, ?_⟩
    cases hq : hasB d.cs (b : Int) with
    | true =>
      have h9 : d.cs[b] = 9 := by rw [hasB_nat hb] at hq; simpa using hq
      show bagAt (boxes d.cs (upB d.bs (a : Int) l)) (b : Int) = (if a = b ∧ fillE d (a : Int) l = 0 then l else bagAt d.bs (b : Int))
      rw [bagAt_boxes _ ((chs_iff hb).2 h9)]
      unfold upB
      by_cases hab : a = b
      · subst hab
        rw [if_pos rfl, if_pos ⟨rfl, h0⟩]
      · rw [if_neg (by omega), if_neg (fun h => hab h.1)]
    | false =>
      show [] = (if a = b ∧ fillE d (a : Int) l = 0 then l else [])
      rw [if_neg]
      rintro ⟨rfl, _⟩
      unfold fillE at h0
      rw [hq, if_pos rfl] at h0
      exact absurd h0 (by decide)
  · have e : fillCk d (a : Int) l = d := by unfold fillCk; rw [if_neg h0]
    rw [e]
    refine ⟨rfl, ?_⟩
    have hn : ¬ (a = b ∧ fillE d (a : Int) l = 0) := fun h => h0 h.2
    cases hq : hasB d.cs (b : Int) with
    | true =>
      show bagAt d.bs (b : Int) = (if a = b ∧ fillE d (a : Int) l = 0 then l else bagAt d.bs (b : Int))
      rw [if_neg hn]
    | false =>
      show [] = (if a = b ∧ fillE d (a : Int) l = 0 then l else [])
      rw [if_neg hn]
section
variable {w w' : World} {lo : Nat} {C : Ch}
end
end Go.Proofs.YtefopgdmadgheaaDoor

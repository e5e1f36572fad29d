/-
  What the cards of layer 1 share: the table as the row lists it, a world for the witness. No statement of the seat is proved here.
-/
import Derived.Test.YtbiglickijmmhaaDoorAwake
import Derived.Test.YtbiglickijmmhaaDoorCards
import Derived.Test.YtbiglickijmmhaaDoorTie
import Derived.ProofKit
import Derived.OpenShut
import Derived.ChangeOld
import Derived.Deep.DeepHandedRow
import Derived.Lib.LaidTab
namespace Go.Proofs.YtbiglickijmmhaaDoor
open Go.ChangeShapes Go.WideShapes Go.ChangeAt Go.RowKit

theorem own : ownKnob Tryd.prog.godebug = none := by kernel_rfl
theorem laidOut : laidOutB Tryd.prog = true := by kernel_rfl
theorem gTab : Tryd.prog.globalNamed "homestead/bytes.fourSteps" = some 0 := by kernel_rfl
theorem gTabType : (Tryd.prog.globals[0]?).map (·.type) = some 56 := by kernel_rfl
theorem cells_tab : Tryd.prog.cellsOf 56 = 16 := by kernel_rfl
theorem cells_u32 : Tryd.prog.cellsOf 29 = 1 := by kernel_rfl
theorem cells_u8 : Tryd.prog.cellsOf 5 = 1 := by kernel_rfl

def tabInt : List Int := [0, 498536548, 997073096, 651767980, 1994146192, 1802195444, 1303535960, 1342533948, 3988292384, 4027552580, 3604390888, 3412177804, 2607071920, 2262029012, 2685067896, 3183342108]
/-- What the rows' list gives: the table's cells hold its sixteen numbers. -/
theorem table {W : World} (h : laidMetH Tryd.prog [("homestead/bytes.fourSteps", Rows.laid_homestead_bytes_fourSteps)] W) : Tab W := by
  have ht : Lib.TabIs Tryd.prog W "homestead/bytes.fourSteps" .u32 tabInt :=
    Lib.tabIs_of_head (rest := []) gTab gTabType Tryd.underlying56 Tryd.underlying29 cells_u32 cells_tab h
  intro k hk
  have hc := ht.cell gTab k (by simpa [tabInt] using hk)
  rw [hc]
  have : ∀ j : Fin 16, tabInt.getD j.val 0 = (tabAt j.val : Int) := by decide
  have h2 := this ⟨k, hk⟩
  simp only at h2
  rw [← h2]

/-- A world for the witness: the settled one, the table (block 0) holding what its initialiser lays. -/
noncomputable def laidWorld (os : Os) : World :=
  { World.holding Tryd.prog os ⟨#[], #[], []⟩ with heap := (World.holding Tryd.prog os ⟨#[], #[], []⟩).heap.modify 0 fun
      | .cells _ t frozen => .cells #[.int .u32 0, .int .u32 498536548, .int .u32 997073096, .int .u32 651767980, .int .u32 1994146192, .int .u32 1802195444, .int .u32 1303535960, .int .u32 1342533948, .int .u32 3988292384, .int .u32 4027552580, .int .u32 3604390888, .int .u32 3412177804, .int .u32 2607071920, .int .u32 2262029012, .int .u32 2685067896, .int .u32 3183342108] t frozen
      | o => o }

/-- A slice of bytes that came in, opened: what it reads as, below the heap's end. -/
theorem open_bytes {H : Type} {enc : TypeId × Value → H} {W : World} {held : Bool} {A : Option Addr} {n c : Nat} {d : DataW H} {p : List MemPlace} {base : Nat}
    (h : DataW.Trod enc Tryd.prog W base (fun _ => true) held 23 (Value.slice A n c) d p) : n ≤ c ∧ c ≤ maxLen ∧ ∃ l, Rd W W.heap.size A n l := by
  obtain ⟨fuel, hf⟩ := h
  rcases open_ints Tryd.underlying23 Tryd.underlying5 cells_u8 hf with ⟨hcs, _⟩ | ⟨x, l, c', zs, hcs, _, hl, hm, hz, _, hcell, hwz⟩
  · simp [Value.cells] at hcs
    obtain ⟨rfl, rfl, rfl⟩ := hcs
    exact ⟨Nat.le_refl _, Nat.zero_le _, [], Rd.nil⟩
  · simp [Value.cells] at hcs
    obtain ⟨rfl, rfl, rfl⟩ := hcs
    have hzl : zs.length = c := by simpa using hz
    refine ⟨hl, hm, (zs.take n).map (fun z => UInt8.ofNat z.toNat), by simp; omega, fun hn => ?_⟩
    have h0 := hcell 0 (by omega)
    obtain ⟨b, o, spot⟩ := x
    have hspot : spot = none := by simpa [Addr.add] using World.cell?_spot h0
    subst hspot
    refine ⟨b, o, rfl, World.block_lt_of_cell? W _ (by simpa [Addr.add_lit] using h0), fun j hj => ?_⟩
    have hj2 : j < n := by simp at hj; omega
    have hc := hcell j (by omega)
    rw [Addr.add_lit] at hc
    rw [hc]
    have hw := hwz _ (List.getElem_mem (show j < zs.length by omega))
    have hb := bounds_u8 hw
    simp only [List.getElem_map, List.getElem_take, UInt8.toNat_ofNat']
    congr 2
    rw [List.getD_eq_getElem?_getD, List.getElem?_eq_getElem (show j < zs.length by omega)]
    simp only [Option.getD_some]
    omega
end Go.Proofs.YtbiglickijmmhaaDoor

/-
  The world at first: any chunk; the chapter's examples: awake. No statement of the seat is proved here.
-/
import Derived.Test.YtjdhbgdpmojobaaDoorGnD
namespace Go.Proofs.YtjdhbgdpmojobaaDoor
open Go.RowKit Go.Deep

theorem w64_of {a : Int} (h0 : 0 ≤ a) (h1 : a ≤ 18446744073709551615) : ∃ x : W64, (x.toNat : Int) = a := ⟨BitVec.ofNat 64 a.toNat, by rw [BitVec.toNat_ofNat]; omega⟩
/-- Whether a chunk may be there. -/
def gin (x y : Int) : Prop := 0 ≤ x ∧ x < 16 ∧ 0 ≤ y ∧ y < 16
instance (x y : Int) : Decidable (gin x y) := by unfold gin; infer_instance
/-- A chunk at first, as it is told. -/
def gchC (s : W64) (x y : Int) (A : Option Addr) (c : Nat) : Ch := if gin x y then ⟨x, y, A, 64, c, cellsL s x.toNat y.toNat, none, 0, 0, [], none, 0, 0, []⟩ else ⟨0, 0, none, 0, 0, [], none, 0, 0, [], none, 0, 0, []⟩
theorem gchC_in {s : W64} {x y : Int} (h : gin x y) (A : Option Addr) (c : Nat) : gchC s x y A c = ⟨x, y, A, 64, c, cellsL s x.toNat y.toNat, none, 0, 0, [], none, 0, 0, []⟩ := if_pos h
theorem gchC_out {s : W64} {x y : Int} (h : ¬ gin x y) (A : Option Addr) (c : Nat) : gchC s x y A c = ⟨0, 0, none, 0, 0, [], none, 0, 0, [], none, 0, 0, []⟩ := if_neg h
theorem gchC_ck (s : W64) (x y : Int) (A A' : Option Addr) (c c' : Nat) : (gchC s x y A c).ck = (gchC s x y A' c').ck := by
  by_cases h : gin x y
  · rw [gchC_in h, gchC_in h]; rfl
  · rw [gchC_out h, gchC_out h]
theorem gchC_small (s : W64) (x y : Int) (A : Option Addr) (c : Nat) : (gchC s x y A c).n1 ≤ 64 ∧ (gchC s x y A c).n2 = 0 ∧ (gchC s x y A c).n3 = 0 ∧ (gchC s x y A c).bs = [] := by
  by_cases h : gin x y
  · rw [gchC_in h]; exact ⟨Nat.le_refl _, rfl, rfl, rfl⟩
  · rw [gchC_out h]; exact ⟨by decide, rfl, rfl, rfl⟩
/-- What tells a chunk at first. -/
def GchP (w : World) (s : W64) (x y : Int) (e : Ending) (w' : World) : Prop := ∃ A c, e = .returned (gchC s x y A c).val ∧ OwC w.heap.size w' (gchC s x y A c) ∧ Fr No w w'
section
variable {w w' : World} {s : W64}
set_option maxRecDepth 100000 in
theorem gchunk_out (w : World) (s : W64) (x y : Int) (h : ¬ gin x y) : Calls Tryd.prog 26 #[u64v s, .int .i64 x, .int .i64 y] w
    fun e w' => e = .returned (.agg #[.int .i64 0, .int .i64 0, .slice none 0 0, .slice none 0 0, .slice none 0 0]) ∧ Fr No w w' := by
  have HW1 := Lib.hid (fun W => gwithin_any x 16 W)
  have HW2 := Lib.hid (fun W => gwithin_any y 16 W)
  have hb0 := heap_alloc_new w (.cells #[.int .i64 0, .int .i64 0, .slice none 0 0, .slice none 0 0, .slice none 0 0] 31)
  have f0 := Fr.alloc No w (.cells #[.int .i64 0, .int .i64 0, .slice none 0 0, .slice none 0 0, .slice none 0 0] 31)
  unfold u64v
  unfold gin at h
  obtain ⟨R, hR⟩ : ∃ R, w.heap.size = R := ⟨_, rfl⟩
  have HR := Lib.hid hR
  rw [hR] at hb0
  obtain ⟨k0, k1, k2, k3, k4⟩ := cells5 hb0
  obtain ⟨z0, z1, z2, z3, z4⟩ := free5 hb0
  have HB0 := Lib.hid hb0
  have HF0 := Lib.hid f0
  by_cases hx : 0 ≤ x ∧ x < 16
  · have hy : ¬ (0 ≤ y ∧ y < 16) := fun hy => h ⟨hx.1, hx.2, hy.1, hy.2⟩
    rw [decide_eq_true hx] at HW1
    rw [decide_eq_false hy] at HW2
    clear hx hy h
    go_enter Tryd.func26, Tryd.ntmps26
    go_upto_region 1 with fail
    clear hR
    generalize w.alloc (.cells #[.int .i64 0, .int .i64 0, .slice none 0 0, .slice none 0 0, .slice none 0 0] 31) = w1 at *
    clear hb0 f0
    go_wp2_with fail
    refine (HW1.out _).mono ?_
    rintro e w2 ⟨rfl, rfl⟩
    go_wp2_with fail
    refine (HW2.out _).mono ?_
    rintro e w3 ⟨rfl, rfl⟩
    go_wp2_with fail
    refine bodyPost_ret (results_cell_row (p := 6) rfl _ _ R 31 #[.int .i64 0, .int .i64 0, .slice none 0 0, .slice none 0 0, .slice none 0 0] (0, 0) _ rfl (set5_heap HB0.out _ _ _ _ _) Tryd.underlying31 rfl (by kernel_rfl)) rfl ?_
    exact ⟨rfl, HF0.out.then_new (set5_fr _ R _ _ _ _ _) (fun i e => by have e' : i = R := e; have := HR.out; omega)⟩
  · rw [decide_eq_false hx] at HW1
    clear hx h
    go_enter Tryd.func26, Tryd.ntmps26
    go_upto_region 1 with fail
    clear hR
    generalize w.alloc (.cells #[.int .i64 0, .int .i64 0, .slice none 0 0, .slice none 0 0, .slice none 0 0] 31) = w1 at *
    clear hb0 f0
    go_wp2_with fail
    refine (HW1.out _).mono ?_
    rintro e w2 ⟨rfl, rfl⟩
    go_wp2_with fail
    refine bodyPost_ret (results_cell_row (p := 6) rfl _ _ R 31 #[.int .i64 0, .int .i64 0, .slice none 0 0, .slice none 0 0, .slice none 0 0] (0, 0) _ rfl (set5_heap HB0.out _ _ _ _ _) Tryd.underlying31 rfl (by kernel_rfl)) rfl ?_
    exact ⟨rfl, HF0.out.then_new (set5_fr _ R _ _ _ _ _) (fun i e => by have e' : i = R := e; have := HR.out; omega)⟩
/-- Any chunk. -/
theorem gchunk_any (w : World) (s : W64) (x y : Int) : Calls Tryd.prog 26 #[u64v s, .int .i64 x, .int .i64 y] w (GchP w s x y) := by
  by_cases h : gin x y
  · obtain ⟨h1, h2, h3, h4⟩ := id h
    obtain ⟨X, rfl⟩ : ∃ X : Nat, x = (X : Int) := ⟨x.toNat, by omega⟩
    obtain ⟨Y, rfl⟩ : ∃ Y : Nat, y = (Y : Int) := ⟨y.toNat, by omega⟩
    refine (gchunk_in w s X Y (by omega) (by omega)).mono ?_
    rintro e w' ⟨A, c, rfl, ho, hf⟩
    refine ⟨A, c, ?_, ?_, hf⟩
    · rw [gchC_in h]; rfl
    · rw [gchC_in h]
      exact ⟨ho, World.ownsRow_nil _ _ _ _, World.ownsRow_nil _ _ _ _, fun b hb => by cases hb⟩
  · refine (gchunk_out w s x y h).mono ?_
    rintro e w' ⟨rfl, hf⟩
    refine ⟨none, 0, ?_, ?_, hf⟩
    · rw [gchC_out h]; rfl
    · rw [gchC_out h]
      exact ⟨World.ownsRow_nil _ _ _ _, World.ownsRow_nil _ _ _ _, World.ownsRow_nil _ _ _ _, fun b hb => by cases hb⟩
theorem gfld (a b c d e : Value) (W : World) : (Instr.field 31 (.agg #[a, b, c, d, e]) 2).run Tryd.prog W = .ok c W := by kernel_rfl
theorem gx1 : cellZ 7#64 5 127 = 2 ∨ cellZ 7#64 5 127 = 7 := by decide +kernel
theorem gx2 : cellZ 9#64 3 0 = 0 := by decide +kernel
theorem gx3 : cellZ 7#64 128 5 = 0 := by decide +kernel
end
end Go.Proofs.YtjdhbgdpmojobaaDoor

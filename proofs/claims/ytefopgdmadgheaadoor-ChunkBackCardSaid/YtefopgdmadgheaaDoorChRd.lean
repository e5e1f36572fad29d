/-
  A bag read. No statement of the seat is proved here.
-/
import Derived.Test.YtefopgdmadgheaaDoorChRc
import Derived.Test.YtefopgdmadgheaaDoorBgC
import Derived.Test.YtefopgdmadgheaaDoorSlN
namespace Go.Proofs.YtefopgdmadgheaaDoor
open Go.RowKit Go.Deep

/-- The readers lie in these blocks. -/
def EnvQ (w : World) (U Pa Pf Q1 Q3 : Nat) : Prop := w.heap[Q1]? = some (.cells #[numF U Pa Pf] 57 (0, 0)) ∧ w.heap[Q3]? = some (.cells #[itemF Q1] 83 (0, 0))
theorem blk_ne {w : World} {x y : Nat} {a b : Array Value} {t t' : TypeId} (h1 : w.heap[x]? = some (.cells a t (0, 0))) (h2 : w.heap[y]? = some (.cells b t' (0, 0))) (hne : t ≠ t') : x ≠ y := fun e => by
  rw [e, h2] at h1
  injection h1 with h1
  injection h1 with _ h1 _
  exact hne h1.symm
section
variable {w w' : World} {B0 U Pa Pf Q1 Q3 n c i : Nat} {A : Option Addr} {l : List UInt8}
theorem EnvQ.fr (h : EnvQ w U Pa Pf Q1 Q3) (hn : NumAt w B0 U Pa Pf A n c l i) {G : Nat → Prop} (hf : Fr (fun b => F2 Pa Pf b ∨ G b) w w') (hG : ∀ b, G b → b ≠ Q1 ∧ b ≠ Q3) : EnvQ w' U Pa Pf Q1 Q3 := by
  have n1 := blk_ne h.1 hn.a (by decide)
  have n2 := blk_ne h.1 hn.f (by decide)
  have n3 := blk_ne h.2 hn.a (by decide)
  have n4 := blk_ne h.2 hn.f (by decide)
  exact ⟨hf.blk h.1 (fun e => by rcases e with (e | e) | e; exact n1 e; exact n2 e; exact (hG _ e).1 rfl), hf.blk h.2 (fun e => by rcases e with (e | e) | e; exact n3 e; exact n4 e; exact (hG _ e).2 rfl)⟩
theorem EnvQ.f2 (h : EnvQ w U Pa Pf Q1 Q3) (hn : NumAt w B0 U Pa Pf A n c l i) (hf : Fr (F2 Pa Pf) w w') : EnvQ w' U Pa Pf Q1 Q3 := h.fr hn (G := No) (hf.mono (fun _ _ e => .inl e)) (fun _ e => e.elim)
theorem EnvQ.no (h : EnvQ w U Pa Pf Q1 Q3) (hf : Fr No w w') : EnvQ w' U Pa Pf Q1 Q3 := ⟨blk_no hf h.1, blk_no hf h.2⟩
/-- A row that is not of numbers or bools is not turned by reading. -/
theorem own_f2 {lo : Nat} {e : TypeId} {size m : Nat} {v : Value} {cells : List Value} (h : w.ownsRow lo e size v m cells) (hn : NumAt w B0 U Pa Pf A n c l i) (h1 : e ≠ 3) (h2 : e ≠ 4) (hf : Fr (F2 Pa Pf) w w') : w'.ownsRow lo e size v m cells :=
  own_fr h hf (fun k hk e => by
    rcases e with e | e
    · rw [e] at hk; exact own_not h hn.a h1 hk
    · rw [e] at hk; exact own_not h hn.f h2 hk)
def bagK (v : Nat → Nat) (i k : Nat) : List (Nat × Int) := (bagV v i).take k ++ List.replicate (6 - k) (0, 0)
theorem bagK_len (v : Nat → Nat) (i : Nat) {k : Nat} (h : k ≤ 6) : (bagK v i k).length = 6 := by
  unfold bagK bagV
  rw [List.length_append, List.length_take, List.length_map, List.length_range, List.length_replicate]
  omega
theorem bagK_set (v : Nat → Nat) (i : Nat) {k : Nat} (h : k < 6) : (bagK v i k).set k (v (i + 2 * k), (v (i + 2 * k + 1) : Int)) = bagK v i (k + 1) := by
  match k, h with
  | 0, _ => rfl
  | 1, _ => rfl
  | 2, _ => rfl
  | 3, _ => rfl
  | 4, _ => rfl
  | 5, _ => rfl
theorem bagK_all (v : Nat → Nat) (i : Nat) : bagK v i 6 = bagV v i := rfl
set_option maxRecDepth 100000 in
set_option maxHeartbeats 1600000 in
theorem readbag_any (h : NumAt w B0 U Pa Pf A n c l i) (hq : EnvQ w U Pa Pf Q1 Q3) : Calls Tryd.prog 45 #[slotF Q3 Q1] w
    fun e w' => ∃ G, e = .returned (.slice (some ⟨G, 0, none⟩) 6 6) ∧ OwS w.heap.size w' (.slice (some ⟨G, 0, none⟩) 6 6) (bagV (vN l) i) ∧ NumAt w' B0 U Pa Pf A n c l (i + 12) ∧ Fr (F2 Pa Pf) w w' := by
  obtain ⟨i0, hi, hz0, hz1, hz2⟩ := info_parts info_sl
  have hmk : ∀ W : World, (Instr.makeSlice 30 (.int .i64 6) (.int .i64 6)).run Tryd.prog W = .ok (.slice (some ⟨W.heap.size, 0, none⟩) 6 6) (W.alloc (.cells (madeCells #[.int .u8 0, .int .i64 0] (6 * 2)) 29)) := fun W => by
    have hr := run_make (P := Tryd.prog) W 30 29 i0 _ Tryd.underlying30 hi hz0 .i64 .i64 6 6 (by omega) (Int.le_refl _) (by rw [hz2]; omega) (by omega)
    rw [hz1] at hr
    exact hr
  have hcs : (madeCells #[Value.int .u8 0, .int .i64 0] (6 * 2)).toList = slC (bagK (vN l) i 0) := by kernel_rfl
  have hcz : (madeCells #[Value.int .u8 0, .int .i64 0] (6 * 2)).size = 12 := by kernel_rfl
  clear hi hz0 hz1 hz2
  generalize madeCells #[Value.int .u8 0, .int .i64 0] (6 * 2) = cs at *
  have hfa := Fr.alloc No w (.cells cs 29)
  have ho : OwS w.heap.size (w.alloc (.cells cs 29)) (.slice (some ⟨w.heap.size, 0, none⟩) 6 6) (bagK (vN l) i 0) := by
    refine ⟨by rw [slC_len], .inr ⟨w.heap.size, 6, cs, by rw [bagK_len _ _ (by omega)], Nat.le_refl _, heap_alloc_new _ _, by rw [bagK_len _ _ (by omega)]; exact Nat.le_refl _, by unfold maxLen; omega, by rw [hcz], ?_⟩⟩
    rw [bagK_len _ _ (by omega), hcs]
    exact List.take_of_length_le (by rw [slC_len, bagK_len _ _ (by omega)]; exact Nat.le_refl _)
  have HO := Lib.hid ho
  have HN := Lib.hid (h.no hfa)
  have HQ := Lib.hid (hq.no hfa)
  have HF := Lib.hid hfa
  have HSL := Lib.hid (fun W j (hW : NumAt W B0 U Pa Pf A n c l j) (hqW : EnvQ W U Pa Pf Q1 Q3) => rslot_any hW hqW.1 hqW.2)
  have hGQ : Hid (w.heap.size ≠ Q1 ∧ w.heap.size ≠ Q3 ∧ w.heap.size ≠ U ∧ w.heap.size ≠ Pa ∧ w.heap.size ≠ Pf ∧ B0 ≤ w.heap.size) := Lib.hid (by
    have h1 := (Array.getElem?_eq_some_iff.1 hq.1).1
    have h2 := (Array.getElem?_eq_some_iff.1 hq.2).1
    have h3 := (Array.getElem?_eq_some_iff.1 h.u).1
    have h4 := (Array.getElem?_eq_some_iff.1 h.a).1
    have h5 := (Array.getElem?_eq_some_iff.1 h.f).1
    have h6 := h.sz
    omega)
  clear ho h hq hfa hcs hcz
  unfold slotF
  go_enter Tryd.func45, Tryd.ntmps45
  go_wp2_with fail
  have HGS := Lib.hid (show w.heap.size = w.heap.size from rfl)
  obtain ⟨G, hG⟩ : ∃ G, w.heap.size = G := ⟨_, rfl⟩
  have HG := Lib.hid hG
  rw [hG] at hGQ ⊢
  have HO1 : Hid (OwS G (w.alloc (.cells cs 29)) (.slice (some ⟨G, 0, none⟩) 6 6) (bagK (vN l) i 0)) := Lib.hid (by have := HO.out; rw [hG] at this; exact this)
  clear HO HGS hG
  generalize w.alloc (.cells cs 29) = w1 at *
  clear hmk
  go_loopw [8] (fun v8 wr => ∃ k : Nat, k ≤ 6 ∧ v8 = .int .i64 (k : Int) ∧ OwS G wr (.slice (some ⟨G, 0, none⟩) 6 6) (bagK (vN l) i k) ∧ NumAt wr B0 U Pa Pf A n c l (i + 2 * k) ∧ EnvQ wr U Pa Pf Q1 Q3 ∧ Fr (F2 Pa Pf) w wr) (fun v8 _ => 6 - (intOf v8).toNat)
  case atStart => exact ⟨0, by omega, rfl, HO1.out, HN.out, HQ.out, HF.out.any⟩
  case round =>
    obtain ⟨k, hk, rfl, ho, hn, hq, hf⟩ := hrel
    have HOk := Lib.hid ho
    have HNk := Lib.hid hn
    have HQk := Lib.hid hq
    have HFk := Lib.hid hf
    clear ho hn hq hf
    by_cases hlt : k < 6
    · have hwk : IntKind.i64.wrap ((k : Int) + 1) = ((k + 1 : Nat) : Int) := by
        rw [show ((k : Int) + 1) = ((k + 1 : Nat) : Int) by omega]
        exact IntWalk.i64_in _ (by omega)
      have HST := Lib.hid (bagK_set (vN l) i hlt)
      have hkl : k < (bagK (vN l) i k).length := by rw [bagK_len _ _ hk]; exact hlt
      have HSk := Lib.hid (HSL.out wr _ HNk.out HQk.out)
      have HBY := Lib.hid (vN_le l (i + 2 * k))
      generalize vN l (i + 2 * k) = p at *
      generalize vN l (i + 2 * k + 1) = q at *
      go_wp2_with fail
      refine HSk.out.mono ?_
      rintro e w5 ⟨rfl, hn5, hf5⟩
      have HN5 := Lib.hid hn5
      have HQ5 := Lib.hid (HQk.out.f2 HNk.out hf5)
      have HF5 := Lib.hid (HFk.out.trans hf5 (fun _ _ e => e))
      have ho5 : OwS G w5 (.slice (some ⟨G, 0, none⟩) 6 6) (bagK (vN l) i k) := own_f2 HOk.out HNk.out (by decide) (by decide) hf5
      obtain ⟨b, hb, _, hbs, z0, z1, y0, y1, hset⟩ := ho5.set k hkl
      injection hb with hb
      injection hb with hb _ _
      subst hb
      have hset' := hset p (q : Int)
      rw [HST.out] at hset'
      have HO6 := Lib.hid hset'
      have hs0 : Fr (fun b => b = G) w5 (w5.setCell ⟨G, k * 2, none⟩ (.int .u8 (p : Int))) := Fr.setCell w5 ⟨G, k * 2, none⟩ _ rfl
      have hs1 : Fr (fun b => b = G) (w5.setCell ⟨G, k * 2, none⟩ (.int .u8 (p : Int))) ((w5.setCell ⟨G, k * 2, none⟩ (.int .u8 (p : Int))).setCell ⟨G, k * 2 + 1, none⟩ (.int .i64 (q : Int))) := Fr.setCell _ ⟨G, k * 2 + 1, none⟩ _ rfl
      have HSS := Lib.hid (hs0.trans hs1 (fun _ _ e => e))
      clear hset hset' hn5 hf5 ho5 hs0 hs1
      generalize (bagK (vN l) i k)[k].1 = u0 at *
      generalize (bagK (vN l) i k)[k].2 = u1 at *
      go_wp2_with fail
      go_roundw
      case rel => exact ⟨k + 1, by omega, by go_num, HO6.out, (by have := HN5.out.fr HSS.out (fun b e => by have e' : b = G := e; have := hGQ.out; omega); rw [show i + 2 * (k + 1) = i + 2 * k + 2 by omega]; exact this), HQ5.out.fr HN5.out (G := fun b => b = G) (HSS.out.mono (fun _ _ e => .inr e)) (fun b e => by have e' : b = G := e; have := hGQ.out; omega), HF5.out.then_new HSS.out (fun b e => by have e' : b = G := e; have := HG.out; omega)⟩
      case measure => simp [intOf]; omega
    · have hk6 : k = 6 := by omega
      subst hk6
      go_wp2_with fail
      go_ret
      refine ⟨G, rfl, ?_, HNk.out, HFk.out⟩
      have := HOk.out
      rw [bagK_all] at this
      rw [HG.out]
      exact this
end
end Go.Proofs.YtefopgdmadgheaaDoor

/-
  The document's disk: what 'put' leaves is what the program's disk has: mathematics. No statement of the seat is proved here.
-/
import Derived.Test.YtnkgcafebmacjaaDtG
import Derived.Test.YtnkgcafebmacjaaDcM
namespace Go.Proofs.Ytnkgcafebmacjaa
open Go.RowKit Go.Maps

theorem less_before : ∀ x y : List UInt8, Op.bytesLess x y = bytesBefore x y
  | [], [] => rfl
  | _ :: _, [] => rfl
  | [], _ :: _ => rfl
  | a :: x, b :: y => by
    rw [Op.bytesLess, bytesBefore, less_before x y]
def losA (nm : List UInt8) (l : List Af) : List Af := l.filter fun g => Op.bytesLess g.nm nm
def hisA (nm : List UInt8) (l : List Af) : List Af := l.filter fun g => !(Op.bytesLess g.nm nm || g.nm == nm)
theorem los_ab (nm : List UInt8) (fs : List Fl) : (losF nm fs).map Fl.ab = losA nm (fs.map Fl.ab) := by
  unfold losF losA
  rw [List.filter_map]
  rfl
theorem his_ab (nm : List UInt8) (fs : List Fl) : (hisF nm fs).map Fl.ab = hisA nm (fs.map Fl.ab) := by
  unfold hisF hisA
  rw [List.filter_map]
  rfl
/-- Files by rising names. -/
def Ris (l : List Af) : Prop := l.Pairwise fun f g => bytesBefore f.nm g.nm = true
section
variable {nm : List UInt8}
set_option maxRecDepth 100000 in
theorem los_none {g : Af} {r : List Af} (h : ∀ x ∈ r, bytesBefore g.nm x.nm = true) (hg : bytesBefore nm g.nm = true ∨ g.nm = nm) : losA nm r = [] := by
  unfold losA
  rw [List.filter_eq_nil_iff]
  intro x hx
  have h1 := h x hx
  rw [less_before]
  have h2 : bytesBefore nm x.nm = true := by
    rcases hg with e | e
    · exact WideShapes.bytes_trans _ _ _ e h1
    · rw [← e]; exact h1
  rw [before_asymm h2]
  simp
set_option maxRecDepth 100000 in
theorem put_parts : ∀ l : List Af, Ris l → losA nm l ++ hisA nm l = adel nm l ∧ ∀ f : Af, f.nm = nm → losA nm l ++ [f] ++ hisA nm l = ains f (adel nm l)
  | [], _ => ⟨rfl, fun _ _ => rfl⟩
  | g :: r, h => by
    obtain ⟨h1, h2⟩ := List.pairwise_cons.1 h
    obtain ⟨i1, i2⟩ := put_parts r h2
    by_cases he : g.nm = nm
    · have e0 : bytesBefore g.nm nm = false := by rw [he]; exact WideAt.bytes_irrefl nm
      have e1 : losA nm (g :: r) = losA nm r := by unfold losA; rw [List.filter_cons, less_before, e0]; simp
      have e2 : hisA nm (g :: r) = hisA nm r := by unfold hisA; rw [List.filter_cons]; simp [he]
      have e3 : adel nm (g :: r) = adel nm r := by unfold adel; rw [List.filter_cons]; simp [he]
      rw [e1, e2, e3]
      exact ⟨i1, i2⟩
    · have e3 : adel nm (g :: r) = g :: adel nm r := by unfold adel; rw [List.filter_cons]; simp [he]
      have hq : (g.nm == nm) = false := beq_eq_false_iff_ne.2 he
      rcases WideAt.bytes_total g.nm nm he with hb | hb
      · have e1 : losA nm (g :: r) = g :: losA nm r := by unfold losA; rw [List.filter_cons, less_before, hb]; simp
        have e2 : hisA nm (g :: r) = hisA nm r := by unfold hisA; rw [List.filter_cons, less_before, hb]; simp
        rw [e1, e2, e3]
        refine ⟨by rw [← i1]; rfl, fun f hf => ?_⟩
        have hx : bytesBefore f.nm g.nm = false := by rw [hf]; exact before_asymm hb
        unfold ains
        rw [hx, if_neg (by simp), ← i2 f hf]
        rfl
      · have hn := los_none h1 (.inl hb)
        have e0 : bytesBefore g.nm nm = false := before_asymm hb
        have e1 : losA nm (g :: r) = [] := by unfold losA at hn ⊢; rw [List.filter_cons, less_before, e0, hn]; simp
        have e2 : hisA nm (g :: r) = g :: hisA nm r := by unfold hisA; rw [List.filter_cons, less_before, e0, hq]; simp
        rw [hn] at i1
        have i1' : hisA nm r = adel nm r := i1
        rw [e1, e2, e3, i1']
        refine ⟨rfl, fun f hf => ?_⟩
        unfold ains
        rw [hf, hb, if_pos rfl]
        rfl
end
/-- The document's put, without the places. -/
theorem rput_ab {f : Af} {l : List Af} (h : Ris l) : losA f.nm l ++ [f] ++ hisA f.nm l = aput f l := (put_parts l h).2 f rfl
theorem rdrop_ab {nm : List UInt8} {l : List Af} (h : Ris l) : losA nm l ++ hisA nm l = adel nm l := (put_parts l h).1
set_option maxRecDepth 100000 in
theorem ris_ins {f : Af} : ∀ {l : List Af}, Ris l → (∀ g ∈ l, g.nm ≠ f.nm) → Ris (ains f l)
  | [], _, _ => by simp [ains, Ris]
  | g :: r, h, hn => by
    obtain ⟨h1, h2⟩ := List.pairwise_cons.1 h
    unfold ains
    split
    · rename_i hb
      exact List.pairwise_cons.2 ⟨fun x hx => by
        rcases List.mem_cons.1 hx with e | e
        · rw [e]; exact hb
        · exact WideShapes.bytes_trans _ _ _ hb (h1 x e), h⟩
    · rename_i hb
      have hg : bytesBefore g.nm f.nm = true := (WideAt.bytes_total g.nm f.nm (hn g (List.mem_cons_self ..))).resolve_right (by simpa using hb)
      refine List.pairwise_cons.2 ⟨fun x hx => ?_, ris_ins h2 (fun x hx => hn x (List.mem_cons_of_mem _ hx))⟩
      rcases mem_ains' hx with e | e
      · rw [e]; exact hg
      · exact h1 x e
theorem ris_del {nm : List UInt8} {l : List Af} (h : Ris l) : Ris (adel nm l) := List.Pairwise.sublist List.filter_sublist h
set_option maxRecDepth 100000 in
theorem ris_put {f : Af} {l : List Af} (h : Ris l) : Ris (aput f l) := by
  unfold aput
  refine ris_ins (ris_del h) (fun g hg => ?_)
  unfold adel at hg
  have := (List.mem_filter.1 hg).2
  simpa using this
end Go.Proofs.Ytnkgcafebmacjaa

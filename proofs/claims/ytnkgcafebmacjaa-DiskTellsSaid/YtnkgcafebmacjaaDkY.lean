/-
  The chapter's examples come out: awake. No statement of the seat is proved here.
-/
import Derived.Test.YtnkgcafebmacjaaDkX
import Derived.Test.YtnkgcafebmacjaaLayJ
namespace Go.Proofs.Ytnkgcafebmacjaa
open Go.RowKit Go.Maps Go.Sort

set_option maxRecDepth 100000 in
theorem Fl.ext {f : Fl} {nm bs : List UInt8} {fm : Nat} (h1 : f.nm = nm) (h2 : f.bs = bs) (h3 : f.fm = fm) : f = ⟨nm, f.A, f.c, bs, fm⟩ := by
  subst h1 h2 h3
  rfl
set_option maxRecDepth 100000 in
theorem cr1 {ks : List Int} {f0 : Fl} {fs : List Fl} (h : CrR ks [f0] 1 fs) : ∃ A c, fs = [⟨f0.nm, A, c, f0.bs.take (kp f0 (kAt ks 0)), kp f0 (kAt ks 0)⟩] := by
  obtain ⟨g, hg, h1, h2, _⟩ := h.2 0 f0 rfl
  obtain ⟨h2, h3⟩ := h2 (by omega)
  have hl := h.1
  match fs, hl, hg with
  | [x], _, hg =>
    simp at hg
    subst hg
    exact ⟨_, _, by rw [← Fl.ext h1 h2 h3]⟩
set_option maxRecDepth 100000 in
theorem cr2 {ks : List Int} {f0 f1 : Fl} {fs : List Fl} (h : CrR ks [f0, f1] 2 fs) :
    ∃ A c A' c', fs = [⟨f0.nm, A, c, f0.bs.take (kp f0 (kAt ks 0)), kp f0 (kAt ks 0)⟩, ⟨f1.nm, A', c', f1.bs.take (kp f1 (kAt ks 1)), kp f1 (kAt ks 1)⟩] := by
  obtain ⟨g, hg, h1, h2, _⟩ := h.2 0 f0 rfl
  obtain ⟨h2, h3⟩ := h2 (by omega)
  obtain ⟨g', hg', h1', h2', _⟩ := h.2 1 f1 rfl
  obtain ⟨h2', h3'⟩ := h2' (by omega)
  have hl := h.1
  match fs, hl, hg, hg' with
  | [x, y], _, hg, hg' =>
    simp at hg hg'
    subst hg hg'
    exact ⟨_, _, _, _, by rw [← Fl.ext h1 h2 h3, ← Fl.ext h1' h2' h3']⟩
set_option maxRecDepth 100000 in
theorem sz1 (x : UInt8) : (⟨#[x]⟩ : ByteArray).size ≤ maxLen := by
  show 1 ≤ maxLen
  unfold maxLen
  omega
set_option maxRecDepth 100000 in
/-- What Append leaves, said of the state that it leaves. -/
theorem append_to {w w0 : World} {D M : Nat} {s0 s : St} (hN : Nx D M w0 s0 w s) (nm : ByteArray) (hs : nm.size ≤ maxLen) (A : Option Addr) (n c : Nat) (l : List UInt8) (hb : Rd w w.heap.size A n l) (hfl : s.fl = false) (hn : isNm nm.data.toList = true)
    (hr : s.fits nm.data.toList n = true) (hx : s.fails = false) (t : Option Addr → Nat → St) (ht : ∀ A' c', { s.step with fs := put ⟨nm.data.toList, A', c', (old nm.data.toList s.fs).bs ++ l, (old nm.data.toList s.fs).fm⟩ s.fs } = t A' c') :
    Calls Try.prog 8 #[.pointer (some ⟨D, 0, none⟩), .string nm, .slice A n c] w fun e w' => e = .returned (.int .i64 0) ∧ ∃ A' c', Nx D M w0 s0 w' (t A' c') :=
  (append_ok hN.1 nm hs A n c l hb hfl hn hr hx).mono fun _ _ ⟨he, A', c', h⟩ => ⟨he, A', c', hN.trans (ht A' c' ▸ h)⟩
set_option maxRecDepth 100000 in
theorem sync_to {w w0 : World} {D M : Nat} {s0 s : St} (hN : Nx D M w0 s0 w s) (nm : ByteArray) (hs : nm.size ≤ maxLen) (hfl : s.fl = false) (f : Fl) (hf : fnd nm.data.toList s.fs = some f) (hx : s.fails = false)
    (t : Option Addr → Nat → St) (ht : ∀ A c, { s.step with fs := put ⟨f.nm, A, c, f.bs.take f.bs.length, f.bs.length⟩ s.fs } = t A c) :
    Calls Try.prog 10 #[.pointer (some ⟨D, 0, none⟩), .string nm] w fun e w' => e = .returned (.int .i64 0) ∧ ∃ A c, Nx D M w0 s0 w' (t A c) :=
  (sync_ok hN.1 nm hs hfl f hf hx).mono fun _ _ ⟨he, A, c, h⟩ => ⟨he, A, c, hN.trans (ht A c ▸ h)⟩
set_option maxRecDepth 100000 in
theorem Nx.then_no {w w' w0 : World} {D M : Nat} {s0 s : St} (hN : Nx D M w0 s0 w s) (hf : Fr No w w') : Nx D M w0 s0 w' s := hN.trans (Nx.no hN.1 hf)
set_option maxRecDepth 100000 in
theorem RdI.new {w : World} {D M : Nat} {s : St} (h : Dsk w D M s) (x : Int) (T : TypeId) : RdI (w.alloc (.cells #[.int .i64 x] T)) (foot D M s.fs) (some ⟨w.heap.size, 0, none⟩) 1 [x] := by
  refine ⟨rfl, fun _ => ⟨w.heap.size, 0, rfl, by simp, fun e => Nat.lt_irrefl _ (h.foot_lt e), fun j hj => ?_⟩⟩
  have hj0 : j = 0 := by simpa using hj
  subst hj0
  rw [World.cell?_alloc_mark]
  rfl
set_option maxRecDepth 100000 in
theorem RdI.nil {w : World} {F : Nat → Prop} {A : Option Addr} : RdI w F A 0 [] := ⟨rfl, fun h => absurd h (by omega)⟩
set_option maxRecDepth 100000 in
theorem crash_to {w w0 : World} {D M : Nat} {s0 s : St} (hN : Nx D M w0 s0 w s) (A : Option Addr) (n c : Nat) (ks : List Int) (hk : RdI w (foot D M s.fs) A n ks) :
    Calls Try.prog 20 #[.pointer (some ⟨D, 0, none⟩), .slice A n c] w fun e w' => e = .returned (.tuple #[]) ∧ ∃ fs, CrR ks s.fs s.fs.length fs ∧ Nx D M w0 s0 w' { s with fl := false, bd := false, lf := 0, fs := fs } :=
  (crash_any hN.1 A n c ks hk).mono fun _ _ ⟨he, fs, h1, h2⟩ => ⟨he, fs, h1, hN.trans h2⟩
set_option maxRecDepth 100000 in
theorem rename_to {w w0 : World} {D M : Nat} {s0 s : St} (hN : Nx D M w0 s0 w s) (nm to : ByteArray) (hs : nm.size ≤ maxLen) (ht : to.size ≤ maxLen) (hfl : s.fl = false) (f : Fl) (hf : fnd nm.data.toList s.fs = some f) (hn : isNm to.data.toList = true) (hx : s.fails = false)
    (t : St) (he : { s.step with fs := put ⟨to.data.toList, f.A, f.c, f.bs, f.fm⟩ (del nm.data.toList s.fs) } = t) :
    Calls Try.prog 12 #[.pointer (some ⟨D, 0, none⟩), .string nm, .string to] w fun e w' => e = .returned (.int .i64 0) ∧ Nx D M w0 s0 w' t :=
  (rename_ok hN.1 nm hs to ht hfl f hf hn hx).mono fun _ _ ⟨h1, h2⟩ => ⟨h1, hN.trans (he ▸ h2)⟩
set_option maxRecDepth 100000 in
set_option maxHeartbeats 4000000 in
theorem awake_any (w : World) : Calls Try.prog 6 #[] w fun e w' => e = .returned (.bool true) ∧ Below w.heap.size w w' := by
  have kc := fun (W : World) (C : Array Value) (n c : Nat) => Lib.run_convert_bytes_const (P := Try.prog) W 33 5 C n c Try.underlying33 Try.underlying5
  have hnew := new_dsk 100 w (by omega)
  obtain ⟨B, HBB⟩ : ∃ B, Hid (w.heap.size = B) := ⟨_, rfl⟩
  rw [HBB.out] at hnew ⊢
  obtain ⟨D, HDD⟩ : ∃ D, Hid (B + 1 = D) := ⟨_, rfl⟩
  rw [HDD.out] at hnew
  go_enter Try.func6, Try.ntmps6
  go_wp2_with fail
  refine hnew.mono ?_
  rintro e w0 ⟨rfl, hd, hb⟩
  have HB0 := Lib.hid hb
  have HN0 := Lib.hid (Nx.refl hd)
  clear hnew hd hb
  go_wp2_with fail
  refine (append_to (HN0.out.then_no (Fr.alloc No w0 _)) ⟨#[97]⟩ (sz1 _) _ 3 3 [120, 121, 122] ((Rd.new w0 [120, 121, 122] _ rfl _).more (by simp)) rfl (by decide) (by kernel_rfl) rfl (fun A c => (⟨false, false, 0, 100, [⟨[97], A, c, [120, 121, 122], 0⟩]⟩ : St)) (fun _ _ => by kernel_rfl)).mono ?_
  rintro e w1 ⟨rfl, A1, c1, hn⟩
  have HN1 := Lib.hid hn
  clear hn
  go_wp2_with fail
  refine (sync_to HN1.out ⟨#[97]⟩ (sz1 _) rfl ⟨[97], A1, c1, [120, 121, 122], 0⟩ (by kernel_rfl) (by kernel_rfl) (fun A c => (⟨false, false, 0, 100, [⟨[97], A, c, [120, 121, 122], 3⟩]⟩ : St)) (fun _ _ => by kernel_rfl)).mono ?_
  rintro e w2 ⟨rfl, A2, c2, hn⟩
  have HN2 := Lib.hid hn
  clear hn
  go_wp2_with fail
  refine (append_to (HN2.out.then_no (Fr.alloc No w2 _)) ⟨#[97]⟩ (sz1 _) _ 2 2 [117, 118] ((Rd.new w2 [117, 118] _ rfl _).more (by simp)) rfl (by decide) (by kernel_rfl) rfl (fun A c => (⟨false, false, 0, 100, [⟨[97], A, c, [120, 121, 122, 117, 118], 3⟩]⟩ : St)) (fun _ _ => by kernel_rfl)).mono ?_
  rintro e w3 ⟨rfl, A3, c3, hn⟩
  have HN3 := Lib.hid hn
  clear hn
  go_wp2_with fail
  refine (append_to (HN3.out.then_no (Fr.alloc No w3 _)) ⟨#[98]⟩ (sz1 _) _ 1 1 [119] ((Rd.new w3 [119] _ rfl _).more (by simp)) rfl (by decide) (by kernel_rfl) rfl (fun A c => (⟨false, false, 0, 100, [⟨[97], A3, c3, [120, 121, 122, 117, 118], 3⟩, ⟨[98], A, c, [119], 0⟩]⟩ : St)) (fun _ _ => by kernel_rfl)).mono ?_
  rintro e w4 ⟨rfl, A4, c4, hn⟩
  have HN4 := Lib.hid hn
  clear hn
  go_wp2_with fail
  refine (file_yes HN4.out.1 ⟨#[97]⟩ (sz1 _) rfl ⟨[97], A3, c3, [120, 121, 122, 117, 118], 3⟩ (by kernel_rfl) [120, 121, 122, 117, 118] 3 rfl rfl).mono ?_
  rintro e w5 ⟨rfl, hf⟩
  have HN5 := Lib.hid (HN4.out.then_no hf)
  clear hf
  go_wp2_with fail
  refine (file_yes HN5.out.1 ⟨#[98]⟩ (sz1 _) rfl ⟨[98], A4, c4, [119], 0⟩ (by kernel_rfl) [119] 0 rfl rfl).mono ?_
  rintro e w6 ⟨rfl, hf⟩
  have HN6 := Lib.hid (HN5.out.then_no hf)
  clear hf
  go_wp2_with fail
  refine (used_any HN6.out.1).mono ?_
  rintro e w7 ⟨rfl, hf⟩
  have HN7 := Lib.hid (HN6.out.then_no hf)
  clear hf
  go_wp2_with fail
  refine (crash_to (HN7.out.then_no (Fr.alloc No w7 _)) (some ⟨w7.heap.size, 0, none⟩) 1 1 [1] (RdI.new HN7.out.1 1 _)).mono ?_
  rintro e w8 ⟨rfl, fs, hc, hn⟩
  obtain ⟨A8, c8, A8', c8', rfl⟩ := cr2 hc
  have HN8 := Lib.hid (show Nx D B w0 _ w8 (⟨false, false, 0, 100, [⟨[97], A8, c8, [120, 121, 122, 117], 4⟩, ⟨[98], A8', c8', [], 0⟩]⟩ : St) from hn)
  clear hc hn
  go_wp2_with fail
  refine (file_yes HN8.out.1 ⟨#[97]⟩ (sz1 _) rfl ⟨[97], A8, c8, [120, 121, 122, 117], 4⟩ (by kernel_rfl) [120, 121, 122, 117] 4 rfl rfl).mono ?_
  rintro e w9 ⟨rfl, hf⟩
  have HN9 := Lib.hid (HN8.out.then_no hf)
  clear hf
  go_wp2_with fail
  refine (file_yes HN9.out.1 ⟨#[98]⟩ (sz1 _) rfl ⟨[98], A8', c8', [], 0⟩ (by kernel_rfl) [] 0 rfl rfl).mono ?_
  rintro e w10 ⟨rfl, hf⟩
  have HN10 := Lib.hid (HN9.out.then_no hf)
  clear hf
  go_wp2_with fail
  refine (rename_to HN10.out ⟨#[97]⟩ ⟨#[98]⟩ (sz1 _) (sz1 _) rfl ⟨[97], A8, c8, [120, 121, 122, 117], 4⟩ (by kernel_rfl) (by decide) rfl (⟨false, false, 0, 100, [⟨[98], A8, c8, [120, 121, 122, 117], 4⟩]⟩ : St) (by kernel_rfl)).mono ?_
  rintro e w11 ⟨rfl, hn⟩
  have HN11 := Lib.hid hn
  clear hn
  go_wp2_with fail
  refine (file_yes HN11.out.1 ⟨#[98]⟩ (sz1 _) rfl ⟨[98], A8, c8, [120, 121, 122, 117], 4⟩ (by kernel_rfl) [120, 121, 122, 117] 4 rfl rfl).mono ?_
  rintro e w12 ⟨rfl, hf⟩
  have HN12 := Lib.hid (HN11.out.then_no hf)
  clear hf
  go_wp2_with fail
  refine (list_any HN12.out.1).mono ?_
  rintro e w13 ⟨v, rfl, hv, hf⟩
  obtain ⟨G13, c13, rfl⟩ : ∃ G c, v = .slice (some ⟨G, 0, none⟩) 1 c := by
    rcases hv.2 with ⟨_, e⟩ | ⟨g, cap, cur, e, _⟩
    · cases e
    · exact ⟨g, cap, e⟩
  have hcl := hv.cells (g := G13) rfl 0 (.string ⟨#[98]⟩) rfl
  rw [Addr.add_lit] at hcl
  have hcap : 1 ≤ c13 := by
    rcases hv.2 with ⟨_, e⟩ | ⟨g, cap, cur, e, _, _, hc, _⟩
    · cases e
    · injection e with e1 e2 e3; subst e3; exact hc
  have HJ := Lib.hid (Try.strings_Join G13 0 c13 [⟨#[98]⟩] ⟨#[32]⟩ w13 (fun j x hx => by
    match j, hx with
    | 0, hx => simp at hx; subst hx; exact hcl) (hv.lt G13 rfl).2 (by decide) hcap (by decide))
  have HN13 := Lib.hid (HN12.out.then_no hf)
  clear hv hf hcl hcap
  go_wp2_with fail
  refine HJ.out.mono ?_
  rintro e w14 ⟨he, hb⟩
  have he : e = .returned (.string ⟨#[98]⟩) := he
  subst he
  have HN14 := Lib.hid (HN13.out.then_no (Fr.of_below hb))
  clear hb HJ
  go_wp2_with fail
  refine (arm_dsk HN14.out.1 rfl 1 (by omega)).mono ?_
  rintro e w15 ⟨rfl, hn⟩
  have HN15 := Lib.hid (show Nx D B w0 _ w15 (⟨false, true, 1, 100, [⟨[98], A8, c8, [120, 121, 122, 117], 4⟩]⟩ : St) from HN14.out.trans hn)
  clear hn
  go_wp2_with fail
  refine (sync_to HN15.out ⟨#[98]⟩ (sz1 _) rfl ⟨[98], A8, c8, [120, 121, 122, 117], 4⟩ (by kernel_rfl) (by kernel_rfl) (fun A c => (⟨false, true, 0, 100, [⟨[98], A, c, [120, 121, 122, 117], 4⟩]⟩ : St)) (fun _ _ => by kernel_rfl)).mono ?_
  rintro e w16 ⟨rfl, A16, c16, hn⟩
  have HN16 := Lib.hid hn
  clear hn
  go_wp2_with fail
  refine (down_dsk HN16.out.1).mono ?_
  rintro e w' ⟨rfl, rfl⟩
  go_wp2_with fail
  refine (remove_fails HN16.out.1 ⟨#[98]⟩ (sz1 _) rfl ⟨[98], A16, c16, [120, 121, 122, 117], 4⟩ (by kernel_rfl) (by kernel_rfl)).mono ?_
  rintro e w17 ⟨rfl, hn⟩
  have HN17 := Lib.hid (show Nx D B w0 _ w17 (⟨true, false, 0, 100, [⟨[98], A16, c16, [120, 121, 122, 117], 4⟩]⟩ : St) from HN16.out.trans hn)
  clear hn
  go_wp2_with fail
  refine (down_dsk HN17.out.1).mono ?_
  rintro e w' ⟨rfl, rfl⟩
  go_wp2_with fail
  have hrb := read_bad HN17.out.1 ⟨#[98]⟩ (sz1 _) (show (15 : Int) ≠ 0 by decide)
  refine hrb.mono ?_
  rintro e w18 ⟨he, hf⟩
  have he : e = .returned (.tuple #[.slice none 0 0, .int .i64 15]) := he
  subst he
  have HN18 := Lib.hid (HN17.out.then_no hf)
  clear hf hrb
  go_wp2_with fail
  refine (crash_to HN18.out none 0 0 [] RdI.nil).mono ?_
  rintro e w19 ⟨rfl, fs, hc, hn⟩
  obtain ⟨A19, c19, rfl⟩ := cr1 hc
  have HN19 := Lib.hid (show Nx D B w0 _ w19 (⟨false, false, 0, 100, [⟨[98], A19, c19, [120, 121, 122, 117], 4⟩]⟩ : St) from hn)
  clear hc hn
  go_wp2_with fail
  refine (file_yes HN19.out.1 ⟨#[98]⟩ (sz1 _) rfl ⟨[98], A19, c19, [120, 121, 122, 117], 4⟩ (by kernel_rfl) [120, 121, 122, 117] 4 rfl rfl).mono ?_
  rintro e w20 ⟨rfl, hf⟩
  have HN20 := Lib.hid (HN19.out.then_no hf)
  clear hf
  go_wp2_with fail
  refine (append_name HN20.out.1 ⟨#[65]⟩ (sz1 _) none 0 0 rfl (by decide)).mono ?_
  rintro e w' ⟨rfl, rfl⟩
  go_wp2_with fail
  go_ret
  refine ⟨rfl, HB0.out.trans (HN20.out.2.1.below (by have := HB0.out.size; rw [HBB.out] at this; exact this) (fun k hk => ?_))⟩
  rcases hk with e | e | ⟨f, hf, _⟩
  · have := HDD.out; omega
  · omega
  · cases hf
end Go.Proofs.Ytnkgcafebmacjaa

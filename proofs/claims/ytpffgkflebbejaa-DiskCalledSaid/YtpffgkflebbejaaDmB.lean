/-
  The laws' own words on a call: fits, does. No statement of the seat is proved here.
-/
import Derived.Test.YtpffgkflebbejaaDmA
import Derived.Test.YtpffgkflebbejaaRow
namespace Go.Proofs.Ytpffgkflebbejaa
open Go.RowKit Go.Maps

/-- A call, as it stands in memory. -/
structure Cl where
  wh : Nat
  nm : ByteArray
  to : ByteArray
  B : Sb
  n : Int
  K : Option Addr
  kn : Nat
  kc : Nat
def Cl.val (c : Cl) : Value := .agg #[.int .u8 (c.wh : Int), .string c.nm, .string c.to, .slice c.B.A c.B.n c.B.c, .int .i64 c.n, .slice c.K c.kn c.kc]
def Cl.fits (c : Cl) : Bool := decide (c.nm.size < 90) && decide (c.to.size < 90) && decide (c.B.n ≤ 150) && decide (c.kn ≤ 250)
def Ab.does (s : Ab) (c : Cl) : Int × Ab :=
  if c.wh ≤ 1 then s.append c.nm.data.toList c.B.l else if c.wh = 2 then s.sync c.nm.data.toList else if c.wh = 3 then s.rename c.nm.data.toList c.to.data.toList
  else if c.wh = 4 then s.remove c.nm.data.toList else if c.wh = 5 then s.cut c.nm.data.toList c.n else (2, s)
set_option maxRecDepth 100000 in
theorem fits_any (c : Cl) (w : World) :
    Calls Try.prog 12 #[.agg #[.int .u8 (c.wh : Int), .string c.nm, .string c.to, .slice c.B.A c.B.n c.B.c, .int .i64 c.n, .slice c.K c.kn c.kc]] w fun e w' => e = .returned (.bool c.fits) ∧ Fr No w w' := by
  obtain ⟨r, HR⟩ : ∃ r, Hid (c.fits = r) := ⟨_, rfl⟩
  rw [HR.out]
  have hr := HR.out
  unfold Cl.fits at hr
  by_cases h1 : c.nm.size < 90
  · by_cases h2 : c.to.size < 90
    · by_cases h3 : c.B.n ≤ 150
      · by_cases h4 : c.kn ≤ 250
        · have hd4 : decide ((c.kn : Int) ≤ 250) = true := by rw [decide_eq_true_eq]; omega
          have hr2 : Hid (r = true) := by show r = true; rw [← hr]; simp [h1, h2, h3, h4]
          clear hr
          go_enter Try.func12, Try.ntmps12
          go_wp2_with fail
          go_ret
          exact ⟨by rw [hr2.out]; rfl, Fr.alloc _ _ _⟩
        · have hd4 : decide ((c.kn : Int) ≤ 250) = false := by rw [decide_eq_false_iff_not]; omega
          have hr2 : Hid (r = false) := by show r = false; rw [← hr]; simp [h4]
          clear hr
          go_enter Try.func12, Try.ntmps12
          go_wp2_with fail
          go_ret
          exact ⟨by rw [hr2.out]; rfl, Fr.alloc _ _ _⟩
      · have hr2 : Hid (r = false) := by show r = false; rw [← hr]; simp [h3]
        clear hr
        go_enter Try.func12, Try.ntmps12
        go_wp2_with fail
        go_ret
        exact ⟨by rw [hr2.out]; rfl, Fr.alloc _ _ _⟩
    · have hr2 : Hid (r = false) := by show r = false; rw [← hr]; simp [h2]
      clear hr
      go_enter Try.func12, Try.ntmps12
      go_wp2_with fail
      go_ret
      exact ⟨by rw [hr2.out]; rfl, Fr.alloc _ _ _⟩
  · have hr2 : Hid (r = false) := by show r = false; rw [← hr]; simp [h1]
    clear hr
    go_enter Try.func12, Try.ntmps12
    go_wp2_with fail
    go_ret
    exact ⟨by rw [hr2.out]; rfl, Fr.alloc _ _ _⟩
set_option maxRecDepth 100000 in
theorem does_any {w : World} {D M : Nat} {s : St} (h : Dsk w D M s) (c : Cl) (h1 : c.nm.size ≤ maxLen) (h2 : c.to.size ≤ maxLen) (hb : Rd w w.heap.size c.B.A c.B.n c.B.l) (hw8 : c.wh < 256) :
    Calls Try.prog 13 #[.pointer (some ⟨D, 0, none⟩), .agg #[.int .u8 (c.wh : Int), .string c.nm, .string c.to, .slice c.B.A c.B.n c.B.c, .int .i64 c.n, .slice c.K c.kn c.kc]] w (Abs D M w s (s.ab.does c)) := by
  obtain ⟨wh, nm, to, B, n, K, kn, kc⟩ := c
  simp only at h1 h2 hb hw8 ⊢
  have HALL := Lib.hid (Fr.alloc No w (.cells #[.int .u8 (wh : Int), .string nm, .string to, .slice B.A B.n B.c, .int .i64 n, .slice K kn kc] 39))
  have H := Lib.hid h
  have HB := Lib.hid hb
  have HS1 := Lib.hid h1
  have HS2 := Lib.hid h2
  clear h hb h1 h2
  by_cases q0 : wh = 0
  · subst q0
    have HK := Lib.hid (append_ab (H.out.no HALL.out) nm HS1.out B.A B.n B.c B.l ((HALL.out.rd (Nat.le_refl _) HB.out).more HALL.out.size))
    have hdo : Hid (s.ab.does ⟨0, nm, to, B, n, K, kn, kc⟩ = s.ab.append nm.data.toList B.l) := by
      show _ = _
      unfold Ab.does
      simp only
      rfl
    rw [hdo.out]
    go_enter Try.func13, Try.ntmps13
    go_wp2_with fail
    refine HK.out.mono ?_
    rintro e w1 ⟨s', rfl, hN, ha⟩
    have HN := Lib.hid hN
    have HE := Lib.hid ha
    clear hN ha
    go_wp2_with fail
    go_ret
    exact ⟨s', rfl, (Nx.no H.out HALL.out).trans HN.out, HE.out⟩
  by_cases q1 : wh = 1
  · subst q1
    clear q0
    have HK := Lib.hid (append_ab (H.out.no HALL.out) nm HS1.out B.A B.n B.c B.l ((HALL.out.rd (Nat.le_refl _) HB.out).more HALL.out.size))
    have hdo : Hid (s.ab.does ⟨1, nm, to, B, n, K, kn, kc⟩ = s.ab.append nm.data.toList B.l) := by
      show _ = _
      unfold Ab.does
      simp only
      rfl
    rw [hdo.out]
    go_enter Try.func13, Try.ntmps13
    go_wp2_with fail
    refine HK.out.mono ?_
    rintro e w1 ⟨s', rfl, hN, ha⟩
    have HN := Lib.hid hN
    have HE := Lib.hid ha
    clear hN ha
    go_wp2_with fail
    go_ret
    exact ⟨s', rfl, (Nx.no H.out HALL.out).trans HN.out, HE.out⟩
  by_cases q2 : wh = 2
  · subst q2
    clear q0
    clear q1
    have HK := Lib.hid (sync_ab (H.out.no HALL.out) nm HS1.out)
    have hdo : Hid (s.ab.does ⟨2, nm, to, B, n, K, kn, kc⟩ = s.ab.sync nm.data.toList) := by
      show _ = _
      unfold Ab.does
      simp only
      rfl
    rw [hdo.out]
    go_enter Try.func13, Try.ntmps13
    go_wp2_with fail
    refine HK.out.mono ?_
    rintro e w1 ⟨s', rfl, hN, ha⟩
    have HN := Lib.hid hN
    have HE := Lib.hid ha
    clear hN ha
    go_wp2_with fail
    go_ret
    exact ⟨s', rfl, (Nx.no H.out HALL.out).trans HN.out, HE.out⟩
  by_cases q3 : wh = 3
  · subst q3
    clear q0
    clear q1
    clear q2
    have HK := Lib.hid (rename_ab (H.out.no HALL.out) nm to HS1.out HS2.out)
    have hdo : Hid (s.ab.does ⟨3, nm, to, B, n, K, kn, kc⟩ = s.ab.rename nm.data.toList to.data.toList) := by
      show _ = _
      unfold Ab.does
      simp only
      rfl
    rw [hdo.out]
    go_enter Try.func13, Try.ntmps13
    go_wp2_with fail
    refine HK.out.mono ?_
    rintro e w1 ⟨s', rfl, hN, ha⟩
    have HN := Lib.hid hN
    have HE := Lib.hid ha
    clear hN ha
    go_wp2_with fail
    go_ret
    exact ⟨s', rfl, (Nx.no H.out HALL.out).trans HN.out, HE.out⟩
  by_cases q4 : wh = 4
  · subst q4
    clear q0
    clear q1
    clear q2
    clear q3
    have HK := Lib.hid (remove_ab (H.out.no HALL.out) nm HS1.out)
    have hdo : Hid (s.ab.does ⟨4, nm, to, B, n, K, kn, kc⟩ = s.ab.remove nm.data.toList) := by
      show _ = _
      unfold Ab.does
      simp only
      rfl
    rw [hdo.out]
    go_enter Try.func13, Try.ntmps13
    go_wp2_with fail
    refine HK.out.mono ?_
    rintro e w1 ⟨s', rfl, hN, ha⟩
    have HN := Lib.hid hN
    have HE := Lib.hid ha
    clear hN ha
    go_wp2_with fail
    go_ret
    exact ⟨s', rfl, (Nx.no H.out HALL.out).trans HN.out, HE.out⟩
  by_cases q5 : wh = 5
  · subst q5
    clear q0
    clear q1
    clear q2
    clear q3
    clear q4
    have HK := Lib.hid (cut_ab (H.out.no HALL.out) nm HS1.out n)
    have hdo : Hid (s.ab.does ⟨5, nm, to, B, n, K, kn, kc⟩ = s.ab.cut nm.data.toList n) := by
      show _ = _
      unfold Ab.does
      simp only
      rfl
    rw [hdo.out]
    go_enter Try.func13, Try.ntmps13
    go_wp2_with fail
    refine HK.out.mono ?_
    rintro e w1 ⟨s', rfl, hN, ha⟩
    have HN := Lib.hid hN
    have HE := Lib.hid ha
    clear hN ha
    go_wp2_with fail
    go_ret
    exact ⟨s', rfl, (Nx.no H.out HALL.out).trans HN.out, HE.out⟩
  have hdo : Hid (s.ab.does ⟨wh, nm, to, B, n, K, kn, kc⟩ = (2, s.ab)) := by
    show _ = _
    unfold Ab.does
    simp only
    rw [if_neg (by omega), if_neg q2, if_neg q3, if_neg q4, if_neg q5]
  rw [hdo.out]
  have p0 : ((wh : Int) == 0) = false := by rw [beq_eq_false_iff_ne]; omega
  have p1 : ((wh : Int) == 1) = false := by rw [beq_eq_false_iff_ne]; omega
  have p2 : ((wh : Int) == 2) = false := by rw [beq_eq_false_iff_ne]; omega
  have p3 : ((wh : Int) == 3) = false := by rw [beq_eq_false_iff_ne]; omega
  have p4 : ((wh : Int) == 4) = false := by rw [beq_eq_false_iff_ne]; omega
  have p5 : ((wh : Int) == 5) = false := by rw [beq_eq_false_iff_ne]; omega
  clear q0 q1 q2 q3 q4 q5 hw8
  go_enter Try.func13, Try.ntmps13
  go_wp2_with fail
  go_ret
  exact ⟨s, rfl, Nx.no H.out HALL.out, rfl⟩
end Go.Proofs.Ytpffgkflebbejaa

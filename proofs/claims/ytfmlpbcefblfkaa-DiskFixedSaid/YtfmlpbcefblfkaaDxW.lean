/-
  DiskFixed: the script ahead of the 200 files. No statement of the seat is proved here.
-/
import Derived.Test.YtfmlpbcefblfkaaDxA
import Derived.Test.YtfmlpbcefblfkaaDxM
import Derived.Test.YtfmlpbcefblfkaaLayRep
import Derived.Deep.RegionHeld3
import Derived.Deep.CutBlock
import Derived.Deep.DeepCutAuto
namespace Go.Proofs.Ytfmlpbcefblfkaa
open Go.RowKit Go.Maps Go.Sort

set_option maxRecDepth 100000 in
theorem sz (l : Array UInt8) (h : l.size ≤ 1000) : (⟨l⟩ : ByteArray).size ≤ maxLen := by
  show l.size ≤ maxLen
  unfold maxLen
  omega
set_option maxRecDepth 100000 in
theorem make_u8 (k : Nat) (hk : k ≤ 100000) (W : World) :
    (Instr.makeSlice 27 (.int .i64 (k : Int)) (.int .i64 (k : Int))).run Try.prog W = .ok (.slice (some ⟨W.heap.size, 0, none⟩) k k) (W.alloc (.cells (List.replicate k (Value.int .u8 0)).toArray 5)) := by
  obtain ⟨i0, hi, hz0, hz1, hz2⟩ := info_parts info_u8
  have h := run_make (P := Try.prog) W 27 5 i0 (.int .u8 0) Try.underlying27 hi hz0 .i64 .i64 (k : Int) (k : Int) (by omega) (by omega) (by rw [hz2]; omega) (by omega)
  rw [h]
  have e : madeCells (Value.int .u8 0).cells (((k : Nat) : Int).toNat * i0.size) = (List.replicate k (Value.int .u8 0)).toArray := by
    rw [hz1]
    apply Array.ext
    · simp [madeCells]
    · intro i h1 h2
      simp [madeCells, Value.cells, Nat.mod_one]
  rw [e]
  simp
set_option maxRecDepth 100000 in
set_option maxHeartbeats 16000000 in
theorem fixed_walk (w : World) : Calls Try.prog 3 #[] w fun e w' => e = .returned (.bool true) ∧ Below w.heap.size w w' := by
  have HA := Lib.hid (fun W => awake_any W)
  have kc := fun (W : World) (C : Array Value) (n c : Nat) => Lib.run_convert_bytes_const (P := Try.prog) W 27 5 C n c Try.underlying27 Try.underlying5
  go_enter Try.func3, Try.ntmps3
  go_wp2_with fail
  refine (new_refuses (-1) _ (by omega)).mono ?_
  rintro e w' ⟨rfl, rfl⟩
  go_wp2_with fail
  refine (new_refuses 16777217 _ (by omega)).mono ?_
  rintro e w' ⟨rfl, rfl⟩
  go_wp2_with fail
  have hn1 := new_dsk 16777216 w (by omega)
  refine hn1.mono ?_
  rintro e wa ⟨rfl, -, hb⟩
  have HBA := Lib.hid hb
  clear hn1 hb
  go_wp2_with fail
  have hnew := lon_new 9 wa (by omega)
  obtain ⟨B, HBB⟩ : ∃ B, Hid (wa.heap.size = B) := ⟨_, rfl⟩
  rw [HBB.out] at hnew
  obtain ⟨D, HDD⟩ : ∃ D, Hid (B + 1 = D) := ⟨_, rfl⟩
  rw [HDD.out] at hnew
  refine hnew.mono ?_
  rintro e w0 ⟨rfl, hl⟩
  have HL0 := Lib.hid hl
  clear hnew hl
  go_wp2_with fail
  refine (tells_yes _ _ 2 2 2 (by omega) (fun j hj => ?_)).mono ?_
  · rw [World.cell?_alloc_mark]
    rcases j with _ | _ | j <;> first | rfl | omega
  rintro e w1 ⟨rfl, hw⟩
  have HL1 := Lib.hid (show Lon wa D B (⟨false, false, 0, 9, []⟩ : Ab) w1 from by rw [← hw]; exact (HL0.out.no (by first | exact Fr.refl No _ | exact Fr.alloc No _ _ | exact (Fr.alloc No _ _).no_trans (Fr.alloc No _ _))))
  clear hw
  go_wp2_with fail
  refine (lon_append_in HL1.out ⟨#[111, 110, 101]⟩ (sz _ (by decide)) [112, 113] #[.int .u8 112, .int .u8 113] rfl _ 2 2 rfl (x := 0) (S' := (⟨false, false, 0, 9, [⟨[111, 110, 101], [112, 113], 0⟩]⟩ : Ab)) (by kernel_rfl)).mono ?_
  rintro e w2 ⟨rfl, hg, hl⟩
  obtain ⟨G, HGG⟩ : ∃ G, Hid (w1.heap.size = G) := ⟨_, rfl⟩
  rw [HGG.out] at hg hl ⊢
  have g1 : w2.cell? ⟨G, 1, none⟩ = some (.int .u8 113) := by unfold World.cell?; rw [hg]; rfl
  have z1 : w2.frozen? ⟨G, 1, none⟩ = false := by unfold World.frozen?; rw [hg]; rfl
  have HLb := Lib.hid (hl _ (Fr.setAt w2 G 1 (.int .u8 33)))
  clear hg hl
  go_wp2_with fail
  refine (lon_read HLb.out rfl ⟨#[111, 110, 101]⟩ (sz _ (by decide)) (f := ⟨[111, 110, 101], [112, 113], 0⟩) (by kernel_rfl) [112, 113] rfl 2 rfl (by omega)).mono ?_
  rintro e w3 ⟨G2, c4, cur, rfl, hGc, hr, hl⟩
  have hst := str_rule c4 hr
  have g0 : w3.cell? ⟨G2, 0, none⟩ = some (.int .u8 112) := by
    obtain ⟨b, o, e, _, hc⟩ := hr.2 (by omega)
    have e1 : b = G2 ∧ o = 0 := by injection e with e; injection e with e1 e2; exact ⟨e1.symm, e2.symm⟩
    have := hc 0 (by decide)
    rw [e1.1, e1.2] at this
    exact this
  have z0 : w3.frozen? ⟨G2, 0, none⟩ = false := by unfold World.frozen?; rw [hGc]; rfl
  have HLc := Lib.hid (hl _ (Fr.setAt w3 G2 0 (.int .u8 33)))
  clear hGc hr hl g1 z1
  go_wp2_with fail
  obtain ⟨wd, hwd⟩ : ∃ wd, w3.setCell ⟨G2, 0, none⟩ (.int .u8 33) = wd := ⟨_, rfl⟩
  rw [hwd] at HLc ⊢
  clear hwd g0 z0 hst
  have hm8 : ∀ W : World, (Instr.makeSlice 27 (.int .i64 8) (.int .i64 8)).run Try.prog W = .ok (.slice (some ⟨W.heap.size, 0, none⟩) 8 8) (W.alloc (.cells #[.int .u8 0, .int .u8 0, .int .u8 0, .int .u8 0, .int .u8 0, .int .u8 0, .int .u8 0, .int .u8 0] 5)) := fun W => make_u8 8 (by omega) W
  have hm7 : ∀ W : World, (Instr.makeSlice 27 (.int .i64 7) (.int .i64 7)).run Try.prog W = .ok (.slice (some ⟨W.heap.size, 0, none⟩) 7 7) (W.alloc (.cells #[.int .u8 0, .int .u8 0, .int .u8 0, .int .u8 0, .int .u8 0, .int .u8 0, .int .u8 0] 5)) := fun W => make_u8 7 (by omega) W
  have hm2 : ∀ W : World, (Instr.makeSlice 27 (.int .i64 2) (.int .i64 2)).run Try.prog W = .ok (.slice (some ⟨W.heap.size, 0, none⟩) 2 2) (W.alloc (.cells #[.int .u8 0, .int .u8 0] 5)) := fun W => make_u8 2 (by omega) W
  go_cut [95] from 66 to 95 (fun v wx => v = .bool false ∧ Lon wa D B (⟨false, false, 0, 9, [⟨[111, 110, 101], [112, 113], 0⟩, ⟨[116, 119, 111], [0, 0, 0, 0, 0, 0, 0], 0⟩]⟩ : Ab) wx)
  case first =>
    have K41 := Lib.hid (fun W (hl : Lon wa D B (⟨false, false, 0, 9, [⟨[111, 110, 101], [112, 113], 0⟩]⟩ : Ab) W) => lon_file (S := (⟨false, false, 0, 9, [⟨[111, 110, 101], [112, 113], 0⟩]⟩ : Ab)) hl rfl ⟨#[111, 110, 101]⟩ (sz _ (by decide)) [112, 113] 0 (f := ⟨[111, 110, 101], [112, 113], 0⟩) (by kernel_rfl) ⟨rfl, rfl⟩ ⟨#[112, 113]⟩ rfl)
    have K42 := Lib.hid (fun W (A : Option Addr) (hl : Lon wa D B (⟨false, false, 0, 9, [⟨[111, 110, 101], [112, 113], 0⟩]⟩ : Ab) W) => lon_full (S := (⟨false, false, 0, 9, [⟨[111, 110, 101], [112, 113], 0⟩]⟩ : Ab)) hl ⟨#[116, 119, 111]⟩ (sz _ (by decide)) A 8 8 rfl (by decide) (by decide))
    have K43 := Lib.hid (fun W (A : Option Addr) (hl : Lon wa D B (⟨false, false, 0, 9, [⟨[111, 110, 101], [112, 113], 0⟩]⟩ : Ab) W) => lon_full (S := (⟨false, false, 0, 9, [⟨[111, 110, 101], [112, 113], 0⟩]⟩ : Ab)) hl ⟨#[111, 110, 101]⟩ (sz _ (by decide)) A 8 8 rfl (by decide) (by decide))
    have K44 := Lib.hid (fun W => tells_yes (World.alloc W (.cells #[.int .i64 5, .int .i64 5] 23)) W.heap.size 2 2 5 (by omega) (fun j hj => (by rw [World.cell?_alloc_mark]; rcases j with _ | _ | j <;> first | rfl | omega)))
    have K45 := Lib.hid (fun W (hl : Lon wa D B (⟨false, false, 0, 9, [⟨[111, 110, 101], [112, 113], 0⟩]⟩ : Ab) W) => lon_append (hl.no (Fr.alloc No W (.cells #[.int .u8 0, .int .u8 0, .int .u8 0, .int .u8 0, .int .u8 0, .int .u8 0, .int .u8 0] 5))) ⟨#[116, 119, 111]⟩ (sz _ (by decide)) (some ⟨W.heap.size, 0, none⟩) 7 7 (List.replicate 7 0) ((Rd.new W (List.replicate 7 0) _ rfl _).more (by simp)) (x := 0) (S' := (⟨false, false, 0, 9, [⟨[111, 110, 101], [112, 113], 0⟩, ⟨[116, 119, 111], [0, 0, 0, 0, 0, 0, 0], 0⟩]⟩ : Ab)) (by kernel_rfl))
    have K46 := Lib.hid (fun W (hl : Lon wa D B (⟨false, false, 0, 9, [⟨[111, 110, 101], [112, 113], 0⟩, ⟨[116, 119, 111], [0, 0, 0, 0, 0, 0, 0], 0⟩]⟩ : Ab) W) => lon_append (S := (⟨false, false, 0, 9, [⟨[111, 110, 101], [112, 113], 0⟩, ⟨[116, 119, 111], [0, 0, 0, 0, 0, 0, 0], 0⟩]⟩ : Ab)) hl ⟨#[111, 110, 101]⟩ (sz _ (by decide)) none 0 0 [] Rd.nil (x := 0) (S' := (⟨false, false, 0, 9, [⟨[111, 110, 101], [112, 113], 0⟩, ⟨[116, 119, 111], [0, 0, 0, 0, 0, 0, 0], 0⟩]⟩ : Ab)) (by kernel_rfl))
    have K47 := Lib.hid (fun W (hl : Lon wa D B (⟨false, false, 0, 9, [⟨[111, 110, 101], [112, 113], 0⟩, ⟨[116, 119, 111], [0, 0, 0, 0, 0, 0, 0], 0⟩]⟩ : Ab) W) => lon_used (S := (⟨false, false, 0, 9, [⟨[111, 110, 101], [112, 113], 0⟩, ⟨[116, 119, 111], [0, 0, 0, 0, 0, 0, 0], 0⟩]⟩ : Ab)) hl (n := 9) (by kernel_rfl))
    obtain ⟨u0, hu0⟩ : ∃ u, wd.drew = u := ⟨_, rfl⟩
    have HU0 := Lib.hid (show Lon wa D B (⟨false, false, 0, 9, [⟨[111, 110, 101], [112, 113], 0⟩]⟩ : Ab) u0 from by rw [← hu0]; exact HLc.out.no (Fr.drew No wd))
    refine wp_region_held_drew (S := fun _ => True) (by kernel_rfl) True.intro (fun hHeld => ?_)
    rw [hu0]
    clear hu0
    clear hHeld
    refine wpAnyH_take (i := 0) (oi := _) (v := .pointer (some ⟨D, 0, none⟩)) rfl (by kernel_rfl) (by kernel_rfl) (by kernel_rfl) (fun _ _ _ h => h) (Or.inl ⟨by rfl, fun W hS => by rfl⟩) True.intro ?_
    try simp only [Act.put, List.getElem_toArray, List.getElem_cons_zero, List.setIfInBounds_toArray, List.set_cons_zero, List.set_cons_succ]
    refine wpAnyH_ready (rs := [1]) (by kernel_rfl) (by simp) ?_
    refine AllReadyH.cons (o := _) rfl (fun K hK => ?_) AllReadyH.nil
    rw [if_pos (by rfl)]
    go_wp2_with fail
    refine (K41.out _ HU0.out).mono ?_
    rintro e u1 ⟨rfl, hl⟩
    have HU1 := Lib.hid (show Lon wa D B (⟨false, false, 0, 9, [⟨[111, 110, 101], [112, 113], 0⟩]⟩ : Ab) u1 from hl)
    clear hl
    refine hK.out _ _ True.intro (fun _ => ?_)
    clear hK K
    try simp only [Act.put, List.getElem_toArray, List.getElem_cons_zero, List.getElem_cons_succ, List.setIfInBounds_toArray, List.set_cons_zero, List.set_cons_succ]
    refine wpAnyH_take (i := 2) (oi := _) (v := .bool false) rfl (by kernel_rfl) (by kernel_rfl) (by kernel_rfl) (fun _ _ _ h => h) (Or.inl ⟨by rfl, fun W hS => by go_simp⟩) True.intro ?_
    try simp only [Act.put, List.getElem_toArray, List.getElem_cons_zero, List.getElem_cons_succ, List.setIfInBounds_toArray, List.set_cons_zero, List.set_cons_succ]
    refine wpAnyH_take (i := 3) (oi := _) (v := .bool false) rfl (by kernel_rfl) (by kernel_rfl) (by kernel_rfl) (fun _ _ _ h => h) (Or.inl ⟨by rfl, fun W hS => by rfl⟩) True.intro ?_
    try simp only [Act.put, List.getElem_toArray, List.getElem_cons_zero, List.getElem_cons_succ, List.setIfInBounds_toArray, List.set_cons_zero, List.set_cons_succ]
    refine wpAnyH_take (i := 4) (oi := _) (v := .pointer (some ⟨D, 0, none⟩)) rfl (by kernel_rfl) (by kernel_rfl) (by kernel_rfl) (fun _ _ _ h => h) (Or.inl ⟨by rfl, fun W hS => by rfl⟩) True.intro ?_
    try simp only [Act.put, List.getElem_toArray, List.getElem_cons_zero, List.getElem_cons_succ, List.setIfInBounds_toArray, List.set_cons_zero, List.set_cons_succ]
    refine wpAnyH_take (i := 7) (oi := _) (v := .pointer (some ⟨D, 0, none⟩)) rfl (by kernel_rfl) (by kernel_rfl) (by kernel_rfl) (fun _ _ _ h => h) (Or.inl ⟨by rfl, fun W hS => by rfl⟩) True.intro ?_
    try simp only [Act.put, List.getElem_toArray, List.getElem_cons_zero, List.getElem_cons_succ, List.setIfInBounds_toArray, List.set_cons_zero, List.set_cons_succ]
    refine wpAnyH_ready (rs := [5, 8]) (by kernel_rfl) (by simp) ?_
    refine AllReadyH.cons (o := _) rfl (fun K hK => ?_) (AllReadyH.cons (o := _) rfl (fun K hK => ?_) AllReadyH.nil)
    case' refine_1 =>
      rw [if_pos (by rfl)]
      go_wp2_with fail
      refine hK.out _ _ True.intro (fun _ => ?_)
      clear hK K
      try simp only [Act.put, List.getElem_toArray, List.getElem_cons_zero, List.getElem_cons_succ, List.setIfInBounds_toArray, List.set_cons_zero, List.set_cons_succ]
      obtain ⟨u2, hu2⟩ : ∃ u, u1.alloc (.cells #[.int .u8 0, .int .u8 0, .int .u8 0, .int .u8 0, .int .u8 0, .int .u8 0, .int .u8 0, .int .u8 0] 5) = u := ⟨_, rfl⟩
      have HU2 := Lib.hid (show Lon wa D B (⟨false, false, 0, 9, [⟨[111, 110, 101], [112, 113], 0⟩]⟩ : Ab) u2 from by rw [← hu2]; exact HU1.out.no (Fr.alloc No _ _))
      rw [hu2]
      clear hu2
      refine wpAnyH_ready (rs := [6, 8]) (by kernel_rfl) (by simp) ?_
      refine AllReadyH.cons (o := _) rfl (fun K hK => ?_) (AllReadyH.cons (o := _) rfl (fun K hK => ?_) AllReadyH.nil)
      case' refine_1 =>
        rw [if_pos (by rfl)]
        go_wp2_with fail
        refine (K42.out _ _ HU2.out).mono ?_
        rintro e u3 ⟨rfl, hl⟩
        have HU3 := Lib.hid (show Lon wa D B (⟨false, false, 0, 9, [⟨[111, 110, 101], [112, 113], 0⟩]⟩ : Ab) u3 from hl)
        clear hl
        refine hK.out _ _ True.intro (fun _ => ?_)
        clear hK K
        try simp only [Act.put, List.getElem_toArray, List.getElem_cons_zero, List.getElem_cons_succ, List.setIfInBounds_toArray, List.set_cons_zero, List.set_cons_succ]
        refine wpAnyH_ready (rs := [8]) (by kernel_rfl) (by simp) ?_
        refine AllReadyH.cons (o := _) rfl (fun K hK => ?_) AllReadyH.nil
        rw [if_pos (by rfl)]
        go_wp2_with fail
        refine hK.out _ _ True.intro (fun _ => ?_)
        clear hK K
        try simp only [Act.put, List.getElem_toArray, List.getElem_cons_zero, List.getElem_cons_succ, List.setIfInBounds_toArray, List.set_cons_zero, List.set_cons_succ]
        obtain ⟨u4, hu4⟩ : ∃ u, u3.alloc (.cells #[.int .u8 0, .int .u8 0, .int .u8 0, .int .u8 0, .int .u8 0, .int .u8 0, .int .u8 0, .int .u8 0] 5) = u := ⟨_, rfl⟩
        have HU4 := Lib.hid (show Lon wa D B (⟨false, false, 0, 9, [⟨[111, 110, 101], [112, 113], 0⟩]⟩ : Ab) u4 from by rw [← hu4]; exact HU3.out.no (Fr.alloc No _ _))
        rw [hu4]
        clear hu4
        refine wpAnyH_ready (rs := [9]) (by kernel_rfl) (by simp) ?_
        refine AllReadyH.cons (o := _) rfl (fun K hK => ?_) AllReadyH.nil
        rw [if_pos (by rfl)]
        go_wp2_with fail
        refine (K43.out _ _ HU4.out).mono ?_
        rintro e u5 ⟨rfl, hl⟩
        have HU5 := Lib.hid (show Lon wa D B (⟨false, false, 0, 9, [⟨[111, 110, 101], [112, 113], 0⟩]⟩ : Ab) u5 from hl)
        clear hl
        refine hK.out _ _ True.intro (fun _ => ?_)
        clear hK K
        try simp only [Act.put, List.getElem_toArray, List.getElem_cons_zero, List.getElem_cons_succ, List.setIfInBounds_toArray, List.set_cons_zero, List.set_cons_succ]
        refine wpAnyH_ready (rs := [10]) (by kernel_rfl) (by simp) ?_
        refine AllReadyH.cons (o := _) rfl (fun K hK => ?_) AllReadyH.nil
        rw [if_pos (by rfl)]
        go_wp2_with fail
        refine hK.out _ _ True.intro (fun _ => ?_)
        clear hK K
        try simp only [Act.put, List.getElem_toArray, List.getElem_cons_zero, List.getElem_cons_succ, List.setIfInBounds_toArray, List.set_cons_zero, List.set_cons_succ]
        refine wpAnyH_ready (rs := [11]) (by kernel_rfl) (by simp) ?_
        refine AllReadyH.cons (o := _) rfl (fun K hK => ?_) AllReadyH.nil
        rw [if_pos (by rfl)]
        go_wp2_with fail
        refine (K44.out _).mono ?_
        rintro e u6 ⟨rfl, hw⟩
        have HU6 := Lib.hid (show Lon wa D B (⟨false, false, 0, 9, [⟨[111, 110, 101], [112, 113], 0⟩]⟩ : Ab) u6 from by rw [← hw]; exact HU5.out.no (Fr.alloc No _ _))
        clear hw
        refine hK.out _ _ True.intro (fun _ => ?_)
        clear hK K
        try simp only [Act.put, List.getElem_toArray, List.getElem_cons_zero, List.getElem_cons_succ, List.setIfInBounds_toArray, List.set_cons_zero, List.set_cons_succ]
        refine wpAnyH_take (i := 12) (oi := _) (v := .bool false) rfl (by kernel_rfl) (by kernel_rfl) (by kernel_rfl) (fun _ _ _ h => h) (Or.inl ⟨by rfl, fun W hS => by go_simp⟩) True.intro ?_
        try simp only [Act.put, List.getElem_toArray, List.getElem_cons_zero, List.getElem_cons_succ, List.setIfInBounds_toArray, List.set_cons_zero, List.set_cons_succ]
        refine wpAnyH_take (i := 13) (oi := _) (v := .bool false) rfl (by kernel_rfl) (by kernel_rfl) (by kernel_rfl) (fun _ _ _ h => h) (Or.inl ⟨by rfl, fun W hS => by go_simp⟩) True.intro ?_
        try simp only [Act.put, List.getElem_toArray, List.getElem_cons_zero, List.getElem_cons_succ, List.setIfInBounds_toArray, List.set_cons_zero, List.set_cons_succ]
        refine wpAnyH_take (i := 14) (oi := _) (v := .bool false) rfl (by kernel_rfl) (by kernel_rfl) (by kernel_rfl) (fun _ _ _ h => h) (Or.inl ⟨by rfl, fun W hS => by rfl⟩) True.intro ?_
        try simp only [Act.put, List.getElem_toArray, List.getElem_cons_zero, List.getElem_cons_succ, List.setIfInBounds_toArray, List.set_cons_zero, List.set_cons_succ]
        refine wpAnyH_take (i := 15) (oi := _) (v := .pointer (some ⟨D, 0, none⟩)) rfl (by kernel_rfl) (by kernel_rfl) (by kernel_rfl) (fun _ _ _ h => h) (Or.inl ⟨by rfl, fun W hS => by rfl⟩) True.intro ?_
        try simp only [Act.put, List.getElem_toArray, List.getElem_cons_zero, List.getElem_cons_succ, List.setIfInBounds_toArray, List.set_cons_zero, List.set_cons_succ]
        refine wpAnyH_ready (rs := [16]) (by kernel_rfl) (by simp) ?_
        refine AllReadyH.cons (o := _) rfl (fun K hK => ?_) AllReadyH.nil
        rw [if_pos (by rfl)]
        go_wp2_with fail
        refine hK.out _ _ True.intro (fun _ => ?_)
        clear hK K
        try simp only [Act.put, List.getElem_toArray, List.getElem_cons_zero, List.getElem_cons_succ, List.setIfInBounds_toArray, List.set_cons_zero, List.set_cons_succ]
        refine wpAnyH_ready (rs := [17]) (by kernel_rfl) (by simp) ?_
        refine AllReadyH.cons (o := _) rfl (fun K hK => ?_) AllReadyH.nil
        rw [if_pos (by rfl)]
        go_wp2_with fail
        refine (K45.out _ HU6.out).mono ?_
        rintro e u7 ⟨rfl, hl⟩
        have HU7 := Lib.hid (show Lon wa D B (⟨false, false, 0, 9, [⟨[111, 110, 101], [112, 113], 0⟩, ⟨[116, 119, 111], [0, 0, 0, 0, 0, 0, 0], 0⟩]⟩ : Ab) u7 from hl)
        clear hl
        refine hK.out _ _ True.intro (fun _ => ?_)
        clear hK K
        try simp only [Act.put, List.getElem_toArray, List.getElem_cons_zero, List.getElem_cons_succ, List.setIfInBounds_toArray, List.set_cons_zero, List.set_cons_succ]
        refine wpAnyH_take (i := 18) (oi := _) (v := .bool false) rfl (by kernel_rfl) (by kernel_rfl) (by kernel_rfl) (fun _ _ _ h => h) (Or.inl ⟨by rfl, fun W hS => by go_simp⟩) True.intro ?_
        try simp only [Act.put, List.getElem_toArray, List.getElem_cons_zero, List.getElem_cons_succ, List.setIfInBounds_toArray, List.set_cons_zero, List.set_cons_succ]
        refine wpAnyH_take (i := 19) (oi := _) (v := .bool false) rfl (by kernel_rfl) (by kernel_rfl) (by kernel_rfl) (fun _ _ _ h => h) (Or.inl ⟨by rfl, fun W hS => by go_simp⟩) True.intro ?_
        try simp only [Act.put, List.getElem_toArray, List.getElem_cons_zero, List.getElem_cons_succ, List.setIfInBounds_toArray, List.set_cons_zero, List.set_cons_succ]
        refine wpAnyH_take (i := 20) (oi := _) (v := .bool false) rfl (by kernel_rfl) (by kernel_rfl) (by kernel_rfl) (fun _ _ _ h => h) (Or.inl ⟨by rfl, fun W hS => by rfl⟩) True.intro ?_
        try simp only [Act.put, List.getElem_toArray, List.getElem_cons_zero, List.getElem_cons_succ, List.setIfInBounds_toArray, List.set_cons_zero, List.set_cons_succ]
        refine wpAnyH_take (i := 21) (oi := _) (v := .pointer (some ⟨D, 0, none⟩)) rfl (by kernel_rfl) (by kernel_rfl) (by kernel_rfl) (fun _ _ _ h => h) (Or.inl ⟨by rfl, fun W hS => by rfl⟩) True.intro ?_
        try simp only [Act.put, List.getElem_toArray, List.getElem_cons_zero, List.getElem_cons_succ, List.setIfInBounds_toArray, List.set_cons_zero, List.set_cons_succ]
        refine wpAnyH_ready (rs := [22]) (by kernel_rfl) (by simp) ?_
        refine AllReadyH.cons (o := _) rfl (fun K hK => ?_) AllReadyH.nil
        rw [if_pos (by rfl)]
        go_wp2_with fail
        refine (K46.out _ HU7.out).mono ?_
        rintro e u8 ⟨rfl, hl⟩
        have HU8 := Lib.hid (show Lon wa D B (⟨false, false, 0, 9, [⟨[111, 110, 101], [112, 113], 0⟩, ⟨[116, 119, 111], [0, 0, 0, 0, 0, 0, 0], 0⟩]⟩ : Ab) u8 from hl)
        clear hl
        refine hK.out _ _ True.intro (fun _ => ?_)
        clear hK K
        try simp only [Act.put, List.getElem_toArray, List.getElem_cons_zero, List.getElem_cons_succ, List.setIfInBounds_toArray, List.set_cons_zero, List.set_cons_succ]
        refine wpAnyH_take (i := 23) (oi := _) (v := .bool false) rfl (by kernel_rfl) (by kernel_rfl) (by kernel_rfl) (fun _ _ _ h => h) (Or.inl ⟨by rfl, fun W hS => by go_simp⟩) True.intro ?_
        try simp only [Act.put, List.getElem_toArray, List.getElem_cons_zero, List.getElem_cons_succ, List.setIfInBounds_toArray, List.set_cons_zero, List.set_cons_succ]
        refine wpAnyH_take (i := 24) (oi := _) (v := .bool false) rfl (by kernel_rfl) (by kernel_rfl) (by kernel_rfl) (fun _ _ _ h => h) (Or.inl ⟨by rfl, fun W hS => by go_simp⟩) True.intro ?_
        try simp only [Act.put, List.getElem_toArray, List.getElem_cons_zero, List.getElem_cons_succ, List.setIfInBounds_toArray, List.set_cons_zero, List.set_cons_succ]
        refine wpAnyH_take (i := 25) (oi := _) (v := .bool false) rfl (by kernel_rfl) (by kernel_rfl) (by kernel_rfl) (fun _ _ _ h => h) (Or.inl ⟨by rfl, fun W hS => by rfl⟩) True.intro ?_
        try simp only [Act.put, List.getElem_toArray, List.getElem_cons_zero, List.getElem_cons_succ, List.setIfInBounds_toArray, List.set_cons_zero, List.set_cons_succ]
        refine wpAnyH_take (i := 26) (oi := _) (v := .pointer (some ⟨D, 0, none⟩)) rfl (by kernel_rfl) (by kernel_rfl) (by kernel_rfl) (fun _ _ _ h => h) (Or.inl ⟨by rfl, fun W hS => by rfl⟩) True.intro ?_
        try simp only [Act.put, List.getElem_toArray, List.getElem_cons_zero, List.getElem_cons_succ, List.setIfInBounds_toArray, List.set_cons_zero, List.set_cons_succ]
        refine wpAnyH_ready (rs := [27]) (by kernel_rfl) (by simp) ?_
        refine AllReadyH.cons (o := _) rfl (fun K hK => ?_) AllReadyH.nil
        rw [if_pos (by rfl)]
        go_wp2_with fail
        refine (K47.out _ HU8.out).mono ?_
        rintro e u9 ⟨rfl, hl⟩
        have HU9 := Lib.hid (show Lon wa D B (⟨false, false, 0, 9, [⟨[111, 110, 101], [112, 113], 0⟩, ⟨[116, 119, 111], [0, 0, 0, 0, 0, 0, 0], 0⟩]⟩ : Ab) u9 from hl)
        clear hl
        refine hK.out _ _ True.intro (fun _ => ?_)
        clear hK K
        try simp only [Act.put, List.getElem_toArray, List.getElem_cons_zero, List.getElem_cons_succ, List.setIfInBounds_toArray, List.set_cons_zero, List.set_cons_succ]
        refine wpAnyH_take (i := 28) (oi := _) (v := .bool false) rfl (by kernel_rfl) (by kernel_rfl) (by kernel_rfl) (fun _ _ _ h => h) (Or.inl ⟨by rfl, fun W hS => by go_simp⟩) True.intro ?_
        try simp only [Act.put, List.getElem_toArray, List.getElem_cons_zero, List.getElem_cons_succ, List.setIfInBounds_toArray, List.set_cons_zero, List.set_cons_succ]
        refine wpAnyH_take (i := 29) (oi := _) (v := .bool false) rfl (by kernel_rfl) (by kernel_rfl) (by kernel_rfl) (fun _ _ _ h => h) (Or.inl ⟨by rfl, fun W hS => by go_simp⟩) True.intro ?_
        try simp only [Act.put, List.getElem_toArray, List.getElem_cons_zero, List.getElem_cons_succ, List.setIfInBounds_toArray, List.set_cons_zero, List.set_cons_succ]
        refine wpAnyH_done (by kernel_rfl) ?_ _
        go_wp2_with fail
        go_meet
        exact ⟨rfl, HU9.out⟩
      case' refine_2 =>
        rw [if_pos (by rfl)]
        go_wp2_with fail
        refine hK.out _ _ True.intro (fun _ => ?_)
        clear hK K
        try simp only [Act.put, List.getElem_toArray, List.getElem_cons_zero, List.getElem_cons_succ, List.setIfInBounds_toArray, List.set_cons_zero, List.set_cons_succ]
        obtain ⟨u3, hu3⟩ : ∃ u, u2.alloc (.cells #[.int .u8 0, .int .u8 0, .int .u8 0, .int .u8 0, .int .u8 0, .int .u8 0, .int .u8 0, .int .u8 0] 5) = u := ⟨_, rfl⟩
        have HU3 := Lib.hid (show Lon wa D B (⟨false, false, 0, 9, [⟨[111, 110, 101], [112, 113], 0⟩]⟩ : Ab) u3 from by rw [← hu3]; exact HU2.out.no (Fr.alloc No _ _))
        rw [hu3]
        clear hu3
        refine wpAnyH_ready (rs := [6]) (by kernel_rfl) (by simp) ?_
        refine AllReadyH.cons (o := _) rfl (fun K hK => ?_) AllReadyH.nil
        rw [if_pos (by rfl)]
        go_wp2_with fail
        refine (K42.out _ _ HU3.out).mono ?_
        rintro e u4 ⟨rfl, hl⟩
        have HU4 := Lib.hid (show Lon wa D B (⟨false, false, 0, 9, [⟨[111, 110, 101], [112, 113], 0⟩]⟩ : Ab) u4 from hl)
        clear hl
        refine hK.out _ _ True.intro (fun _ => ?_)
        clear hK K
        try simp only [Act.put, List.getElem_toArray, List.getElem_cons_zero, List.getElem_cons_succ, List.setIfInBounds_toArray, List.set_cons_zero, List.set_cons_succ]
        refine wpAnyH_ready (rs := [9]) (by kernel_rfl) (by simp) ?_
        refine AllReadyH.cons (o := _) rfl (fun K hK => ?_) AllReadyH.nil
        rw [if_pos (by rfl)]
        go_wp2_with fail
        refine (K43.out _ _ HU4.out).mono ?_
        rintro e u5 ⟨rfl, hl⟩
        have HU5 := Lib.hid (show Lon wa D B (⟨false, false, 0, 9, [⟨[111, 110, 101], [112, 113], 0⟩]⟩ : Ab) u5 from hl)
        clear hl
        refine hK.out _ _ True.intro (fun _ => ?_)
        clear hK K
        try simp only [Act.put, List.getElem_toArray, List.getElem_cons_zero, List.getElem_cons_succ, List.setIfInBounds_toArray, List.set_cons_zero, List.set_cons_succ]
        refine wpAnyH_ready (rs := [10]) (by kernel_rfl) (by simp) ?_
        refine AllReadyH.cons (o := _) rfl (fun K hK => ?_) AllReadyH.nil
        rw [if_pos (by rfl)]
        go_wp2_with fail
        refine hK.out _ _ True.intro (fun _ => ?_)
        clear hK K
        try simp only [Act.put, List.getElem_toArray, List.getElem_cons_zero, List.getElem_cons_succ, List.setIfInBounds_toArray, List.set_cons_zero, List.set_cons_succ]
        refine wpAnyH_ready (rs := [11]) (by kernel_rfl) (by simp) ?_
        refine AllReadyH.cons (o := _) rfl (fun K hK => ?_) AllReadyH.nil
        rw [if_pos (by rfl)]
        go_wp2_with fail
        refine (K44.out _).mono ?_
        rintro e u6 ⟨rfl, hw⟩
        have HU6 := Lib.hid (show Lon wa D B (⟨false, false, 0, 9, [⟨[111, 110, 101], [112, 113], 0⟩]⟩ : Ab) u6 from by rw [← hw]; exact HU5.out.no (Fr.alloc No _ _))
        clear hw
        refine hK.out _ _ True.intro (fun _ => ?_)
        clear hK K
        try simp only [Act.put, List.getElem_toArray, List.getElem_cons_zero, List.getElem_cons_succ, List.setIfInBounds_toArray, List.set_cons_zero, List.set_cons_succ]
        refine wpAnyH_take (i := 12) (oi := _) (v := .bool false) rfl (by kernel_rfl) (by kernel_rfl) (by kernel_rfl) (fun _ _ _ h => h) (Or.inl ⟨by rfl, fun W hS => by go_simp⟩) True.intro ?_
        try simp only [Act.put, List.getElem_toArray, List.getElem_cons_zero, List.getElem_cons_succ, List.setIfInBounds_toArray, List.set_cons_zero, List.set_cons_succ]
        refine wpAnyH_take (i := 13) (oi := _) (v := .bool false) rfl (by kernel_rfl) (by kernel_rfl) (by kernel_rfl) (fun _ _ _ h => h) (Or.inl ⟨by rfl, fun W hS => by go_simp⟩) True.intro ?_
        try simp only [Act.put, List.getElem_toArray, List.getElem_cons_zero, List.getElem_cons_succ, List.setIfInBounds_toArray, List.set_cons_zero, List.set_cons_succ]
        refine wpAnyH_take (i := 14) (oi := _) (v := .bool false) rfl (by kernel_rfl) (by kernel_rfl) (by kernel_rfl) (fun _ _ _ h => h) (Or.inl ⟨by rfl, fun W hS => by rfl⟩) True.intro ?_
        try simp only [Act.put, List.getElem_toArray, List.getElem_cons_zero, List.getElem_cons_succ, List.setIfInBounds_toArray, List.set_cons_zero, List.set_cons_succ]
        refine wpAnyH_take (i := 15) (oi := _) (v := .pointer (some ⟨D, 0, none⟩)) rfl (by kernel_rfl) (by kernel_rfl) (by kernel_rfl) (fun _ _ _ h => h) (Or.inl ⟨by rfl, fun W hS => by rfl⟩) True.intro ?_
        try simp only [Act.put, List.getElem_toArray, List.getElem_cons_zero, List.getElem_cons_succ, List.setIfInBounds_toArray, List.set_cons_zero, List.set_cons_succ]
        refine wpAnyH_ready (rs := [16]) (by kernel_rfl) (by simp) ?_
        refine AllReadyH.cons (o := _) rfl (fun K hK => ?_) AllReadyH.nil
        rw [if_pos (by rfl)]
        go_wp2_with fail
        refine hK.out _ _ True.intro (fun _ => ?_)
        clear hK K
        try simp only [Act.put, List.getElem_toArray, List.getElem_cons_zero, List.getElem_cons_succ, List.setIfInBounds_toArray, List.set_cons_zero, List.set_cons_succ]
        refine wpAnyH_ready (rs := [17]) (by kernel_rfl) (by simp) ?_
        refine AllReadyH.cons (o := _) rfl (fun K hK => ?_) AllReadyH.nil
        rw [if_pos (by rfl)]
        go_wp2_with fail
        refine (K45.out _ HU6.out).mono ?_
        rintro e u7 ⟨rfl, hl⟩
        have HU7 := Lib.hid (show Lon wa D B (⟨false, false, 0, 9, [⟨[111, 110, 101], [112, 113], 0⟩, ⟨[116, 119, 111], [0, 0, 0, 0, 0, 0, 0], 0⟩]⟩ : Ab) u7 from hl)
        clear hl
        refine hK.out _ _ True.intro (fun _ => ?_)
        clear hK K
        try simp only [Act.put, List.getElem_toArray, List.getElem_cons_zero, List.getElem_cons_succ, List.setIfInBounds_toArray, List.set_cons_zero, List.set_cons_succ]
        refine wpAnyH_take (i := 18) (oi := _) (v := .bool false) rfl (by kernel_rfl) (by kernel_rfl) (by kernel_rfl) (fun _ _ _ h => h) (Or.inl ⟨by rfl, fun W hS => by go_simp⟩) True.intro ?_
        try simp only [Act.put, List.getElem_toArray, List.getElem_cons_zero, List.getElem_cons_succ, List.setIfInBounds_toArray, List.set_cons_zero, List.set_cons_succ]
        refine wpAnyH_take (i := 19) (oi := _) (v := .bool false) rfl (by kernel_rfl) (by kernel_rfl) (by kernel_rfl) (fun _ _ _ h => h) (Or.inl ⟨by rfl, fun W hS => by go_simp⟩) True.intro ?_
        try simp only [Act.put, List.getElem_toArray, List.getElem_cons_zero, List.getElem_cons_succ, List.setIfInBounds_toArray, List.set_cons_zero, List.set_cons_succ]
        refine wpAnyH_take (i := 20) (oi := _) (v := .bool false) rfl (by kernel_rfl) (by kernel_rfl) (by kernel_rfl) (fun _ _ _ h => h) (Or.inl ⟨by rfl, fun W hS => by rfl⟩) True.intro ?_
        try simp only [Act.put, List.getElem_toArray, List.getElem_cons_zero, List.getElem_cons_succ, List.setIfInBounds_toArray, List.set_cons_zero, List.set_cons_succ]
        refine wpAnyH_take (i := 21) (oi := _) (v := .pointer (some ⟨D, 0, none⟩)) rfl (by kernel_rfl) (by kernel_rfl) (by kernel_rfl) (fun _ _ _ h => h) (Or.inl ⟨by rfl, fun W hS => by rfl⟩) True.intro ?_
        try simp only [Act.put, List.getElem_toArray, List.getElem_cons_zero, List.getElem_cons_succ, List.setIfInBounds_toArray, List.set_cons_zero, List.set_cons_succ]
        refine wpAnyH_ready (rs := [22]) (by kernel_rfl) (by simp) ?_
        refine AllReadyH.cons (o := _) rfl (fun K hK => ?_) AllReadyH.nil
        rw [if_pos (by rfl)]
        go_wp2_with fail
        refine (K46.out _ HU7.out).mono ?_
        rintro e u8 ⟨rfl, hl⟩
        have HU8 := Lib.hid (show Lon wa D B (⟨false, false, 0, 9, [⟨[111, 110, 101], [112, 113], 0⟩, ⟨[116, 119, 111], [0, 0, 0, 0, 0, 0, 0], 0⟩]⟩ : Ab) u8 from hl)
        clear hl
        refine hK.out _ _ True.intro (fun _ => ?_)
        clear hK K
        try simp only [Act.put, List.getElem_toArray, List.getElem_cons_zero, List.getElem_cons_succ, List.setIfInBounds_toArray, List.set_cons_zero, List.set_cons_succ]
        refine wpAnyH_take (i := 23) (oi := _) (v := .bool false) rfl (by kernel_rfl) (by kernel_rfl) (by kernel_rfl) (fun _ _ _ h => h) (Or.inl ⟨by rfl, fun W hS => by go_simp⟩) True.intro ?_
        try simp only [Act.put, List.getElem_toArray, List.getElem_cons_zero, List.getElem_cons_succ, List.setIfInBounds_toArray, List.set_cons_zero, List.set_cons_succ]
        refine wpAnyH_take (i := 24) (oi := _) (v := .bool false) rfl (by kernel_rfl) (by kernel_rfl) (by kernel_rfl) (fun _ _ _ h => h) (Or.inl ⟨by rfl, fun W hS => by go_simp⟩) True.intro ?_
        try simp only [Act.put, List.getElem_toArray, List.getElem_cons_zero, List.getElem_cons_succ, List.setIfInBounds_toArray, List.set_cons_zero, List.set_cons_succ]
        refine wpAnyH_take (i := 25) (oi := _) (v := .bool false) rfl (by kernel_rfl) (by kernel_rfl) (by kernel_rfl) (fun _ _ _ h => h) (Or.inl ⟨by rfl, fun W hS => by rfl⟩) True.intro ?_
        try simp only [Act.put, List.getElem_toArray, List.getElem_cons_zero, List.getElem_cons_succ, List.setIfInBounds_toArray, List.set_cons_zero, List.set_cons_succ]
        refine wpAnyH_take (i := 26) (oi := _) (v := .pointer (some ⟨D, 0, none⟩)) rfl (by kernel_rfl) (by kernel_rfl) (by kernel_rfl) (fun _ _ _ h => h) (Or.inl ⟨by rfl, fun W hS => by rfl⟩) True.intro ?_
        try simp only [Act.put, List.getElem_toArray, List.getElem_cons_zero, List.getElem_cons_succ, List.setIfInBounds_toArray, List.set_cons_zero, List.set_cons_succ]
        refine wpAnyH_ready (rs := [27]) (by kernel_rfl) (by simp) ?_
        refine AllReadyH.cons (o := _) rfl (fun K hK => ?_) AllReadyH.nil
        rw [if_pos (by rfl)]
        go_wp2_with fail
        refine (K47.out _ HU8.out).mono ?_
        rintro e u9 ⟨rfl, hl⟩
        have HU9 := Lib.hid (show Lon wa D B (⟨false, false, 0, 9, [⟨[111, 110, 101], [112, 113], 0⟩, ⟨[116, 119, 111], [0, 0, 0, 0, 0, 0, 0], 0⟩]⟩ : Ab) u9 from hl)
        clear hl
        refine hK.out _ _ True.intro (fun _ => ?_)
        clear hK K
        try simp only [Act.put, List.getElem_toArray, List.getElem_cons_zero, List.getElem_cons_succ, List.setIfInBounds_toArray, List.set_cons_zero, List.set_cons_succ]
        refine wpAnyH_take (i := 28) (oi := _) (v := .bool false) rfl (by kernel_rfl) (by kernel_rfl) (by kernel_rfl) (fun _ _ _ h => h) (Or.inl ⟨by rfl, fun W hS => by go_simp⟩) True.intro ?_
        try simp only [Act.put, List.getElem_toArray, List.getElem_cons_zero, List.getElem_cons_succ, List.setIfInBounds_toArray, List.set_cons_zero, List.set_cons_succ]
        refine wpAnyH_take (i := 29) (oi := _) (v := .bool false) rfl (by kernel_rfl) (by kernel_rfl) (by kernel_rfl) (fun _ _ _ h => h) (Or.inl ⟨by rfl, fun W hS => by go_simp⟩) True.intro ?_
        try simp only [Act.put, List.getElem_toArray, List.getElem_cons_zero, List.getElem_cons_succ, List.setIfInBounds_toArray, List.set_cons_zero, List.set_cons_succ]
        refine wpAnyH_done (by kernel_rfl) ?_ _
        go_wp2_with fail
        go_meet
        exact ⟨rfl, HU9.out⟩
    case' refine_2 =>
      rw [if_pos (by rfl)]
      go_wp2_with fail
      refine hK.out _ _ True.intro (fun _ => ?_)
      clear hK K
      try simp only [Act.put, List.getElem_toArray, List.getElem_cons_zero, List.getElem_cons_succ, List.setIfInBounds_toArray, List.set_cons_zero, List.set_cons_succ]
      obtain ⟨u2, hu2⟩ : ∃ u, u1.alloc (.cells #[.int .u8 0, .int .u8 0, .int .u8 0, .int .u8 0, .int .u8 0, .int .u8 0, .int .u8 0, .int .u8 0] 5) = u := ⟨_, rfl⟩
      have HU2 := Lib.hid (show Lon wa D B (⟨false, false, 0, 9, [⟨[111, 110, 101], [112, 113], 0⟩]⟩ : Ab) u2 from by rw [← hu2]; exact HU1.out.no (Fr.alloc No _ _))
      rw [hu2]
      clear hu2
      refine wpAnyH_ready (rs := [5]) (by kernel_rfl) (by simp) ?_
      refine AllReadyH.cons (o := _) rfl (fun K hK => ?_) AllReadyH.nil
      rw [if_pos (by rfl)]
      go_wp2_with fail
      refine hK.out _ _ True.intro (fun _ => ?_)
      clear hK K
      try simp only [Act.put, List.getElem_toArray, List.getElem_cons_zero, List.getElem_cons_succ, List.setIfInBounds_toArray, List.set_cons_zero, List.set_cons_succ]
      obtain ⟨u3, hu3⟩ : ∃ u, u2.alloc (.cells #[.int .u8 0, .int .u8 0, .int .u8 0, .int .u8 0, .int .u8 0, .int .u8 0, .int .u8 0, .int .u8 0] 5) = u := ⟨_, rfl⟩
      have HU3 := Lib.hid (show Lon wa D B (⟨false, false, 0, 9, [⟨[111, 110, 101], [112, 113], 0⟩]⟩ : Ab) u3 from by rw [← hu3]; exact HU2.out.no (Fr.alloc No _ _))
      rw [hu3]
      clear hu3
      refine wpAnyH_ready (rs := [6]) (by kernel_rfl) (by simp) ?_
      refine AllReadyH.cons (o := _) rfl (fun K hK => ?_) AllReadyH.nil
      rw [if_pos (by rfl)]
      go_wp2_with fail
      refine (K42.out _ _ HU3.out).mono ?_
      rintro e u4 ⟨rfl, hl⟩
      have HU4 := Lib.hid (show Lon wa D B (⟨false, false, 0, 9, [⟨[111, 110, 101], [112, 113], 0⟩]⟩ : Ab) u4 from hl)
      clear hl
      refine hK.out _ _ True.intro (fun _ => ?_)
      clear hK K
      try simp only [Act.put, List.getElem_toArray, List.getElem_cons_zero, List.getElem_cons_succ, List.setIfInBounds_toArray, List.set_cons_zero, List.set_cons_succ]
      refine wpAnyH_ready (rs := [9]) (by kernel_rfl) (by simp) ?_
      refine AllReadyH.cons (o := _) rfl (fun K hK => ?_) AllReadyH.nil
      rw [if_pos (by rfl)]
      go_wp2_with fail
      refine (K43.out _ _ HU4.out).mono ?_
      rintro e u5 ⟨rfl, hl⟩
      have HU5 := Lib.hid (show Lon wa D B (⟨false, false, 0, 9, [⟨[111, 110, 101], [112, 113], 0⟩]⟩ : Ab) u5 from hl)
      clear hl
      refine hK.out _ _ True.intro (fun _ => ?_)
      clear hK K
      try simp only [Act.put, List.getElem_toArray, List.getElem_cons_zero, List.getElem_cons_succ, List.setIfInBounds_toArray, List.set_cons_zero, List.set_cons_succ]
      refine wpAnyH_ready (rs := [10]) (by kernel_rfl) (by simp) ?_
      refine AllReadyH.cons (o := _) rfl (fun K hK => ?_) AllReadyH.nil
      rw [if_pos (by rfl)]
      go_wp2_with fail
      refine hK.out _ _ True.intro (fun _ => ?_)
      clear hK K
      try simp only [Act.put, List.getElem_toArray, List.getElem_cons_zero, List.getElem_cons_succ, List.setIfInBounds_toArray, List.set_cons_zero, List.set_cons_succ]
      refine wpAnyH_ready (rs := [11]) (by kernel_rfl) (by simp) ?_
      refine AllReadyH.cons (o := _) rfl (fun K hK => ?_) AllReadyH.nil
      rw [if_pos (by rfl)]
      go_wp2_with fail
      refine (K44.out _).mono ?_
      rintro e u6 ⟨rfl, hw⟩
      have HU6 := Lib.hid (show Lon wa D B (⟨false, false, 0, 9, [⟨[111, 110, 101], [112, 113], 0⟩]⟩ : Ab) u6 from by rw [← hw]; exact HU5.out.no (Fr.alloc No _ _))
      clear hw
      refine hK.out _ _ True.intro (fun _ => ?_)
      clear hK K
      try simp only [Act.put, List.getElem_toArray, List.getElem_cons_zero, List.getElem_cons_succ, List.setIfInBounds_toArray, List.set_cons_zero, List.set_cons_succ]
      refine wpAnyH_take (i := 12) (oi := _) (v := .bool false) rfl (by kernel_rfl) (by kernel_rfl) (by kernel_rfl) (fun _ _ _ h => h) (Or.inl ⟨by rfl, fun W hS => by go_simp⟩) True.intro ?_
      try simp only [Act.put, List.getElem_toArray, List.getElem_cons_zero, List.getElem_cons_succ, List.setIfInBounds_toArray, List.set_cons_zero, List.set_cons_succ]
      refine wpAnyH_take (i := 13) (oi := _) (v := .bool false) rfl (by kernel_rfl) (by kernel_rfl) (by kernel_rfl) (fun _ _ _ h => h) (Or.inl ⟨by rfl, fun W hS => by go_simp⟩) True.intro ?_
      try simp only [Act.put, List.getElem_toArray, List.getElem_cons_zero, List.getElem_cons_succ, List.setIfInBounds_toArray, List.set_cons_zero, List.set_cons_succ]
      refine wpAnyH_take (i := 14) (oi := _) (v := .bool false) rfl (by kernel_rfl) (by kernel_rfl) (by kernel_rfl) (fun _ _ _ h => h) (Or.inl ⟨by rfl, fun W hS => by rfl⟩) True.intro ?_
      try simp only [Act.put, List.getElem_toArray, List.getElem_cons_zero, List.getElem_cons_succ, List.setIfInBounds_toArray, List.set_cons_zero, List.set_cons_succ]
      refine wpAnyH_take (i := 15) (oi := _) (v := .pointer (some ⟨D, 0, none⟩)) rfl (by kernel_rfl) (by kernel_rfl) (by kernel_rfl) (fun _ _ _ h => h) (Or.inl ⟨by rfl, fun W hS => by rfl⟩) True.intro ?_
      try simp only [Act.put, List.getElem_toArray, List.getElem_cons_zero, List.getElem_cons_succ, List.setIfInBounds_toArray, List.set_cons_zero, List.set_cons_succ]
      refine wpAnyH_ready (rs := [16]) (by kernel_rfl) (by simp) ?_
      refine AllReadyH.cons (o := _) rfl (fun K hK => ?_) AllReadyH.nil
      rw [if_pos (by rfl)]
      go_wp2_with fail
      refine hK.out _ _ True.intro (fun _ => ?_)
      clear hK K
      try simp only [Act.put, List.getElem_toArray, List.getElem_cons_zero, List.getElem_cons_succ, List.setIfInBounds_toArray, List.set_cons_zero, List.set_cons_succ]
      refine wpAnyH_ready (rs := [17]) (by kernel_rfl) (by simp) ?_
      refine AllReadyH.cons (o := _) rfl (fun K hK => ?_) AllReadyH.nil
      rw [if_pos (by rfl)]
      go_wp2_with fail
      refine (K45.out _ HU6.out).mono ?_
      rintro e u7 ⟨rfl, hl⟩
      have HU7 := Lib.hid (show Lon wa D B (⟨false, false, 0, 9, [⟨[111, 110, 101], [112, 113], 0⟩, ⟨[116, 119, 111], [0, 0, 0, 0, 0, 0, 0], 0⟩]⟩ : Ab) u7 from hl)
      clear hl
      refine hK.out _ _ True.intro (fun _ => ?_)
      clear hK K
      try simp only [Act.put, List.getElem_toArray, List.getElem_cons_zero, List.getElem_cons_succ, List.setIfInBounds_toArray, List.set_cons_zero, List.set_cons_succ]
      refine wpAnyH_take (i := 18) (oi := _) (v := .bool false) rfl (by kernel_rfl) (by kernel_rfl) (by kernel_rfl) (fun _ _ _ h => h) (Or.inl ⟨by rfl, fun W hS => by go_simp⟩) True.intro ?_
      try simp only [Act.put, List.getElem_toArray, List.getElem_cons_zero, List.getElem_cons_succ, List.setIfInBounds_toArray, List.set_cons_zero, List.set_cons_succ]
      refine wpAnyH_take (i := 19) (oi := _) (v := .bool false) rfl (by kernel_rfl) (by kernel_rfl) (by kernel_rfl) (fun _ _ _ h => h) (Or.inl ⟨by rfl, fun W hS => by go_simp⟩) True.intro ?_
      try simp only [Act.put, List.getElem_toArray, List.getElem_cons_zero, List.getElem_cons_succ, List.setIfInBounds_toArray, List.set_cons_zero, List.set_cons_succ]
      refine wpAnyH_take (i := 20) (oi := _) (v := .bool false) rfl (by kernel_rfl) (by kernel_rfl) (by kernel_rfl) (fun _ _ _ h => h) (Or.inl ⟨by rfl, fun W hS => by rfl⟩) True.intro ?_
      try simp only [Act.put, List.getElem_toArray, List.getElem_cons_zero, List.getElem_cons_succ, List.setIfInBounds_toArray, List.set_cons_zero, List.set_cons_succ]
      refine wpAnyH_take (i := 21) (oi := _) (v := .pointer (some ⟨D, 0, none⟩)) rfl (by kernel_rfl) (by kernel_rfl) (by kernel_rfl) (fun _ _ _ h => h) (Or.inl ⟨by rfl, fun W hS => by rfl⟩) True.intro ?_
      try simp only [Act.put, List.getElem_toArray, List.getElem_cons_zero, List.getElem_cons_succ, List.setIfInBounds_toArray, List.set_cons_zero, List.set_cons_succ]
      refine wpAnyH_ready (rs := [22]) (by kernel_rfl) (by simp) ?_
      refine AllReadyH.cons (o := _) rfl (fun K hK => ?_) AllReadyH.nil
      rw [if_pos (by rfl)]
      go_wp2_with fail
      refine (K46.out _ HU7.out).mono ?_
      rintro e u8 ⟨rfl, hl⟩
      have HU8 := Lib.hid (show Lon wa D B (⟨false, false, 0, 9, [⟨[111, 110, 101], [112, 113], 0⟩, ⟨[116, 119, 111], [0, 0, 0, 0, 0, 0, 0], 0⟩]⟩ : Ab) u8 from hl)
      clear hl
      refine hK.out _ _ True.intro (fun _ => ?_)
      clear hK K
      try simp only [Act.put, List.getElem_toArray, List.getElem_cons_zero, List.getElem_cons_succ, List.setIfInBounds_toArray, List.set_cons_zero, List.set_cons_succ]
      refine wpAnyH_take (i := 23) (oi := _) (v := .bool false) rfl (by kernel_rfl) (by kernel_rfl) (by kernel_rfl) (fun _ _ _ h => h) (Or.inl ⟨by rfl, fun W hS => by go_simp⟩) True.intro ?_
      try simp only [Act.put, List.getElem_toArray, List.getElem_cons_zero, List.getElem_cons_succ, List.setIfInBounds_toArray, List.set_cons_zero, List.set_cons_succ]
      refine wpAnyH_take (i := 24) (oi := _) (v := .bool false) rfl (by kernel_rfl) (by kernel_rfl) (by kernel_rfl) (fun _ _ _ h => h) (Or.inl ⟨by rfl, fun W hS => by go_simp⟩) True.intro ?_
      try simp only [Act.put, List.getElem_toArray, List.getElem_cons_zero, List.getElem_cons_succ, List.setIfInBounds_toArray, List.set_cons_zero, List.set_cons_succ]
      refine wpAnyH_take (i := 25) (oi := _) (v := .bool false) rfl (by kernel_rfl) (by kernel_rfl) (by kernel_rfl) (fun _ _ _ h => h) (Or.inl ⟨by rfl, fun W hS => by rfl⟩) True.intro ?_
      try simp only [Act.put, List.getElem_toArray, List.getElem_cons_zero, List.getElem_cons_succ, List.setIfInBounds_toArray, List.set_cons_zero, List.set_cons_succ]
      refine wpAnyH_take (i := 26) (oi := _) (v := .pointer (some ⟨D, 0, none⟩)) rfl (by kernel_rfl) (by kernel_rfl) (by kernel_rfl) (fun _ _ _ h => h) (Or.inl ⟨by rfl, fun W hS => by rfl⟩) True.intro ?_
      try simp only [Act.put, List.getElem_toArray, List.getElem_cons_zero, List.getElem_cons_succ, List.setIfInBounds_toArray, List.set_cons_zero, List.set_cons_succ]
      refine wpAnyH_ready (rs := [27]) (by kernel_rfl) (by simp) ?_
      refine AllReadyH.cons (o := _) rfl (fun K hK => ?_) AllReadyH.nil
      rw [if_pos (by rfl)]
      go_wp2_with fail
      refine (K47.out _ HU8.out).mono ?_
      rintro e u9 ⟨rfl, hl⟩
      have HU9 := Lib.hid (show Lon wa D B (⟨false, false, 0, 9, [⟨[111, 110, 101], [112, 113], 0⟩, ⟨[116, 119, 111], [0, 0, 0, 0, 0, 0, 0], 0⟩]⟩ : Ab) u9 from hl)
      clear hl
      refine hK.out _ _ True.intro (fun _ => ?_)
      clear hK K
      try simp only [Act.put, List.getElem_toArray, List.getElem_cons_zero, List.getElem_cons_succ, List.setIfInBounds_toArray, List.set_cons_zero, List.set_cons_succ]
      refine wpAnyH_take (i := 28) (oi := _) (v := .bool false) rfl (by kernel_rfl) (by kernel_rfl) (by kernel_rfl) (fun _ _ _ h => h) (Or.inl ⟨by rfl, fun W hS => by go_simp⟩) True.intro ?_
      try simp only [Act.put, List.getElem_toArray, List.getElem_cons_zero, List.getElem_cons_succ, List.setIfInBounds_toArray, List.set_cons_zero, List.set_cons_succ]
      refine wpAnyH_take (i := 29) (oi := _) (v := .bool false) rfl (by kernel_rfl) (by kernel_rfl) (by kernel_rfl) (fun _ _ _ h => h) (Or.inl ⟨by rfl, fun W hS => by go_simp⟩) True.intro ?_
      try simp only [Act.put, List.getElem_toArray, List.getElem_cons_zero, List.getElem_cons_succ, List.setIfInBounds_toArray, List.set_cons_zero, List.set_cons_succ]
      refine wpAnyH_done (by kernel_rfl) ?_ _
      go_wp2_with fail
      go_meet
      exact ⟨rfl, HU9.out⟩
  case rest =>
    obtain ⟨rfl, hl⟩ := hcut
    have HL50 := Lib.hid hl
    clear hl
    go_wp2_with fail
    refine (lon_cut (HL50.out.no (by first | exact Fr.refl No _ | exact Fr.alloc No _ _ | exact (Fr.alloc No _ _).no_trans (Fr.alloc No _ _))) ⟨#[111, 110, 101]⟩ (sz _ (by decide)) (-1) (x := 2) (S' := (⟨false, false, 0, 9, [⟨[111, 110, 101], [112, 113], 0⟩, ⟨[116, 119, 111], [0, 0, 0, 0, 0, 0, 0], 0⟩]⟩ : Ab)) (by kernel_rfl)).mono ?_
    rintro e w51 ⟨rfl, hl⟩
    have HL51 := Lib.hid (show Lon wa D B (⟨false, false, 0, 9, [⟨[111, 110, 101], [112, 113], 0⟩, ⟨[116, 119, 111], [0, 0, 0, 0, 0, 0, 0], 0⟩]⟩ : Ab) w51 from hl)
    clear hl
    go_wp2_with fail
    refine (lon_cut (HL51.out.no (by first | exact Fr.refl No _ | exact Fr.alloc No _ _ | exact (Fr.alloc No _ _).no_trans (Fr.alloc No _ _))) ⟨#[111, 110, 101]⟩ (sz _ (by decide)) (3) (x := 2) (S' := (⟨false, false, 0, 9, [⟨[111, 110, 101], [112, 113], 0⟩, ⟨[116, 119, 111], [0, 0, 0, 0, 0, 0, 0], 0⟩]⟩ : Ab)) (by kernel_rfl)).mono ?_
    rintro e w52 ⟨rfl, hl⟩
    have HL52 := Lib.hid (show Lon wa D B (⟨false, false, 0, 9, [⟨[111, 110, 101], [112, 113], 0⟩, ⟨[116, 119, 111], [0, 0, 0, 0, 0, 0, 0], 0⟩]⟩ : Ab) w52 from hl)
    clear hl
    go_wp2_with fail
    refine (tells_yes _ _ 2 2 2 (by omega) (fun j hj => ?_)).mono ?_
    · rw [World.cell?_alloc_mark]
      rcases j with _ | _ | j <;> first | rfl | omega
    rintro e w53 ⟨rfl, hw⟩
    have HL53 := Lib.hid (show Lon wa D B (⟨false, false, 0, 9, [⟨[111, 110, 101], [112, 113], 0⟩, ⟨[116, 119, 111], [0, 0, 0, 0, 0, 0, 0], 0⟩]⟩ : Ab) w53 from by rw [← hw]; exact (HL52.out.no (by first | exact Fr.refl No _ | exact Fr.alloc No _ _ | exact (Fr.alloc No _ _).no_trans (Fr.alloc No _ _))))
    clear hw
    go_wp2_with fail
    refine (lon_cut (HL53.out.no (by first | exact Fr.refl No _ | exact Fr.alloc No _ _ | exact (Fr.alloc No _ _).no_trans (Fr.alloc No _ _))) ⟨#[111, 110, 101]⟩ (sz _ (by decide)) (1) (x := 0) (S' := (⟨false, false, 0, 9, [⟨[111, 110, 101], [112], 1⟩, ⟨[116, 119, 111], [0, 0, 0, 0, 0, 0, 0], 0⟩]⟩ : Ab)) (by kernel_rfl)).mono ?_
    rintro e w54 ⟨rfl, hl⟩
    have HL54 := Lib.hid (show Lon wa D B (⟨false, false, 0, 9, [⟨[111, 110, 101], [112], 1⟩, ⟨[116, 119, 111], [0, 0, 0, 0, 0, 0, 0], 0⟩]⟩ : Ab) w54 from hl)
    clear hl
    go_wp2_with fail
    refine (lon_file (HL54.out.no (by first | exact Fr.refl No _ | exact Fr.alloc No _ _ | exact (Fr.alloc No _ _).no_trans (Fr.alloc No _ _))) rfl ⟨#[111, 110, 101]⟩ (sz _ (by decide)) [112] 1 (f := ⟨[111, 110, 101], [112], 1⟩) (by kernel_rfl) ⟨rfl, rfl⟩ ⟨#[112]⟩ rfl).mono ?_
    rintro e w55 ⟨rfl, hl⟩
    have HL55 := Lib.hid (show Lon wa D B (⟨false, false, 0, 9, [⟨[111, 110, 101], [112], 1⟩, ⟨[116, 119, 111], [0, 0, 0, 0, 0, 0, 0], 0⟩]⟩ : Ab) w55 from hl)
    clear hl
    go_wp2_with fail
    refine (lon_sync (HL55.out.no (by first | exact Fr.refl No _ | exact Fr.alloc No _ _ | exact (Fr.alloc No _ _).no_trans (Fr.alloc No _ _))) ⟨#[115, 105, 120]⟩ (sz _ (by decide)) (x := 13) (S' := (⟨false, false, 0, 9, [⟨[111, 110, 101], [112], 1⟩, ⟨[116, 119, 111], [0, 0, 0, 0, 0, 0, 0], 0⟩]⟩ : Ab)) (by kernel_rfl)).mono ?_
    rintro e w56 ⟨rfl, hl⟩
    have HL56 := Lib.hid (show Lon wa D B (⟨false, false, 0, 9, [⟨[111, 110, 101], [112], 1⟩, ⟨[116, 119, 111], [0, 0, 0, 0, 0, 0, 0], 0⟩]⟩ : Ab) w56 from hl)
    clear hl
    go_wp2_with fail
    refine (lon_cut (HL56.out.no (by first | exact Fr.refl No _ | exact Fr.alloc No _ _ | exact (Fr.alloc No _ _).no_trans (Fr.alloc No _ _))) ⟨#[115, 105, 120]⟩ (sz _ (by decide)) (0) (x := 13) (S' := (⟨false, false, 0, 9, [⟨[111, 110, 101], [112], 1⟩, ⟨[116, 119, 111], [0, 0, 0, 0, 0, 0, 0], 0⟩]⟩ : Ab)) (by kernel_rfl)).mono ?_
    rintro e w57 ⟨rfl, hl⟩
    have HL57 := Lib.hid (show Lon wa D B (⟨false, false, 0, 9, [⟨[111, 110, 101], [112], 1⟩, ⟨[116, 119, 111], [0, 0, 0, 0, 0, 0, 0], 0⟩]⟩ : Ab) w57 from hl)
    clear hl
    go_wp2_with fail
    refine (lon_remove (HL57.out.no (by first | exact Fr.refl No _ | exact Fr.alloc No _ _ | exact (Fr.alloc No _ _).no_trans (Fr.alloc No _ _))) ⟨#[115, 105, 120]⟩ (sz _ (by decide)) (x := 13) (S' := (⟨false, false, 0, 9, [⟨[111, 110, 101], [112], 1⟩, ⟨[116, 119, 111], [0, 0, 0, 0, 0, 0, 0], 0⟩]⟩ : Ab)) (by kernel_rfl)).mono ?_
    rintro e w58 ⟨rfl, hl⟩
    have HL58 := Lib.hid (show Lon wa D B (⟨false, false, 0, 9, [⟨[111, 110, 101], [112], 1⟩, ⟨[116, 119, 111], [0, 0, 0, 0, 0, 0, 0], 0⟩]⟩ : Ab) w58 from hl)
    clear hl
    go_wp2_with fail
    refine (lon_rename (HL58.out.no (by first | exact Fr.refl No _ | exact Fr.alloc No _ _ | exact (Fr.alloc No _ _).no_trans (Fr.alloc No _ _))) ⟨#[115, 105, 120]⟩ ⟨#[111, 110, 101]⟩ (sz _ (by decide)) (sz _ (by decide)) (x := 13) (S' := (⟨false, false, 0, 9, [⟨[111, 110, 101], [112], 1⟩, ⟨[116, 119, 111], [0, 0, 0, 0, 0, 0, 0], 0⟩]⟩ : Ab)) (by kernel_rfl)).mono ?_
    rintro e w59 ⟨rfl, hl⟩
    have HL59 := Lib.hid (show Lon wa D B (⟨false, false, 0, 9, [⟨[111, 110, 101], [112], 1⟩, ⟨[116, 119, 111], [0, 0, 0, 0, 0, 0, 0], 0⟩]⟩ : Ab) w59 from hl)
    clear hl
    go_wp2_with fail
    refine (lon_rename (HL59.out.no (by first | exact Fr.refl No _ | exact Fr.alloc No _ _ | exact (Fr.alloc No _ _).no_trans (Fr.alloc No _ _))) ⟨#[111, 110, 101]⟩ ⟨#[83, 73, 88]⟩ (sz _ (by decide)) (sz _ (by decide)) (x := 13) (S' := (⟨false, false, 0, 9, [⟨[111, 110, 101], [112], 1⟩, ⟨[116, 119, 111], [0, 0, 0, 0, 0, 0, 0], 0⟩]⟩ : Ab)) (by kernel_rfl)).mono ?_
    rintro e w60 ⟨rfl, hl⟩
    have HL60 := Lib.hid (show Lon wa D B (⟨false, false, 0, 9, [⟨[111, 110, 101], [112], 1⟩, ⟨[116, 119, 111], [0, 0, 0, 0, 0, 0, 0], 0⟩]⟩ : Ab) w60 from hl)
    clear hl
    go_wp2_with fail
    refine (lon_rename (HL60.out.no (by first | exact Fr.refl No _ | exact Fr.alloc No _ _ | exact (Fr.alloc No _ _).no_trans (Fr.alloc No _ _))) ⟨#[111, 110, 101]⟩ ⟨#[]⟩ (sz _ (by decide)) (sz _ (by decide)) (x := 13) (S' := (⟨false, false, 0, 9, [⟨[111, 110, 101], [112], 1⟩, ⟨[116, 119, 111], [0, 0, 0, 0, 0, 0, 0], 0⟩]⟩ : Ab)) (by kernel_rfl)).mono ?_
    rintro e w61 ⟨rfl, hl⟩
    have HL61 := Lib.hid (show Lon wa D B (⟨false, false, 0, 9, [⟨[111, 110, 101], [112], 1⟩, ⟨[116, 119, 111], [0, 0, 0, 0, 0, 0, 0], 0⟩]⟩ : Ab) w61 from hl)
    clear hl
    go_wp2_with fail
    refine (tells_yes _ _ 6 6 13 (by omega) (fun j hj => ?_)).mono ?_
    · rw [World.cell?_alloc_mark]
      rcases j with _ | _ | _ | _ | _ | _ | j <;> first | rfl | omega
    rintro e w62 ⟨rfl, hw⟩
    have HL62 := Lib.hid (show Lon wa D B (⟨false, false, 0, 9, [⟨[111, 110, 101], [112], 1⟩, ⟨[116, 119, 111], [0, 0, 0, 0, 0, 0, 0], 0⟩]⟩ : Ab) w62 from by rw [← hw]; exact (HL61.out.no (by first | exact Fr.refl No _ | exact Fr.alloc No _ _ | exact (Fr.alloc No _ _).no_trans (Fr.alloc No _ _))))
    clear hw
    go_wp2_with fail
    refine (lon_rename (HL62.out.no (by first | exact Fr.refl No _ | exact Fr.alloc No _ _ | exact (Fr.alloc No _ _).no_trans (Fr.alloc No _ _))) ⟨#[111, 110, 101]⟩ ⟨#[111, 110, 101]⟩ (sz _ (by decide)) (sz _ (by decide)) (x := 0) (S' := (⟨false, false, 0, 9, [⟨[111, 110, 101], [112], 1⟩, ⟨[116, 119, 111], [0, 0, 0, 0, 0, 0, 0], 0⟩]⟩ : Ab)) (by kernel_rfl)).mono ?_
    rintro e w63 ⟨rfl, hl⟩
    have HL63 := Lib.hid (show Lon wa D B (⟨false, false, 0, 9, [⟨[111, 110, 101], [112], 1⟩, ⟨[116, 119, 111], [0, 0, 0, 0, 0, 0, 0], 0⟩]⟩ : Ab) w63 from hl)
    clear hl
    go_wp2_with fail
    refine (lon_file (HL63.out.no (by first | exact Fr.refl No _ | exact Fr.alloc No _ _ | exact (Fr.alloc No _ _).no_trans (Fr.alloc No _ _))) rfl ⟨#[111, 110, 101]⟩ (sz _ (by decide)) [112] 1 (f := ⟨[111, 110, 101], [112], 1⟩) (by kernel_rfl) ⟨rfl, rfl⟩ ⟨#[112]⟩ rfl).mono ?_
    rintro e w64 ⟨rfl, hl⟩
    have HL64 := Lib.hid (show Lon wa D B (⟨false, false, 0, 9, [⟨[111, 110, 101], [112], 1⟩, ⟨[116, 119, 111], [0, 0, 0, 0, 0, 0, 0], 0⟩]⟩ : Ab) w64 from hl)
    clear hl
    go_wp2_with fail
    refine (Try.strings_Repeat ⟨#[122]⟩ 41 _ (by omega) (by decide)).mono ?_
    rintro e w65 ⟨he, hb⟩
    have HL65 := Lib.hid (show Lon wa D B (⟨false, false, 0, 9, [⟨[111, 110, 101], [112], 1⟩, ⟨[116, 119, 111], [0, 0, 0, 0, 0, 0, 0], 0⟩]⟩ : Ab) w65 from (HL64.out.no (by first | exact Fr.refl No _ | exact Fr.alloc No _ _ | exact (Fr.alloc No _ _).no_trans (Fr.alloc No _ _))).no (Fr.of_below hb))
    obtain ⟨zz, HZZ⟩ : ∃ zz : ByteArray, Hid ((⟨(Lib.repeatL [122] 41).toArray⟩ : ByteArray) = zz) := ⟨_, rfl⟩
    have he : e = .returned (.string ⟨(Lib.repeatL [122] 41).toArray⟩) := he
    rw [HZZ.out] at he
    subst he
    clear hb
    go_wp2_with fail
    obtain ⟨wl, hwl⟩ : ∃ wl, w65.alloc (.cells #[.string ⟨#[]⟩, .string ⟨#[90]⟩, .string ⟨#[97, 32, 97]⟩, .string ⟨#[97, 47, 97]⟩, .string ⟨#[97, 95, 97]⟩, .string ⟨#[128]⟩, .string zz] 9) = wl := ⟨_, rfl⟩
    obtain ⟨Gn, HGN⟩ : ∃ Gn, Hid (w65.heap.size = Gn) := ⟨_, rfl⟩
    have HLL := Lib.hid (show Lon wa D B (⟨false, false, 0, 9, [⟨[111, 110, 101], [112], 1⟩, ⟨[116, 119, 111], [0, 0, 0, 0, 0, 0, 0], 0⟩]⟩ : Ab) wl from by rw [← hwl]; exact HL65.out.no (Fr.alloc No _ _))
    obtain ⟨nmF, HNF⟩ : ∃ nmF : Nat → ByteArray, Hid (∀ i, nmF i = [⟨#[]⟩, ⟨#[90]⟩, ⟨#[97, 32, 97]⟩, ⟨#[97, 47, 97]⟩, ⟨#[97, 95, 97]⟩, ⟨#[128]⟩, zz].getD i ⟨#[]⟩) := ⟨_, fun _ => rfl⟩
    have HNG := Lib.hid (show ∀ i, i < 7 → wl.cell? ⟨Gn, i, none⟩ = some (.string (nmF i)) ∧ isNm (nmF i).data.toList = false ∧ (nmF i).size ≤ maxLen from fun i hi => by
      have hc : wl.heap[Gn]? = some (.cells #[.string ⟨#[]⟩, .string ⟨#[90]⟩, .string ⟨#[97, 32, 97]⟩, .string ⟨#[97, 47, 97]⟩, .string ⟨#[97, 95, 97]⟩, .string ⟨#[128]⟩, .string zz] 9 (0, 0)) := by rw [← hwl, ← HGN.out]; exact heap_alloc_new _ _
      have hz : isNm zz.data.toList = false ∧ zz.size ≤ maxLen := by
        rw [← HZZ.out]
        exact ⟨by decide +kernel, by show (Lib.repeatL [122] 41).toArray.size ≤ maxLen; unfold maxLen; decide +kernel⟩
      rw [HNF.out]
      unfold World.cell?
      rw [hc]
      have : i = 0 ∨ i = 1 ∨ i = 2 ∨ i = 3 ∨ i = 4 ∨ i = 5 ∨ i = 6 := by omega
      rcases this with rfl | rfl | rfl | rfl | rfl | rfl | rfl
      · exact ⟨rfl, by show isNm [] = false; decide +kernel, sz _ (by decide)⟩
      · exact ⟨rfl, by show isNm [90] = false; decide +kernel, sz _ (by decide)⟩
      · exact ⟨rfl, by show isNm [97, 32, 97] = false; decide +kernel, sz _ (by decide)⟩
      · exact ⟨rfl, by show isNm [97, 47, 97] = false; decide +kernel, sz _ (by decide)⟩
      · exact ⟨rfl, by show isNm [97, 95, 97] = false; decide +kernel, sz _ (by decide)⟩
      · exact ⟨rfl, by show isNm [128] = false; decide +kernel, sz _ (by decide)⟩
      · exact ⟨rfl, hz.1, hz.2⟩)
    rw [hwl, HGN.out]
    clear hwl
    go_loopw [143] (fun vi wr => ∃ i : Nat, i ≤ 7 ∧ vi = .int .i64 (i : Int) ∧ Fr No wl wr) (fun vi _ => 7 - (intOf vi).toNat)
    case atStart => exact ⟨0, by omega, rfl, Fr.refl _ _⟩
    case round =>
      obtain ⟨i, hi, rfl, hf⟩ := hrel
      have HF := Lib.hid hf
      clear hf
      by_cases hi7 : i < 7
      · obtain ⟨hc, hnm, hsz⟩ := HNG.out i hi7
        have hcw := HF.out.cell hc (fun e => e)
        obtain ⟨nm, hnn⟩ : ∃ nm, nmF i = nm := ⟨_, rfl⟩
        rw [hnn] at hcw hnm hsz
        have HBN := Lib.hid (lon_name (HLL.out.no HF.out) rfl nm hsz none 0 0 hnm)
        have hwi : IntKind.i64.wrap ((i : Int) + 1) = ((i + 1 : Nat) : Int) := by
          rw [show ((i : Int) + 1) = ((i + 1 : Nat) : Int) by omega]
          exact IntWalk.i64_in _ (by omega)
        clear hc hnn hnm hsz
        go_wp2_with fail
        refine HBN.out.mono ?_
        rintro e wq ⟨rfl, rfl⟩
        go_wp2_with fail
        refine (tells_yes _ _ 1 1 13 (by omega) (fun j hj => ?_)).mono ?_
        · rw [World.cell?_alloc_mark]
          rcases j with _ | j <;> first | rfl | omega
        rintro e wt ⟨rfl, hw⟩
        have HF2 := Lib.hid (show Fr No wl wt from by rw [← hw]; exact HF.out.no_trans (Fr.alloc No _ _))
        clear hw
        go_wp2_with fail
        go_roundw
        case rel => exact ⟨i + 1, by omega, by go_num, HF2.out⟩
        case measure => simp [intOf]; omega
      · have hie : i = 7 := by omega
        subst hie
        have HL70 := Lib.hid (HLL.out.no HF.out)
        clear hi7 hi
        go_wp2_with fail
        refine (lon_arm (HL70.out.no (by first | exact Fr.refl No _ | exact Fr.alloc No _ _ | exact (Fr.alloc No _ _).no_trans (Fr.alloc No _ _))) rfl (-3) (by omega)).mono ?_
        rintro e w71 ⟨rfl, hl⟩
        have HL71 := Lib.hid (show Lon wa D B (⟨false, true, 0, 9, [⟨[111, 110, 101], [112], 1⟩, ⟨[116, 119, 111], [0, 0, 0, 0, 0, 0, 0], 0⟩]⟩ : Ab) w71 from hl)
        clear hl
        go_wp2_with fail
        refine (lon_append (HL71.out.no (by first | exact Fr.refl No _ | exact Fr.alloc No _ _ | exact (Fr.alloc No _ _).no_trans (Fr.alloc No _ _))) ⟨#[116, 119, 111]⟩ (sz _ (by decide)) (some ⟨w71.heap.size, 0, none⟩) 2 2 (List.replicate 2 0) ((Rd.new w71 (List.replicate 2 0) _ rfl _).more (by simp)) (x := 5) (S' := (⟨false, true, 0, 9, [⟨[111, 110, 101], [112], 1⟩, ⟨[116, 119, 111], [0, 0, 0, 0, 0, 0, 0], 0⟩]⟩ : Ab)) (by kernel_rfl)).mono ?_
        rintro e w72 ⟨rfl, hl⟩
        have HL72 := Lib.hid (show Lon wa D B (⟨false, true, 0, 9, [⟨[111, 110, 101], [112], 1⟩, ⟨[116, 119, 111], [0, 0, 0, 0, 0, 0, 0], 0⟩]⟩ : Ab) w72 from hl)
        clear hl
        go_wp2_with fail
        refine (tells_yes _ _ 1 1 5 (by omega) (fun j hj => ?_)).mono ?_
        · rw [World.cell?_alloc_mark]
          rcases j with _ | j <;> first | rfl | omega
        rintro e w73 ⟨rfl, hw⟩
        have HL73 := Lib.hid (show Lon wa D B (⟨false, true, 0, 9, [⟨[111, 110, 101], [112], 1⟩, ⟨[116, 119, 111], [0, 0, 0, 0, 0, 0, 0], 0⟩]⟩ : Ab) w73 from by rw [← hw]; exact (HL72.out.no (by first | exact Fr.refl No _ | exact Fr.alloc No _ _ | exact (Fr.alloc No _ _).no_trans (Fr.alloc No _ _))))
        clear hw
        go_wp2_with fail
        refine (lon_down (HL73.out.no (by first | exact Fr.refl No _ | exact Fr.alloc No _ _ | exact (Fr.alloc No _ _).no_trans (Fr.alloc No _ _))) (b := false) rfl).mono ?_
        rintro e w74 ⟨rfl, hw⟩
        have HL74 := Lib.hid (show Lon wa D B (⟨false, true, 0, 9, [⟨[111, 110, 101], [112], 1⟩, ⟨[116, 119, 111], [0, 0, 0, 0, 0, 0, 0], 0⟩]⟩ : Ab) w74 from by rw [← hw]; exact (HL73.out.no (by first | exact Fr.refl No _ | exact Fr.alloc No _ _ | exact (Fr.alloc No _ _).no_trans (Fr.alloc No _ _))))
        clear hw
        go_wp2_with fail
        refine (lon_rename (HL74.out.no (by first | exact Fr.refl No _ | exact Fr.alloc No _ _ | exact (Fr.alloc No _ _).no_trans (Fr.alloc No _ _))) ⟨#[116, 119, 111]⟩ ⟨#[111, 110, 101]⟩ (sz _ (by decide)) (sz _ (by decide)) (x := 15) (S' := (⟨true, false, 0, 9, [⟨[111, 110, 101], [112], 1⟩, ⟨[116, 119, 111], [0, 0, 0, 0, 0, 0, 0], 0⟩]⟩ : Ab)) (by kernel_rfl)).mono ?_
        rintro e w75 ⟨rfl, hl⟩
        have HL75 := Lib.hid (show Lon wa D B (⟨true, false, 0, 9, [⟨[111, 110, 101], [112], 1⟩, ⟨[116, 119, 111], [0, 0, 0, 0, 0, 0, 0], 0⟩]⟩ : Ab) w75 from hl)
        clear hl
        go_wp2_with fail
        refine (tells_yes _ _ 1 1 15 (by omega) (fun j hj => ?_)).mono ?_
        · rw [World.cell?_alloc_mark]
          rcases j with _ | j <;> first | rfl | omega
        rintro e w76 ⟨rfl, hw⟩
        have HL76 := Lib.hid (show Lon wa D B (⟨true, false, 0, 9, [⟨[111, 110, 101], [112], 1⟩, ⟨[116, 119, 111], [0, 0, 0, 0, 0, 0, 0], 0⟩]⟩ : Ab) w76 from by rw [← hw]; exact (HL75.out.no (by first | exact Fr.refl No _ | exact Fr.alloc No _ _ | exact (Fr.alloc No _ _).no_trans (Fr.alloc No _ _))))
        clear hw
        go_wp2_with fail
        refine (lon_down (HL76.out.no (by first | exact Fr.refl No _ | exact Fr.alloc No _ _ | exact (Fr.alloc No _ _).no_trans (Fr.alloc No _ _))) (b := true) rfl).mono ?_
        rintro e w77 ⟨rfl, hw⟩
        have HL77 := Lib.hid (show Lon wa D B (⟨true, false, 0, 9, [⟨[111, 110, 101], [112], 1⟩, ⟨[116, 119, 111], [0, 0, 0, 0, 0, 0, 0], 0⟩]⟩ : Ab) w77 from by rw [← hw]; exact (HL76.out.no (by first | exact Fr.refl No _ | exact Fr.alloc No _ _ | exact (Fr.alloc No _ _).no_trans (Fr.alloc No _ _))))
        clear hw
        go_wp2_with fail
        refine (lon_list (HL77.out.no (by first | exact Fr.refl No _ | exact Fr.alloc No _ _ | exact (Fr.alloc No _ _).no_trans (Fr.alloc No _ _))) (n := 2) rfl).mono ?_
        rintro e w78 ⟨A, c, rfl, hv, hl⟩
        have HL78 := Lib.hid (show Lon wa D B (⟨true, false, 0, 9, [⟨[111, 110, 101], [112], 1⟩, ⟨[116, 119, 111], [0, 0, 0, 0, 0, 0, 0], 0⟩]⟩ : Ab) w78 from hl)
        obtain ⟨GJ, rfl, hcap⟩ : ∃ GJ, A = some ⟨GJ, 0, none⟩ ∧ 2 ≤ c := by
          rcases hv.2 with ⟨_, e⟩ | ⟨g, cap, cur, e, _, _, hc, _⟩
          · cases e
          · injection e with e1 e2 e3; subst e3; exact ⟨g, e1, hc⟩
        have j0 := hv.cells (g := GJ) rfl 0 (.string ⟨#[111, 110, 101]⟩) rfl
        have j1 := hv.cells (g := GJ) rfl 1 (.string ⟨#[116, 119, 111]⟩) rfl
        rw [Addr.add_lit] at j0 j1
        have HJ := Lib.hid (Try.strings_Join GJ 0 c [⟨#[111, 110, 101]⟩, ⟨#[116, 119, 111]⟩] ⟨#[32]⟩ w78 (fun j x hx => by
          match j, hx with
          | 0, hx => simp at hx; subst hx; exact j0
          | 1, hx => simp at hx; subst hx; exact j1) (hv.lt GJ rfl).2 (by decide) hcap (by decide))
        clear hv hl hcap j0 j1
        go_wp2_with fail
        refine HJ.out.mono ?_
        rintro e w79 ⟨he, hb⟩
        have he : e = .returned (.string ⟨#[111, 110, 101, 32, 116, 119, 111]⟩) := he
        subst he
        have HL79 := Lib.hid (show Lon wa D B (⟨true, false, 0, 9, [⟨[111, 110, 101], [112], 1⟩, ⟨[116, 119, 111], [0, 0, 0, 0, 0, 0, 0], 0⟩]⟩ : Ab) w79 from (HL78.out.no (by first | exact Fr.refl No _ | exact Fr.alloc No _ _ | exact (Fr.alloc No _ _).no_trans (Fr.alloc No _ _))).no (Fr.of_below hb))
        clear hb HJ
        go_wp2_with fail
        refine (lon_arm_dead (HL79.out.no (by first | exact Fr.refl No _ | exact Fr.alloc No _ _ | exact (Fr.alloc No _ _).no_trans (Fr.alloc No _ _))) rfl (9)).mono ?_
        rintro e w80 ⟨rfl, hl⟩
        have HL80 := Lib.hid (show Lon wa D B (⟨true, false, 0, 9, [⟨[111, 110, 101], [112], 1⟩, ⟨[116, 119, 111], [0, 0, 0, 0, 0, 0, 0], 0⟩]⟩ : Ab) w80 from hl)
        clear hl
        go_wp2_with fail
        refine (lon_sync (HL80.out.no (by first | exact Fr.refl No _ | exact Fr.alloc No _ _ | exact (Fr.alloc No _ _).no_trans (Fr.alloc No _ _))) ⟨#[111, 110, 101]⟩ (sz _ (by decide)) (x := 15) (S' := (⟨true, false, 0, 9, [⟨[111, 110, 101], [112], 1⟩, ⟨[116, 119, 111], [0, 0, 0, 0, 0, 0, 0], 0⟩]⟩ : Ab)) (by kernel_rfl)).mono ?_
        rintro e w81 ⟨rfl, hl⟩
        have HL81 := Lib.hid (show Lon wa D B (⟨true, false, 0, 9, [⟨[111, 110, 101], [112], 1⟩, ⟨[116, 119, 111], [0, 0, 0, 0, 0, 0, 0], 0⟩]⟩ : Ab) w81 from hl)
        clear hl
        go_wp2_with fail
        refine (lon_append (HL81.out.no (by first | exact Fr.refl No _ | exact Fr.alloc No _ _ | exact (Fr.alloc No _ _).no_trans (Fr.alloc No _ _))) ⟨#[90]⟩ (sz _ (by decide)) none 0 0 [] Rd.nil (x := 15) (S' := (⟨true, false, 0, 9, [⟨[111, 110, 101], [112], 1⟩, ⟨[116, 119, 111], [0, 0, 0, 0, 0, 0, 0], 0⟩]⟩ : Ab)) (by kernel_rfl)).mono ?_
        rintro e w82 ⟨rfl, hl⟩
        have HL82 := Lib.hid (show Lon wa D B (⟨true, false, 0, 9, [⟨[111, 110, 101], [112], 1⟩, ⟨[116, 119, 111], [0, 0, 0, 0, 0, 0, 0], 0⟩]⟩ : Ab) w82 from hl)
        clear hl
        go_wp2_with fail
        refine (lon_cut (HL82.out.no (by first | exact Fr.refl No _ | exact Fr.alloc No _ _ | exact (Fr.alloc No _ _).no_trans (Fr.alloc No _ _))) ⟨#[115, 105, 120]⟩ (sz _ (by decide)) (0) (x := 15) (S' := (⟨true, false, 0, 9, [⟨[111, 110, 101], [112], 1⟩, ⟨[116, 119, 111], [0, 0, 0, 0, 0, 0, 0], 0⟩]⟩ : Ab)) (by kernel_rfl)).mono ?_
        rintro e w83 ⟨rfl, hl⟩
        have HL83 := Lib.hid (show Lon wa D B (⟨true, false, 0, 9, [⟨[111, 110, 101], [112], 1⟩, ⟨[116, 119, 111], [0, 0, 0, 0, 0, 0, 0], 0⟩]⟩ : Ab) w83 from hl)
        clear hl
        go_wp2_with fail
        refine (lon_remove (HL83.out.no (by first | exact Fr.refl No _ | exact Fr.alloc No _ _ | exact (Fr.alloc No _ _).no_trans (Fr.alloc No _ _))) ⟨#[115, 105, 120]⟩ (sz _ (by decide)) (x := 15) (S' := (⟨true, false, 0, 9, [⟨[111, 110, 101], [112], 1⟩, ⟨[116, 119, 111], [0, 0, 0, 0, 0, 0, 0], 0⟩]⟩ : Ab)) (by kernel_rfl)).mono ?_
        rintro e w84 ⟨rfl, hl⟩
        have HL84 := Lib.hid (show Lon wa D B (⟨true, false, 0, 9, [⟨[111, 110, 101], [112], 1⟩, ⟨[116, 119, 111], [0, 0, 0, 0, 0, 0, 0], 0⟩]⟩ : Ab) w84 from hl)
        clear hl
        go_wp2_with fail
        refine (tells_yes _ _ 4 4 15 (by omega) (fun j hj => ?_)).mono ?_
        · rw [World.cell?_alloc_mark]
          rcases j with _ | _ | _ | _ | j <;> first | rfl | omega
        rintro e w85 ⟨rfl, hw⟩
        have HL85 := Lib.hid (show Lon wa D B (⟨true, false, 0, 9, [⟨[111, 110, 101], [112], 1⟩, ⟨[116, 119, 111], [0, 0, 0, 0, 0, 0, 0], 0⟩]⟩ : Ab) w85 from by rw [← hw]; exact (HL84.out.no (by first | exact Fr.refl No _ | exact Fr.alloc No _ _ | exact (Fr.alloc No _ _).no_trans (Fr.alloc No _ _))))
        clear hw
        go_wp2_with fail
        refine (lon_crash HL85.out [5, 3] #[.int .i64 5, .int .i64 3] rfl _ 2 2 rfl).mono ?_
        rintro e w86 ⟨rfl, hl⟩
        have HL86 := Lib.hid (show Lon wa D B (⟨false, false, 0, 9, [⟨[111, 110, 101], [112], 1⟩, ⟨[116, 119, 111], [0, 0, 0], 3⟩]⟩ : Ab) w86 from hl)
        clear hl
        go_wp2_with fail
        refine (lon_file (HL86.out.no (by first | exact Fr.refl No _ | exact Fr.alloc No _ _ | exact (Fr.alloc No _ _).no_trans (Fr.alloc No _ _))) rfl ⟨#[111, 110, 101]⟩ (sz _ (by decide)) [112] 1 (f := ⟨[111, 110, 101], [112], 1⟩) (by kernel_rfl) ⟨rfl, rfl⟩ ⟨#[112]⟩ rfl).mono ?_
        rintro e w87 ⟨rfl, hl⟩
        have HL87 := Lib.hid (show Lon wa D B (⟨false, false, 0, 9, [⟨[111, 110, 101], [112], 1⟩, ⟨[116, 119, 111], [0, 0, 0], 3⟩]⟩ : Ab) w87 from hl)
        clear hl
        go_wp2_with fail
        refine (lon_file (HL87.out.no (by first | exact Fr.refl No _ | exact Fr.alloc No _ _ | exact (Fr.alloc No _ _).no_trans (Fr.alloc No _ _))) rfl ⟨#[116, 119, 111]⟩ (sz _ (by decide)) [0, 0, 0] 3 (f := ⟨[116, 119, 111], [0, 0, 0], 3⟩) (by kernel_rfl) ⟨rfl, rfl⟩ ⟨#[0, 0, 0]⟩ rfl).mono ?_
        rintro e w88 ⟨rfl, hl⟩
        have HL88 := Lib.hid (show Lon wa D B (⟨false, false, 0, 9, [⟨[111, 110, 101], [112], 1⟩, ⟨[116, 119, 111], [0, 0, 0], 3⟩]⟩ : Ab) w88 from hl)
        clear hl
        go_wp2_with fail
        refine (lon_sync (HL88.out.no (by first | exact Fr.refl No _ | exact Fr.alloc No _ _ | exact (Fr.alloc No _ _).no_trans (Fr.alloc No _ _))) ⟨#[111, 110, 101]⟩ (sz _ (by decide)) (x := 0) (S' := (⟨false, false, 0, 9, [⟨[111, 110, 101], [112], 1⟩, ⟨[116, 119, 111], [0, 0, 0], 3⟩]⟩ : Ab)) (by kernel_rfl)).mono ?_
        rintro e w89 ⟨rfl, hl⟩
        have HL89 := Lib.hid (show Lon wa D B (⟨false, false, 0, 9, [⟨[111, 110, 101], [112], 1⟩, ⟨[116, 119, 111], [0, 0, 0], 3⟩]⟩ : Ab) w89 from hl)
        clear hl
        go_wp2_with fail
        have HBW := Lib.hid (show Below w.heap.size w w89 from HBA.out.trans (HL89.out.bel.mono HBA.out.size))
        refine (lon_new 0 w89 (by omega)).mono ?_
        rintro e x2 ⟨rfl, hl⟩
        obtain ⟨D2, HD2⟩ : ∃ D2, Hid (w89.heap.size + 1 = D2) := ⟨_, rfl⟩
        obtain ⟨M2, HM2⟩ : ∃ M2, Hid (w89.heap.size = M2) := ⟨_, rfl⟩
        rw [HD2.out, HM2.out] at hl
        rw [HD2.out]
        have HZ0 := Lib.hid (show Lon w89 D2 M2 (Zer []) x2 from hl)
        clear hl
        go_wp2_with fail
        go_loopw [16] (fun vi wr => ∃ (i : Nat) (fs : List Af), i ≤ 200 ∧ vi = .int .i64 (i : Int) ∧ Lon w89 D2 M2 (Zer fs) wr ∧ Zr fs i 0) (fun vi _ => 200 - (intOf vi).toNat)
        case atStart => exact ⟨0, [], by omega, rfl, HZ0.out, Zr.start⟩
        case round =>
          obtain ⟨i, fs, hi, rfl, hL, hZ⟩ := hrel
          have HL := Lib.hid hL
          have HZ := Lib.hid hZ
          clear hL hZ
          by_cases hlt : i < 200
          · obtain ⟨m, HM⟩ : ∃ m, Hid (i % 40 = m) := ⟨_, rfl⟩
            obtain ⟨q, HQ⟩ : ∃ q, Hid (i / 40 = q) := ⟨_, rfl⟩
            obtain ⟨c1, HC1⟩ : ∃ c, Hid (1 + m = c) := ⟨_, rfl⟩
            obtain ⟨sm, HSM⟩ : ∃ c, Hid (m + q = c) := ⟨_, rfl⟩
            have hm40 : m < 40 := by rw [← HM.out]; omega
            have hq5 : q < 5 := by rw [← HQ.out]; omega
            have hr1 : (i : Int) % 40 = (m : Int) := by rw [← HM.out]; omega
            have hr2 : (i : Int).tmod 40 = (m : Int) := by rw [Int.tmod_eq_emod_of_nonneg (by omega)]; exact hr1
            have hq1 : (i : Int) / 40 = (q : Int) := by rw [← HQ.out]; omega
            have hq2 : (i : Int).tdiv 40 = (q : Int) := by rw [Int.tdiv_eq_ediv_of_nonneg (by omega)]; exact hq1
            have hw1 : IntKind.i64.wrap (1 + (m : Int)) = (c1 : Int) := by
              rw [← HC1.out, show (1 + (m : Int)) = ((1 + m : Nat) : Int) by omega]
              exact IntWalk.i64_in _ (by omega)
            have hwm : IntKind.i64.wrap (m : Int) = (m : Int) := IntWalk.i64_in _ (by omega)
            have hwq : IntKind.i64.wrap (q : Int) = (q : Int) := IntWalk.i64_in _ (by omega)
            have hws : IntKind.i64.wrap ((m : Int) + (q : Int)) = (sm : Int) := by
              rw [← HSM.out, show ((m : Int) + (q : Int)) = ((m + q : Nat) : Int) by omega]
              exact IntWalk.i64_in _ (by omega)
            have hwi : IntKind.i64.wrap ((i : Int) + 1) = ((i + 1 : Nat) : Int) := by
              rw [show ((i : Int) + 1) = ((i + 1 : Nat) : Int) by omega]
              exact IntWalk.i64_in _ (by omega)
            have hd200 : decide ((i : Int) < 200) = true := by rw [decide_eq_true_eq]; omega
            have hc1 : c1 ≤ 40 := by rw [← HC1.out]; omega
            go_wp2_with fail
            refine (Try.strings_Repeat ⟨#[45]⟩ c1 _ (by omega) (by show 1 * c1 ≤ _; omega)).mono ?_
            rintro e x3 ⟨he, hb⟩
            have he : e = .returned (.string ⟨(Lib.repeatL [45] c1).toArray⟩) := he
            rw [rep_one] at he
            obtain ⟨T1, HT1⟩ : ∃ T : ByteArray, Hid ((⟨(List.replicate c1 45).toArray⟩ : ByteArray) = T) := ⟨_, rfl⟩
            rw [HT1.out] at he
            subst he
            have hs1 : T1.size = c1 := by rw [← HT1.out]; show (List.replicate c1 (45 : UInt8)).toArray.size = c1; simp
            have HL3 := Lib.hid (HL.out.no (Fr.of_below hb))
            clear hb
            go_wp2_with fail
            refine (Try.strings_Repeat ⟨#[120]⟩ q _ (by omega) (by show 1 * q ≤ _; omega)).mono ?_
            rintro e x4 ⟨he, hb⟩
            have he : e = .returned (.string ⟨(Lib.repeatL [120] q).toArray⟩) := he
            rw [rep_one] at he
            obtain ⟨T2, HT2⟩ : ∃ T : ByteArray, Hid ((⟨(List.replicate q 120).toArray⟩ : ByteArray) = T) := ⟨_, rfl⟩
            rw [HT2.out] at he
            subst he
            have hs2 : T2.size = q := by rw [← HT2.out]; show (List.replicate q (120 : UInt8)).toArray.size = q; simp
            have HL4 := Lib.hid (HL3.out.no (Fr.of_below hb))
            clear hb
            have hcat : T1 ++ T2 = ⟨(nmX i).toArray⟩ := by
              rw [← HT1.out, ← HT2.out, cat_txt]
              unfold nmX
              rw [HM.out, HQ.out, HC1.out]
            obtain ⟨TX, HTX⟩ : ∃ T : ByteArray, Hid ((⟨(nmX i).toArray⟩ : ByteArray) = T) := ⟨_, rfl⟩
            rw [HTX.out] at hcat
            have hszx : TX.size ≤ maxLen := by
              rw [← HTX.out]
              show (nmX i).toArray.size ≤ maxLen
              have := nmX_length i
              unfold maxLen
              simp
              omega
            have hdx : TX.data.toList = nmX i := by rw [← HTX.out]
            have ho1 : ¬ 9223372036854775807 < T1.size + T2.size := by omega
            have ho2 : ¬ 9223372036854775807 < c1 + q := by omega
            by_cases hv : i % 40 + i / 40 < 40
            · obtain ⟨hput, hnext⟩ := HZ.out.put hv hlt
              have HAP := Lib.hid (lon_append (HL4.out) TX hszx none 0 0 [] Rd.nil (x := 0) (S' := Zer (ains ⟨nmX i, [], 0⟩ fs)) (by rw [hdx]; exact hput))
              have HNX := Lib.hid hnext
              clear hput hnext hszx hdx hv
              go_wp2_with fail
              refine HAP.out.mono ?_
              rintro e x5 ⟨rfl, hl⟩
              have HL5 := Lib.hid hl
              clear hl hcat ho1 ho2 hs1 hs2
              go_wp2_with fail
              go_roundw
              case rel => exact ⟨i + 1, _, by omega, by go_num, HL5.out, HNX.out⟩
              case measure => simp [intOf]; omega
            · have HAP := Lib.hid (lon_append (HL4.out) TX hszx none 0 0 [] Rd.nil (x := 13) (S' := Zer fs) (by rw [hdx]; exact zer_bad (nmX_not hv) []))
              have HNX := Lib.hid (HZ.out.skip hv)
              have hds : decide ((sm : Int) < 40) = false := by rw [decide_eq_false_iff_not, ← HSM.out, ← HM.out, ← HQ.out]; omega
              clear hszx hdx hv
              go_wp2_with fail
              refine HAP.out.mono ?_
              rintro e x5 ⟨rfl, hl⟩
              have HL5 := Lib.hid hl
              clear hl hcat ho1 ho2 hs1 hs2
              go_wp2_with fail
              go_roundw
              case rel => exact ⟨i + 1, _, by omega, by go_num, HL5.out, HNX.out⟩
              case measure => simp [intOf]; omega
          · have hie : i = 200 := by omega
            subst hie
            clear hlt hi
            go_wp2_with fail
            refine (lon_list HL.out (n := 190) (by show fs.length = 190; rw [HZ.out.len, cnt_200])).mono ?_
            rintro e x3 ⟨A3, c3, rfl, _, hl⟩
            have HL3 := Lib.hid hl
            clear hl
            go_wp2_with fail
            go_loopw [18] (fun vi wr => ∃ (k : Nat) (fs : List Af), k ≤ 10 ∧ vi = .int .i64 (k : Int) ∧ Lon w89 D2 M2 (Zer fs) wr ∧ Zr fs 200 k) (fun vi _ => 10 - (intOf vi).toNat)
            case atStart => exact ⟨0, fs, by omega, rfl, HL3.out, HZ.out⟩
            case round =>
              obtain ⟨k, gs, hk, rfl, hL, hZ⟩ := hrel
              have HLk := Lib.hid hL
              have HZk := Lib.hid hZ
              clear hL hZ
              by_cases hlt : k < 10
              · obtain ⟨hput, hnext⟩ := HZk.out.more hlt
                have hdk : decide ((k : Int) < 10) = true := by rw [decide_eq_true_eq]; omega
                have hwk : IntKind.i64.wrap ((k : Int) + 1) = ((k + 1 : Nat) : Int) := by
                  rw [show ((k : Int) + 1) = ((k + 1 : Nat) : Int) by omega]
                  exact IntWalk.i64_in _ (by omega)
                have HPUT := Lib.hid hput
                have HNX := Lib.hid hnext
                clear hput hnext
                go_wp2_with fail
                refine (Try.strings_Repeat ⟨#[57]⟩ k _ (by omega) (by show 1 * k ≤ _; omega)).mono ?_
                rintro e x4 ⟨he, hb⟩
                have he : e = .returned (.string ⟨(Lib.repeatL [57] k).toArray⟩) := he
                rw [rep_one] at he
                obtain ⟨T2, HT2⟩ : ∃ T : ByteArray, Hid ((⟨(List.replicate k 57).toArray⟩ : ByteArray) = T) := ⟨_, rfl⟩
                rw [HT2.out] at he
                subst he
                have hs2 : T2.size = k := by rw [← HT2.out]; show (List.replicate k (57 : UInt8)).toArray.size = k; simp
                have HL4 := Lib.hid (HLk.out.no (Fr.of_below hb))
                clear hb
                obtain ⟨TX, HTX⟩ : ∃ T : ByteArray, Hid ((⟨(nmN k).toArray⟩ : ByteArray) = T) := ⟨_, rfl⟩
                have hcat : (⟨#[48]⟩ : ByteArray) ++ T2 = TX := by
                  rw [← HT2.out, ← HTX.out]
                  exact cat_txt [48] _
                have hszx : TX.size ≤ maxLen := by
                  rw [← HTX.out]
                  show (nmN k).toArray.size ≤ maxLen
                  have hl : (nmN k).length = k + 1 := by simp [nmN]
                  unfold maxLen
                  simp
                  omega
                have hdx : TX.data.toList = nmN k := by rw [← HTX.out]
                have ho1 : ¬ 9223372036854775807 < 1 + T2.size := by omega
                have ho2 : ¬ 9223372036854775807 < 1 + k := by omega
                have HAP := Lib.hid (lon_append (HL4.out) TX hszx none 0 0 [] Rd.nil (x := 0) (S' := Zer (ains ⟨nmN k, [], 0⟩ gs)) (by rw [hdx]; exact HPUT.out))
                clear hszx hdx
                go_wp2_with fail
                refine HAP.out.mono ?_
                rintro e x5 ⟨rfl, hl⟩
                have HL5 := Lib.hid hl
                clear hl hcat ho1 ho2 hs2
                go_wp2_with fail
                go_roundw
                case rel => exact ⟨k + 1, _, by omega, by go_num, HL5.out, HNX.out⟩
                case measure => simp [intOf]; omega
              · have hke : k = 10 := by omega
                subst hke
                clear hlt hk
                obtain ⟨hlen, hf1, hf2, hf3, hf4⟩ := HZk.out.full (lon_apart HLk.out)
                obtain ⟨hs, HHS⟩ : ∃ hs, Hid (aput ⟨[45], (aold [45] gs).bs, (aold [45] gs).fm⟩ gs = hs) := ⟨_, rfl⟩
                rw [HHS.out] at hf3 hf4
                have HF1 := Lib.hid hf1
                have HF2 := Lib.hid hf2
                have HF3 := Lib.hid hf3
                have HF4 := Lib.hid hf4
                clear hlen hf1 hf2 hf3 hf4
                go_wp2_with fail
                refine (lon_append HLk.out ⟨#[113]⟩ (sz _ (by decide)) none 0 0 [] Rd.nil (x := 5) (S' := Zer gs) HF1.out).mono ?_
                rintro e x6 ⟨rfl, hl⟩
                have HL6 := Lib.hid hl
                clear hl
                go_wp2_with fail
                refine (lon_append_in HL6.out ⟨#[45]⟩ (sz _ (by decide)) [113] #[.int .u8 113] rfl _ 1 1 rfl (x := 5) (S' := Zer gs) HF2.out).mono ?_
                rintro e x7 ⟨rfl, _, hl⟩
                have HL7 := Lib.hid (hl _ (Fr.refl _ _))
                clear hl
                go_wp2_with fail
                refine (tells_yes _ _ 2 2 5 (by omega) (fun j hj => ?_)).mono ?_
                · rw [World.cell?_alloc_mark]
                  rcases j with _ | _ | j <;> first | rfl | omega
                rintro e x8 ⟨rfl, hw⟩
                have HL8 := Lib.hid (show Lon w89 D2 M2 (Zer gs) x8 from by rw [← hw]; exact HL7.out.no (Fr.alloc No _ _))
                clear hw
                go_wp2_with fail
                refine (lon_append HL8.out ⟨#[45]⟩ (sz _ (by decide)) none 0 0 [] Rd.nil (x := 0) (S' := Zer hs) HF3.out).mono ?_
                rintro e x9 ⟨rfl, hl⟩
                have HL9 := Lib.hid hl
                clear hl
                go_wp2_with fail
                refine (lon_list HL9.out (n := 200) HF4.out).mono ?_
                rintro e y1 ⟨A4, c4', rfl, _, hl⟩
                have HL10 := Lib.hid hl
                clear hl
                go_wp2_with fail
                refine (HA.out _).mono ?_
                rintro e y2 ⟨rfl, hb⟩
                have HB2 := Lib.hid hb
                clear hb
                go_wp2_with fail
                go_ret
                have h1 := HBW.out.size
                have h2 := HL10.out.bel.size
                exact ⟨rfl, (HBW.out.trans (HL10.out.bel.mono h1)).trans (HB2.out.mono (Nat.le_trans h1 h2))⟩
end Go.Proofs.Ytfmlpbcefblfkaa

/-
  slices.Delete and slices.Insert of a player (gins.py out of ChP). No statement of the seat is proved here.
-/
import Derived.Test.YtjdhbgdpmojobaaDoorChN
namespace Go.Proofs.YtjdhbgdpmojobaaDoor
open Go.RowKit Go.Deep

theorem ins_list7 {cur cells : List Value} {N p : Nat} {us : List Value} (hul : us.length = 7) (hc : cur.take N = cells) (hp : p ≤ N) (hN : N + 7 ≤ cur.length) :
    let cur1 := cur.take (p + 7) ++ cells.drop p ++ cur.drop (p + 7 + (cells.drop p).length)
    let cur2 := cur1.take p ++ us ++ cur1.drop (p + 7)
    cur1.length = cur.length ∧ cur2.length = cur.length ∧ cur2.take (N + 7) = cells.take p ++ (us ++ cells.drop p) := by
  have hl : cells.length = N := by rw [← hc, List.length_take]; omega
  have hd : (cells.drop p).length = N - p := by rw [List.length_drop, hl]
  intro cur1 cur2
  have e1 : cur1.length = cur.length := by
    show (cur.take (p + 7) ++ cells.drop p ++ cur.drop (p + 7 + (cells.drop p).length)).length = _
    simp only [List.length_append, List.length_take, List.length_drop, hl]
    omega
  have t1 : cur1.take p = cells.take p := by
    show (cur.take (p + 7) ++ cells.drop p ++ cur.drop (p + 7 + (cells.drop p).length)).take p = _
    rw [List.append_assoc, List.take_append_of_le_length (by rw [List.length_take]; omega), List.take_take, Nat.min_eq_left (by omega), ← hc, List.take_take, Nat.min_eq_left hp]
  have d1 : cur1.drop (p + 7) = cells.drop p ++ cur.drop (N + 7) := by
    show (cur.take (p + 7) ++ cells.drop p ++ cur.drop (p + 7 + (cells.drop p).length)).drop (p + 7) = _
    rw [List.append_assoc, List.drop_append, List.length_take, List.drop_of_length_le (by rw [List.length_take]; omega), List.nil_append, show p + 7 - min (p + 7) cur.length = 0 by omega, List.drop_zero, hd, show p + 7 + (N - p) = N + 7 by omega]
  have e2 : cur2 = (cells.take p ++ (us ++ cells.drop p)) ++ cur.drop (N + 7) := by
    show cur1.take p ++ us ++ cur1.drop (p + 7) = _
    rw [t1, d1]
    simp
  have l2 : (cells.take p ++ (us ++ cells.drop p)).length = N + 7 := by
    simp only [List.length_append, List.length_take, List.length_drop, hl, hul]
    omega
  refine ⟨e1, ?_, ?_⟩
  · rw [e2, List.length_append, l2, List.length_drop]; omega
  · rw [e2, List.take_append_of_le_length (by omega), List.take_of_length_le (by omega)]
theorem del_list7 {cur cells z : List Value} {N p : Nat} (hz : z.length = 7) (hc : cur.take N = cells) (hp : p + 7 ≤ N) (hN : N ≤ cur.length) :
    let cur1 := cur.take p ++ cells.drop (p + 7) ++ cur.drop (p + (cells.drop (p + 7)).length)
    let cur2 := cur1.take (N - 7) ++ z ++ cur1.drop (N - 7 + z.length)
    cur1.length = cur.length ∧ cur2.length = cur.length ∧ cur2.take (N - 7) = cells.take p ++ cells.drop (p + 7) := by
  have hl : cells.length = N := by rw [← hc, List.length_take]; omega
  have hd : (cells.drop (p + 7)).length = N - (p + 7) := by rw [List.length_drop, hl]
  intro cur1 cur2
  have l1 : (cur.take p ++ cells.drop (p + 7)).length = N - 7 := by simp only [List.length_append, List.length_take, List.length_drop, hl]; omega
  have e1 : cur1.length = cur.length := by
    show (cur.take p ++ cells.drop (p + 7) ++ cur.drop (p + (cells.drop (p + 7)).length)).length = _
    simp only [List.length_append, List.length_take, List.length_drop, hl]
    omega
  have t1 : cur1.take (N - 7) = cells.take p ++ cells.drop (p + 7) := by
    show (cur.take p ++ cells.drop (p + 7) ++ cur.drop (p + (cells.drop (p + 7)).length)).take (N - 7) = _
    rw [List.take_append_of_le_length (by omega), List.take_of_length_le (by omega), ← hc, List.take_take, Nat.min_eq_left (by omega)]
  refine ⟨e1, ?_, ?_⟩
  · show (cur1.take (N - 7) ++ z ++ cur1.drop (N - 7 + z.length)).length = _
    simp only [List.length_append, List.length_take, List.length_drop, hz]
    omega
  · show (cur1.take (N - 7) ++ z ++ cur1.drop (N - 7 + z.length)).take (N - 7) = _
    rw [List.append_assoc, List.take_append_of_le_length (by rw [List.length_take]; omega), List.take_take, Nat.min_self, t1]
theorem ins2_list7 {cur0 cells : List Value} {N p M : Nat} {us : List Value} (hul : us.length = 7) (hl : cells.length = N) (hp : p ≤ N) (h0 : cur0.take p = cells.take p) (hM : cur0.length = M) (hN : N + 7 ≤ M) :
    let cur1 := cur0.take p ++ us ++ cur0.drop (p + us.length)
    let cur2 := cur1.take (p + 7) ++ cells.drop p ++ cur1.drop (p + 7 + (cells.drop p).length)
    cur1.length = M ∧ cur2.length = M ∧ cur2.take (N + 7) = cells.take p ++ (us ++ cells.drop p) := by
  intro cur1 cur2
  have e1 : cur1.length = M := by
    show (cur0.take p ++ us ++ cur0.drop (p + us.length)).length = _
    simp only [List.length_append, List.length_take, List.length_drop, hul]
    omega
  have t1 : cur1.take (p + 7) = cells.take p ++ us := by
    show (cur0.take p ++ us ++ cur0.drop (p + us.length)).take (p + 7) = _
    have hlp : (cur0.take p ++ us).length = p + 7 := by simp only [List.length_append, List.length_take, hul]; omega
    rw [List.take_append_of_le_length (by omega), List.take_of_length_le (by omega), h0]
  have lt : (cells.take p ++ us).length = p + 7 := by simp only [List.length_append, List.length_take, hul]; omega
  have l2 : (cells.take p ++ us ++ cells.drop p).length = N + 7 := by rw [List.length_append, lt, List.length_drop]; omega
  refine ⟨e1, ?_, ?_⟩
  · show (cur1.take (p + 7) ++ cells.drop p ++ cur1.drop (p + 7 + (cells.drop p).length)).length = _
    rw [t1, List.length_append, l2, List.length_drop, List.length_drop]
    omega
  · show (cur1.take (p + 7) ++ cells.drop p ++ cur1.drop (p + 7 + (cells.drop p).length)).take (N + 7) = _
    rw [t1, List.take_append_of_le_length (by omega), List.take_of_length_le (by omega), List.append_assoc]
set_option maxRecDepth 100000 in
theorem info_py : (Tryd.prog.info? 35).map (fun i => (i.zero, i.size, i.bytes)) = some (some (.agg #[.int .i64 0, .int .i64 0, .int .i64 0, .slice none 0 0, .int .i64 0, .slice none 0 0, .bool false]), 7, 88) := by kernel_rfl
section
variable {w w' : World} {lo : Nat}
set_option maxRecDepth 100000 in
theorem zero_py (w : World) : (zeroValue 35).run Tryd.prog w = .ok (.agg #[.int .i64 0, .int .i64 0, .int .i64 0, .slice none 0 0, .int .i64 0, .slice none 0 0, .bool false]) w := by
  obtain ⟨i0, hi, hz0, hz1, hz2⟩ := info_parts info_py
  simp [zeroValue, typeInfo, hi, hz0]
/-- What Insert leaves. -/
def InsP_py (w : World) (lo : Nat) (A : Option Addr) (n c i : Nat) (cells : List Value) (us : List Value) (e : Ending) (w' : World) : Prop :=
  ∃ A' c', e = .returned (.slice A' (n + 1) c') ∧ w'.ownsRow lo 35 7 (.slice A' (n + 1) c') (n + 1) (cells.take (i * 7) ++ (us ++ cells.drop (i * 7))) ∧ Fr (fun k => (Value.slice A n c).ownBlock = some k) w w'
set_option maxRecDepth 100000 in
set_option maxHeartbeats 3200000 in
theorem insert_end_py {A : Option Addr} {n c vb : Nat} {us : List Value} {cells : List Value} (hown : w.ownsRow lo 35 7 (.slice A n c) n cells) (hn : n ≤ 1000) (hlo : lo ≤ w.heap.size)
    (hv : w.heap[vb]? = some (.cells us.toArray 35 (0, 0))) (hul : us.length = 7) (ho1 : ∀ u ∈ us, u.oneCell' = true) :
    Calls Tryd.prog 40 #[.slice A n c, .int .i64 (n : Int), .slice (some ⟨vb, 0, none⟩) 1 1] w (InsP_py w lo A n c n cells us) := by
  have hrc : Rc w 7 (some ⟨vb, 0, none⟩) 1 us := ⟨by rw [hul], fun _ => ⟨vb, 0, rfl, (Array.getElem?_eq_some_iff.1 hv).1, fun r u hu => by
    rw [Nat.zero_add, blk_cell hv, List.getElem?_toArray]
    exact hu⟩⟩
  obtain ⟨v', w', hrun, ho, hg⟩ := run_append_k w 24 24 35 Tryd.underlying24 info_py rfl (by decide) (by decide) hown (some ⟨vb, 0, none⟩) 1 1 us hrc ho1 (by omega) hlo
  obtain ⟨A', c', rfl, _⟩ := own_slice ho
  have hcl := hown.1
  have HP : Hid (InsP_py w lo A n c n cells us (.returned (.slice A' (n + 1) c')) w') := Lib.hid ⟨A', c', rfl, by rw [List.take_of_length_le (by omega), List.drop_of_length_le (by omega), List.append_nil]; exact ho, Fr.grown hg (fun k hk => hk)⟩
  have hnc := own_cap hown
  have e1 : (n : Int) ≤ (c : Int) := by omega
  obtain ⟨e2, he2⟩ : ∃ x, (if c = n then A else A.map (fun a => a.add (n * 7))) = x := ⟨_, rfl⟩
  clear hrc ho hg hcl hown hv hul ho1
  go_enter Tryd.func40, Tryd.ntmps40
  go_wp2_with (at_builtin; refine Lib.wpList_append_run w rfl (.tmp 23) (.tmp 24) 24 24 rfl _ _ rfl rfl _ _ hrun ?_)
  go_ret
  exact HP.out
set_option maxRecDepth 100000 in
set_option maxHeartbeats 3200000 in
theorem insert_room_py {A : Option Addr} {n c i vb : Nat} {us : List Value} {cells : List Value} (hown : w.ownsRow lo 35 7 (.slice A n c) n cells) (h1 : ∀ u ∈ cells, u.oneCell' = true) (hi : i < n) (hn : n ≤ 1000) (hc : n + 1 ≤ c)
    (hv : w.heap[vb]? = some (.cells us.toArray 35 (0, 0))) (hvb : ¬ (Value.slice A n c).ownBlock = some vb) (hul : us.length = 7) (ho1 : ∀ u ∈ us, u.oneCell' = true) :
    Calls Tryd.prog 40 #[.slice A n c, .int .i64 (i : Int), .slice (some ⟨vb, 0, none⟩) 1 1] w (InsP_py w lo A n c i cells us) := by
  obtain ⟨i0, hi0, hz0, hz1, hz2⟩ := info_parts info_py
  rcases hown.2 with ⟨_, h0⟩ | ⟨g, cap, cur, hv', hlo, hh, hnc, hcm, hsz, htk⟩
  · omega
  injection hv' with e1 e2 e3
  subst e1 e3
  clear e2
  have hvg : vb ≠ g := fun e => hvb (by rw [e]; rfl)
  have hcl := hown.1
  have hcl2 : cur.toList.length = c * 7 := by rw [Array.length_toList]; exact hsz
  have hdl : (cells.drop (i * 7)).length = (n - i) * 7 := by rw [List.length_drop, hcl]; omega
  obtain ⟨l1, l2, l3⟩ := ins_list7 (cur := cur.toList) (cells := cells) (N := n * 7) (p := i * 7) hul htk (by omega) (by omega)
  -- the first copy: what stands behind is moved by one
  have hrun1 : ∀ ty dc sc, (Builtin.copy_ #[24, 24] ty #[.slice (some ⟨g, (i + 1) * 7, none⟩) (n + 1 - (i + 1)) dc, .slice (some ⟨g, i * 7, none⟩) (n + 1 - i) sc]).run Tryd.prog w.drew =
      .ok (goInt (n - i : Nat)) (w.drew.setRow g (cur.toList.take (i * 7 + 7) ++ cells.drop (i * 7) ++ cur.toList.drop (i * 7 + 7 + (cells.drop (i * 7)).length)).toArray) := fun ty dc sc => by
    have := run_copy_k (P := Tryd.prog) w.drew 24 24 ty 35 i0 g ((i + 1) * 7) (n + 1 - (i + 1)) dc ⟨g, i * 7, none⟩ (n + 1 - i) sc (n - i) cur 35 (cells.drop (i * 7)) Tryd.underlying24 hi0 (by show min _ _ = _; omega) hh (by rw [hz1]; exact hdl) (fun j u hu => by
      rw [Addr.add_lit]
      show w.cell? _ = _
      rw [blk_cell hh, ← Array.getElem?_toList]
      rw [List.getElem?_drop] at hu
      rw [← htk, List.getElem?_take] at hu
      split at hu
      · exact hu
      · cases hu) (by rw [hdl, hsz]; omega) (fun u hu => h1 u (List.mem_of_mem_drop hu))
    rw [show (i + 1) * 7 = i * 7 + 7 by omega] at this ⊢
    exact this
  obtain ⟨cur1, hcur1⟩ : ∃ x, cur.toList.take (i * 7 + 7) ++ cells.drop (i * 7) ++ cur.toList.drop (i * 7 + 7 + (cells.drop (i * 7)).length) = x := ⟨_, rfl⟩
  simp only [hcur1] at hrun1 l1 l2 l3
  have hW1 : (w.drew.setRow g cur1.toArray).heap[g]? = some (.cells cur1.toArray 35 (0, 0)) := setRow_heap w.drew g cur _ _ _ hh
  have hV1 : (w.drew.setRow g cur1.toArray).heap[vb]? = some (.cells us.toArray 35 (0, 0)) := (setRow_other w.drew g vb cur1.toArray hvg).trans hv
  -- the second one: the new box
  have hrun2 : ∀ ty dc, (Builtin.copy_ #[24, 24] ty #[.slice (some ⟨g, i * 7, none⟩) (n + 1 - i) dc, .slice (some ⟨vb, 0, none⟩) 1 1]).run Tryd.prog (w.drew.setRow g cur1.toArray) =
      .ok (goInt 1) ((w.drew.setRow g cur1.toArray).setRow g (cur1.take (i * 7) ++ us ++ cur1.drop (i * 7 + 7)).toArray) := fun ty dc => by
    have q := run_copy_k (P := Tryd.prog) (w.drew.setRow g cur1.toArray) 24 24 ty 35 i0 g (i * 7) (n + 1 - i) dc ⟨vb, 0, none⟩ 1 1 1 cur1.toArray 35 us Tryd.underlying24 hi0 (by show min _ _ = _; omega) hW1 (by rw [hz1, hul]) (fun j u hu => by
      rw [Addr.add_lit, Nat.zero_add, blk_cell hV1, List.getElem?_toArray]
      exact hu) (by rw [List.size_toArray, l1, hcl2, hul]; omega) ho1
    rw [hul] at q
    exact q
  obtain ⟨cur2, hcur2⟩ : ∃ x, cur1.take (i * 7) ++ us ++ cur1.drop (i * 7 + 7) = x := ⟨_, rfl⟩
  rw [hcur2] at hrun2 l2 l3
  have HR1 := Lib.hid hrun1
  have HR2 := Lib.hid hrun2
  have HFIN : Hid (InsP_py w lo (some ⟨g, 0, none⟩) n c i cells us (.returned (.slice (some ⟨g, 0, none⟩) (n + 1) c)) ((w.drew.setRow g cur1.toArray).setRow g cur2.toArray)) := Lib.hid ⟨some ⟨g, 0, none⟩, c, rfl, ⟨by rw [List.length_append, List.length_append, List.length_take, hdl, hcl, hul]; omega, .inr ⟨g, c, _, rfl, hlo, setRow_heap _ g cur1.toArray _ _ _ hW1, hc, hcm, by rw [List.size_toArray, l2]; exact hcl2, by rw [show (n + 1) * 7 = n * 7 + 7 by omega]; exact l3⟩⟩, by
    have q1 : Fr (fun k => k = g) w.drew (w.drew.setRow g cur1.toArray) := Fr.setRow _ _ _
    have q2 : Fr (fun k => k = g) (w.drew.setRow g cur1.toArray) ((w.drew.setRow g cur1.toArray).setRow g cur2.toArray) := Fr.setRow _ _ _
    exact (((Fr.drew No w).any.trans q1 (fun _ _ e => e)).trans q2 (fun _ _ e => e)).mono (fun k _ e => by subst e; rfl)⟩
  have hszb : ∀ W : World, (sizeOf 35).run Tryd.prog W = .ok 7 W := fun W => by simp [sizeOf, typeInfo, hi0, hz1]
  have hov : ∀ lb cb, (callFunc 75 #[.slice (some ⟨vb, 0, none⟩) 1 1, .slice (some ⟨g, (i + 1) * 7, none⟩) lb cb]).run Tryd.prog w = .ok (.value (.bool false)) w := fun lb cb => by
    rw [run_callFunc_extern Tryd.func75 (by kernel_rfl) (by kernel_rfl) (by kernel_rfl) (e := Extern.SlicesOverlaps.overlaps #[24, 24] #[4]) (by kernel_rfl),
      Lib.run_overlaps_apart w 24 4 35 Tryd.underlying24 7 hszb ⟨vb, 0, none⟩ ⟨g, (i + 1) * 7, none⟩ 1 1 lb cb hvg 35 35 7 cur.size (by simp [World.shape?, hv, hul]) (by simp [World.shape?, hh]) (by omega) (by exact blk_free hv _) (by exact blk_free hv _)]
    rfl
  have HOV := Lib.hid hov
  have e1 : ¬ ((i : Int) = (n : Int)) := by omega
  have e2 : ¬ ((c : Int) < (n : Int) + 1) := by omega
  have e2' : ¬ ((n : Int) + 1 > (c : Int)) := by omega
  have e3 : (i : Int) ≤ (n : Int) := by omega
  have e4 : (n : Int) + 1 ≤ (c : Int) := by omega
  have e5 : (0 : Int) ≤ (i : Int) + 1 := by omega
  have e6 : ((i : Int) + 1).toNat = i + 1 := by omega
  have e7 : ((n : Int) + 1).toNat = n + 1 := by omega
  have e8 : ¬ (c = i + 1) := by omega
  have e9 : ¬ (c = i) := by omega
  have e10 : (i : Int) + 1 ≤ (n : Int) + 1 := by omega
  have e11 : (i : Int) ≤ (n : Int) + 1 := by omega
  have e12 : (0 : Int) ≤ (n : Int) + 1 := by omega
  have hw1 : IntKind.i64.wrap ((i : Int) + 1) = (i : Int) + 1 := by rw [IntKind.wrap_i64]; omega
  have hw2 : IntKind.i64.wrap ((n : Int) + 1) = (n : Int) + 1 := by rw [IntKind.wrap_i64]; omega
  have mixed : Tryd.prog.follows Departure.mixedOrders = true := by kernel_rfl
  clear hown h1 hh hcm hsz htk hcl hcl2 hdl l1 l2 l3 hrun1 hrun2 hcur1 hcur2 hW1 hV1 hv hvb hov hszb hi0 hz0 hz1 hz2 hlo hvg
  go_enter Tryd.func40, Tryd.ntmps40
  go_wp2_with (simp only [HOV.out])
  go_region_law_o (refine step_copy rfl (.tmp 73) (.tmp 76) _ _ rfl (.slice (some ⟨g, (i + 1) * 7, none⟩) (n + 1 - (i + 1)) (c - (i + 1))) (.slice (some ⟨g, i * 7, none⟩) (n + 1 - i) (c - i)) (by simp [Act.eval, Act.put]) (by simp [Act.eval, Act.put]) (HR1.out _ _ _) ?_)
  go_wp2_with fail
  rw [HR2.out]
  go_wp2_with fail
  go_ret
  exact HFIN.out
set_option maxRecDepth 100000 in
set_option maxHeartbeats 3200000 in
theorem insert_grow_py {A : Option Addr} {n i vb : Nat} {us : List Value} {cells : List Value} (hown : w.ownsRow lo 35 7 (.slice A n n) n cells) (h1 : ∀ u ∈ cells, u.oneCell' = true) (hi : i < n) (hn : n ≤ 1000) (hlw : lo ≤ w.heap.size)
    (hv : w.heap[vb]? = some (.cells us.toArray 35 (0, 0))) (hul : us.length = 7) (ho1 : ∀ u ∈ us, u.oneCell' = true) :
    Calls Tryd.prog 40 #[.slice A n n, .int .i64 (i : Int), .slice (some ⟨vb, 0, none⟩) 1 1] w (InsP_py w lo A n n i cells us) := by
  obtain ⟨i0, hi0, hz0, hz1, hz2⟩ := info_parts info_py
  rcases hown.2 with ⟨_, h0⟩ | ⟨g, cap, cur, hv', hlo, hh, hnc, hcm, hsz, htk⟩
  · omega
  injection hv' with e1 e2 e3
  subst e1 e3
  clear e2
  have hcl := hown.1
  have hgz : g < w.heap.size := (Array.getElem?_eq_some_iff.1 hh).1
  have hvz : vb < w.heap.size := (Array.getElem?_eq_some_iff.1 hv).1
  have hdl : (cells.drop (i * 7)).length = (n - i) * 7 := by rw [List.length_drop, hcl]; omega
  have htl : (cells.take (i * 7)).length = i * 7 := by rw [List.length_take, hcl]; omega
  have hat : ∀ j u, cells[j]? = some u → w.cell? ⟨g, j, none⟩ = some u := fun j u hu => by
    rw [blk_cell hh, ← Array.getElem?_toList]
    rw [← htk, List.getElem?_take] at hu
    split at hu
    · exact hu
    · cases hu
  -- the new row
  have hold : (Builtin.firstCells i0.size i (.slice (some ⟨g, 0, none⟩) i n)).run Tryd.prog w.drew = .ok (cells.take (i * 7)).toArray w.drew :=
    run_firstCells_some (P := Tryd.prog) w.drew i0.size i ⟨g, 0, none⟩ i n (cells.take (i * 7)) (by rw [htl, hz1]) (fun j u hu => by
      rw [Addr.add_lit, Nat.zero_add]
      show w.cell? _ = _
      rw [List.getElem?_take] at hu
      split at hu
      · exact hat j u hu
      · cases hu)
  have hrz : ∀ ty, (Builtin.append_ #[24, 3] ty #[.slice (some ⟨g, 0, none⟩) i n, .int .i64 ((n + 1 - i : Nat) : Int)]).run Tryd.prog w = _ := fun ty =>
    Lib.run_append_grow_zeros w 24 3 ty 35 i0 (.agg #[.int .i64 0, .int .i64 0, .int .i64 0, .slice none 0 0, .int .i64 0, .slice none 0 0, .bool false]) .i64 .i64 Tryd.underlying24 Tryd.underlying3 hi0 hz0 (some ⟨g, 0, none⟩) i n (cells.take (i * 7)) hold (n + 1 - i) (by omega) (by omega) (by omega) (by omega) (by rw [hz2]; omega)
      (by rw [hz2]; exact growslice_fits (by omega) (by omega))
  rw [show i + (n + 1 - i) = n + 1 by omega] at hrz
  have hge : n + 1 ≤ grownCap w (n + 1) n 35 := grownCap_ge w _ _ _
  have hmax : grownCap w (n + 1) n 35 ≤ maxLen := grownCap_le_maxLen w _ _ _ (by unfold maxLen; omega)
  generalize hgc : grownCap w (n + 1) n 35 = M at hrz hge hmax
  obtain ⟨cur0, hcur0⟩ : ∃ x, (cells.take (i * 7)).toArray ++ Builtin.zeroCells (Value.agg #[.int .i64 0, .int .i64 0, .int .i64 0, .slice none 0 0, .int .i64 0, .slice none 0 0, .bool false]).cells (n + 1 - i) ++ Builtin.zeroCells (Value.agg #[.int .i64 0, .int .i64 0, .int .i64 0, .slice none 0 0, .int .i64 0, .slice none 0 0, .bool false]).cells (M - (n + 1)) = x := ⟨_, rfl⟩
  rw [hcur0] at hrz
  have hs0 : cur0.toList.length = M * 7 := by
    rw [Array.length_toList, ← hcur0, Array.size_append, Array.size_append, size_zeroCells, size_zeroCells, List.size_toArray, htl]
    have : (Value.agg #[.int .i64 0, .int .i64 0, .int .i64 0, .slice none 0 0, .int .i64 0, .slice none 0 0, .bool false]).cells.size = 7 := rfl
    rw [this]
    omega
  have ht0 : cur0.toList.take (i * 7) = cells.take (i * 7) := by
    rw [← hcur0, Array.toList_append, Array.toList_append, List.append_assoc]
    show (cells.take (i * 7) ++ _).take (i * 7) = _
    rw [List.take_append_of_le_length (by rw [htl]; exact Nat.le_refl _), List.take_of_length_le (by rw [htl]; exact Nat.le_refl _)]
  obtain ⟨l1, l2, l3⟩ := ins2_list7 (cur0 := cur0.toList) (cells := cells) (N := n * 7) (p := i * 7) (M := M * 7) hul (by omega) (by omega) ht0 hs0 (by omega)
  obtain ⟨H, hH⟩ : ∃ H, w.heap.size = H := ⟨_, rfl⟩
  rw [hH] at hrz hgz hvz hlw
  have hb0 : (w.drew.alloc (.cells cur0 35)).heap[H]? = some (.cells cur0 35 (0, 0)) := by rw [← hH]; exact heap_alloc_new w.drew _
  have hf0 : Fr No w (w.drew.alloc (.cells cur0 35)) := (Fr.drew No w).no_trans (Fr.alloc No _ _)
  have hv0 := blk_no hf0 hv
  have hh0 := blk_no hf0 hh
  generalize w.drew.alloc (.cells cur0 35) = w1 at *
  -- the box
  have hrun1 : ∀ ty dc, (Builtin.copy_ #[24, 24] ty #[.slice (some ⟨H, i * 7, none⟩) (n + 1 - i) dc, .slice (some ⟨vb, 0, none⟩) 1 1]).run Tryd.prog w1 =
      .ok (goInt 1) (w1.setRow H (cur0.toList.take (i * 7) ++ us ++ cur0.toList.drop (i * 7 + us.length)).toArray) := fun ty dc =>
    run_copy_k (P := Tryd.prog) w1 24 24 ty 35 i0 H (i * 7) (n + 1 - i) dc ⟨vb, 0, none⟩ 1 1 1 cur0 35 us Tryd.underlying24 hi0 (by show min _ _ = _; omega) hb0 (by rw [hz1, hul]) (fun j u hu => by
      rw [Addr.add_lit, Nat.zero_add, blk_cell hv0, List.getElem?_toArray]
      exact hu) (by rw [← Array.length_toList, hs0, hul]; omega) ho1
  obtain ⟨cur1, hcur1⟩ : ∃ x, cur0.toList.take (i * 7) ++ us ++ cur0.toList.drop (i * 7 + us.length) = x := ⟨_, rfl⟩
  rw [hcur1] at hrun1
  simp only [hcur1] at l1 l2 l3
  have hW1 : (w1.setRow H cur1.toArray).heap[H]? = some (.cells cur1.toArray 35 (0, 0)) := setRow_heap w1 H cur0 _ _ _ hb0
  have hh1 : (w1.setRow H cur1.toArray).heap[g]? = some (.cells cur 35 (0, 0)) := (setRow_other w1 H g cur1.toArray (by omega)).trans hh0
  have hat1 : ∀ j u, cells[j]? = some u → (w1.setRow H cur1.toArray).cell? ⟨g, j, none⟩ = some u := fun j u hu => by
    rw [blk_cell hh1, ← Array.getElem?_toList]
    rw [← htk, List.getElem?_take] at hu
    split at hu
    · exact hu
    · cases hu
  -- what stands behind
  have hrun2 : ∀ ty dc sc, (Builtin.copy_ #[24, 24] ty #[.slice (some ⟨H, (i + 1) * 7, none⟩) (n + 1 - (i + 1)) dc, .slice (some ⟨g, i * 7, none⟩) (n - i) sc]).run Tryd.prog (w1.setRow H cur1.toArray).drew =
      .ok (goInt (n - i : Nat)) ((w1.setRow H cur1.toArray).drew.setRow H (cur1.take (i * 7 + 7) ++ cells.drop (i * 7) ++ cur1.drop (i * 7 + 7 + (cells.drop (i * 7)).length)).toArray) := fun ty dc sc => by
    have := run_copy_k (P := Tryd.prog) (w1.setRow H cur1.toArray).drew 24 24 ty 35 i0 H ((i + 1) * 7) (n + 1 - (i + 1)) dc ⟨g, i * 7, none⟩ (n - i) sc (n - i) cur1.toArray 35 (cells.drop (i * 7)) Tryd.underlying24 hi0 (by show min _ _ = _; omega) hW1 (by rw [hz1]; exact hdl) (fun j u hu => by
      rw [Addr.add_lit]
      rw [List.getElem?_drop] at hu
      exact hat1 _ u hu) (by rw [hdl, List.size_toArray, l1]; omega) (fun u hu => h1 u (List.mem_of_mem_drop hu))
    rw [show (i + 1) * 7 = i * 7 + 7 by omega] at this ⊢
    exact this
  obtain ⟨cur2, hcur2⟩ : ∃ x, cur1.take (i * 7 + 7) ++ cells.drop (i * 7) ++ cur1.drop (i * 7 + 7 + (cells.drop (i * 7)).length) = x := ⟨_, rfl⟩
  rw [hcur2] at hrun2 l2 l3
  have HRZ := Lib.hid hrz
  have HR1 := Lib.hid hrun1
  have HR2 := Lib.hid hrun2
  have HFIN : Hid (InsP_py w lo (some ⟨g, 0, none⟩) n n i cells us (.returned (.slice (some ⟨H, 0, none⟩) (n + 1) M)) ((w1.setRow H cur1.toArray).drew.setRow H cur2.toArray)) := Lib.hid ⟨some ⟨H, 0, none⟩, M, rfl, ⟨by rw [List.length_append, List.length_append, htl, hdl, hul]; omega, .inr ⟨H, M, _, rfl, hlw, setRow_heap _ H cur1.toArray _ _ _ hW1, hge, hmax, by rw [List.size_toArray, l2], by rw [show (n + 1) * 7 = n * 7 + 7 by omega]; exact l3⟩⟩, by
    have q1 : Fr (fun k => k = H) w1 (w1.setRow H cur1.toArray) := Fr.setRow _ _ _
    have q2 : Fr (fun k => k = H) (w1.setRow H cur1.toArray).drew ((w1.setRow H cur1.toArray).drew.setRow H cur2.toArray) := Fr.setRow _ _ _
    have q := (q1.trans (Fr.drew (fun k => k = H) _) (fun _ _ e => e)).trans q2 (fun _ _ e => e)
    exact (hf0.then_new q (fun k e => by subst e; omega)).any⟩
  have e1 : ¬ ((i : Int) = (n : Int)) := by omega
  have e2 : (n : Int) < (n : Int) + 1 := by omega
  have e3 : (i : Int) ≤ (n : Int) := by omega
  have e4 : (n : Int) + 1 - (i : Int) = ((n + 1 - i : Nat) : Int) := by omega
  have e5 : (0 : Int) ≤ (i : Int) + 1 := by omega
  have e6 : ((i : Int) + 1).toNat = i + 1 := by omega
  have e8 : ¬ (M = i + 1) := by omega
  have e9 : ¬ (M = i) := by omega
  have e13 : ¬ (n = i) := by omega
  have e10 : (i : Int) + 1 ≤ (n : Int) + 1 := by omega
  have e11 : (i : Int) ≤ (n : Int) + 1 := by omega
  have e12 : ¬ (n = 0) := by omega
  have hw1 : IntKind.i64.wrap ((i : Int) + 1) = (i : Int) + 1 := by rw [IntKind.wrap_i64]; omega
  have hw2 : IntKind.i64.wrap ((n : Int) + 1) = (n : Int) + 1 := by rw [IntKind.wrap_i64]; omega
  have hw3 : IntKind.i64.wrap ((n + 1 - i : Nat) : Int) = ((n + 1 - i : Nat) : Int) := by rw [IntKind.wrap_i64]; omega
  have mixed : Tryd.prog.follows Departure.mixedOrders = true := by kernel_rfl
  clear hown h1 hh hcm hsz htk hcl hdl l1 l2 l3 hrz hrun1 hrun2 hcur0 hcur1 hcur2 hW1 hv hi0 hz0 hz1 hz2 hlo htl hat hold hs0 ht0 hb0 hf0 hv0 hh0 hh1 hat1 hge hmax hgc
  go_enter Tryd.func40, Tryd.ntmps40
  go_wp2_with (at_builtin; refine Lib.wpList_append_run _ rfl (.tmp 34) (.tmp 39) 24 3 rfl _ _ rfl rfl _ _ (HRZ.out _) ?_)
  rw [HR1.out]
  go_wp2_with fail
  go_region_law_o (refine step_copy rfl (.tmp 50) (.tmp 53) _ _ rfl (.slice (some ⟨H, (i + 1) * 7, none⟩) (n + 1 - (i + 1)) (M - (i + 1))) (.slice (some ⟨g, i * 7, none⟩) (n - i) (n - i)) (by simp [Act.eval, Act.put]) (by simp [Act.eval, Act.put]) (HR2.out _ _ _) ?_)
  go_wp2_with fail
  go_ret
  exact HFIN.out
/-- Insert of one box, anywhere. -/
theorem insert_any_py {A : Option Addr} {n c i vb : Nat} {us : List Value} {cells : List Value} (hown : w.ownsRow lo 35 7 (.slice A n c) n cells) (h1 : ∀ u ∈ cells, u.oneCell' = true) (hi : i ≤ n) (hn : n ≤ 1000) (hlw : lo ≤ w.heap.size)
    (hv : w.heap[vb]? = some (.cells us.toArray 35 (0, 0))) (hvb : ¬ (Value.slice A n c).ownBlock = some vb) (hul : us.length = 7) (ho1 : ∀ u ∈ us, u.oneCell' = true) :
    Calls Tryd.prog 40 #[.slice A n c, .int .i64 (i : Int), .slice (some ⟨vb, 0, none⟩) 1 1] w (InsP_py w lo A n c i cells us) := by
  by_cases e : i = n
  · subst e
    exact insert_end_py hown hn hlw hv hul ho1
  · by_cases hc : n + 1 ≤ c
    · exact insert_room_py hown h1 (by omega) hn hc hv hvb hul ho1
    · have := own_cap hown
      obtain rfl : c = n := by omega
      exact insert_grow_py hown h1 (by omega) hn hlw hv hul ho1
end
end Go.Proofs.YtjdhbgdpmojobaaDoor

/-
  A net through calls, what else is there kept: the calls' contracts so; awake. No statement of the seat is proved here.
-/
import Derived.Test.YtndanonhkjgmhaaNtF
namespace Go.Proofs.Ytndanonhkjgmhaa
open Go.RowKit

/-- In w a net stands so; since wk, where its row was vk, nothing but its own blocks has turned. -/
def Nq (wk : World) (vk : Value) (P : Nat) (n : Int) (l : List Gm) (w : World) : Prop := ∃ v, Ntw w P n v l ∧ Nx P vk wk w v
section
variable {wk w w' : World} {vk : Value} {P : Nat} {n : Int} {l : List Gm}
theorem Nq.no (h : Nq wk vk P n l w) (hf : Fr No w w') : Nq wk vk P n l w' := by
  obtain ⟨v, hn, hx⟩ := h
  exact ⟨v, hn.no hf, hx.then_no hf⟩
theorem Nq.fr (h : Nq wk vk P n l w) : Fr (foot P vk) wk w := by
  obtain ⟨v, _, hx⟩ := h
  exact hx.1
theorem Nq.few (h : Nq wk vk P n l w) : l.length ≤ 4096 := by
  obtain ⟨v, hn, _⟩ := h
  exact hn.few
theorem Nq.below {B : Nat} (h : Nq wk vk P n l w) (hB : B ≤ wk.heap.size) (hF : ∀ k, foot P vk k → B ≤ k) : Below B wk w := h.fr.below hB hF
theorem foot_nil {P k : Nat} (h : foot P (.slice none 0 0) k) : k = P := by
  rcases h with h | h
  · exact h
  · cases h
set_option maxRecDepth 100000 in
theorem nq_new (n : Int) (w : World) (h1 : 1 ≤ n) (h2 : n ≤ 64) :
    Calls Try.prog 11 #[.int .i64 n] w fun e w' => e = .returned (.tuple #[.pointer (some ⟨w.heap.size, 0, none⟩), .int .i64 0]) ∧ Nq w' (.slice none 0 0) w.heap.size n [] w' ∧ Fr No w w' := by
  refine (new_ok n w h1 h2).mono ?_
  rintro e w' ⟨rfl, hn, hf⟩
  exact ⟨rfl, ⟨_, hn, Nx.refl _ _ _⟩, hf⟩
set_option maxRecDepth 100000 in
theorem nq_send (h : Nq wk vk P n l w) (hl : l.length < 4096) (fr to : Int) (hx : isN n fr = true) (hy : isN n to = true) (A : Option Addr) (m c : Nat) (hm : m ≤ 1048576) (bs : List UInt8) (hr : Rd w w.heap.size A m bs) :
    Calls Try.prog 12 #[.pointer (some ⟨P, 0, none⟩), .int .i64 fr, .int .i64 to, .slice A m c] w fun e w' => e = .returned (.int .i64 0) ∧ Nq wk vk P n (l ++ [⟨fr, to, ⟨bs.toArray⟩⟩]) w' := by
  obtain ⟨v, hn, hq⟩ := h
  refine (send_ok hn hl fr to hx hy A m c hm bs hr).mono ?_
  rintro e w' ⟨rfl, v', hn', hx'⟩
  exact ⟨rfl, v', hn', hq.trans hx'⟩
set_option maxRecDepth 100000 in
theorem nq_copy (h : Nq wk vk P n l w) (hl : l.length < 4096) {i : Int} {g : Gm} (hg : look l i = some g) :
    Calls Try.prog 15 #[.pointer (some ⟨P, 0, none⟩), .int .i64 i] w fun e w' => e = .returned (.int .i64 0) ∧ Nq wk vk P n (l ++ [g]) w' := by
  obtain ⟨v, hn, hq⟩ := h
  refine (copy_ok hn hl hg).mono ?_
  rintro e w' ⟨rfl, v', hn', hx'⟩
  exact ⟨rfl, v', hn', hq.trans hx'⟩
set_option maxRecDepth 100000 in
theorem nq_copy_none (h : Nq wk vk P n l w) {i : Int} (hg : look l i = none) :
    Calls Try.prog 15 #[.pointer (some ⟨P, 0, none⟩), .int .i64 i] w fun e w' => e = .returned (.int .i64 2) ∧ Fr No w w' := by
  obtain ⟨v, hn, hq⟩ := h
  exact copy_none hn hg
set_option maxRecDepth 100000 in
theorem nq_drop (h : Nq wk vk P n l w) (i : Int) :
    Calls Try.prog 14 #[.pointer (some ⟨P, 0, none⟩), .int .i64 i] w fun e w' => e = .returned (.bool (look l i).isSome) ∧ Nq wk vk P n (dropI l i) w' := by
  obtain ⟨v, hn, hq⟩ := h
  refine (drop_any hn i).mono ?_
  rintro e w' ⟨rfl, v', hn', hx', _⟩
  exact ⟨rfl, v', hn', hq.trans hx'⟩
set_option maxRecDepth 100000 in
theorem nq_drop_yes (h : Nq wk vk P n l w) {i : Int} {l' : List Gm} (hg : (look l i).isSome = true) (hd : dropI l i = l') :
    Calls Try.prog 14 #[.pointer (some ⟨P, 0, none⟩), .int .i64 i] w fun e w' => e = .returned (.bool true) ∧ Nq wk vk P n l' w' := by
  have := nq_drop h i
  rw [hg, hd] at this
  exact this
set_option maxRecDepth 100000 in
theorem nq_drop_no (h : Nq wk vk P n l w) {i : Int} (hg : look l i = none) :
    Calls Try.prog 14 #[.pointer (some ⟨P, 0, none⟩), .int .i64 i] w fun e w' => e = .returned (.bool false) ∧ Nq wk vk P n l w' := by
  have := nq_drop h i
  rw [hg, dropI_none hg] at this
  exact this
set_option maxRecDepth 100000 in
theorem nq_forget (h : Nq wk vk P n l w) (x : Int) :
    Calls Try.prog 18 #[.pointer (some ⟨P, 0, none⟩), .int .i64 x] w fun e w' => e = .returned (.int .i64 ((l.length - (keepN l x).length : Nat) : Int)) ∧ Nq wk vk P n (keepN l x) w' := by
  obtain ⟨v, hn, hq⟩ := h
  refine (forget_any hn x).mono ?_
  rintro e w' ⟨rfl, v', hn', hx'⟩
  exact ⟨rfl, v', hn', hq.trans hx'⟩
set_option maxRecDepth 100000 in
theorem nq_take (h : Nq wk vk P n l w) {i : Int} {g : Gm} (hg : look l i = some g) :
    Calls Try.prog 13 #[.pointer (some ⟨P, 0, none⟩), .int .i64 i] w fun e w' => ∃ A c, e = .returned (.tuple #[.agg #[.int .i64 g.fr, .int .i64 g.to, .slice A g.ds.size c], .bool true]) ∧ g.ds.size ≤ c ∧ Bx w.heap.size w' A g.ds.size g.ds.data.toList ∧ Nq wk vk P n (dropI l i) w' := by
  obtain ⟨v, hn, hq⟩ := h
  refine (take_yes hn hg).mono ?_
  rintro e w' ⟨A, c, rfl, hc, hb, v', hn', hx', _⟩
  exact ⟨A, c, rfl, hc, hb, v', hn', hq.trans hx'⟩
set_option maxRecDepth 100000 in
theorem nq_take_no (h : Nq wk vk P n l w) {i : Int} (hg : look l i = none) :
    Calls Try.prog 13 #[.pointer (some ⟨P, 0, none⟩), .int .i64 i] w fun e w' => e = .returned (.tuple #[.agg #[.int .i64 0, .int .i64 0, .slice none 0 0], .bool false]) ∧ Fr No w w' := by
  obtain ⟨v, hn, hq⟩ := h
  exact take_no hn hg
set_option maxRecDepth 100000 in
theorem nq_look (h : Nq wk vk P n l w) {i : Int} {g : Gm} (hg : look l i = some g) :
    Calls Try.prog 25 #[.pointer (some ⟨P, 0, none⟩), .int .i64 i] w fun e w' => ∃ A c, e = .returned (.tuple #[.agg #[.int .i64 g.fr, .int .i64 g.to, .slice A g.ds.size c], .bool true]) ∧ g.ds.size ≤ c ∧ Bx w.heap.size w' A g.ds.size g.ds.data.toList ∧ Fr No w w' := by
  obtain ⟨v, hn, hq⟩ := h
  exact look_yes hn hg
set_option maxRecDepth 100000 in
theorem nq_look_no (h : Nq wk vk P n l w) {i : Int} (hg : look l i = none) :
    Calls Try.prog 25 #[.pointer (some ⟨P, 0, none⟩), .int .i64 i] w fun e w' => e = .returned (.tuple #[.agg #[.int .i64 0, .int .i64 0, .slice none 0 0], .bool false]) ∧ Fr No w w' := by
  obtain ⟨v, hn, hq⟩ := h
  exact look_no hn hg
set_option maxRecDepth 100000 in
theorem nq_flying (h : Nq wk vk P n l w) {m : Nat} (hm : l.length = m) :
    Calls Try.prog 16 #[.pointer (some ⟨P, 0, none⟩)] w fun e w' => e = .returned (.int .i64 (m : Int)) ∧ w = w' := by
  subst hm
  obtain ⟨v, hn, hq⟩ := h
  exact flying_any hn
set_option maxRecDepth 100000 in
theorem nq_stands (h : Nq wk vk P n l w) {i : Int} {g : Gm} (hg : look l i = some g) :
    Calls Try.prog 17 #[.pointer (some ⟨P, 0, none⟩), .int .i64 i, .int .i64 g.fr, .int .i64 g.to, .string g.ds] w fun e w' => e = .returned (.bool true) ∧ Fr No w w' := by
  obtain ⟨v, hn, hq⟩ := h
  exact stands_yes hn hg
set_option maxRecDepth 100000 in
theorem nq_all (h : Nq wk vk P n l w) :
    Calls Try.prog 29 #[.pointer (some ⟨P, 0, none⟩)] w fun e w' => ∃ r L, e = .returned r ∧ Rw w.heap.size w' r L ∧ L.map Gr.gm = l ∧ Fr No w w' := by
  obtain ⟨v, hn, hq⟩ := h
  exact all_any hn
end
theorem rd_lit (w : World) (l : List UInt8) (cs : Array Value) (fr : Nat × Nat) (h : cs.toList = bvs l) {n : Nat} (hn : l.length = n) : Rd (w.alloc (.cells cs 5 fr)) (w.alloc (.cells cs 5 fr)).heap.size (some ⟨w.heap.size, 0, none⟩) n l := by
  subst hn
  have := Rd.new w l cs h fr
  rw [World.size_alloc]
  exact this
set_option maxHeartbeats 4000000 in
set_option maxRecDepth 100000 in
theorem awake_any (w : World) : Calls Try.prog 19 #[] w fun e w' => e = .returned (.bool true) ∧ Below w.heap.size w w' := by
  have kc := fun (W : World) (C : Array Value) (n c : Nat) => Lib.run_convert_bytes_const (P := Try.prog) W 28 5 C n c Try.underlying28 Try.underlying5
  go_enter Try.func19, Try.ntmps19
  go_wp2_with fail
  refine (nq_new 2 w (by decide) (by decide)).mono ?_
  rintro e w1 ⟨rfl, hq, hf⟩
  have HF1 := Lib.hid hf
  have H1 := Lib.hid (hq.no (Fr.alloc No w1 (.cells #[.int .u8 97] 5 (1, 2))))
  clear hq hf
  go_wp2_with fail
  refine (nq_send H1.out (by decide) 0 1 rfl rfl (some ⟨w1.heap.size, 0, none⟩) 1 1 (by decide) [97] (rd_lit w1 [97] _ _ rfl rfl)).mono ?_
  rintro e w2 ⟨rfl, hq⟩
  have H2 := Lib.hid (hq.no (Fr.alloc No w2 (.cells #[.int .u8 98] 5 (1, 2))))
  clear hq
  go_wp2_with fail
  refine (nq_send H2.out (by decide) 1 0 rfl rfl (some ⟨w2.heap.size, 0, none⟩) 1 1 (by decide) [98] (rd_lit w2 [98] _ _ rfl rfl)).mono ?_
  rintro e w3 ⟨rfl, hq⟩
  have H3 := Lib.hid (show Nq w1 (.slice none 0 0) w.heap.size 2 [⟨0, 1, ⟨#[97]⟩⟩, ⟨1, 0, ⟨#[98]⟩⟩] w3 from hq)
  clear hq
  go_wp2_with fail
  refine (nq_flying H3.out rfl).mono ?_
  rintro e w4 ⟨rfl, rfl⟩
  go_wp2_with fail
  refine (nq_copy H3.out (i := 0) (by decide) rfl).mono ?_
  rintro e w4 ⟨rfl, hq⟩
  have H4 := Lib.hid (show Nq w1 (.slice none 0 0) w.heap.size 2 [⟨0, 1, ⟨#[97]⟩⟩, ⟨1, 0, ⟨#[98]⟩⟩, ⟨0, 1, ⟨#[97]⟩⟩] w4 from hq)
  clear hq
  go_wp2_with fail
  refine (nq_flying H4.out rfl).mono ?_
  rintro e w5 ⟨rfl, rfl⟩
  go_wp2_with fail
  refine (nq_stands H4.out (i := 0) rfl).mono ?_
  rintro e w5 ⟨rfl, hf⟩
  have H5 := Lib.hid (H4.out.no hf)
  clear hf
  go_wp2_with fail
  refine (nq_stands H5.out (i := 2) rfl).mono ?_
  rintro e w6 ⟨rfl, hf⟩
  have H6 := Lib.hid (H5.out.no hf)
  clear hf
  go_wp2_with fail
  refine (nq_take H6.out (i := 1) rfl).mono ?_
  rintro e w7 ⟨A7, c7, rfl, hc, hb, hq⟩
  have H7 := Lib.hid (show Nq w1 (.slice none 0 0) w.heap.size 2 [⟨0, 1, ⟨#[97]⟩⟩, ⟨0, 1, ⟨#[97]⟩⟩] w7 from hq)
  have HB7 := Lib.hid hb
  clear hc hb hq
  have kc7 := kc (w7.alloc (.cells #[.int .i64 1, .int .i64 0, .slice A7 1 c7] 30)) #[.int .u8 98] 1 1
  rw [World.size_alloc] at kc7
  have hr8 := rd_lit (w7.alloc (.cells #[.int .i64 1, .int .i64 0, .slice A7 1 c7] 30)) [98] #[.int .u8 98] (1, 2) rfl (n := 1) rfl
  have hf8 : Fr No w7 ((w7.alloc (.cells #[.int .i64 1, .int .i64 0, .slice A7 1 c7] 30)).alloc (.cells #[.int .u8 98] 5 (1, 2))) := (Fr.alloc No _ _).no_trans (Fr.alloc No _ _)
  have HR8 := Lib.hid hr8
  have HF8 := Lib.hid hf8
  have HB8 := Lib.hid ((HB7.out.no hf8).rd)
  rw [World.size_alloc w7] at HR8
  clear hr8 hf8
  go_wp2_with fail
  refine (equal_yes _ 1 0 A7 (some ⟨w7.heap.size + 1, 0, none⟩) 1 1 c7 1 [98] HB8.out HR8.out).mono ?_
  rintro e w8 ⟨rfl, hf⟩
  have H8 := Lib.hid ((H7.out.no HF8.out).no hf)
  clear hf
  go_wp2_with fail
  refine (nq_drop_yes H8.out (i := 0) (l' := [⟨0, 1, ⟨#[97]⟩⟩]) rfl rfl).mono ?_
  rintro e w9 ⟨rfl, hq⟩
  have H9 := Lib.hid hq
  clear hq
  go_wp2_with fail
  refine (nq_forget H9.out 1).mono ?_
  rintro e wA ⟨rfl, hq⟩
  have HA := Lib.hid (show Nq w1 (.slice none 0 0) w.heap.size 2 [] wA from hq)
  clear hq
  have hone : ((List.length [(⟨0, 1, ⟨#[97]⟩⟩ : Gm)] - (keepN [(⟨0, 1, ⟨#[97]⟩⟩ : Gm)] 1).length : Nat) : Int) = 1 := rfl
  rw [hone]
  go_wp2_with fail
  refine (nq_look_no HA.out (i := 0) rfl).mono ?_
  rintro e wB ⟨rfl, hf⟩
  have HB := Lib.hid ((HA.out.no hf).no (Fr.alloc No wB (.cells #[.int .i64 0, .int .i64 0, .slice none 0 0] 30)))
  clear hf
  go_wp2_with fail
  refine (nq_flying HB.out rfl).mono ?_
  rintro e wC ⟨rfl, rfl⟩
  go_wp2_with fail
  go_ret
  exact ⟨rfl, (HF1.out.noBelow).trans (HB.out.below HF1.out.size (fun k hk => by rw [foot_nil hk]; exact Nat.le_refl _))⟩
end Go.Proofs.Ytndanonhkjgmhaa

/-
  DiskWoven: the law's own word 'own'. No statement of the seat is proved here.
-/
import Derived.Test.YtpffgkflebbejaaDnN
import Derived.Test.YtpffgkflebbejaaDmZ
namespace Go.Proofs.Ytpffgkflebbejaa
open Go.RowKit Go.Maps

def Cl.under (bg : ByteArray) (c : Cl) : Cl := ⟨c.wh, bg ++ c.nm, bg ++ c.to, c.B, c.n, c.K, c.kn, c.kc⟩
set_option maxRecDepth 100000 in
theorem under_oc {b : UInt8} {bg : ByteArray} (hb : bg = ⟨#[b]⟩) {W : World} {b0 o : Nat} {c : Cl} (h : ClAt W ⟨b0, o, none⟩ c) (hf : c.fits = true) (hw : c.wh ≤ 5) : Oc b W (c.under bg) := by
  obtain ⟨_, _, _, _, _, _, _, _, _, hr⟩ := h
  unfold Cl.fits at hf
  simp only [Bool.and_eq_true, decide_eq_true_eq] at hf
  subst hb
  have e : ∀ x : ByteArray, ((⟨#[b]⟩ : ByteArray) ++ x).data.toList = b :: x.data.toList := fun x => by simp [ByteArray.data_append]
  have z : ∀ x : ByteArray, ((⟨#[b]⟩ : ByteArray) ++ x).size = x.size + 1 := fun x => by
    show ((⟨#[b]⟩ : ByteArray) ++ x).data.size = _
    have := congrArg List.length (e x)
    rw [List.length_cons] at this
    exact this
  exact ⟨⟨_, e _⟩, ⟨_, e _⟩, hf.1.2, hw, by show (_ ++ c.nm : ByteArray).size ≤ _; rw [z]; unfold maxLen; omega, by show (_ ++ c.to : ByteArray).size ≤ _; rw [z]; unfold maxLen; omega, hr⟩
set_option maxRecDepth 100000 in
theorem Ow.set {w0 w w' : World} {v : Value} {L : List Cl} {G : Nat} (h : Ow w0 w v L) (hf : Fr (fun k => k = G) w w') (hG : w0.heap.size ≤ G) (hne : ∀ k, v.ownBlock = some k → k ≠ G) : Ow w0 w' v L :=
  ⟨own_keep h.o (fun k hk => hf.block k (h.o.lt k hk).2 (hne k hk)), h.fr.trans hf (fun i hi e => by omega)⟩
set_option maxHeartbeats 4000000 in
set_option maxRecDepth 100000 in
theorem own_any (b : UInt8) (A : Option Addr) (n c : Nat) (xs : List Cl) (w00 w : World) (hx : RowOf w00 6 (ClAt w00) A n xs) (hbel : Below w00.heap.size w00 w) :
    Calls Try.prog 28 #[.slice A n c, .string ⟨#[b]⟩] w fun e w' => ∃ v L, e = .returned v ∧ Ow w w' v L ∧ (∀ x ∈ L, Oc b w00 x) ∧ L.length ≤ 25 := by
  obtain ⟨bg, HBG⟩ : ∃ bg, Hid ((⟨#[b]⟩ : ByteArray) = bg) := ⟨_, rfl⟩
  rw [HBG.out]
  have HX := Lib.hid hx
  have HBE := Lib.hid hbel
  have hbs : bg.size = 1 := by rw [← HBG.out]; rfl
  clear hx hbel
  go_enter Try.func28, Try.ntmps28
  go_wp2_with fail
  go_loopw [5, 6] (fun vo vi wr => ∃ (i : Nat) (L : List Cl) (A5 : Option Addr) (m5 c5 : Nat), i ≤ 25 ∧ i ≤ n ∧ L.length ≤ i ∧ vo = .slice A5 m5 c5 ∧ vi = .int .i64 (i : Int) ∧ Ow w wr (.slice A5 m5 c5) L ∧ (∀ x ∈ L, Oc b w00 x)) (fun _ vi _ => 25 - (intOf vi).toNat)
  case atStart => exact ⟨0, [], none, 0, 0, by omega, by omega, by simp, rfl, rfl, ⟨World.ownsRow_nil _ _ _ _, Fr.refl _ _⟩, fun x hx => by cases hx⟩
  case round =>
    obtain ⟨i, L, A5, m5, c5, hi, hin, hLi, rfl, rfl, hO, hL⟩ := hrel
    have HO := Lib.hid hO
    have HL := Lib.hid hL
    clear hO hL
    by_cases hlt : i < n ∧ i < 25
    · obtain ⟨hlt, hlt2⟩ := hlt
      obtain ⟨b0, o, rfl, hb, hc⟩ := HX.out.2 (by omega)
      have hix : i < xs.length := by rw [HX.out.1]; exact hlt
      obtain ⟨x, hxe⟩ : ∃ x, xs[i] = x := ⟨_, rfl⟩
      have hbs2 := hc i hix
      rw [hxe] at hbs2
      have HAT := Lib.hid hbs2
      have HCL := Lib.hid (show ∀ W, Fr No wr W → ClAt W ⟨b0, o + i * 6, none⟩ x from fun W hW => hbs2.below rfl hb (HBE.out.trans ((HO.out.fr.no_trans hW).noBelow.mono HBE.out.size)))
      clear hc hbs2 hxe hix
      obtain ⟨q0, q1, q2, q3, q4, q5⟩ := (HCL.out _ (Fr.refl _ _)).alle
      have hwi : IntKind.i64.wrap ((i : Int) + 1) = ((i + 1 : Nat) : Int) := by
        rw [show ((i : Int) + 1) = ((i + 1 : Nat) : Int) by omega]
        exact IntWalk.i64_in _ (by omega)
      have hd25 : decide ((i : Int) < 25) = true := by rw [decide_eq_true_eq]; omega
      go_wp2_with fail
      refine (fits_any x _).mono ?_
      rintro e w1 ⟨rfl, hf⟩
      have hbk := (hf.block wr.heap.size (by simp) (fun e => e)).trans (heap_alloc_new wr (.cells #[.int .u8 (x.wh : Int), .string x.nm, .string x.to, .slice x.B.A x.B.n x.B.c, .int .i64 x.n, .slice x.K x.kn x.kc] 39))
      have HN1 := Lib.hid ((Fr.alloc No wr (.cells #[.int .u8 (x.wh : Int), .string x.nm, .string x.to, .slice x.B.A x.B.n x.B.c, .int .i64 x.n, .slice x.K x.kn x.kc] 39)).no_trans hf)
      obtain ⟨G, HG⟩ : ∃ G, Hid (wr.heap.size = G) := ⟨_, rfl⟩
      rw [HG.out] at hbk ⊢
      have HBK := Lib.hid hbk
      have p0 : w1.cell? ⟨G, 0, none⟩ = some (.int .u8 (x.wh : Int)) := by unfold World.cell?; rw [HBK.out]; rfl
      have p1 : w1.cell? ⟨G, 1, none⟩ = some (.string x.nm) := by unfold World.cell?; rw [HBK.out]; rfl
      have p2 : w1.cell? ⟨G, 2, none⟩ = some (.string x.to) := by unfold World.cell?; rw [HBK.out]; rfl
      have p3 : w1.cell? ⟨G, 3, none⟩ = some (.slice x.B.A x.B.n x.B.c) := by unfold World.cell?; rw [HBK.out]; rfl
      have p4 : w1.cell? ⟨G, 4, none⟩ = some (.int .i64 x.n) := by unfold World.cell?; rw [HBK.out]; rfl
      have p5 : w1.cell? ⟨G, 5, none⟩ = some (.slice x.K x.kn x.kc) := by unfold World.cell?; rw [HBK.out]; rfl
      have z1 : w1.frozen? ⟨G, 1, none⟩ = false := by unfold World.frozen?; rw [HBK.out]; simp
      have z2 : w1.frozen? ⟨G, 2, none⟩ = false := by unfold World.frozen?; rw [HBK.out]; simp
      clear hf hbk q0 q1 q2 q3 q4 q5
      cases hfit : x.fits with
      | false =>
        have HO1 := Lib.hid (HO.out.no HN1.out)
        go_wp2_with fail
        go_roundw
        case rel => exact ⟨i + 1, L, _, _, _, by omega, by omega, by omega, rfl, by go_num, HO1.out, HL.out⟩
        case measure => simp [intOf]; omega
      | true =>
        by_cases hw5 : x.wh ≤ 5
        · have hd5 : decide ((x.wh : Int) ≤ 5) = true := by rw [decide_eq_true_eq]; omega
          have hnn : x.nm.size < 90 ∧ x.to.size < 90 := by
            unfold Cl.fits at hfit
            simp only [Bool.and_eq_true, decide_eq_true_eq] at hfit
            exact hfit.1.1
          have HO3 := Lib.hid (show ∀ a b, Ow w ((w1.setCell ⟨G, 1, none⟩ a).setCell ⟨G, 2, none⟩ b) (.slice A5 m5 c5) L from fun a b =>
            Ow.set (G := G) (HO.out.no HN1.out) ((Fr.setCell w1 ⟨G, 1, none⟩ a (F := fun k => k = G) rfl).trans (Fr.setCell _ ⟨G, 2, none⟩ b (F := fun k => k = G) rfl) (fun _ _ e => e)) (by rw [← HG.out]; exact HO.out.fr.size) (fun k hk => by have := (HO.out.o.lt k hk).2; have := HG.out; omega))
          have hs1 : ¬ 9223372036854775807 < 1 + x.nm.size := by omega
          have hs2 : ¬ 9223372036854775807 < 1 + x.to.size := by omega
          have HOC := Lib.hid (under_oc HBG.out.symm HAT.out hfit hw5)
          clear hnn
          go_wp2_with (at_builtin; refine wpList_append_cl w _ rfl (.tmp 39) (.tmp 41) rfl (.slice A5 m5 c5) L (HO3.out _ _) (by omega) (x.under bg) _ rfl rfl _ rfl (by simp) ?_; intro g3 cap3 w3 hw3; have HO4 := Lib.hid hw3; clear hw3)
          go_roundw
          case rel => exact ⟨i + 1, L ++ [x.under bg], _, _, _, by omega, by omega, by simp; omega, rfl, by go_num, HO4.out, fun y hy => by
            rcases List.mem_append.1 hy with e | e
            · exact HL.out y e
            · rw [List.mem_singleton.1 e]; exact HOC.out⟩
          case measure => simp [intOf]; omega
        · have hd5 : decide ((x.wh : Int) ≤ 5) = false := by rw [decide_eq_false_iff_not]; omega
          have HO1 := Lib.hid (HO.out.no HN1.out)
          go_wp2_with fail
          go_roundw
          case rel => exact ⟨i + 1, L, _, _, _, by omega, by omega, by omega, rfl, by go_num, HO1.out, HL.out⟩
          case measure => simp [intOf]; omega
    · by_cases hl2 : i < n
      · have hi5' : i = 25 := by omega
        subst hi5'
        clear hlt
        go_wp2_with fail
        go_ret
        exact ⟨_, L, rfl, HO.out, HL.out, hLi⟩
      · have hin' : i = n := by omega
        subst hin'
        clear hlt hl2
        go_wp2_with fail
        go_ret
        exact ⟨_, L, rfl, HO.out, HL.out, by omega⟩
end Go.Proofs.Ytpffgkflebbejaa

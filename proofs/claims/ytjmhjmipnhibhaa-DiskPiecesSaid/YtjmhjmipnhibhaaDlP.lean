/-
  DiskPieces: the walk. No statement of the seat is proved here.
-/
import Derived.Test.YtjmhjmipnhibhaaDkY
import Derived.Test.YtjmhjmipnhibhaaRow
namespace Go.Proofs.Ytjmhjmipnhibhaa
open Go.RowKit Go.Maps Go.Sort

/-- Where the loop stands: all bytes till now, how many are firm. -/
def PcR (D M : Nat) (w0 wr : World) (all : List UInt8) (fm i : Nat) : Prop :=
  all.length ≤ 30 * i ∧ fm ≤ all.length ∧ ∃ fs, Nx D M w0 ⟨false, false, 0, 1000, []⟩ wr ⟨false, false, 0, 1000, fs⟩ ∧ ((fs = [] ∧ all = [] ∧ fm = 0) ∨ ∃ A c, fs = [⟨[112], A, c, all, fm⟩])
set_option maxRecDepth 100000 in
theorem pc_old {D M : Nat} {w0 wr : World} {all : List UInt8} {fm i : Nat} (h : PcR D M w0 wr all fm i) :
    ∃ fs, Nx D M w0 ⟨false, false, 0, 1000, []⟩ wr ⟨false, false, 0, 1000, fs⟩ ∧ (old [112] fs).bs = all ∧ (old [112] fs).fm = fm ∧ used fs = all.length ∧ fs.length ≤ 1 ∧ (∀ A c l, put ⟨[112], A, c, all ++ l, fm⟩ fs = [⟨[112], A, c, all ++ l, fm⟩]) := by
  obtain ⟨_, _, fs, hN, hc⟩ := h
  refine ⟨fs, hN, ?_⟩
  rcases hc with ⟨rfl, rfl, rfl⟩ | ⟨A, c, rfl⟩
  · exact ⟨rfl, rfl, rfl, by simp, fun _ _ _ => rfl⟩
  · refine ⟨rfl, rfl, by simp [used], by simp, fun _ _ _ => rfl⟩
set_option maxRecDepth 100000 in
theorem bytes_append (l m : List UInt8) : (⟨l.toArray⟩ : ByteArray) ++ ⟨m.toArray⟩ = ⟨(l ++ m).toArray⟩ := by
  apply ByteArray.ext
  rw [ByteArray.data_append]
  simp
set_option maxRecDepth 100000 in
theorem extract_take (l : List UInt8) (K : Nat) : (⟨l.toArray⟩ : ByteArray).extract 0 K = ⟨(l.take K).toArray⟩ := by
  apply ByteArray.ext
  rw [ByteArray.data_extract]
  simp
set_option maxRecDepth 100000 in
theorem extract_drop (l : List UInt8) (K : Nat) : (⟨l.toArray⟩ : ByteArray).extract K l.length = ⟨(l.drop K).toArray⟩ := by
  apply ByteArray.ext
  rw [ByteArray.data_extract]
  simp only [List.extract_toArray, List.extract_eq_take_drop]
  rw [List.take_of_length_le (by simp)]
set_option maxRecDepth 100000 in
theorem pieces_walk (A A2 : Option Addr) (n c n2 c2 : Nat) (xs : List Sb) (ys : List Bool) (k : Int) (w : World) (hx : RowOf w 1 (BsAt w) A n xs) (hy : RowOf w 1 (fun a b => w.cell? a = some (.bool b)) A2 n2 ys) (hk0 : 0 ≤ k) (hk1 : k ≤ 65535) :
    Calls Try.prog 5 #[.slice A n c, .slice A2 n2 c2, .int .u16 k] w fun e w' => e = .returned (.bool true) ∧ Below w.heap.size w w' := by
  have HA := Lib.hid (fun W => awake_any W)
  have hnew := new_dsk 1000 w (by omega)
  obtain ⟨B, HBB⟩ : ∃ B, Hid (w.heap.size = B) := ⟨_, rfl⟩
  rw [HBB.out] at hnew ⊢
  obtain ⟨D, HDD⟩ : ∃ D, Hid (B + 1 = D) := ⟨_, rfl⟩
  rw [HDD.out] at hnew
  have HX := Lib.hid hx
  have HY := Lib.hid hy
  clear hx hy
  go_enter Try.func5, Try.ntmps5
  go_wp2_with fail
  refine hnew.mono ?_
  rintro e w0 ⟨rfl, hd, hb⟩
  have HB0 := Lib.hid hb
  have HN0 := Lib.hid (Nx.refl hd)
  have HFOOT := Lib.hid (show ∀ k, foot D B [] k → B ≤ k by
    intro k hk
    rcases hk with e | e | ⟨f, hf, _⟩
    · have := HDD.out; omega
    · omega
    · cases hf)
  clear hnew hd hb
  go_wp2_with fail
  go_loopw [9, 10, 11] (fun va vf vi wr => ∃ (i fm : Nat) (all : List UInt8), i ≤ 15 ∧ i ≤ n ∧ va = .string ⟨all.toArray⟩ ∧ vf = .int .i64 (fm : Int) ∧ vi = .int .i64 (i : Int) ∧ PcR D B w0 wr all fm i) (fun _ _ vi _ => 15 - (intOf vi).toNat)
  case atStart => exact ⟨0, 0, [], by omega, by omega, rfl, rfl, rfl, by simp, Nat.le_refl _, [], HN0.out, .inl ⟨rfl, rfl, rfl⟩⟩
  case round =>
    obtain ⟨i, fm, all, hi, hin, rfl, rfl, rfl, hP⟩ := hrel
    have HP := Lib.hid hP
    clear hP
    have HBr := Lib.hid (show Below B w wr from by
      obtain ⟨_, _, fs, hN, _⟩ := HP.out
      exact HB0.out.trans (hN.2.1.below (by have := HB0.out.size; rw [HBB.out] at this; exact this) HFOOT.out))
    by_cases hlt : i < n ∧ i < 15
    · obtain ⟨hlt, hlt2⟩ := hlt
      obtain ⟨b, o, rfl, hb, hc⟩ := HX.out.2 (by omega)
      have hix : i < xs.length := by rw [HX.out.1]; exact hlt
      obtain ⟨x, hxe⟩ : ∃ x, xs[i] = x := ⟨_, rfl⟩
      have hbs := hc i hix
      rw [hxe, Nat.mul_one] at hbs
      have HCW := Lib.hid (show ∀ W, Below B w W → W.cell? ⟨b, o + i, none⟩ = some (.slice x.A x.n x.c) by
        intro W hW
        rw [hW.cell (p := ⟨b, o + i, none⟩) (by rw [← HBB.out]; exact hb)]
        exact hbs.1)
      have HRW := Lib.hid (show ∀ W, Below B w W → Rd W W.heap.size x.A x.n x.l by
        intro W hW
        exact ((hbs.2.more (Nat.le_of_eq HBB.out)).below hW).more (by have := hW.size; rw [HBB.out] at this; exact this))
      have hcx := HCW.out _ HBr.out
      clear hc hbs hxe hix
      have hwi : IntKind.i64.wrap ((i : Int) + 1) = ((i + 1 : Nat) : Int) := by
        rw [show ((i : Int) + 1) = ((i + 1 : Nat) : Int) by omega]
        exact IntWalk.i64_in _ (by omega)
      have hd15 : decide ((i : Int) < 15) = true := by rw [decide_eq_true_eq]; omega
      by_cases h30 : 30 < x.n
      · have hd30 : decide ((30 : Int) < (x.n : Int)) = true := by rw [decide_eq_true_eq]; omega
        go_wp2_with fail
        go_roundw
        case rel =>
          refine ⟨i + 1, fm, all, by omega, by omega, rfl, rfl, by go_num, ?_⟩
          obtain ⟨h1, h2, h3⟩ := HP.out
          exact ⟨by omega, h2, h3⟩
        case measure => simp [intOf]; omega
      · have hd30 : decide ((30 : Int) < (x.n : Int)) = false := by rw [decide_eq_false_iff_not]; omega
        obtain ⟨fs, hN, ho1, ho2, ho3, ho4, ho5⟩ := pc_old HP.out
        have hal := HP.out.1
        have HAP := Lib.hid (append_to hN ⟨#[112]⟩ (sz1 _) x.A x.n x.c x.l (HRW.out _ HBr.out) rfl (by decide)
          (by
            unfold St.fits
            simp only [Bool.and_eq_true, Bool.or_eq_true, decide_eq_true_eq]
            exact ⟨by omega, .inr (by omega)⟩) rfl (fun A' c' => ⟨false, false, 0, 1000, [⟨[112], A', c', all ++ x.l, fm⟩]⟩) (fun A' c' => by
              show (⟨false, false, 0, 1000, put ⟨[112], A', c', (old [112] fs).bs ++ x.l, (old [112] fs).fm⟩ fs⟩ : St) = _
              rw [ho1, ho2, ho5]))
        clear hN ho1 ho2 ho3 ho4 ho5
        go_wp2_with fail
        refine HAP.out.mono ?_
        rintro e w1 ⟨rfl, A1, c1, hn⟩
        have HN1 := Lib.hid hn
        have HB1 := Lib.hid (HB0.out.trans (hn.2.1.below (by have := HB0.out.size; rw [HBB.out] at this; exact this) HFOOT.out))
        clear hn
        have hcx1 := HCW.out _ HB1.out
        have hst := str_rule x.c (HRW.out _ HB1.out)
        have hba := bytes_append all x.l
        obtain ⟨al, HAL⟩ : ∃ al, Hid (all ++ x.l = al) := ⟨_, rfl⟩
        rw [HAL.out] at hba
        have hsz1 : (⟨all.toArray⟩ : ByteArray).size = all.length := by show all.toArray.size = _; simp
        have hsz2 : (⟨x.l.toArray⟩ : ByteArray).size = x.l.length := by show x.l.toArray.size = _; simp
        have hov : ¬ (9223372036854775807 < all.length + x.l.length) := by have := HP.out.1; have := (HRW.out _ HBr.out).1; omega
        have hsz : (⟨al.toArray⟩ : ByteArray).size = al.length := by show al.toArray.size = _; simp
        have hN1' := HN1.out
        rw [HAL.out] at hN1'
        have HN2 := Lib.hid hN1'
        clear HN1 hN1' HAP
        have hlx := (HRW.out _ HBr.out).1
        have HLA := Lib.hid (show al.length ≤ 30 * (i + 1) ∧ fm ≤ al.length by
          have h1 := HP.out.1
          have h2 := HP.out.2.1
          rw [← HAL.out, List.length_append]
          omega)
        clear hlx
        by_cases hy2 : i < n2
        · obtain ⟨b2, o2, rfl, hb2, hc2⟩ := HY.out.2 (by omega)
          have hiy : i < ys.length := by rw [HY.out.1]; exact hy2
          have hcy := hc2 i hiy
          rw [Nat.mul_one] at hcy
          have hcy1 : w1.cell? ⟨b2, o2 + i, none⟩ = some (.bool ys[i]) := by
            rw [HB1.out.cell (p := ⟨b2, o2 + i, none⟩) (by rw [← HBB.out]; exact hb2)]
            exact hcy
          clear hc2 hcy
          cases hyb : ys[i] with
          | true =>
            rw [hyb] at hcy1
            go_wp2_with fail
            refine (sync_to HN2.out ⟨#[112]⟩ (sz1 _) rfl ⟨[112], A1, c1, al, fm⟩ (by kernel_rfl) rfl (fun A c => ⟨false, false, 0, 1000, [⟨[112], A, c, al, al.length⟩]⟩) (fun A c => by
              rw [List.take_length]
              rfl)).mono ?_
            rintro e w3 ⟨rfl, A3, c3, hn⟩
            have HN3 := Lib.hid hn
            clear hn
            go_wp2_with fail
            refine (file_yes HN3.out.1 ⟨#[112]⟩ (sz1 _) rfl ⟨[112], A3, c3, al, al.length⟩ (by kernel_rfl) al al.length rfl rfl).mono ?_
            rintro e w9 ⟨rfl, hf⟩
            have HNZ := Lib.hid (HN3.out.then_no hf)
            clear hf
            go_wp2_with fail
            go_roundw
            case rel => exact ⟨i + 1, al.length, al, by omega, by omega, rfl, rfl, by go_num, HLA.out.1, Nat.le_refl _, _, HNZ.out, .inr ⟨_, _, rfl⟩⟩
            case measure => simp [intOf]; omega
          | false =>
            rw [hyb] at hcy1
            go_wp2_with fail
            refine (file_yes HN2.out.1 ⟨#[112]⟩ (sz1 _) rfl ⟨[112], A1, c1, al, fm⟩ (by kernel_rfl) al fm rfl rfl).mono ?_
            rintro e w9 ⟨rfl, hf⟩
            have HNZ := Lib.hid (HN2.out.then_no hf)
            clear hf
            go_wp2_with fail
            go_roundw
            case rel => exact ⟨i + 1, fm, al, by omega, by omega, rfl, rfl, by go_num, HLA.out.1, HLA.out.2, _, HNZ.out, .inr ⟨_, _, rfl⟩⟩
            case measure => simp [intOf]; omega
        · go_wp2_with fail
          refine (file_yes HN2.out.1 ⟨#[112]⟩ (sz1 _) rfl ⟨[112], A1, c1, al, fm⟩ (by kernel_rfl) al fm rfl rfl).mono ?_
          rintro e w9 ⟨rfl, hf⟩
          have HNZ := Lib.hid (HN2.out.then_no hf)
          clear hf
          go_wp2_with fail
          go_roundw
          case rel => exact ⟨i + 1, fm, al, by omega, by omega, rfl, rfl, by go_num, HLA.out.1, HLA.out.2, _, HNZ.out, .inr ⟨_, _, rfl⟩⟩
          case measure => simp [intOf]; omega
    · by_cases hlt2 : i < n
      · have hi15 : i = 15 := by omega
        subst hi15
        clear hin hlt
        obtain ⟨hlen, hfm, fs, hN, hc⟩ := HP.out
        have HN := Lib.hid hN
        rcases hc with ⟨rfl, rfl, rfl⟩ | ⟨A1, c1, rfl⟩
        · clear hN hlen hfm
          go_wp2_with fail
          refine (list_any HN.out.1).mono ?_
          rintro e w1 ⟨v, rfl, hv, hf⟩
          obtain ⟨A3, c3, rfl⟩ : ∃ A c, v = .slice A 0 c := by
            rcases hv.2 with ⟨e, _⟩ | ⟨g, cap, cur, e, _⟩
            · exact ⟨_, _, e⟩
            · exact ⟨_, _, e⟩
          have HN1 := Lib.hid (HN.out.then_no hf)
          clear hv hf
          go_wp2_with fail
          refine (HA.out _).mono ?_
          rintro e w2 ⟨rfl, hb⟩
          have HB2 := Lib.hid hb
          clear hb
          go_wp2_with fail
          go_ret
          exact ⟨rfl, (HB0.out.trans (HN1.out.2.1.below (by have := HB0.out.size; rw [HBB.out] at this; exact this) HFOOT.out)).trans (HB2.out.mono (by have := HN1.out.2.1.size; have := HB0.out.size; rw [HBB.out] at this; omega))⟩
        · clear hN
          go_wp2_with fail
          refine (list_any HN.out.1).mono ?_
          rintro e w1 ⟨v, rfl, hv, hf⟩
          obtain ⟨A3, c3, rfl⟩ : ∃ A c, v = .slice A 1 c := by
            rcases hv.2 with ⟨_, e⟩ | ⟨g, cap, cur, e, _⟩
            · cases e
            · exact ⟨_, _, e⟩
          have HN1 := Lib.hid (HN.out.then_no hf)
          clear hv hf
          have hkm : k % ((all.length : Int) + 1) = (((k % ((all.length : Int) + 1)).toNat : Nat) : Int) := by
            have := Int.emod_nonneg k (b := (all.length : Int) + 1) (by omega)
            omega
          have hkl : (k % ((all.length : Int) + 1)).toNat ≤ all.length := by
            have := Int.emod_lt_of_pos k (b := (all.length : Int) + 1) (by omega)
            omega
          obtain ⟨K, HK⟩ : ∃ K, Hid ((k % ((all.length : Int) + 1)).toNat = K) := ⟨_, rfl⟩
          rw [HK.out] at hkm hkl
          go_wp2_with fail
          have HL := Lib.hid (List.length_take_of_le hkl)
          refine (cut_ok HN1.out.1 ⟨#[112]⟩ (sz1 _) K rfl ⟨[112], A1, c1, all, fm⟩ (by kernel_rfl) hkl rfl).mono ?_
          rintro e w2 ⟨rfl, A4, c4, hn⟩
          have HN2 := Lib.hid (show Nx D B w0 _ w2 (⟨false, false, 0, 1000, [⟨[112], A4, c4, all.take K, K⟩]⟩ : St) from HN1.out.trans hn)
          clear hn
          have hxt := extract_take all K
          have hxd := extract_drop all K
          have hza : (⟨all.toArray⟩ : ByteArray).size = all.length := by show all.toArray.size = _; simp
          go_wp2_with fail
          refine (file_yes HN2.out.1 ⟨#[112]⟩ (sz1 _) rfl ⟨[112], A4, c4, all.take K, K⟩ (by kernel_rfl) (all.take K) K rfl rfl).mono ?_
          rintro e w3 ⟨rfl, hf⟩
          have HN3 := Lib.hid (HN2.out.then_no hf)
          clear hf
          obtain ⟨c5, w4, hcv, hcc, hrd, hbb⟩ := of_string w3 ⟨(all.drop K).toArray⟩
          have HR5 := Lib.hid hrd
          have HN4 := Lib.hid (HN3.out.then_no (Fr.of_below hbb))
          have hzd : (⟨(all.drop K).toArray⟩ : ByteArray).size = (all.drop K).length := by show (all.drop K).toArray.size = _; simp
          clear hrd hbb
          go_wp2_with fail
          rw [← List.length_drop]
          have hR6 : Rd w4 w4.heap.size (some ⟨w3.heap.size, 0, none⟩) (all.drop K).length (all.drop K) := by
            have := HR5.out
            rw [hzd] at this
            exact this
          refine (append_to HN4.out ⟨#[112]⟩ (sz1 _) (some ⟨w3.heap.size, 0, none⟩) (all.drop K).length c5 (all.drop K) hR6 rfl (by decide)
            (by
              unfold St.fits
              simp only [Bool.and_eq_true, Bool.or_eq_true, decide_eq_true_eq]
              refine ⟨?_, .inl rfl⟩
              show used [⟨[112], A4, c4, all.take K, K⟩] + _ ≤ 1000
              simp only [used, List.map_cons, List.map_nil, List.sum_cons, List.sum_nil, List.length_take, List.length_drop]
              omega) rfl (fun A c => ⟨false, false, 0, 1000, [⟨[112], A, c, all, K⟩]⟩) (fun A c => by
              show (⟨false, false, 0, 1000, [⟨[112], A, c, all.take K ++ all.drop K, K⟩]⟩ : St) = _
              rw [List.take_append_drop])).mono ?_
          rintro e w5 ⟨rfl, A5, c5', hn⟩
          have HN5 := Lib.hid hn
          clear hn hR6
          go_wp2_with fail
          refine (file_yes HN5.out.1 ⟨#[112]⟩ (sz1 _) rfl ⟨[112], A5, c5', all, K⟩ (by kernel_rfl) all K rfl rfl).mono ?_
          rintro e w6 ⟨rfl, hf⟩
          have HN6 := Lib.hid (HN5.out.then_no hf)
          clear hf
          go_wp2_with fail
          refine (HA.out _).mono ?_
          rintro e w7 ⟨rfl, hb⟩
          have HB7 := Lib.hid hb
          clear hb
          go_wp2_with fail
          go_ret
          exact ⟨rfl, (HB0.out.trans (HN6.out.2.1.below (by have := HB0.out.size; rw [HBB.out] at this; exact this) HFOOT.out)).trans (HB7.out.mono (by have := HN6.out.2.1.size; have := HB0.out.size; rw [HBB.out] at this; omega))⟩
      · clear hlt
        obtain ⟨hlen, hfm, fs, hN, hc⟩ := HP.out
        have HN := Lib.hid hN
        rcases hc with ⟨rfl, rfl, rfl⟩ | ⟨A1, c1, rfl⟩
        · clear hN hlen hfm
          go_wp2_with fail
          refine (list_any HN.out.1).mono ?_
          rintro e w1 ⟨v, rfl, hv, hf⟩
          obtain ⟨A3, c3, rfl⟩ : ∃ A c, v = .slice A 0 c := by
            rcases hv.2 with ⟨e, _⟩ | ⟨g, cap, cur, e, _⟩
            · exact ⟨_, _, e⟩
            · exact ⟨_, _, e⟩
          have HN1 := Lib.hid (HN.out.then_no hf)
          clear hv hf
          go_wp2_with fail
          refine (HA.out _).mono ?_
          rintro e w2 ⟨rfl, hb⟩
          have HB2 := Lib.hid hb
          clear hb
          go_wp2_with fail
          go_ret
          exact ⟨rfl, (HB0.out.trans (HN1.out.2.1.below (by have := HB0.out.size; rw [HBB.out] at this; exact this) HFOOT.out)).trans (HB2.out.mono (by have := HN1.out.2.1.size; have := HB0.out.size; rw [HBB.out] at this; omega))⟩
        · clear hN
          go_wp2_with fail
          refine (list_any HN.out.1).mono ?_
          rintro e w1 ⟨v, rfl, hv, hf⟩
          obtain ⟨A3, c3, rfl⟩ : ∃ A c, v = .slice A 1 c := by
            rcases hv.2 with ⟨_, e⟩ | ⟨g, cap, cur, e, _⟩
            · cases e
            · exact ⟨_, _, e⟩
          have HN1 := Lib.hid (HN.out.then_no hf)
          clear hv hf
          have hkm : k % ((all.length : Int) + 1) = (((k % ((all.length : Int) + 1)).toNat : Nat) : Int) := by
            have := Int.emod_nonneg k (b := (all.length : Int) + 1) (by omega)
            omega
          have hkl : (k % ((all.length : Int) + 1)).toNat ≤ all.length := by
            have := Int.emod_lt_of_pos k (b := (all.length : Int) + 1) (by omega)
            omega
          obtain ⟨K, HK⟩ : ∃ K, Hid ((k % ((all.length : Int) + 1)).toNat = K) := ⟨_, rfl⟩
          rw [HK.out] at hkm hkl
          go_wp2_with fail
          have HL := Lib.hid (List.length_take_of_le hkl)
          refine (cut_ok HN1.out.1 ⟨#[112]⟩ (sz1 _) K rfl ⟨[112], A1, c1, all, fm⟩ (by kernel_rfl) hkl rfl).mono ?_
          rintro e w2 ⟨rfl, A4, c4, hn⟩
          have HN2 := Lib.hid (show Nx D B w0 _ w2 (⟨false, false, 0, 1000, [⟨[112], A4, c4, all.take K, K⟩]⟩ : St) from HN1.out.trans hn)
          clear hn
          have hxt := extract_take all K
          have hxd := extract_drop all K
          have hza : (⟨all.toArray⟩ : ByteArray).size = all.length := by show all.toArray.size = _; simp
          go_wp2_with fail
          refine (file_yes HN2.out.1 ⟨#[112]⟩ (sz1 _) rfl ⟨[112], A4, c4, all.take K, K⟩ (by kernel_rfl) (all.take K) K rfl rfl).mono ?_
          rintro e w3 ⟨rfl, hf⟩
          have HN3 := Lib.hid (HN2.out.then_no hf)
          clear hf
          obtain ⟨c5, w4, hcv, hcc, hrd, hbb⟩ := of_string w3 ⟨(all.drop K).toArray⟩
          have HR5 := Lib.hid hrd
          have HN4 := Lib.hid (HN3.out.then_no (Fr.of_below hbb))
          have hzd : (⟨(all.drop K).toArray⟩ : ByteArray).size = (all.drop K).length := by show (all.drop K).toArray.size = _; simp
          clear hrd hbb
          go_wp2_with fail
          rw [← List.length_drop]
          have hR6 : Rd w4 w4.heap.size (some ⟨w3.heap.size, 0, none⟩) (all.drop K).length (all.drop K) := by
            have := HR5.out
            rw [hzd] at this
            exact this
          refine (append_to HN4.out ⟨#[112]⟩ (sz1 _) (some ⟨w3.heap.size, 0, none⟩) (all.drop K).length c5 (all.drop K) hR6 rfl (by decide)
            (by
              unfold St.fits
              simp only [Bool.and_eq_true, Bool.or_eq_true, decide_eq_true_eq]
              refine ⟨?_, .inl rfl⟩
              show used [⟨[112], A4, c4, all.take K, K⟩] + _ ≤ 1000
              simp only [used, List.map_cons, List.map_nil, List.sum_cons, List.sum_nil, List.length_take, List.length_drop]
              omega) rfl (fun A c => ⟨false, false, 0, 1000, [⟨[112], A, c, all, K⟩]⟩) (fun A c => by
              show (⟨false, false, 0, 1000, [⟨[112], A, c, all.take K ++ all.drop K, K⟩]⟩ : St) = _
              rw [List.take_append_drop])).mono ?_
          rintro e w5 ⟨rfl, A5, c5', hn⟩
          have HN5 := Lib.hid hn
          clear hn hR6
          go_wp2_with fail
          refine (file_yes HN5.out.1 ⟨#[112]⟩ (sz1 _) rfl ⟨[112], A5, c5', all, K⟩ (by kernel_rfl) all K rfl rfl).mono ?_
          rintro e w6 ⟨rfl, hf⟩
          have HN6 := Lib.hid (HN5.out.then_no hf)
          clear hf
          go_wp2_with fail
          refine (HA.out _).mono ?_
          rintro e w7 ⟨rfl, hb⟩
          have HB7 := Lib.hid hb
          clear hb
          go_wp2_with fail
          go_ret
          exact ⟨rfl, (HB0.out.trans (HN6.out.2.1.below (by have := HB0.out.size; rw [HBB.out] at this; exact this) HFOOT.out)).trans (HB7.out.mono (by have := HN6.out.2.1.size; have := HB0.out.size; rw [HBB.out] at this; omega))⟩
end Go.Proofs.Ytjmhjmipnhibhaa

/-
  Several texts in one: Cat, CrcM, Crc, Seal, Get, GetU, Frs, Uns, Blob, BackM, SlM, RefGM, GtT. No statement of the seat is proved here.
-/
import Derived.Test.YtefopgdmadgheaaDoorApp
import Derived.Lib.AppendZerosOnto
import Derived.Below
import Derived.Test.YtefopgdmadgheaaDoorUint
namespace Go.Proofs.YtefopgdmadgheaaDoor
open Go.RowKit

/-- A part of a concatenation: a slice's address, length, capacity, and its bytes. -/
structure Part where
  A : Option Addr
  n : Nat
  c : Nat
  l : List UInt8
def Part.val (p : Part) : Value := .slice p.A p.n p.c
def cat (ps : List Part) : List UInt8 := (ps.map (·.l)).flatten
set_option maxRecDepth 100000 in
theorem cat_take (ps : List Part) (k : Nat) (h : k < ps.length) : cat (ps.take (k + 1)) = cat (ps.take k) ++ ps[k].l := by
  unfold cat
  rw [List.take_succ_eq_append_getElem h, List.map_append, List.flatten_append]
  congr 1
  simp
set_option maxRecDepth 100000 in
theorem cat_take_le (ps : List Part) (k : Nat) : (cat (ps.take k)).length ≤ (cat ps).length := by
  have : cat ps = cat (ps.take k) ++ cat (ps.drop k) := by
    unfold cat
    rw [← List.flatten_append, ← List.map_append, List.take_append_drop]
  rw [this, List.length_append]; omega

end Go.Proofs.YtefopgdmadgheaaDoor
namespace Go.Proofs.YtefopgdmadgheaaDoor

/-- What four steps of the division make of each number below 16. -/
def tab : List Nat := [0, 498536548, 997073096, 651767980, 1994146192, 1802195444, 1303535960, 1342533948, 3988292384, 4027552580, 3604390888, 3412177804, 2607071920, 2262029012, 2685067896, 3183342108]
def tabAt (k : Nat) : Nat := tab.getD k 0
theorem tabAt_lt (k : Nat) : tabAt k < 2 ^ 32 := by
  by_cases h : k < 16
  · have : ∀ j : Fin 16, tabAt j.val < 2 ^ 32 := by decide
    exact this ⟨k, h⟩
  · unfold tabAt tab
    rw [List.getD_eq_getElem?_getD, List.getElem?_eq_none (by simp; omega)]
    decide
/-- Four steps. -/
def nib (s : Nat) : Nat := (s / 16) ^^^ tabAt (s % 16)
theorem nib_lt {s : Nat} (h : s < 2 ^ 32) : nib s < 2 ^ 32 := Nat.xor_lt_two_pow (by omega) (tabAt_lt _)
def crcByte (s : Nat) (x : UInt8) : Nat := nib (nib (s ^^^ x.toNat))
theorem xor_byte_lt {s : Nat} (h : s < 2 ^ 32) (x : UInt8) : s ^^^ x.toNat < 2 ^ 32 := Nat.xor_lt_two_pow h (by have := x.toNat_lt; omega)
theorem crcByte_lt {s : Nat} (h : s < 2 ^ 32) (x : UInt8) : crcByte s x < 2 ^ 32 := nib_lt (nib_lt (xor_byte_lt h x))
def crcRaw (s : Nat) (l : List UInt8) : Nat := l.foldl crcByte s
theorem crcRaw_lt : ∀ (l : List UInt8) {s : Nat}, s < 2 ^ 32 → crcRaw s l < 2 ^ 32
  | [], _, h => h
  | x :: l, _, h => crcRaw_lt l (crcByte_lt h x)
theorem crcRaw_snoc (s : Nat) (l : List UInt8) (x : UInt8) : crcRaw s (l ++ [x]) = crcByte (crcRaw s l) x := by simp [crcRaw]
theorem crcRaw_append (s : Nat) (l m : List UInt8) : crcRaw s (l ++ m) = crcRaw (crcRaw s l) m := by simp [crcRaw]
theorem ones_xor {s : Nat} (h : s < 2 ^ 32) : 4294967295 ^^^ s = 4294967295 - s := by
  have h1 : (BitVec.allOnes 32 ^^^ BitVec.ofNat 32 s).toNat = (~~~ BitVec.ofNat 32 s).toNat := by rw [BitVec.not_def]
  rw [BitVec.toNat_xor, BitVec.toNat_not, BitVec.toNat_allOnes, BitVec.toNat_ofNat, Nat.mod_eq_of_lt h] at h1
  exact h1
/-- The sum of bytes. -/
def crc (l : List UInt8) : Nat := 4294967295 - crcRaw 4294967295 l
theorem crc_lt (l : List UInt8) : crc l < 2 ^ 32 := by unfold crc; omega
end Go.Proofs.YtefopgdmadgheaaDoor
namespace Go.Proofs.YtefopgdmadgheaaDoor
open Go.RowKit

theorem xor_fact {a b : Nat} (ha : a < 2 ^ 32) (hb : b < 2 ^ 32) : bits .xor .u32 (a : Int) (b : Int) = ((a ^^^ b : Nat) : Int) := u32_xor_nat a b (by omega) (by omega)
theorem nib_fact {a : Nat} (ha : a < 2 ^ 32) : bits .xor .u32 ((a : Int) / 16) (tabAt (a % 16) : Int) = (nib a : Int) := by
  have := xor_fact (a := a / 16) (b := tabAt (a % 16)) (by omega) (tabAt_lt _)
  rw [Int.natCast_ediv] at this
  exact this

end Go.Proofs.YtefopgdmadgheaaDoor
namespace Go.Proofs.YtefopgdmadgheaaDoor
open Go.RowKit



/-- A number's four bytes, the highest one first. -/
def be4 (s : Nat) : List UInt8 := [UInt8.ofNat (s / 16777216), UInt8.ofNat (s / 65536), UInt8.ofNat (s / 256), UInt8.ofNat s]
theorem be4_cells {s : Nat} (h : s < 2 ^ 32) : [Value.int .u8 ((s : Int) / 16777216), .int .u8 ((s : Int) / 65536 % 256), .int .u8 ((s : Int) / 256 % 256), .int .u8 ((s : Int) % 256)] = bvs (be4 s) := by
  simp only [bvs, be4, List.map_cons, List.map_nil, UInt8.toNat_ofNat']
  have e1 : (s : Int) / 16777216 = ((s / 16777216 % 2 ^ 8 : Nat) : Int) := by omega
  have e2 : (s : Int) / 65536 % 256 = ((s / 65536 % 2 ^ 8 : Nat) : Int) := by omega
  have e3 : (s : Int) / 256 % 256 = ((s / 256 % 2 ^ 8 : Nat) : Int) := by omega
  have e4 : (s : Int) % 256 = ((s % 2 ^ 8 : Nat) : Int) := by omega
  rw [e1, e2, e3, e4]

end Go.Proofs.YtefopgdmadgheaaDoor
namespace Go.Proofs.YtefopgdmadgheaaDoor
open Go.RowKit

/-- Where the first byte below 128 stands; -1, if there is none. -/
def idx (l : List UInt8) : Int := match l.findIdx? (fun x => decide (x.toNat < 128)) with
  | some i => (i : Int)
  | none => -1

set_option maxHeartbeats 800000 in
set_option maxRecDepth 100000 in
theorem index_any (l : List UInt8) (A : Option Addr) (n c B : Nat) (w : World) (hr : Rd w B A n l) (hn : n ≤ 500000) :
    Calls Tryd.prog 39 #[.slice A n c, .func (.func 40) #[] #[]] w fun e w' => e = .returned (.int .i64 (idx l)) ∧ w = w' := by
  have HR := Lib.hid hr
  clear hr
  go_enter Tryd.func39, Tryd.ntmps39
  go_wp2
  go_loop [8] (fun i => ∃ k : Nat, k ≤ n ∧ i = .int .i64 (k : Int) ∧ Hid (∀ j (h : j < l.length), j < k → 128 ≤ l[j].toNat)) (fun i => n - (intOf i).toNat)
  case atStart => exact ⟨0, Nat.zero_le _, rfl, fun j _ h => absurd h (by omega)⟩
  case round =>
    obtain ⟨k, hk, rfl, HA⟩ := hrel
    by_cases hlt : k < n
    · obtain ⟨b, o, rfl, _, hcell⟩ := HR.out.2 (by omega)
      have hkl : k < l.length := by rw [HR.out.len]; exact hlt
      have hx := hcell k hkl
      clear hcell
      by_cases h128 : l[k].toNat < 128
      · have E : Hid (idx l = (k : Int)) := by
          show _ = _
          unfold idx
          have : l.findIdx? (fun x => decide (x.toNat < 128)) = some k := by
            rw [List.findIdx?_eq_some_iff_getElem]
            exact ⟨hkl, by simpa using h128, fun j hj => by simpa using HA.out j (by omega) hj⟩
          rw [this]
        generalize l[k].toNat = x at *
        go_wp2
        go_ret
        exact ⟨by rw [E.out]; rfl, rfl⟩
      · have HA2 : Hid (∀ j (h : j < l.length), j < k + 1 → 128 ≤ l[j].toNat) := by
          intro j h hj
          by_cases hjk : j = k
          · subst hjk; omega
          · exact HA.out j h (by omega)
        generalize l[k].toNat = x at *
        go_wp2
        go_round
        case rel => exact ⟨k + 1, by omega, by go_num, HA2⟩
        case measure => simp [intOf]; omega
    · have E : Hid (idx l = -1) := by
        show _ = _
        unfold idx
        have : l.findIdx? (fun x => decide (x.toNat < 128)) = none := by
          rw [List.findIdx?_eq_none_iff]
          intro x hx
          obtain ⟨j, hj, rfl⟩ := List.getElem_of_mem hx
          have := HA.out j hj (by have := HR.out.len; omega)
          simpa using this
        rw [this]
      go_wp2
      go_ret
      exact ⟨by rw [E.out]; rfl, rfl⟩

/-- What shortest tells of n bytes, of which the last one is z. -/
def shB (n z : Nat) : Bool := if n = 10 then z == 1 else decide (0 < z) || n == 1

set_option maxHeartbeats 800000 in
set_option maxRecDepth 100000 in
theorem shortest_any (l : List UInt8) (A : Option Addr) (n c B : Nat) (z : Nat) (w : World) (hr : Rd w B A n l) (hn : n ≤ 500000) (h0 : 0 < n) (hz : ∀ h : n - 1 < l.length, l[n - 1].toNat = z) :
    Calls Tryd.prog 41 #[.slice A n c] w fun e w' => e = .returned (.bool (shB n z)) ∧ w = w' := by
  obtain ⟨b, o, rfl, _, hcell⟩ := hr.2 h0
  have hx := hcell (n - 1) (by have := hr.len; omega)
  rw [hz] at hx
  clear hcell hr hz
  by_cases h10 : n = 10
  · subst h10
    have hx' : w.cell? ⟨b, o + 9, none⟩ = some (.int .u8 (z : Int)) := hx
    clear hx
    have E : Hid (shB 10 z = (z == 1)) := rfl
    go_enter Tryd.func41, Tryd.ntmps41
    go_wp2
    go_ret
    refine ⟨?_, rfl⟩
    rw [E.out]
    show Ending.returned (.bool ((z : Int) == 1)) = Ending.returned (.bool (z == 1))
    congr 2
    rw [Bool.eq_iff_iff]
    simp
    omega
  · obtain ⟨m, rfl⟩ : ∃ m, n = m + 1 := ⟨n - 1, by omega⟩
    have h10' : ((m : Int) + 1 == 10) = false := by rw [beq_eq_false_iff_ne]; omega
    have E : Hid (shB (m + 1) z = (decide (0 < z) || m + 1 == 1)) := by show _ = _; unfold shB; rw [if_neg h10]
    have hx' : w.cell? ⟨b, o + m, none⟩ = some (.int .u8 (z : Int)) := hx
    clear hx h10
    by_cases hz0 : 0 < z
    · go_enter Tryd.func41, Tryd.ntmps41
      go_wp2
      go_ret
      refine ⟨?_, rfl⟩
      rw [E.out]
      simp [hz0]
    · have hz1 : z = 0 := by omega
      subst hz1
      clear hz0
      go_enter Tryd.func41, Tryd.ntmps41
      go_wp2
      go_ret
      refine ⟨?_, rfl⟩
      rw [E.out]
      show Ending.returned (.bool ((m : Int) + 1 == 1)) = Ending.returned (.bool (m + 1 == 1))
      congr 2
      rw [Bool.eq_iff_iff]
      simp
      omega

/-- What bytes say, from the last one to the first, seven bits each, as far as 64 bits hold it. -/
def valMod (l : List UInt8) : Nat := l.foldr (fun x n => (n * 128 + x.toNat % 128) % 2 ^ 64) 0
theorem valMod_lt (l : List UInt8) : valMod l < 2 ^ 64 := by
  cases l with
  | nil => simp [valMod]
  | cons x l => exact Nat.mod_lt _ (by decide)
theorem valMod_drop (l : List UInt8) (k : Nat) (h : k < l.length) : valMod (l.drop k) = (valMod (l.drop (k + 1)) * 128 + l[k].toNat % 128) % 2 ^ 64 := by
  rw [List.drop_eq_getElem_cons h]
  rfl

theorem wrap_val (s x : Nat) : IntKind.u64.wrap (IntKind.u64.wrap ((s : Int) * 128) + (x : Int) % 128) = (((s * 128 + x % 128) % 2 ^ 64 : Nat) : Int) := by
  rw [IntKind.wrap_u64, IntKind.wrap_u64]; omega

set_option maxHeartbeats 800000 in
set_option maxRecDepth 100000 in
theorem value_any (l : List UInt8) (A : Option Addr) (n c B : Nat) (w : World) (hr : Rd w B A n l) (hn : n ≤ 500000) :
    Calls Tryd.prog 42 #[.slice A n c] w fun e w' => e = .returned (.int .u64 (valMod l : Int)) ∧ w = w' := by
  have HR := Lib.hid hr
  clear hr
  go_enter Tryd.func42, Tryd.ntmps42
  go_wp2
  go_loop [3, 4] (fun s i => ∃ k : Nat, k ≤ n ∧ i = .int .i64 ((k : Int) - 1) ∧ s = .int .u64 (valMod (l.drop k) : Int)) (fun _ i => (intOf i + 1).toNat)
  case atStart => exact ⟨n, Nat.le_refl _, rfl, by rw [List.drop_eq_nil_of_le (by rw [HR.out.len]; omega)]; rfl⟩
  case round =>
    obtain ⟨k, hk, rfl, rfl⟩ := hrel
    by_cases hlt : 0 < k
    · obtain ⟨m, rfl⟩ : ∃ m, k = m + 1 := ⟨k - 1, by omega⟩
      obtain ⟨b, o, rfl, _, hcell⟩ := HR.out.2 (by omega)
      have hkl : m < l.length := by rw [HR.out.len]; omega
      have hx := hcell m hkl
      clear hcell
      have HV := Lib.hid (valMod_drop l m hkl)
      have hx8 : l[m].toNat < 256 := l[m].toNat_lt
      generalize l[m].toNat = x at *
      generalize valMod (l.drop (m + 1)) = s at *
      have HW := Lib.hid (wrap_val s x)
      go_wp2
      go_round
      case rel => exact ⟨m, by omega, by go_num, by rw [HW.out, HV.out]⟩
      case measure => simp [intOf]
    · have hk0 : k = 0 := by omega
      subst hk0
      go_wp2
      go_ret
      exact ⟨rfl, rfl⟩
end Go.Proofs.YtefopgdmadgheaaDoor
namespace Go.Proofs.YtefopgdmadgheaaDoor
open Go.RowKit

def low (x : UInt8) : Bool := decide (x.toNat < 128)
/-- What GetUint answers: the number, the place behind it, the error's number. -/
def getU (l : List UInt8) (p : Int) : Nat × Nat × Nat :=
  if p < 0 ∨ (l.length : Int) < p then (0, 0, 2) else
  match ((l.drop p.toNat).take 10).findIdx? low with
  | none => if ((l.drop p.toNat).take 10).length < 10 then (0, 0, 11) else (0, 0, 10)
  | some i => if shB (i + 1) (((l.drop p.toNat).take 10).getD i 0).toNat then (valMod (((l.drop p.toNat).take 10).take (i + 1)), p.toNat + i + 1, 0) else (0, 0, 10)
def tup (r : Nat × Nat × Nat) : Value := .tuple #[.int .u64 (r.1 : Int), .int .i64 (r.2.1 : Int), .int .i64 (r.2.2 : Int)]

set_option maxHeartbeats 800000 in
set_option maxRecDepth 100000 in
theorem getuint_off (l : List UInt8) (A : Option Addr) (n c B : Nat) (p : Int) (w : World) (hr : Rd w B A n l) (hn : n ≤ 500000) (hp : p < 0 ∨ (n : Int) < p) :
    Calls Tryd.prog 18 #[.slice A n c, .int .i64 p] w fun e w' => e = .returned (tup (getU l p)) ∧ w = w' := by
  have E : Hid (getU l p = (0, 0, 2)) := by show _ = _; unfold getU; rw [hr.len, if_pos hp]
  clear hr
  rcases hp with hp | hp
  · go_enter Tryd.func18, Tryd.ntmps18
    go_wp2
    go_ret3
    exact ⟨by rw [E.out]; rfl, rfl⟩
  · go_enter Tryd.func18, Tryd.ntmps18
    go_wp2
    go_ret3
    exact ⟨by rw [E.out]; rfl, rfl⟩


set_option maxHeartbeats 800000 in
set_option maxRecDepth 100000 in
theorem getuint_in (l : List UInt8) (A : Option Addr) (n c B : Nat) (p : Nat) (w : World) (hr : Rd w B A n l) (hn : n ≤ 500000) (hc : n ≤ c) (hp : p ≤ n) :
    Calls Tryd.prog 18 #[.slice A n c, .int .i64 (p : Int)] w fun e w' => e = .returned (tup (getU l p)) ∧ w = w' := by
  obtain ⟨z, hmin⟩ : ∃ z : Int, (if (p : Int) + 10 < (n : Int) then (p : Int) + 10 else (n : Int)) = z := ⟨_, rfl⟩
  obtain ⟨h, hz, hh1, hh2, hh3⟩ : ∃ h : Nat, z = (h : Int) ∧ p ≤ h ∧ h ≤ n ∧ (h = n ∨ h = p + 10) := by
    by_cases h10 : (p : Int) + 10 < (n : Int)
    · rw [if_pos h10] at hmin
      exact ⟨p + 10, by omega, by omega, by omega, .inr rfl⟩
    · rw [if_neg h10] at hmin
      exact ⟨n, by omega, by omega, by omega, .inl rfl⟩
  obtain ⟨A', c', hsl, hrd, hc'⟩ := cut_rule z hz hr hc hh1 hh2
  have hlen := hr.len
  have hm10 : h - p ≤ 10 := by
    rcases hh3 with e | e
    · by_cases h10 : (p : Int) + 10 < (n : Int)
      · rw [if_pos h10] at hmin; omega
      · omega
    · omega
  have E : Hid ((l.drop p).take (h - p) = (l.drop p).take 10) := by
    show _ = _
    rcases hh3 with e | e
    · rw [List.take_of_length_le (by rw [List.length_drop]; omega), List.take_of_length_le (by rw [List.length_drop]; omega)]
    · rw [e]; congr 1; omega
  rw [E.out] at hrd
  have HR := Lib.hid hrd
  have HG : Hid (getU l p = match ((l.drop p).take 10).findIdx? low with
      | none => if ((l.drop p).take 10).length < 10 then (0, 0, 11) else (0, 0, 10)
      | some i => if shB (i + 1) (((l.drop p).take 10).getD i 0).toNat then (valMod (((l.drop p).take 10).take (i + 1)), p + i + 1, 0) else (0, 0, 10)) := by
    show _ = _
    unfold getU
    rw [if_neg (by omega)]
    rfl
  clear hz hh1 hh2 hh3 hrd E hlen hr
  generalize h - p = m at *
  generalize (l.drop p).take 10 = r at *
  have C1 := index_any r A' m c' B w HR.out (by omega)
  have hrl := HR.out.len
  rcases hf : r.findIdx? low with _ | i
  · have hidx : idx r = -1 := by unfold idx; rw [show r.findIdx? (fun x => decide (x.toNat < 128)) = none from hf]
    rw [hidx] at C1
    have HC1 := Lib.hid C1
    rw [hf] at HG
    clear C1 hidx hf
    by_cases hm : m < 10
    · have HG2 : Hid (getU l p = (0, 0, 11)) := by show _ = _; rw [HG.out]; simp [hrl, hm]
      clear HG hrl
      go_enter Tryd.func18, Tryd.ntmps18
      go_wp2_with fail
      refine HC1.out.mono ?_
      rintro e w1 ⟨rfl, rfl⟩
      go_wp2_with fail
      go_ret3
      exact ⟨by rw [HG2.out]; rfl, rfl⟩
    · have HG2 : Hid (getU l p = (0, 0, 10)) := by show _ = _; rw [HG.out]; simp [hrl, hm]
      have hmd : decide (m < 10) = false := by simpa using hm
      clear HG hrl
      go_enter Tryd.func18, Tryd.ntmps18
      go_wp2_with fail
      refine HC1.out.mono ?_
      rintro e w1 ⟨rfl, rfl⟩
      go_wp2_with fail
      go_ret3
      exact ⟨by rw [HG2.out]; rfl, rfl⟩
  · have hidx : idx r = (i : Int) := by unfold idx; rw [show r.findIdx? (fun x => decide (x.toNat < 128)) = some i from hf]
    obtain ⟨him, _⟩ := List.findIdx?_eq_some_iff_getElem.1 hf
    rw [hidx] at C1
    have HC1 := Lib.hid C1
    rw [hf] at HG
    obtain ⟨A2, c2, hsl2, hrd2, hc2⟩ := pre_rule ((i : Int) + 1) (hi := i + 1) (by omega) HR.out hc' (by omega)
    have C2 := shortest_any (r.take (i + 1)) A2 (i + 1) c2 B ((r.getD i 0).toNat) w hrd2 (by omega) (by omega) (fun hq => by simp [List.getElem?_eq_getElem him])
    have C3 := Lib.hid (value_any (r.take (i + 1)) A2 (i + 1) c2 B w hrd2 (by omega))
    rw [hrl] at him
    clear C1 hidx hf hrl hrd2
    cases hb : shB (i + 1) (r.getD i 0).toNat
    · have HG2 : Hid (getU l p = (0, 0, 10)) := by show _ = _; rw [HG.out]; simp only [hb]; simp
      rw [hb] at C2
      have HC2 := Lib.hid C2
      clear HG C2 hb C3
      go_enter Tryd.func18, Tryd.ntmps18
      go_wp2_with fail
      refine HC1.out.mono ?_
      rintro e w1 ⟨rfl, rfl⟩
      go_wp2_with fail
      refine HC2.out.mono ?_
      rintro e w1 ⟨rfl, rfl⟩
      go_wp2_with fail
      go_ret3
      exact ⟨by rw [HG2.out]; rfl, rfl⟩
    · have HG2 : Hid (getU l p = (valMod (r.take (i + 1)), p + i + 1, 0)) := by show _ = _; rw [HG.out]; simp only [hb]; simp
      rw [hb] at C2
      have HC2 := Lib.hid C2
      clear HG C2 hb
      generalize valMod (r.take (i + 1)) = val at *
      go_enter Tryd.func18, Tryd.ntmps18
      go_wp2_with fail
      refine HC1.out.mono ?_
      rintro e w1 ⟨rfl, rfl⟩
      go_wp2_with fail
      refine HC2.out.mono ?_
      rintro e w1 ⟨rfl, rfl⟩
      go_wp2_with fail
      refine C3.out.mono ?_
      rintro e w1 ⟨rfl, rfl⟩
      go_wp2_with fail
      go_ret3
      exact ⟨by rw [HG2.out]; rfl, rfl⟩

theorem getuint_any (l : List UInt8) (A : Option Addr) (n c B : Nat) (p : Int) (w : World) (hr : Rd w B A n l) (hn : n ≤ 500000) (hc : n ≤ c) :
    Calls Tryd.prog 18 #[.slice A n c, .int .i64 p] w fun e w' => e = .returned (tup (getU l p)) ∧ w = w' := by
  by_cases hp : p < 0 ∨ (n : Int) < p
  · exact getuint_off l A n c B p w hr hn hp
  · obtain ⟨q, rfl⟩ : ∃ q : Nat, p = (q : Int) := ⟨p.toNat, by omega⟩
    exact getuint_in l A n c B q w hr hn hc (by omega)
theorem getU_lt (l : List UInt8) (p : Int) : (getU l p).1 < 2 ^ 64 := by
  unfold getU
  split
  · simp
  · split
    · split <;> simp
    · split
      · exact valMod_lt _
      · simp
theorem getU_err (l : List UInt8) (p : Int) : (getU l p).2.2 < 20 := by
  unfold getU
  split
  · simp
  · split
    · split <;> simp
    · split <;> simp
end Go.Proofs.YtefopgdmadgheaaDoor
namespace Go.Proofs.YtefopgdmadgheaaDoor
open Go.RowKit

end Go.Proofs.YtefopgdmadgheaaDoor
namespace Go.Proofs.YtefopgdmadgheaaDoor
open Go.RowKit

/-- What bytes say, the highest one first, as far as 32 bits hold it. -/
def numB (l : List UInt8) : Nat := l.foldl (fun n x => (n * 256 + x.toNat) % 2 ^ 32) 0
theorem numB_lt (l : List UInt8) : numB l < 2 ^ 32 := by
  rcases List.eq_nil_or_concat l with rfl | ⟨m, x, rfl⟩
  · decide
  · simp only [numB, List.concat_eq_append, List.foldl_append, List.foldl_cons, List.foldl_nil]
    exact Nat.mod_lt _ (by decide)
theorem numB_snoc (l : List UInt8) (x : UInt8) : numB (l ++ [x]) = (numB l * 256 + x.toNat) % 2 ^ 32 := by simp [numB]
theorem or_fact {s x : Nat} (hx : x < 256) : bits .or .u32 ((s : Int) * 256 % 4294967296) (x : Int) = (((s * 256 + x) % 2 ^ 32 : Nat) : Int) := by
  rw [show (s : Int) * 256 % 4294967296 = ((s * 256 % 2 ^ 32 : Nat) : Int) by omega, u32_or_nat _ _ (by omega) (by omega), nat_join 8 _ _ (by omega) (by omega)]
  omega

end Go.Proofs.YtefopgdmadgheaaDoor
namespace Go.Proofs.YtefopgdmadgheaaDoor
open Go.RowKit

theorem getU_next (l : List UInt8) (p : Int) : (getU l p).2.1 ≤ l.length := by
  unfold getU
  split
  · simp
  · rename_i hp
    split
    · split <;> simp
    · rename_i i hf
      split
      · obtain ⟨hi, _⟩ := List.findIdx?_eq_some_iff_getElem.1 hf
        rw [List.length_take, List.length_drop] at hi
        simp only
        omega
      · simp
/-- What GetBlob answers: the bytes, the place behind them, the error's number. -/
def getB (l : List UInt8) (p most : Int) : List UInt8 × Nat × Nat :=
  if (getU l p).2.2 ≠ 0 then ([], 0, (getU l p).2.2)
  else if most < 0 ∨ most < ((getU l p).1 : Int) then ([], 0, 3)
  else if l.length - (getU l p).2.1 < (getU l p).1 then ([], 0, 11)
  else ((l.drop (getU l p).2.1).take (getU l p).1, (getU l p).2.1 + (getU l p).1, 0)

end Go.Proofs.YtefopgdmadgheaaDoor
namespace Go.Proofs.YtefopgdmadgheaaDoor

theorem low_high {x : Nat} (h : x < 128) : low (UInt8.ofNat (128 + x)) = false := by
  unfold low
  rw [toNat_ofNat_lt (by omega)]
  simp
theorem low_low {x : Nat} (h : x < 128) : low (UInt8.ofNat x) = true := by
  unfold low
  rw [toNat_ofNat_lt (by omega)]
  simpa using h
theorem varint_find (n : Nat) : ∀ b : List UInt8, (varint n ++ b).findIdx? low = some ((varint n).length - 1) := by
  induction n using Nat.strongRecOn with
  | _ n ih =>
    intro b
    by_cases h : n < 128
    · rw [varint_small h]
      simp [List.findIdx?_cons, low_low h]
    · rw [varint_big h, List.cons_append, List.findIdx?_cons, low_high (by omega), ih (n / 128) (by omega) b]
      have := varint_ne (n / 128)
      cases hv : varint (n / 128) with
      | nil => exact absurd hv this
      | cons x l => simp
/-- The last byte of a varint, and how many there are. -/
theorem varint_end (n : Nat) : ((varint n).getD ((varint n).length - 1) 0).toNat = n / 128 ^ ((varint n).length - 1) ∧ (1 < (varint n).length → 128 ^ ((varint n).length - 1) ≤ n) := by
  induction n using Nat.strongRecOn with
  | _ n ih =>
    by_cases h : n < 128
    · rw [varint_small h]
      simp [Nat.mod_eq_of_lt (show n < 256 by omega)]
    · obtain ⟨h1, h2⟩ := ih (n / 128) (by omega)
      rw [varint_big h]
      have hne := varint_ne (n / 128)
      obtain ⟨m, hm⟩ : ∃ m, (varint (n / 128)).length = m + 1 := by
        cases hv : varint (n / 128) with
        | nil => exact absurd hv hne
        | cons x l => exact ⟨l.length, by simp⟩
      rw [hm] at h1 h2
      simp only [List.length_cons, hm, Nat.add_sub_cancel, List.getD_cons_succ] at h1 h2 ⊢
      refine ⟨?_, fun _ => ?_⟩
      · rw [h1, Nat.div_div_eq_div_mul, Nat.pow_succ, Nat.mul_comm]
      · rw [Nat.pow_succ]
        cases m with
        | zero => simp; omega
        | succ m =>
          have := h2 (by omega)
          omega
theorem varint_sh {n : Nat} (h : n < 2 ^ 64) : shB ((varint n).length - 1 + 1) ((varint n).getD ((varint n).length - 1) 0).toNat = true := by
  have hne := varint_ne n
  have hlen : 0 < (varint n).length := by
    cases hv : varint n with
    | nil => exact absurd hv hne
    | cons x l => simp
  obtain ⟨h1, h2⟩ := varint_end n
  rw [h1, show (varint n).length - 1 + 1 = (varint n).length by omega]
  unfold shB
  by_cases h10 : (varint n).length = 10
  · rw [if_pos h10, h10]
    have := h2 (by omega)
    rw [h10] at this
    have e : (128 : Nat) ^ (10 - 1) = 2 ^ 63 := by decide
    rw [e] at this ⊢
    rw [beq_iff_eq]
    omega
  · rw [if_neg h10]
    by_cases hone : (varint n).length = 1
    · simp [hone]
    · have h3 := h2 (by omega)
      have hp : 0 < 128 ^ ((varint n).length - 1) := Nat.pow_pos (by decide)
      have := Nat.div_pos h3 hp
      simp [this]
theorem varint_val : ∀ (n : Nat), n < 2 ^ 64 → valMod (varint n) = n := by
  intro n
  induction n using Nat.strongRecOn with
  | _ n ih =>
    intro h
    by_cases hs : n < 128
    · rw [varint_small hs]
      simp only [valMod, List.foldr_cons, List.foldr_nil]
      rw [toNat_ofNat_lt (by omega)]
      omega
    · rw [varint_big hs]
      show (valMod (varint (n / 128)) * 128 + (UInt8.ofNat (128 + n % 128)).toNat % 128) % 2 ^ 64 = n
      rw [ih (n / 128) (by omega) (by omega), toNat_ofNat_lt (by omega)]
      omega
/-- What is put is got. -/
theorem getU_put (l b : List UInt8) (p n : Nat) (hn : n < 2 ^ 64) (hp : p ≤ l.length) (hd : l.drop p = varint n ++ b) : getU l (p : Int) = (n, p + (varint n).length, 0) := by
  have hten := varint_len_ten hn
  have hne := varint_ne n
  have hlen : 0 < (varint n).length := by
    cases hv : varint n with
    | nil => exact absurd hv hne
    | cons x l => simp
  have ht : (l.drop p).take 10 = varint n ++ b.take (10 - (varint n).length) := by
    rw [hd, List.take_append, List.take_of_length_le hten]
  unfold getU
  rw [if_neg (by omega), Int.toNat_natCast, ht, varint_find]
  simp only
  have hg : (varint n ++ b.take (10 - (varint n).length)).getD ((varint n).length - 1) 0 = (varint n).getD ((varint n).length - 1) 0 := by
    simp only [List.getD_eq_getElem?_getD]
    rw [List.getElem?_append_left (by omega)]
  rw [hg, varint_sh hn, if_pos rfl, show (varint n).length - 1 + 1 = (varint n).length by omega, List.take_left, varint_val n hn]
  simp only [Prod.mk.injEq, and_true, true_and]
  omega
/-- What is cut off lacks bytes. -/
theorem getU_cut (l : List UInt8) (p n k : Nat) (hn : n < 2 ^ 64) (hp : p ≤ l.length) (hk : k < (varint n).length) (hd : l.drop p = (varint n).take k) : getU l (p : Int) = (0, 0, 11) := by
  have hten := varint_len_ten hn
  have hfull := varint_find n []
  rw [List.append_nil] at hfull
  have hnone : ((varint n).take k).findIdx? low = none := by
    rw [List.findIdx?_eq_none_iff]
    intro x hx
    obtain ⟨j, hj, rfl⟩ := List.getElem_of_mem hx
    rw [List.length_take] at hj
    obtain ⟨_, _, hlt⟩ := List.findIdx?_eq_some_iff_getElem.1 hfull
    rw [List.getElem_take]
    simpa using hlt j (by omega)
  unfold getU
  have hlk : ((varint n).take k).length = k := by rw [List.length_take]; omega
  rw [if_neg (by omega), Int.toNat_natCast, hd, List.take_of_length_le (by omega), hnone]
  simp only
  rw [if_pos (by omega)]
end Go.Proofs.YtefopgdmadgheaaDoor
namespace Go.Proofs.YtefopgdmadgheaaDoor
open Go.RowKit

theorem numB_be4 {s : Nat} (h : s < 2 ^ 32) : numB (be4 s) = s := by
  simp only [numB, be4, List.foldl_cons, List.foldl_nil, UInt8.toNat_ofNat']
  omega
theorem be4_numB (m : List UInt8) (h : m.length = 4) : be4 (numB m) = m := by
  match m, h with
  | [a, b, c, d], _ =>
    have ha := a.toNat_lt
    have hb := b.toNat_lt
    have hc := c.toNat_lt
    have hd := d.toNat_lt
    have e : numB [a, b, c, d] = a.toNat * 16777216 + b.toNat * 65536 + c.toNat * 256 + d.toNat := by
      simp only [numB, List.foldl_cons, List.foldl_nil]
      omega
    rw [e]
    simp only [be4, List.cons.injEq, and_true]
    refine ⟨?_, ?_, ?_, ?_⟩ <;> (apply UInt8.toNat_inj.1; rw [UInt8.toNat_ofNat']; omega)
theorem sealed_iff (l : List UInt8) (h : 4 ≤ l.length) : l.take (l.length - 4) ++ be4 (crc (l.take (l.length - 4))) = l ↔ crc (l.take (l.length - 4)) = numB (l.drop (l.length - 4)) := by
  constructor
  · intro e
    have h2 : be4 (crc (l.take (l.length - 4))) = l.drop (l.length - 4) := by
      have h3 := List.take_append_drop (l.length - 4) l
      exact List.append_cancel_left (e.trans h3.symm)
    rw [← h2, numB_be4 (crc_lt _)]
  · intro e
    rw [e, be4_numB _ (by rw [List.length_drop]; omega), List.take_append_drop]
/-- What a call leaves that answers bytes, a number and an error. -/
def Blb (B : Nat) (w : World) (r : List UInt8 × Nat × Nat) (e : Ending) (w' : World) : Prop :=
  ∃ A n c, e = .returned (.tuple #[.slice A n c, .int .i64 (r.2.1 : Int), .int .i64 (r.2.2 : Int)]) ∧ Rd w' w'.heap.size A n r.1 ∧ Below B w w'
theorem getB_zero (l : List UInt8) (p most : Int) (h : (getB l p most).2.2 ≠ 0) : (getB l p most).1 = [] ∧ (getB l p most).2.1 = 0 := by
  unfold getB at *
  split at h
  · rename_i h1; rw [if_pos h1]; exact ⟨rfl, rfl⟩
  · rename_i h1
    rw [if_neg h1]
    split at h
    · rename_i h2; rw [if_pos h2]; exact ⟨rfl, rfl⟩
    · rename_i h2
      rw [if_neg h2]
      split at h
      · rename_i h3; rw [if_pos h3]; exact ⟨rfl, rfl⟩
      · exact absurd rfl h
/-- What GetBlob answers: its bytes lie in new memory. -/
def BlbN (B : Nat) (w : World) (r : List UInt8 × Nat × Nat) (e : Ending) (w' : World) : Prop :=
  ∃ A n c, e = .returned (.tuple #[.slice A n c, .int .i64 (r.2.1 : Int), .int .i64 (r.2.2 : Int)]) ∧ Rd w' w'.heap.size A n r.1 ∧ Below B w w' ∧ (∀ a, A = some a → B ≤ a.block)
/-- What Unseal answers. -/
def unS (l : List UInt8) : List UInt8 × Nat := if l.length < 4 then ([], 11) else if crc (l.take (l.length - 4)) = numB (l.drop (l.length - 4)) then (l.take (l.length - 4), 0) else ([], 12)
def Uns (B : Nat) (w : World) (r : List UInt8 × Nat) (e : Ending) (w' : World) : Prop :=
  ∃ A n c, e = .returned (.tuple #[.slice A n c, .int .i64 (r.2 : Int)]) ∧ Rd w' w'.heap.size A n r.1 ∧ Below B w w'
theorem unS_seal (l : List UInt8) : unS (l ++ be4 (crc l)) = (l, 0) := by
  have h4 : (be4 (crc l)).length = 4 := rfl
  have hl : (l ++ be4 (crc l)).length = l.length + 4 := by rw [List.length_append, h4]
  have ht : (l ++ be4 (crc l)).take (l.length + 4 - 4) = l := by
    rw [show l.length + 4 - 4 = l.length by omega, List.take_left]
  have hi := (sealed_iff (l ++ be4 (crc l)) (by omega)).1 (by rw [hl, ht])
  unfold unS
  rw [hl] at hi ⊢
  rw [if_neg (by omega), if_pos hi, ht]
theorem varint_pos (n : Nat) : 0 < (varint n).length := by
  cases hv : varint n with
  | nil => exact absurd hv (varint_ne n)
  | cons x l => simp
theorem getB_put (l b m : List UInt8) (p n : Nat) (hm : m.length = n) (hn : n < 2 ^ 64) (hp : p ≤ l.length) (hd : l.drop p = varint n ++ m ++ b) : getB l (p : Int) (n : Int) = (m, p + (varint n ++ m).length, 0) := by
  have hu := getU_put l (m ++ b) p n hn hp (by rw [hd, List.append_assoc])
  have hlen : l.length = p + (varint n).length + n + b.length := by
    have := congrArg List.length hd
    simp only [List.length_drop, List.length_append, hm] at this
    omega
  have hdr : l.drop (p + (varint n).length) = m ++ b := by
    rw [← List.drop_drop, hd, List.append_assoc, List.drop_left]
  unfold getB
  rw [hu]
  simp only
  rw [if_neg (by simp), if_neg (by omega), if_neg (by omega), hdr, ← hm, List.take_left]
  simp only [List.length_append, Prod.mk.injEq, and_true, true_and, hm]
  omega
end Go.Proofs.YtefopgdmadgheaaDoor
namespace Go.Proofs.YtefopgdmadgheaaDoor

/-- What bytes say, however great it is. -/
def valN (l : List UInt8) : Nat := l.foldr (fun x n => n * 128 + x.toNat % 128) 0
theorem valN_cons (x : UInt8) (l : List UInt8) : valN (x :: l) = valN l * 128 + x.toNat % 128 := rfl
theorem valMod_cons (x : UInt8) (l : List UInt8) : valMod (x :: l) = (valMod l * 128 + x.toNat % 128) % 2 ^ 64 := rfl
theorem valMod_eq (l : List UInt8) : valMod l = valN l % 2 ^ 64 := by
  induction l with
  | nil => rfl
  | cons x l ih => rw [valMod_cons, valN_cons, ih]; omega
theorem valN_lt (l : List UInt8) : valN l < 128 ^ l.length := by
  induction l with
  | nil => simp [valN]
  | cons x l ih => rw [valN_cons, List.length_cons, Nat.pow_succ]; omega
theorem valN_snoc (t : List UInt8) (z : UInt8) : valN (t ++ [z]) = valN t + 128 ^ t.length * (z.toNat % 128) := by
  induction t with
  | nil => simp [valN]
  | cons x t ih =>
    rw [List.cons_append, valN_cons, ih, valN_cons, List.length_cons, Nat.pow_succ]
    rw [Nat.add_mul, Nat.mul_right_comm]
    omega
theorem varint_back (z : UInt8) (hz : z.toNat < 128) : ∀ t : List UInt8, (∀ x ∈ t, 128 ≤ x.toNat) → (0 < z.toNat ∨ t = []) → varint (valN (t ++ [z])) = t ++ [z] ∧ (t ≠ [] → 0 < valN (t ++ [z]))
  | [], _, _ => by
    refine ⟨?_, fun h => absurd rfl h⟩
    rw [List.nil_append, valN_cons, show valN [] = 0 from rfl, Nat.zero_mul, Nat.zero_add, Nat.mod_eq_of_lt hz, varint_small hz]
    simp
  | x :: t, hx, h0 => by
    have hz0 : 0 < z.toNat := by
      rcases h0 with h | h
      · exact h
      · cases h
    obtain ⟨h1, h2⟩ := varint_back z hz t (fun y hy => hx y (by simp [hy])) (Or.inl hz0)
    have hx1 := hx x (by simp)
    have hx2 := x.toNat_lt
    have hp : 0 < valN (t ++ [z]) := by
      cases t with
      | nil => rw [List.nil_append, valN_cons, show valN [] = 0 from rfl]; omega
      | cons y t => exact h2 (by simp)
    have e : valN (x :: t ++ [z]) = valN (t ++ [z]) * 128 + x.toNat % 128 := rfl
    refine ⟨?_, fun _ => by rw [e]; omega⟩
    rw [e, varint_big (by omega), show (valN (t ++ [z]) * 128 + x.toNat % 128) / 128 = valN (t ++ [z]) by omega, h1, show 128 + (valN (t ++ [z]) * 128 + x.toNat % 128) % 128 = x.toNat by omega]
    simp
/-- Bytes that are a number's: all but the last one from 128 on, the last one below; at most ten. -/
theorem own_iff (s : List UInt8) (t : List UInt8) (z : UInt8) (e : s = t ++ [z]) (ht : ∀ x ∈ t, 128 ≤ x.toNat) (hz : z.toNat < 128) (hl : s.length ≤ 10) :
    varint (valMod s) = s ↔ shB s.length z.toNat = true := by
  have hsl : s.length = t.length + 1 := by rw [e]; simp
  constructor
  · intro h
    have := varint_sh (valMod_lt s)
    rw [h] at this
    rw [show s.length - 1 + 1 = s.length by omega] at this
    have hlast : s.getD (s.length - 1) 0 = z := by
      rw [hsl, Nat.add_sub_cancel, e, List.getD_eq_getElem?_getD, List.getElem?_append_right (Nat.le_refl _), Nat.sub_self]
      rfl
    rw [hlast] at this
    exact this
  · intro h
    have hcond : 0 < z.toNat ∨ t = [] := by
      unfold shB at h
      split at h
      · left
        rw [beq_iff_eq] at h
        omega
      · rw [Bool.or_eq_true, decide_eq_true_eq, beq_iff_eq] at h
        rcases h with h | h
        · exact Or.inl h
        · exact Or.inr (List.eq_nil_of_length_eq_zero (by omega))
    have hb := (varint_back z hz t ht hcond).1
    rw [← e] at hb
    have hlt : valN s < 2 ^ 64 := by
      by_cases h10 : s.length = 10
      · have h9 : t.length = 9 := by omega
        have hz1 : z.toNat = 1 := by
          unfold shB at h
          rw [if_pos h10, beq_iff_eq] at h
          exact h
        have := valN_lt t
        rw [h9] at this
        rw [e, valN_snoc, h9, hz1]
        have e9 : (128 : Nat) ^ 9 = 9223372036854775808 := by decide
        rw [e9] at this ⊢
        omega
      · exact Nat.lt_of_lt_of_le (valN_lt s) (Nat.le_trans (Nat.pow_le_pow_right (by omega) (show s.length ≤ 9 by omega)) (by decide))
    rw [valMod_eq, Nat.mod_eq_of_lt hlt]
    exact hb
/-- The first i bytes and the one that is below 128. -/
theorem cut_at (r : List UInt8) (i : Nat) (h : r.findIdx? low = some i) : ∃ z : UInt8, i < r.length ∧ r.take (i + 1) = r.take i ++ [z] ∧ r.getD i 0 = z ∧ z.toNat < 128 ∧ ∀ x ∈ r.take i, 128 ≤ x.toNat := by
  obtain ⟨hi, h1, h2⟩ := List.findIdx?_eq_some_iff_getElem.1 h
  refine ⟨r[i], hi, List.take_succ_eq_append_getElem hi, by rw [List.getD_eq_getElem?_getD, List.getElem?_eq_getElem hi]; rfl, by simpa [low] using h1, fun x hx => ?_⟩
  obtain ⟨j, hj, rfl⟩ := List.getElem_of_mem hx
  have hj2 : j < i := by rw [List.length_take] at hj; omega
  have := h2 j hj2
  rw [List.getElem_take]
  simpa [low] using this
theorem getU_own (l : List UInt8) (p : Nat) (hp : p ≤ l.length) (i : Nat) (h : ((l.drop p).take 10).findIdx? low = some i) :
    (varint (valMod (((l.drop p).take 10).take (i + 1))) = ((l.drop p).take 10).take (i + 1) → getU l p = (valMod (((l.drop p).take 10).take (i + 1)), p + i + 1, 0)) ∧
    (varint (valMod (((l.drop p).take 10).take (i + 1))) ≠ ((l.drop p).take 10).take (i + 1) → getU l p = (0, 0, 10)) := by
  obtain ⟨z, hi, e, hz, hz1, ht⟩ := cut_at _ i h
  have hl : (((l.drop p).take 10).take (i + 1)).length = i + 1 := by rw [List.length_take]; omega
  have h10 : ((l.drop p).take 10).length ≤ 10 := by rw [List.length_take]; omega
  have hiff := own_iff _ _ z e ht hz1 (by rw [hl]; omega)
  rw [hl] at hiff
  have hG : getU l p = if shB (i + 1) z.toNat then (valMod (((l.drop p).take 10).take (i + 1)), p + i + 1, 0) else (0, 0, 10) := by
    unfold getU
    rw [if_neg (by omega), Int.toNat_natCast, h]
    simp only [hz]
  constructor
  · intro hv
    rw [hG, if_pos (hiff.1 hv)]
  · intro hv
    rw [hG, if_neg (fun hb => hv (hiff.2 hb))]
end Go.Proofs.YtefopgdmadgheaaDoor
namespace Go.Proofs.YtefopgdmadgheaaDoor

/-- What is got of a number says where it stands. -/
theorem getU_tells (l : List UInt8) (p n q : Nat) (h : getU l p = (n, q, 0)) : p ≤ q ∧ q ≤ l.length ∧ n < 2 ^ 64 ∧ l.drop p = varint n ++ l.drop q := by
  have hn : n < 2 ^ 64 := by have := getU_lt l p; rw [h] at this; exact this
  have hq : q ≤ l.length := by have := getU_next l p; rw [h] at this; exact this
  have hp : p ≤ l.length := by
    by_cases hp : p ≤ l.length
    · exact hp
    · unfold getU at h
      rw [if_pos (by omega)] at h
      simp at h
  cases hf : ((l.drop p).take 10).findIdx? low with
  | none =>
    unfold getU at h
    rw [if_neg (by omega), Int.toNat_natCast, hf] at h
    simp only at h
    split at h <;> simp at h
  | some i =>
    obtain ⟨h1, h2⟩ := getU_own l p hp i hf
    by_cases hv : varint (valMod (((l.drop p).take 10).take (i + 1))) = ((l.drop p).take 10).take (i + 1)
    · have h3 := h1 hv
      rw [h] at h3
      injection h3 with h4 h5
      injection h5 with h5 _
      obtain ⟨hi, _⟩ := List.findIdx?_eq_some_iff_getElem.1 hf
      have hi10 : i < 10 := by rw [List.length_take] at hi; omega
      have ht : ((l.drop p).take 10).take (i + 1) = (l.drop p).take (i + 1) := by rw [List.take_take, Nat.min_eq_left (by omega)]
      refine ⟨by omega, hq, hn, ?_⟩
      rw [h4, hv, ht, h5, show p + i + 1 = p + (i + 1) by omega, ← List.drop_drop, List.take_append_drop]
    · have h3 := h2 hv
      rw [h] at h3
      simp at h3
end Go.Proofs.YtefopgdmadgheaaDoor

/-
  The contracts of slices.IndexFunc with the closure of GetUint, shortest, value and GetUint. No statement of the seat is proved here.
-/
import Derived.Test.YtggejecmhfafoaaGreatDoorSeal
namespace Go.Proofs.YtggejecmhfafoaaGreatDoor
open Go.RowKit

/-- Where the first byte below 128 stands; -1, if there is none. -/
def idx (l : List UInt8) : Int := match l.findIdx? (fun x => decide (x.toNat < 128)) with
  | some i => (i : Int)
  | none => -1

set_option maxHeartbeats 800000 in
set_option maxRecDepth 100000 in
theorem index_any (l : List UInt8) (A : Option Addr) (n c B : Nat) (w : World) (hr : Rd w B A n l) (hn : n ≤ 500000) :
    Calls Tryz.prog 92 #[.slice A n c, .func (.func 93) #[] #[]] w fun e w' => e = .returned (.int .i64 (idx l)) ∧ w = w' := by
  have HR := Lib.hid hr
  clear hr
  go_enter Tryz.func92, Tryz.ntmps92
  go_wp2
  go_loop [8] (fun i => ∃ k : Nat, k ≤ n ∧ i = .int .i64 (k : Int) ∧ Hid (∀ j (h : j < l.length), j < k → 128 ≤ l[j].toNat)) (fun i => n - (intOf i).toNat)
  case atStart => exact ⟨0, Nat.zero_le _, rfl, fun j _ h => absurd h (by omega)⟩
  case round =>
    obtain ⟨k, hk, rfl, HA⟩ := hrel
    by_cases hlt : k < n
    · obtain ⟨b, o, rfl, _, hcell⟩ := HR.out.2 (by omega)
      have hkl : k < l.length := by rw [HR.out.len]; exact hlt
      have hx := hcell k hkl
      clear hcell
      by_cases h128 : l[k].toNat < 128
      · have E : Hid (idx l = (k : Int)) := by
          show _ = _
          unfold idx
          have : l.findIdx? (fun x => decide (x.toNat < 128)) = some k := by
            rw [List.findIdx?_eq_some_iff_getElem]
            exact ⟨hkl, by simpa using h128, fun j hj => by simpa using HA.out j (by omega) hj⟩
          rw [this]
        generalize l[k].toNat = x at *
        go_wp2
        go_ret
        exact ⟨by rw [E.out]; rfl, rfl⟩
      · have HA2 : Hid (∀ j (h : j < l.length), j < k + 1 → 128 ≤ l[j].toNat) := by
          intro j h hj
          by_cases hjk : j = k
          · subst hjk; omega
          · exact HA.out j h (by omega)
        generalize l[k].toNat = x at *
        go_wp2
        go_round
        case rel => exact ⟨k + 1, by omega, by go_num, HA2⟩
        case measure => simp [intOf]; omega
    · have E : Hid (idx l = -1) := by
        show _ = _
        unfold idx
        have : l.findIdx? (fun x => decide (x.toNat < 128)) = none := by
          rw [List.findIdx?_eq_none_iff]
          intro x hx
          obtain ⟨j, hj, rfl⟩ := List.getElem_of_mem hx
          have := HA.out j hj (by have := HR.out.len; omega)
          simpa using this
        rw [this]
      go_wp2
      go_ret
      exact ⟨by rw [E.out]; rfl, rfl⟩

/-- What shortest tells of n bytes, of which the last one is z. -/
def shB (n z : Nat) : Bool := if n = 10 then z == 1 else decide (0 < z) || n == 1

set_option maxHeartbeats 800000 in
set_option maxRecDepth 100000 in
theorem shortest_any (l : List UInt8) (A : Option Addr) (n c B : Nat) (z : Nat) (w : World) (hr : Rd w B A n l) (hn : n ≤ 500000) (h0 : 0 < n) (hz : ∀ h : n - 1 < l.length, l[n - 1].toNat = z) :
    Calls Tryz.prog 94 #[.slice A n c] w fun e w' => e = .returned (.bool (shB n z)) ∧ w = w' := by
  obtain ⟨b, o, rfl, _, hcell⟩ := hr.2 h0
  have hx := hcell (n - 1) (by have := hr.len; omega)
  rw [hz] at hx
  clear hcell hr hz
  by_cases h10 : n = 10
  · subst h10
    have hx' : w.cell? ⟨b, o + 9, none⟩ = some (.int .u8 (z : Int)) := hx
    clear hx
    have E : Hid (shB 10 z = (z == 1)) := rfl
    go_enter Tryz.func94, Tryz.ntmps94
    go_wp2
    go_ret
    refine ⟨?_, rfl⟩
    rw [E.out]
    show Ending.returned (.bool ((z : Int) == 1)) = Ending.returned (.bool (z == 1))
    congr 2
    rw [Bool.eq_iff_iff]
    simp
    omega
  · obtain ⟨m, rfl⟩ : ∃ m, n = m + 1 := ⟨n - 1, by omega⟩
    have h10' : ((m : Int) + 1 == 10) = false := by rw [beq_eq_false_iff_ne]; omega
    have E : Hid (shB (m + 1) z = (decide (0 < z) || m + 1 == 1)) := by show _ = _; unfold shB; rw [if_neg h10]
    have hx' : w.cell? ⟨b, o + m, none⟩ = some (.int .u8 (z : Int)) := hx
    clear hx h10
    by_cases hz0 : 0 < z
    · go_enter Tryz.func94, Tryz.ntmps94
      go_wp2
      go_ret
      refine ⟨?_, rfl⟩
      rw [E.out]
      simp [hz0]
    · have hz1 : z = 0 := by omega
      subst hz1
      clear hz0
      go_enter Tryz.func94, Tryz.ntmps94
      go_wp2
      go_ret
      refine ⟨?_, rfl⟩
      rw [E.out]
      show Ending.returned (.bool ((m : Int) + 1 == 1)) = Ending.returned (.bool (m + 1 == 1))
      congr 2
      rw [Bool.eq_iff_iff]
      simp
      omega

/-- What bytes say, from the last one to the first, seven bits each, as far as 64 bits hold it. -/
def valMod (l : List UInt8) : Nat := l.foldr (fun x n => (n * 128 + x.toNat % 128) % 2 ^ 64) 0
theorem valMod_lt (l : List UInt8) : valMod l < 2 ^ 64 := by
  cases l with
  | nil => simp [valMod]
  | cons x l => exact Nat.mod_lt _ (by decide)
theorem valMod_drop (l : List UInt8) (k : Nat) (h : k < l.length) : valMod (l.drop k) = (valMod (l.drop (k + 1)) * 128 + l[k].toNat % 128) % 2 ^ 64 := by
  rw [List.drop_eq_getElem_cons h]
  rfl

theorem wrap_val (s x : Nat) : IntKind.u64.wrap (IntKind.u64.wrap ((s : Int) * 128) + (x : Int) % 128) = (((s * 128 + x % 128) % 2 ^ 64 : Nat) : Int) := by
  rw [IntKind.wrap_u64, IntKind.wrap_u64]; omega

set_option maxHeartbeats 800000 in
set_option maxRecDepth 100000 in
theorem value_any (l : List UInt8) (A : Option Addr) (n c B : Nat) (w : World) (hr : Rd w B A n l) (hn : n ≤ 500000) :
    Calls Tryz.prog 95 #[.slice A n c] w fun e w' => e = .returned (.int .u64 (valMod l : Int)) ∧ w = w' := by
  have HR := Lib.hid hr
  clear hr
  go_enter Tryz.func95, Tryz.ntmps95
  go_wp2
  go_loop [3, 4] (fun s i => ∃ k : Nat, k ≤ n ∧ i = .int .i64 ((k : Int) - 1) ∧ s = .int .u64 (valMod (l.drop k) : Int)) (fun _ i => (intOf i + 1).toNat)
  case atStart => exact ⟨n, Nat.le_refl _, rfl, by rw [List.drop_eq_nil_of_le (by rw [HR.out.len]; omega)]; rfl⟩
  case round =>
    obtain ⟨k, hk, rfl, rfl⟩ := hrel
    by_cases hlt : 0 < k
    · obtain ⟨m, rfl⟩ : ∃ m, k = m + 1 := ⟨k - 1, by omega⟩
      obtain ⟨b, o, rfl, _, hcell⟩ := HR.out.2 (by omega)
      have hkl : m < l.length := by rw [HR.out.len]; omega
      have hx := hcell m hkl
      clear hcell
      have HV := Lib.hid (valMod_drop l m hkl)
      have hx8 : l[m].toNat < 256 := l[m].toNat_lt
      generalize l[m].toNat = x at *
      generalize valMod (l.drop (m + 1)) = s at *
      have HW := Lib.hid (wrap_val s x)
      go_wp2
      go_round
      case rel => exact ⟨m, by omega, by go_num, by rw [HW.out, HV.out]⟩
      case measure => simp [intOf]
    · have hk0 : k = 0 := by omega
      subst hk0
      go_wp2
      go_ret
      exact ⟨rfl, rfl⟩
end Go.Proofs.YtggejecmhfafoaaGreatDoor

/- Walks over FormatInt of the model. -/
import Derived.Test.YtcpchdnhhjhpaacDoorEfWalks
import Derived.Test.YtcpchdnhhjhpaacDoorFiPlain
namespace Go.Proofs.YtcpchdnhhjhpaacDoor
set_option linter.unusedVariables false
set_option linter.unusedSimpArgs false
open Go.RowKit

theorem specFI_0 (w : World) : Calls Tryd.prog 37 #[.int .i64 0] w fun e w' => e = .returned (.string ⟨(Lib.itoa 0).toArray⟩) ∧ Below w.heap.size w w' := by
  have h0 : Lib.itoa 0 = [48] := by unfold Lib.itoa; rw [if_neg (by omega), Lib.decDigits_one (by decide)]; rfl
  rw [h0]
  go_enter Tryd.func37, Tryd.ntmps37
  go_wp2
  go_ret
  exact ⟨rfl, Below.refl _ _⟩

set_option maxHeartbeats 1000000 in
set_option maxRecDepth 100000 in
theorem specFI_pos (n : Nat) (w : World) (h0 : 0 < n) (hn : (n : Int) ≤ 9223372036854775807) (L : List UInt8) (HL : Hid (L = dig n)) (hll : L.length ≤ 30) :
    Calls Tryd.prog 37 #[.int .i64 n] w fun e w' => e = .returned (.string ⟨L.toArray⟩) ∧ Below w.heap.size w w' := by
  have hz : ((n : Int) == 0) = false := by simp; omega
  have hneg : decide ((n : Int) < 0) = false := by simp
  go_enter Tryd.func37, Tryd.ntmps37
  go_wp2
  go_loopw [0, 3, 5] (fun a s _ wr => ∃ (m : Nat) (acc : List UInt8), (m : Int) ≤ 9223372036854775807 ∧ Hid (L = dig m ++ acc) ∧ a = .int .i64 m ∧ s = .string ⟨acc.toArray⟩ ∧ Below w.heap.size w wr) (fun a _ _ _ => (intOf a).toNat)
  case atStart => exact ⟨n, [], hn, by unfold Hid; rw [HL.out]; simp, rfl, rfl, Below.refl _ _⟩
  case round =>
    obtain ⟨m, acc, hm, HA, rfl, rfl, hbel⟩ := hrel
    have hacc : acc.length ≤ 30 := by have := HA.out; rw [this] at hll; simp at hll; omega
    by_cases h : 0 < m
    · have hne : ((m : Int) == 0) = false := by simp; omega
      have hne' : ((m : Int) != 0) = true := by rw [bne_iff_ne]; omega
      have hcv := one_string wr (48 + (m : Int) % 10) (by omega) (by omega)
      have HS := Lib.hid (dig_acc L acc m h HA.out)
      have hsz := hbel.size
      go_wp2
      go_roundw
      case rel => exact ⟨m / 10, _, by omega, HS, by go_num, cons_string _ _, hbel.alloc hsz _⟩
      case measure => simp [intOf]; omega
    · obtain rfl : m = 0 := by omega
      have HE := Lib.hid (show L = acc by rw [HA.out]; simp [dig_zero])
      go_wp2
      go_ret
      exact ⟨by rw [HE.out]; rfl, hbel⟩

set_option maxHeartbeats 1000000 in
set_option maxRecDepth 100000 in
theorem specFI_neg (n : Nat) (w : World) (h0 : 0 < n) (hn : (n : Int) ≤ 9223372036854775808) (L : List UInt8) (HL : Hid (L = dig n)) (hll : L.length ≤ 30) :
    Calls Tryd.prog 37 #[.int .i64 (-(n : Int))] w fun e w' => e = .returned (.string ⟨(45 :: L).toArray⟩) ∧ Below w.heap.size w w' := by
  have hz : (-(n : Int) == 0) = false := by simp; omega
  have hneg : decide (-(n : Int) < 0) = true := by simp; omega
  have hneg' : -(n : Int) < 0 := by omega
  go_enter Tryd.func37, Tryd.ntmps37
  go_wp2
  go_loopw [0, 3, 5] (fun a s _ wr => ∃ (m : Nat) (acc : List UInt8), (m : Int) ≤ 9223372036854775808 ∧ Hid (L = dig m ++ acc) ∧ a = .int .i64 (-(m : Int)) ∧ s = .string ⟨acc.toArray⟩ ∧ Below w.heap.size w wr) (fun a _ _ _ => (-intOf a).toNat)
  case atStart => exact ⟨n, [], hn, by unfold Hid; rw [HL.out]; simp, rfl, rfl, Below.refl _ _⟩
  case round =>
    obtain ⟨m, acc, hm, HA, rfl, rfl, hbel⟩ := hrel
    have hacc : acc.length ≤ 30 := by have := HA.out; rw [this] at hll; simp at hll; omega
    by_cases h : 0 < m
    · have hne : (-(m : Int) == 0) = false := by simp; omega
      have hne' : (-(m : Int) != 0) = true := by rw [bne_iff_ne]; omega
      have e1 := tmod_neg10 m
      have e2 := tdiv_neg10 m
      have HS := Lib.hid (dig_acc L acc m h HA.out)
      have hsz := hbel.size
      by_cases hd : m % 10 = 0
      · have e3 : (m : Int) % 10 = 0 := by omega
        have HS' := Lib.hid (show L = dig (m / 10) ++ (48 :: acc) by rw [HS.out, hd]; rfl)
        clear hd
        have hcv := one_string wr 48 (by omega) (by omega)
        go_wp2
        go_roundw
        case rel => exact ⟨m / 10, _, by omega, HS', by go_num, cons_string _ _, hbel.alloc hsz _⟩
        case measure => simp [intOf]; omega
      · have e3 : 0 < (m : Int) % 10 := by omega
        have hcv := one_string wr (48 + (m : Int) % 10) (by omega) (by omega)
        go_wp2
        go_roundw
        case rel => exact ⟨m / 10, _, by omega, HS, by go_num, cons_string _ _, hbel.alloc hsz _⟩
        case measure => simp [intOf]; omega
    · obtain rfl : m = 0 := by omega
      have HE := Lib.hid (show L = acc by rw [HA.out]; simp [dig_zero])
      go_wp2
      go_ret
      exact ⟨by rw [HE.out]; exact congrArg Ending.returned (cons_string _ _), hbel⟩

theorem specFI (n : Int) (w : World) (h0 : -9223372036854775808 ≤ n) (h1 : n ≤ 9223372036854775807) :
    Calls Tryd.prog 37 #[.int .i64 n] w fun e w' => e = .returned (.string ⟨(Lib.itoa n).toArray⟩) ∧ Below w.heap.size w w' := by
  have hlen := Lib.itoa_length_le n h0 h1
  rcases Int.lt_trichotomy n 0 with h | h | h
  · obtain ⟨m, rfl⟩ : ∃ m : Nat, n = -(m : Int) := ⟨n.natAbs, by omega⟩
    rw [Lib.itoa_neg m (by omega)] at hlen ⊢
    simp only [List.length_cons] at hlen
    exact specFI_neg m w (by omega) (by omega) _ (by unfold Hid; rw [dig_pos m (by omega)]) (by omega)
  · subst h; exact specFI_0 w
  · obtain ⟨m, rfl⟩ : ∃ m : Nat, n = (m : Int) := ⟨n.toNat, by omega⟩
    rw [Lib.itoa_nonneg m] at hlen ⊢
    exact specFI_pos m w (by omega) h1 _ (by unfold Hid; rw [dig_pos m (by omega)]) (by omega)

end Go.Proofs.YtcpchdnhhjhpaacDoor

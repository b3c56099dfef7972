/- The least vertex of a set, by the table of package bits. -/
import Derived.Test.YtpifgmmmmhenmabDoorB
import Derived.Test.YtpifgmmmmhenmabDoorRows
import Derived.Lib.LaidTab
import Derived.Stop.LaidErr
import Derived.LaidMore
namespace Go.Proofs.YtpifgmmmmhenmabDoor
set_option linter.unusedVariables false
set_option linter.unusedSimpArgs false
open Go.RowKit

/-- The table. -/
def tab64 : List Int := [0, 1, 56, 2, 57, 49, 28, 3, 61, 58, 42, 50, 38, 29, 17, 4, 62, 47, 59, 36, 45, 43, 51, 22, 53, 39, 33, 30, 24, 18, 12, 5, 63, 55, 48, 27, 60, 41, 37, 16, 46, 35, 44, 21, 52, 32, 23, 11, 54, 26, 40, 15, 34, 20, 31, 10, 25, 14, 19, 9, 13, 8, 7, 6]

def TabT (w : World) : Prop := Lib.TabIs Tryd.prog w "math/bits.deBruijn64tab" .u8 tab64

theorem gT64 : Tryd.prog.globalNamed "math/bits.deBruijn64tab" = some 4 := by kernel_rfl

theorem TabT.on {w w' : World} (h : TabT w) (hb : Below w.heap.size w w') : TabT w' := by
  unfold TabT Lib.TabIs World.var? at h ⊢
  rw [gT64] at h ⊢
  simp only [Option.bind_some] at h ⊢
  have hlt : 4 < w.heap.size := by
    rcases Nat.lt_or_ge 4 w.heap.size with h' | h'
    · exact h'
    · simp [Array.getElem?_eq_none h'] at h
  rw [hb.block _ hlt]
  exact h

def tzA (X : Nat) : Int := bits .and .u64 (X : Int) (IntKind.u64.wrap (-(X : Int)))
def tzM (X : Nat) : Int := IntKind.u64.wrap (tzA X * 285870213051353865)

theorem tz_facts (X : Nat) (h0 : 0 < X) (h7 : X < 128) : ∃ i : Nat, tzM X / 2 ^ 58 = (i : Int) ∧ i < 64 ∧ tab64.getD i 0 = ((lowN X : Nat) : Int) := by
  have h : ∀ X : Fin 128, 0 < X.val → (tzM X.val / 2 ^ 58).toNat < 64 ∧ tzM X.val / 2 ^ 58 = (((tzM X.val / 2 ^ 58).toNat : Nat) : Int) ∧ tab64.getD (tzM X.val / 2 ^ 58).toNat 0 = ((lowN X.val : Nat) : Int) := by decide +kernel
  obtain ⟨a, b, c⟩ := h ⟨X, h7⟩ h0
  exact ⟨_, b, a, c⟩

set_option maxHeartbeats 1000000 in
theorem tz64 (X : Nat) (h0 : 0 < X) (h7 : X < 128) (w : World) (ht : TabT w) :
    Calls Tryd.prog 79 #[.int .u64 X] w fun e w' => e = .returned (.int .i64 (lowN X : Nat)) ∧ Below w.heap.size w w' := by
  obtain ⟨i, hi, hi64, hv⟩ := tz_facts X h0 h7
  have c0 := ht.cell gT64 i (by exact hi64)
  rw [hv] at c0
  have hL7 := (low_facts X h0 h7).2.1
  obtain ⟨L, hL⟩ : ∃ L, L = lowN X := ⟨_, rfl⟩
  rw [← hL] at c0 hL7 ⊢
  have w0 : wrap64 (L : Int) = (L : Int) := by
    have h : ∀ L : Fin 7, wrap64 ((L.val : Nat) : Int) = ((L.val : Nat) : Int) := by decide +kernel
    exact h ⟨L, hL7⟩
  have d0 : ((X : Int) == 0) = false := by rw [beq_eq_false_iff_ne]; omega
  obtain ⟨N, hN⟩ : ∃ N, N = IntKind.u64.wrap (-(X : Int)) := ⟨_, rfl⟩
  have e0 : IntKind.u64.wrap (-(X : Int)) = N := hN.symm
  obtain ⟨P, hP⟩ : ∃ P, P = tzA X := ⟨_, rfl⟩
  have e1 : bits .and .u64 (X : Int) N = P := by rw [hN, hP]; rfl
  obtain ⟨M, hM⟩ : ∃ M, M = tzM X := ⟨_, rfl⟩
  have e2 : IntKind.u64.wrap (P * 285870213051353865) = M := by rw [hP, hM]; rfl
  have e3 : M / 288230376151711744 = (i : Int) := by rw [hM]; exact hi
  clear hN hP hM hi hv hL ht
  go_enter Tryd.func79, Tryd.ntmps79
  go_wp2
  go_ret
  exact ⟨rfl, Below.refl _ _⟩

theorem tz (X : Nat) (h0 : 0 < X) (h7 : X < 128) (w : World) (ht : TabT w) :
    Calls Tryd.prog 47 #[.int .u64 X] w fun e w' => e = .returned (.int .i64 (lowN X : Nat)) ∧ Below w.heap.size w w' := by
  have HT := Lib.hid ht
  obtain ⟨L, hL⟩ : ∃ L, L = lowN X := ⟨_, rfl⟩
  have HL := Lib.hid hL
  rw [← hL]
  clear ht hL
  go_enter Tryd.func47, Tryd.ntmps47
  go_wp2_with fail
  refine (tz64 X h0 h7 _ HT.out).mono ?_
  rintro e w1 ⟨rfl, hb⟩
  rw [← HL.out]
  have HB := Lib.hid hb
  clear hb
  go_wp2
  go_ret
  exact ⟨rfl, HB.out⟩

theorem least_is (X : Nat) (h0 : 0 < X) (h7 : X < 128) (w : World) (ht : TabT w) :
    Calls Tryd.prog 60 #[.int .i64 X] w fun e w' => e = .returned (.int .i64 (lowN X : Nat)) ∧ Below w.heap.size w w' := by
  have HT := Lib.hid ht
  obtain ⟨L, hL⟩ : ∃ L, L = lowN X := ⟨_, rfl⟩
  have HL := Lib.hid hL
  have e0 : IntKind.u64.wrap (X : Int) = (X : Int) := by
    have h : ∀ X : Fin 128, IntKind.u64.wrap ((X.val : Nat) : Int) = ((X.val : Nat) : Int) := by decide +kernel
    exact h ⟨X, h7⟩
  rw [← hL]
  clear ht hL
  go_enter Tryd.func60, Tryd.ntmps60
  go_wp2_with fail
  refine (tz X h0 h7 _ HT.out).mono ?_
  rintro e w1 ⟨rfl, hb⟩
  rw [← HL.out]
  have HB := Lib.hid hb
  clear hb
  go_wp2
  go_ret
  exact ⟨rfl, HB.out⟩

end Go.Proofs.YtpifgmmmmhenmabDoor

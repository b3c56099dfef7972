/- The patterns of paths, claws and two edges. -/
import Derived.Test.YtbmpljclplddeabP1
namespace Go.Proofs.Ytbmpljclplddeab
set_option linter.unusedVariables false
set_option linter.unusedSimpArgs false
open Go.RowKit

def pathP : Nat → Nat → Bool := fun i j => decide (j = i + 1)

set_option maxRecDepth 100000 in
theorem enters_path : Enters 77 := fun args W => by rfl

set_option maxHeartbeats 1000000 in
theorem rule_path (m : Nat) (W0 : World) (hm : m ≤ 1048576) : Rule 77 #[] m pathP W0 := by
  intro W i j hij hj hbel
  clear hbel
  show Calls Try.prog 77 #[.int .i64 i, .int .i64 j] W _
  by_cases a1 : j = i + 1
  · have a1b : ((j : Int) == (i : Int) + 1) = true := by simp; omega
    have a1h := Lib.hid a1
    clear a1
    go_enter Try.func77, Try.ntmps77
    go_wp2
    go_ret
    exact ⟨ret_bool (by have a1q := a1h.out; simp [pathP, a1q] <;> omega), Below.refl _ _⟩
  · have a1b : ((j : Int) == (i : Int) + 1) = false := by simp; omega
    go_enter Try.func77, Try.ntmps77
    go_wp2
    go_ret
    exact ⟨ret_bool (by simp [pathP, a1] <;> omega), Below.refl _ _⟩

def clawP : Nat → Nat → Bool := fun i _ => decide (i = 0)

def twoP : Nat → Nat → Bool := fun i j => (decide (i = 0) && decide (j = 1)) || (decide (i = 2) && decide (j = 3))

set_option maxRecDepth 100000 in
theorem enters_two : Enters 75 := fun args W => by rfl

set_option maxHeartbeats 1000000 in
theorem rule_two (m : Nat) (W0 : World) (hm : m ≤ 1048576) : Rule 75 #[] m twoP W0 := by
  intro W i j hij hj hbel
  clear hbel
  show Calls Try.prog 75 #[.int .i64 i, .int .i64 j] W _
  by_cases a0 : i = 0
  · have a0b : ((i : Int) == 0) = true := by simp; omega
    have a0h := Lib.hid a0
    clear a0
    by_cases b1 : j = 1
    · have b1b : ((j : Int) == 1) = true := by simp; omega
      have b1h := Lib.hid b1
      clear b1
      go_enter Try.func75, Try.ntmps75
      go_wp2
      go_ret
      exact ⟨ret_bool (by have a0q := a0h.out; have b1q := b1h.out; simp [twoP, a0q, b1q] <;> omega), Below.refl _ _⟩
    · have b1b : ((j : Int) == 1) = false := by simp; omega
      have b2b : ((i : Int) == 2) = false := by have := a0h.out; simp; omega
      go_enter Try.func75, Try.ntmps75
      go_wp2
      go_ret
      exact ⟨ret_bool (by have a0q := a0h.out; simp [twoP, a0q, b1] <;> omega), Below.refl _ _⟩
  · have a0b : ((i : Int) == 0) = false := by simp; omega
    by_cases b2 : i = 2
    · have b2b : ((i : Int) == 2) = true := by simp; omega
      have b2h := Lib.hid b2
      clear b2
      by_cases b3 : j = 3
      · have b3b : ((j : Int) == 3) = true := by simp; omega
        have b3h := Lib.hid b3
        clear b3
        go_enter Try.func75, Try.ntmps75
        go_wp2
        go_ret
        exact ⟨ret_bool (by have b2q := b2h.out; have b3q := b3h.out; simp [twoP, a0, b2q, b3q] <;> omega), Below.refl _ _⟩
      · have b3b : ((j : Int) == 3) = false := by simp; omega
        go_enter Try.func75, Try.ntmps75
        go_wp2
        go_ret
        exact ⟨ret_bool (by have b2q := b2h.out; simp [twoP, a0, b2q, b3] <;> omega), Below.refl _ _⟩
    · have b2b : ((i : Int) == 2) = false := by simp; omega
      go_enter Try.func75, Try.ntmps75
      go_wp2
      go_ret
      exact ⟨ret_bool (by simp [twoP, a0, b2] <;> omega), Below.refl _ _⟩

/-- The pairs of four. -/
theorem pairs4 (p : Nat → Nat → Prop) (m : Nat) (hm : m = 4) : (∀ j, j < m → ∀ i, i < j → p i j) ↔ p 0 1 ∧ p 0 2 ∧ p 0 3 ∧ p 1 2 ∧ p 1 3 ∧ p 2 3 := by
  subst hm
  refine ⟨fun h => ⟨h 1 (by omega) 0 (by omega), h 2 (by omega) 0 (by omega), h 3 (by omega) 0 (by omega), h 2 (by omega) 1 (by omega), h 3 (by omega) 1 (by omega), h 3 (by omega) 2 (by omega)⟩, fun ⟨h1, h2, h3, h4, h5, h6⟩ j hj i hi => ?_⟩
  match j, i, hj, hi with
  | 1, 0, _, _ => exact h1
  | 2, 0, _, _ => exact h2
  | 3, 0, _, _ => exact h3
  | 2, 1, _, _ => exact h4
  | 3, 1, _, _ => exact h5
  | 3, 2, _, _ => exact h6

end Go.Proofs.Ytbmpljclplddeab

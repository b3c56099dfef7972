/- The patterns of paths, claws and two edges. -/
import Derived.Test.YteikiifjiapjaacDoorP1
namespace Go.Proofs.YteikiifjiapjaacDoor
set_option linter.unusedVariables false
set_option linter.unusedSimpArgs false
open Go.RowKit

def pathP : Nat → Nat → Bool := fun i j => decide (j = i + 1)

def clawP : Nat → Nat → Bool := fun i _ => decide (i = 0)

set_option maxRecDepth 100000 in
theorem enters_claw : Enters 133 := fun args W => by rfl

set_option maxHeartbeats 1000000 in
theorem rule_claw (m : Nat) (W0 : World) (hm : m ≤ 1048576) : Rule 133 #[] m clawP W0 := by
  intro W i j hij hj hbel
  clear hbel
  show Calls Tryd.prog 133 #[.int .i64 i, .int .i64 j] W _
  by_cases a0 : i = 0
  · have a0b : ((i : Int) == 0) = true := by simp; omega
    have a0h := Lib.hid a0
    clear a0
    go_enter Tryd.func133, Tryd.ntmps133
    go_wp2
    go_ret
    exact ⟨ret_bool (by have a0q := a0h.out; simp [clawP, a0q] <;> omega), Below.refl _ _⟩
  · have a0b : ((i : Int) == 0) = false := by simp; omega
    go_enter Tryd.func133, Tryd.ntmps133
    go_wp2
    go_ret
    exact ⟨ret_bool (by simp [clawP, a0] <;> omega), Below.refl _ _⟩

def twoP : Nat → Nat → Bool := fun i j => (decide (i = 0) && decide (j = 1)) || (decide (i = 2) && decide (j = 3))

set_option maxHeartbeats 1000000 in
set_option maxRecDepth 100000 in
theorem implIsClaw (n : Int) (v vl : Value) (lg l : List Int) (w : World) (h : Ints w v lg) (hl : Ints w vl l) (hlen : l.length ≤ 1048576) :
    Calls Tryd.prog 89 #[.agg #[.int .i64 n, v], vl] w (SaysB (l.length = 4 ∧ HasPat n lg l clawP) w) := by
  obtain ⟨a, cap, rfl, -, -⟩ := h.form
  obtain ⟨al, capl, rfl, -, hml⟩ := hl.form
  have HA := argG' (T := 26) (n := n) h
  have HI := Lib.hid h
  have HL := Lib.hid hl
  unfold maxLen at hml
  clear h hl
  by_cases hc : l.length = 4
  · have d0 : ((l.length : Int) == 4) = true := by simp; omega
    have HC := Lib.hid hc
    clear hc
    go_enter Tryd.func89, Tryd.ntmps89
    go_wp2_with fail
    refine (hasPattern_any 133 #[] clawP n _ _ lg l _ (HI.out.alloc _) (HL.out.alloc _) hlen enters_claw (rule_claw _ _ hlen)).mono ?_
    rintro e w1 ⟨r, rfl, hr, hb⟩
    have HB := Lib.hid (((Below.refl _ w).alloc (Nat.le_refl _) _).trans (hb.mono (by simp)))
    have HR := Lib.hid hr
    clear hr hb
    go_wp2
    go_ret
    exact ⟨r, rfl, ⟨fun h => ⟨HC.out, HR.out.1 h⟩, fun h => HR.out.2 h.2⟩, HB.out⟩
  · have d0 : ((l.length : Int) == 4) = false := by simp; omega
    have HC := Lib.hid hc
    clear hc
    go_enter Tryd.func89, Tryd.ntmps89
    go_wp2
    go_ret
    exact SaysB.no (fun h => HC.out h.1) ((Below.refl _ w).alloc (Nat.le_refl _) _)

/-- The pairs of four. -/
theorem pairs4 (p : Nat → Nat → Prop) (m : Nat) (hm : m = 4) : (∀ j, j < m → ∀ i, i < j → p i j) ↔ p 0 1 ∧ p 0 2 ∧ p 0 3 ∧ p 1 2 ∧ p 1 3 ∧ p 2 3 := by
  subst hm
  refine ⟨fun h => ⟨h 1 (by omega) 0 (by omega), h 2 (by omega) 0 (by omega), h 3 (by omega) 0 (by omega), h 2 (by omega) 1 (by omega), h 3 (by omega) 1 (by omega), h 3 (by omega) 2 (by omega)⟩, fun ⟨h1, h2, h3, h4, h5, h6⟩ j hj i hi => ?_⟩
  match j, i, hj, hi with
  | 1, 0, _, _ => exact h1
  | 2, 0, _, _ => exact h2
  | 3, 0, _, _ => exact h3
  | 2, 1, _, _ => exact h4
  | 3, 1, _, _ => exact h5
  | 3, 2, _, _ => exact h6

end Go.Proofs.YteikiifjiapjaacDoor

/- The patterns of paths, claws and two edges. -/
import Derived.Test.YtfeepheckeplmaaP1
namespace Go.Proofs.Ytfeepheckeplmaa
open Go.RowKit

def pathP : Nat → Nat → Bool := fun i j => decide (j = i + 1)

theorem enters_path : Enters 79 := fun args W => by rfl

set_option maxHeartbeats 1000000 in
theorem rule_path (m : Nat) (W0 : World) (hm : m ≤ 1048576) : Rule 79 #[] m pathP W0 := by
  intro W i j hij hj hbel
  clear hbel
  show Calls Try.prog 79 #[.int .i64 i, .int .i64 j] W _
  by_cases a1 : j = i + 1
  · have a1b : ((j : Int) == (i : Int) + 1) = true := by simp; omega
    have a1h := Lib.hid a1
    clear a1
    go_enter Try.func79, Try.ntmps79
    go_wp2
    go_ret
    exact ⟨ret_bool (by have a1q := a1h.out; simp [pathP, a1q] <;> omega), Below.refl _ _⟩
  · have a1b : ((j : Int) == (i : Int) + 1) = false := by simp; omega
    go_enter Try.func79, Try.ntmps79
    go_wp2
    go_ret
    exact ⟨ret_bool (by simp [pathP, a1] <;> omega), Below.refl _ _⟩

def clawP : Nat → Nat → Bool := fun i _ => decide (i = 0)

theorem enters_claw : Enters 51 := fun args W => by rfl

set_option maxHeartbeats 1000000 in
theorem rule_claw (m : Nat) (W0 : World) (hm : m ≤ 1048576) : Rule 51 #[] m clawP W0 := by
  intro W i j hij hj hbel
  clear hbel
  show Calls Try.prog 51 #[.int .i64 i, .int .i64 j] W _
  by_cases a0 : i = 0
  · have a0b : ((i : Int) == 0) = true := by simp; omega
    have a0h := Lib.hid a0
    clear a0
    go_enter Try.func51, Try.ntmps51
    go_wp2
    go_ret
    exact ⟨ret_bool (by have a0q := a0h.out; simp [clawP, a0q] <;> omega), Below.refl _ _⟩
  · have a0b : ((i : Int) == 0) = false := by simp; omega
    go_enter Try.func51, Try.ntmps51
    go_wp2
    go_ret
    exact ⟨ret_bool (by simp [clawP, a0] <;> omega), Below.refl _ _⟩

def twoP : Nat → Nat → Bool := fun i j => (decide (i = 0) && decide (j = 1)) || (decide (i = 2) && decide (j = 3))

theorem enters_two : Enters 52 := fun args W => by rfl

set_option maxHeartbeats 1000000 in
theorem rule_two (m : Nat) (W0 : World) (hm : m ≤ 1048576) : Rule 52 #[] m twoP W0 := by
  intro W i j hij hj hbel
  clear hbel
  show Calls Try.prog 52 #[.int .i64 i, .int .i64 j] W _
  by_cases a0 : i = 0
  · have a0b : ((i : Int) == 0) = true := by simp; omega
    have a0h := Lib.hid a0
    clear a0
    by_cases b1 : j = 1
    · have b1b : ((j : Int) == 1) = true := by simp; omega
      have b1h := Lib.hid b1
      clear b1
      go_enter Try.func52, Try.ntmps52
      go_wp2
      go_ret
      exact ⟨ret_bool (by have a0q := a0h.out; have b1q := b1h.out; simp [twoP, a0q, b1q] <;> omega), Below.refl _ _⟩
    · have b1b : ((j : Int) == 1) = false := by simp; omega
      have b2b : ((i : Int) == 2) = false := by have := a0h.out; simp; omega
      go_enter Try.func52, Try.ntmps52
      go_wp2
      go_ret
      exact ⟨ret_bool (by have a0q := a0h.out; simp [twoP, a0q, b1] <;> omega), Below.refl _ _⟩
  · have a0b : ((i : Int) == 0) = false := by simp; omega
    by_cases b2 : i = 2
    · have b2b : ((i : Int) == 2) = true := by simp; omega
      have b2h := Lib.hid b2
      clear b2
      by_cases b3 : j = 3
      · have b3b : ((j : Int) == 3) = true := by simp; omega
        have b3h := Lib.hid b3
        clear b3
        go_enter Try.func52, Try.ntmps52
        go_wp2
        go_ret
        exact ⟨ret_bool (by have b2q := b2h.out; have b3q := b3h.out; simp [twoP, a0, b2q, b3q] <;> omega), Below.refl _ _⟩
      · have b3b : ((j : Int) == 3) = false := by simp; omega
        go_enter Try.func52, Try.ntmps52
        go_wp2
        go_ret
        exact ⟨ret_bool (by have b2q := b2h.out; simp [twoP, a0, b2q, b3] <;> omega), Below.refl _ _⟩
    · have b2b : ((i : Int) == 2) = false := by simp; omega
      go_enter Try.func52, Try.ntmps52
      go_wp2
      go_ret
      exact ⟨ret_bool (by simp [twoP, a0, b2] <;> omega), Below.refl _ _⟩

set_option maxHeartbeats 1000000 in
set_option maxRecDepth 100000 in
theorem implIsInducedPath (n : Int) (v vl : Value) (lg l : List Int) (w : World) (h : Ints w v lg) (hl : Ints w vl l) (hlen : l.length ≤ 1048576) :
    Calls Try.prog 56 #[.agg #[.int .i64 n, v], vl] w (SaysB (0 < l.length ∧ HasPat n lg l pathP) w) := by
  obtain ⟨a, cap, rfl, -, -⟩ := h.form
  obtain ⟨al, capl, rfl, -, hml⟩ := hl.form
  have HA := argG' (T := 27) (n := n) h
  have HI := Lib.hid h
  have HL := Lib.hid hl
  unfold maxLen at hml
  clear h hl
  by_cases hc : 0 < l.length
  · have d0 : decide ((0 : Int) < (l.length : Int)) = true := decide_eq_true (by omega)
    have HC := Lib.hid hc
    clear hc
    go_enter Try.func56, Try.ntmps56
    go_wp2_with fail
    refine (hasPattern_any 79 #[] pathP n _ _ lg l _ (HI.out.alloc _) (HL.out.alloc _) hlen enters_path (rule_path _ _ hlen)).mono ?_
    rintro e w1 ⟨r, rfl, hr, hb⟩
    have HB := Lib.hid (((Below.refl _ w).alloc (Nat.le_refl _) _).trans (hb.mono (by simp)))
    have HR := Lib.hid hr
    clear hr hb
    go_wp2
    go_ret
    exact ⟨r, rfl, ⟨fun h => ⟨HC.out, HR.out.1 h⟩, fun h => HR.out.2 h.2⟩, HB.out⟩
  · have d0 : decide ((0 : Int) < (l.length : Int)) = false := decide_eq_false (by omega)
    have HC := Lib.hid hc
    clear hc
    go_enter Try.func56, Try.ntmps56
    go_wp2
    go_ret
    exact SaysB.no (fun h => HC.out h.1) ((Below.refl _ w).alloc (Nat.le_refl _) _)

set_option maxHeartbeats 1000000 in
set_option maxRecDepth 100000 in
theorem implIsClaw (n : Int) (v vl : Value) (lg l : List Int) (w : World) (h : Ints w v lg) (hl : Ints w vl l) (hlen : l.length ≤ 1048576) :
    Calls Try.prog 19 #[.agg #[.int .i64 n, v], vl] w (SaysB (l.length = 4 ∧ HasPat n lg l clawP) w) := by
  obtain ⟨a, cap, rfl, -, -⟩ := h.form
  obtain ⟨al, capl, rfl, -, hml⟩ := hl.form
  have HA := argG' (T := 27) (n := n) h
  have HI := Lib.hid h
  have HL := Lib.hid hl
  unfold maxLen at hml
  clear h hl
  by_cases hc : l.length = 4
  · have d0 : ((l.length : Int) == 4) = true := by simp; omega
    have HC := Lib.hid hc
    clear hc
    go_enter Try.func19, Try.ntmps19
    go_wp2_with fail
    refine (hasPattern_any 51 #[] clawP n _ _ lg l _ (HI.out.alloc _) (HL.out.alloc _) hlen enters_claw (rule_claw _ _ hlen)).mono ?_
    rintro e w1 ⟨r, rfl, hr, hb⟩
    have HB := Lib.hid (((Below.refl _ w).alloc (Nat.le_refl _) _).trans (hb.mono (by simp)))
    have HR := Lib.hid hr
    clear hr hb
    go_wp2
    go_ret
    exact ⟨r, rfl, ⟨fun h => ⟨HC.out, HR.out.1 h⟩, fun h => HR.out.2 h.2⟩, HB.out⟩
  · have d0 : ((l.length : Int) == 4) = false := by simp; omega
    have HC := Lib.hid hc
    clear hc
    go_enter Try.func19, Try.ntmps19
    go_wp2
    go_ret
    exact SaysB.no (fun h => HC.out h.1) ((Below.refl _ w).alloc (Nat.le_refl _) _)

set_option maxHeartbeats 1000000 in
set_option maxRecDepth 100000 in
theorem implIsTwoEdges (n : Int) (v vl : Value) (lg l : List Int) (w : World) (h : Ints w v lg) (hl : Ints w vl l) (hlen : l.length ≤ 1048576) :
    Calls Try.prog 23 #[.agg #[.int .i64 n, v], vl] w (SaysB (l.length = 4 ∧ HasPat n lg l twoP) w) := by
  obtain ⟨a, cap, rfl, -, -⟩ := h.form
  obtain ⟨al, capl, rfl, -, hml⟩ := hl.form
  have HA := argG' (T := 27) (n := n) h
  have HI := Lib.hid h
  have HL := Lib.hid hl
  unfold maxLen at hml
  clear h hl
  by_cases hc : l.length = 4
  · have d0 : ((l.length : Int) == 4) = true := by simp; omega
    have HC := Lib.hid hc
    clear hc
    go_enter Try.func23, Try.ntmps23
    go_wp2_with fail
    refine (hasPattern_any 52 #[] twoP n _ _ lg l _ (HI.out.alloc _) (HL.out.alloc _) hlen enters_two (rule_two _ _ hlen)).mono ?_
    rintro e w1 ⟨r, rfl, hr, hb⟩
    have HB := Lib.hid (((Below.refl _ w).alloc (Nat.le_refl _) _).trans (hb.mono (by simp)))
    have HR := Lib.hid hr
    clear hr hb
    go_wp2
    go_ret
    exact ⟨r, rfl, ⟨fun h => ⟨HC.out, HR.out.1 h⟩, fun h => HR.out.2 h.2⟩, HB.out⟩
  · have d0 : ((l.length : Int) == 4) = false := by simp; omega
    have HC := Lib.hid hc
    clear hc
    go_enter Try.func23, Try.ntmps23
    go_wp2
    go_ret
    exact SaysB.no (fun h => HC.out h.1) ((Below.refl _ w).alloc (Nat.le_refl _) _)

/-- The pairs of four. -/
theorem pairs4 (p : Nat → Nat → Prop) (m : Nat) (hm : m = 4) : (∀ j, j < m → ∀ i, i < j → p i j) ↔ p 0 1 ∧ p 0 2 ∧ p 0 3 ∧ p 1 2 ∧ p 1 3 ∧ p 2 3 := by
  subst hm
  refine ⟨fun h => ⟨h 1 (by omega) 0 (by omega), h 2 (by omega) 0 (by omega), h 3 (by omega) 0 (by omega), h 2 (by omega) 1 (by omega), h 3 (by omega) 1 (by omega), h 3 (by omega) 2 (by omega)⟩, fun ⟨h1, h2, h3, h4, h5, h6⟩ j hj i hi => ?_⟩
  match j, i, hj, hi with
  | 1, 0, _, _ => exact h1
  | 2, 0, _, _ => exact h2
  | 3, 0, _, _ => exact h3
  | 2, 1, _, _ => exact h4
  | 3, 1, _, _ => exact h5
  | 3, 2, _, _ => exact h6

end Go.Proofs.Ytfeepheckeplmaa

/- CoversCircle: plain facts. -/
import Derived.Test.YtgfndgjabhabjaaY18
import Derived.Test.YtgfndgjabhabjaaB
namespace Go.Proofs.Ytgfndgjabhabjaa
set_option linter.unusedVariables false
set_option linter.unusedSimpArgs false
open Go.RowKit

theorem arcN_bit (n : Int) (l m : List Int) (x : Int) : ∀ (j i : Nat), (arcN n l m x j).testBit i = true ↔ i < j ∧ ArcOn n l m i x
  | 0, i => by simp [arcN]
  | j + 1, i => by
    have ih := arcN_bit n l m x j
    have hlt := arcN_lt n l m x j
    unfold arcN
    by_cases h : ArcOn n l m j x
    · rw [if_pos h, Nat.add_comm]
      rcases Nat.lt_trichotomy i j with hi | hi | hi
      · rw [Nat.testBit_two_pow_add_gt hi, ih]
        exact ⟨fun h => ⟨by omega, h.2⟩, fun h => ⟨hi, h.2⟩⟩
      · subst hi
        rw [Nat.testBit_two_pow_add_eq, Nat.testBit_lt_two_pow hlt]
        simp [h]
      · have h2 : 2 ^ j + arcN n l m x j < 2 ^ i := by
          have : 2 ^ (j + 1) ≤ 2 ^ i := Nat.pow_le_pow_right (by decide) hi
          rw [Nat.pow_succ] at this
          omega
        rw [Nat.testBit_lt_two_pow h2]
        exact ⟨fun h => (by cases h), fun h => (by omega)⟩
    · rw [if_neg h, Nat.add_zero, ih]
      refine ⟨fun ⟨a, b⟩ => ⟨by omega, b⟩, fun ⟨a, b⟩ => ⟨?_, b⟩⟩
      rcases Nat.lt_or_ge i j with h' | h'
      · exact h'
      · obtain rfl : i = j := by omega
        exact absurd b h

/-- A point is covered: an arc of the set holds it. -/
theorem cov_point {n : Int} {l m : List Int} (hA : ArcsP n l m) {X t : Nat} (hX : X < 128) (ht : (t : Int) < n) : bits .and .i64 (arcR n l m (t : Int)) (X : Int) ≠ 0 ↔ ∃ i, i < l.length ∧ X.testBit i = true ∧ ArcOn n l m i t := by
  have hr : arcR n l m (t : Int) = ((arcN n l m (t : Int) l.length : Nat) : Int) := by
    unfold arcR
    rw [if_pos ⟨hA, by omega, ht⟩]
  have hlt := arcN_lt n l m (t : Int) l.length
  have h128 := two_le l.length hA.2.1.2
  rw [hr, (bits_nat _ X (by omega) hX).1]
  refine ⟨fun h => ?_, fun ⟨i, hi, hb, ho⟩ h => ?_⟩
  · have h0 : arcN n l m (t : Int) l.length &&& X ≠ 0 := fun e => h (by rw [e]; rfl)
    obtain ⟨i, hi⟩ := Nat.exists_testBit_of_ne_zero h0
    rw [Nat.testBit_and, Bool.and_eq_true] at hi
    obtain ⟨h1, h2⟩ := (arcN_bit n l m (t : Int) l.length i).1 hi.1
    exact ⟨i, h1, hi.2, h2⟩
  · have h0 : arcN n l m (t : Int) l.length &&& X = 0 := by exact_mod_cast h
    have h1 : (arcN n l m (t : Int) l.length &&& X).testBit i = true := by
      rw [Nat.testBit_and, (arcN_bit n l m (t : Int) l.length i).2 ⟨hi, ho⟩, hb]; rfl
    rw [h0] at h1
    simp at h1

end Go.Proofs.Ytgfndgjabhabjaa

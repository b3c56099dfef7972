/- The first shortest way within a set: plain facts. -/
import Derived.Test.YtgfndgjabhabjacDoorV7
import Derived.Test.YtgfndgjabhabjacDoorM2
namespace Go.Proofs.YtgfndgjabhabjacDoor
set_option linter.unusedVariables false
set_option linter.unusedSimpArgs false
open Go.RowKit

/-- How many steps away from b a vertex lies, within S. -/
def farK (R : Nat → Nat) (S b N v : Nat) : Option Nat := (List.range N).find? fun k => (itN R S (2 ^ b) k).testBit v

/-- The way from a vertex that is k steps away: the least neighbour that is nearer, again and again. -/
def wayL (R : Nat → Nat) (S b : Nat) : Nat → Nat → List Int
  | 0, a => [(a : Int)]
  | k + 1, a => (a : Int) :: wayL R S b k (lowN (R a &&& itN R S (2 ^ b) k))

theorem wayL_length (R : Nat → Nat) (S b k a : Nat) : (wayL R S b k a).length = k + 1 := by
  induction k generalizing a with
  | zero => rfl
  | succ k ih => unfold wayL; rw [List.length_cons, ih]

theorem wayL_tail (R : Nat → Nat) (S b k a : Nat) : (wayL R S b k a) = (a : Int) :: (wayL R S b k a).tail := by
  cases k <;> rfl

theorem far_some {R : Nat → Nat} {S b N v k : Nat} : farK R S b N v = some k ↔ k < N ∧ (itN R S (2 ^ b) k).testBit v = true ∧ ∀ j, j < k → (itN R S (2 ^ b) j).testBit v = false := by
  unfold farK
  rw [List.find?_range_eq_some]
  constructor
  · rintro ⟨h1, h2, h3⟩
    exact ⟨by simpa using h2, h1, fun j hj => by simpa using h3 j hj⟩
  · rintro ⟨h1, h2, h3⟩
    exact ⟨h2, by simpa using h1, fun j hj => by simp [h3 j hj]⟩

theorem far_none {R : Nat → Nat} {S b N v : Nat} : farK R S b N v = none ↔ ∀ k, k < N → (itN R S (2 ^ b) k).testBit v = false := by
  unfold farK
  rw [List.find?_range_eq_none]
  simp

theorem far_stop {R : Nat → Nat} {S b N v i : Nat} (hf : stepN R S (itN R S (2 ^ b) i) = itN R S (2 ^ b) i) (hn : ∀ j, j ≤ i → (itN R S (2 ^ b) j).testBit v = false) : farK R S b N v = none :=
  far_none.2 fun k _ => by
    rcases Nat.lt_or_ge i k with h | h
    · have := it_fix hf (k - i)
      rw [show i + (k - i) = k by omega] at this
      rw [this]
      exact hn i (Nat.le_refl _)
    · exact hn k h

/-- Who comes within reach at step i + 1 has a neighbour that was within reach at step i; the least one is no nearer. -/
theorem way_next {R : Nat → Nat} {S b N i c : Nat} (h7 : N ≤ 7) (hS : S < 2 ^ N) (hb : Sub (2 ^ b) S) (hR : ∀ v, v < N → R v < 2 ^ N) (hsym : ∀ u v, u < N → v < N → (R u).testBit v = (R v).testBit u)
    (h1 : (itN R S (2 ^ b) (i + 1)).testBit c = true) (h0 : (itN R S (2 ^ b) i).testBit c = false) :
    0 < R c &&& itN R S (2 ^ b) i ∧ R c &&& itN R S (2 ^ b) i < 128 ∧ (itN R S (2 ^ b) i).testBit (lowN (R c &&& itN R S (2 ^ b) i)) = true ∧ (R c).testBit (lowN (R c &&& itN R S (2 ^ b) i)) = true ∧ lowN (R c &&& itN R S (2 ^ b) i) < N ∧
      ∀ v, (R c).testBit v = true → (itN R S (2 ^ b) i).testBit v = true → ∀ j, j < i → (itN R S (2 ^ b) j).testBit v = false := by
  have hIS := it_sub (R := R) hb i
  have hlt : itN R S (2 ^ b) i < 2 ^ N := Nat.lt_of_le_of_lt (sub_le hIS) hS
  have hI7 : itN R S (2 ^ b) i < 128 := Nat.lt_of_lt_of_le hlt (two_le _ h7)
  obtain ⟨k1, hcS⟩ := (stepN_bit R S _ c).1 h1
  have hcN := bit_lt hS hcS
  rw [aroundN_bit] at k1
  have hex : ∃ u, (itN R S (2 ^ b) i).testBit u = true ∧ (R c).testBit u = true := by
    rcases k1 with h | ⟨u, -, hu, hr⟩
    · rw [h0] at h; cases h
    · exact ⟨u, hu, by rw [hsym c u hcN (bit_lt hlt hu)]; exact hr⟩
  obtain ⟨u, hu, hcu⟩ := hex
  have hlt7 : R c &&& itN R S (2 ^ b) i < 128 := Nat.lt_of_le_of_lt Nat.and_le_right hI7
  have hpos : 0 < R c &&& itN R S (2 ^ b) i := by
    rcases Nat.eq_zero_or_pos (R c &&& itN R S (2 ^ b) i) with h | h
    · have : (R c &&& itN R S (2 ^ b) i).testBit u = true := by rw [Nat.testBit_and, hu, hcu]; rfl
      rw [h] at this
      simp at this
    · exact h
  have hl := (low_facts _ hpos hlt7).1
  rw [Nat.testBit_and, Bool.and_eq_true] at hl
  refine ⟨hpos, hlt7, hl.2, hl.1, bit_lt hlt hl.2, fun v hv hvi j hj => ?_⟩
  cases hj' : (itN R S (2 ^ b) j).testBit v with
  | false => rfl
  | true =>
    exfalso
    have hvN := bit_lt hlt hvi
    have h2 : (itN R S (2 ^ b) (j + 1)).testBit c = true := by
      show (stepN R S (itN R S (2 ^ b) j)).testBit c = true
      rw [stepN_bit, aroundN_bit]
      exact ⟨.inr ⟨v, by omega, hj', by rw [hsym v c hvN hcN]; exact hv⟩, hcS⟩
    have h3 : ∀ m, (itN R S (2 ^ b) (j + 1 + m)).testBit c = true := fun m => by
      induction m with
      | zero => exact h2
      | succ m ih => exact it_ext hb (j + 1 + m) c ih
    have h4 := h3 (i - (j + 1))
    rw [show j + 1 + (i - (j + 1)) = i by omega, h0] at h4
    cases h4

/-- All vertices but those around c. -/
def awayN (l : List Int) (c : Nat) : Nat := 2 ^ l.length - 1 - aroundN (rowN l) (2 ^ c)

def AvoidR (n : Int) (l : List Int) (a b c : Int) : Option (List Int) :=
  if IsG n l ∧ (0 ≤ a ∧ a < n) ∧ (0 ≤ b ∧ b < n) ∧ (0 ≤ c ∧ c < n) ∧ (awayN l c.toNat).testBit a.toNat = true ∧ (awayN l c.toNat).testBit b.toNat = true then
    match farK (rowN l) (awayN l c.toNat) b.toNat l.length a.toNat with
    | some k => some (wayL (rowN l) (awayN l c.toNat) b.toNat k a.toNat)
    | none => none
  else none

end Go.Proofs.YtgfndgjabhabjacDoor

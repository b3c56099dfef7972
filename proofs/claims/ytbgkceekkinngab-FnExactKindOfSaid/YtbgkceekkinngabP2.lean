/- The patterns of paths, claws and two edges. -/
import Derived.Test.YtbgkceekkinngabP1
namespace Go.Proofs.Ytbgkceekkinngab
set_option linter.unusedVariables false
set_option linter.unusedSimpArgs false
open Go.RowKit

def pathP : Nat → Nat → Bool := fun i j => decide (j = i + 1)

def clawP : Nat → Nat → Bool := fun i _ => decide (i = 0)

def twoP : Nat → Nat → Bool := fun i j => (decide (i = 0) && decide (j = 1)) || (decide (i = 2) && decide (j = 3))

/-- The pairs of four. -/
theorem pairs4 (p : Nat → Nat → Prop) (m : Nat) (hm : m = 4) : (∀ j, j < m → ∀ i, i < j → p i j) ↔ p 0 1 ∧ p 0 2 ∧ p 0 3 ∧ p 1 2 ∧ p 1 3 ∧ p 2 3 := by
  subst hm
  refine ⟨fun h => ⟨h 1 (by omega) 0 (by omega), h 2 (by omega) 0 (by omega), h 3 (by omega) 0 (by omega), h 2 (by omega) 1 (by omega), h 3 (by omega) 1 (by omega), h 3 (by omega) 2 (by omega)⟩, fun ⟨h1, h2, h3, h4, h5, h6⟩ j hj i hi => ?_⟩
  match j, i, hj, hi with
  | 1, 0, _, _ => exact h1
  | 2, 0, _, _ => exact h2
  | 3, 0, _, _ => exact h3
  | 2, 1, _, _ => exact h4
  | 3, 1, _, _ => exact h5
  | 3, 2, _, _ => exact h6

end Go.Proofs.Ytbgkceekkinngab

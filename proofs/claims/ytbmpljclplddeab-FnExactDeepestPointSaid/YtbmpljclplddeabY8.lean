/- Models by intervals: IsProperModel, PointsCovered. -/
import Derived.Test.YtbmpljclplddeabY7
namespace Go.Proofs.Ytbmpljclplddeab
set_option linter.unusedVariables false
set_option linter.unusedSimpArgs false
open Go.RowKit

/-- No interval holds another one. -/
def ProperP (l m : List Int) : Prop := IvP l m ∧ ∀ i, i < l.length → ∀ k, k < l.length → i ≠ k → ¬ (nth l i ≤ nth l k ∧ nth m k ≤ nth m i)

instance (l m : List Int) : Decidable (ProperP l m) := by unfold ProperP; exact inferInstance

end Go.Proofs.Ytbmpljclplddeab

/- Walks over IsSet and SetOf. -/
import Derived.Test.YtbmpljclplddeaaG4
import Derived.Test.YtbmpljclplddeaaGq
import Derived.Test.YtbmpljclplddeaaGl
namespace Go.Proofs.Ytbmpljclplddeaa
set_option linter.unusedVariables false
set_option linter.unusedSimpArgs false
open Go.RowKit

/-- A set of vertices of a graph. -/
def IsS (n : Int) (l : List Int) (x : Int) : Prop := IsG n l ∧ 0 ≤ x ∧ x < 2 ^ n.toNat

end Go.Proofs.Ytbmpljclplddeaa

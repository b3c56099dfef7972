/- The specification's search for a path or a hole. -/
import Derived.Test.YtbmpljclplddeabJ4
import Derived.Test.YtbmpljclplddeabP3
import Derived.Test.YtbmpljclplddeabP5
import Derived.Test.YtbmpljclplddeabL1
import Derived.Test.YtbmpljclplddeabGl
namespace Go.Proofs.Ytbmpljclplddeab
set_option linter.unusedVariables false
set_option linter.unusedSimpArgs false
open Go.RowKit

/-- What the search answers: where there is nothing, any list beside the flag of a closed search. -/
def GetsSr (B : Nat) (w : World) (cl : Bool) (r : Option (List Int)) (e : Ending) (w' : World) : Prop := ∃ v l', e = .returned (.tuple #[v, .bool (outS r)]) ∧ OwnI B w' v l' ∧ (cl = true ∧ r = none ∨ l' = outL r) ∧ Below w.heap.size w w'

end Go.Proofs.Ytbmpljclplddeab

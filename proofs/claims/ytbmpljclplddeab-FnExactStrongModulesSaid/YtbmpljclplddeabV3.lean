/- Walks over the specification's IsIndependent. -/
import Derived.Test.YtbmpljclplddeabV2
namespace Go.Proofs.Ytbmpljclplddeab
set_option linter.unusedVariables false
set_option linter.unusedSimpArgs false
open Go.RowKit

end Go.Proofs.Ytbmpljclplddeab

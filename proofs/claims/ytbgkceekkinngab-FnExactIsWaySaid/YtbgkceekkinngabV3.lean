/- Walks over the specification's IsIndependent. -/
import Derived.Test.YtbgkceekkinngabV2
namespace Go.Proofs.Ytbgkceekkinngab
set_option linter.unusedVariables false
set_option linter.unusedSimpArgs false
open Go.RowKit

end Go.Proofs.Ytbgkceekkinngab

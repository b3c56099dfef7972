/- Walks over the specification's IsIndependent. -/
import Derived.Test.YtbgkceekkinngacV2
namespace Go.Proofs.Ytbgkceekkinngac
set_option linter.unusedVariables false
set_option linter.unusedSimpArgs false
open Go.RowKit

end Go.Proofs.Ytbgkceekkinngac

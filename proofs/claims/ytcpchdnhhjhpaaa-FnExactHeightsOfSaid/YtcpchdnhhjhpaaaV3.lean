/- Walks over the specification's IsIndependent. -/
import Derived.Test.YtcpchdnhhjhpaaaV2
namespace Go.Proofs.Ytcpchdnhhjhpaaa
set_option linter.unusedVariables false
set_option linter.unusedSimpArgs false
open Go.RowKit

end Go.Proofs.Ytcpchdnhhjhpaaa

/- Walks over the specification's IsIndependent. -/
import Derived.Test.YteikiifjiapjaaaV2
namespace Go.Proofs.Yteikiifjiapjaaa
set_option linter.unusedVariables false
set_option linter.unusedSimpArgs false
open Go.RowKit

end Go.Proofs.Yteikiifjiapjaaa

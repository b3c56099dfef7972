/- Walks over the specification's IsIndependent. -/
import Derived.Test.YteikiifjiapjaabV2
namespace Go.Proofs.Yteikiifjiapjaab
set_option linter.unusedVariables false
set_option linter.unusedSimpArgs false
open Go.RowKit

end Go.Proofs.Yteikiifjiapjaab

/- Walks over the specification's IsIndependent. -/
import Derived.Test.YtnlfoecdphhhdaaV2
namespace Go.Proofs.Ytnlfoecdphhhdaa
set_option linter.unusedVariables false
set_option linter.unusedSimpArgs false
open Go.RowKit

end Go.Proofs.Ytnlfoecdphhhdaa

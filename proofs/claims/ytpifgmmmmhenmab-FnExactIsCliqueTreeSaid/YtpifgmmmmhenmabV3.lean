/- Walks over the specification's IsIndependent. -/
import Derived.Test.YtpifgmmmmhenmabV2
namespace Go.Proofs.Ytpifgmmmmhenmab
set_option linter.unusedVariables false
set_option linter.unusedSimpArgs false
open Go.RowKit

end Go.Proofs.Ytpifgmmmmhenmab

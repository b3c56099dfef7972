/- Walks over the specification's IsIndependent. -/
import Derived.Test.YtpifgmmmmhenmaaV2
namespace Go.Proofs.Ytpifgmmmmhenmaa
set_option linter.unusedVariables false
set_option linter.unusedSimpArgs false
open Go.RowKit

end Go.Proofs.Ytpifgmmmmhenmaa

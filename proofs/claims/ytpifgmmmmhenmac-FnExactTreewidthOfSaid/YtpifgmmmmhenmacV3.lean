/- Walks over the specification's IsIndependent. -/
import Derived.Test.YtpifgmmmmhenmacV2
namespace Go.Proofs.Ytpifgmmmmhenmac
set_option linter.unusedVariables false
set_option linter.unusedSimpArgs false
open Go.RowKit

end Go.Proofs.Ytpifgmmmmhenmac

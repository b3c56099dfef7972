/- Walks over the specification's IsIndependent. -/
import Derived.Test.YtpifgmmmmhenmabDoorV2
namespace Go.Proofs.YtpifgmmmmhenmabDoor
set_option linter.unusedVariables false
set_option linter.unusedSimpArgs false
open Go.RowKit

end Go.Proofs.YtpifgmmmmhenmabDoor

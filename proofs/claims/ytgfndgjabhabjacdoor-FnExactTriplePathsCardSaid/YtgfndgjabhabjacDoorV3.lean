/- Walks over the specification's IsIndependent. -/
import Derived.Test.YtgfndgjabhabjacDoorV2
namespace Go.Proofs.YtgfndgjabhabjacDoor
set_option linter.unusedVariables false
set_option linter.unusedSimpArgs false
open Go.RowKit

end Go.Proofs.YtgfndgjabhabjacDoor

/- IsOrientation. -/
import Derived.Test.YtgfndgjabhabjabY5
import Derived.Test.YtgfndgjabhabjabS3
import Derived.Test.YtgfndgjabhabjabG4
import Derived.Test.YtgfndgjabhabjabBx
namespace Go.Proofs.Ytgfndgjabhabjab
set_option linter.unusedVariables false
set_option linter.unusedSimpArgs false
open Go.RowKit

end Go.Proofs.Ytgfndgjabhabjab

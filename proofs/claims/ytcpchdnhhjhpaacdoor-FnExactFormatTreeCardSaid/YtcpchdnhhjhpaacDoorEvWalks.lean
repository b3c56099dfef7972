/- Walks over EncodeVarint. -/
import Derived.Test.YtcpchdnhhjhpaacDoorDfWalks
import Derived.Test.YtcpchdnhhjhpaacDoorEvPlain
import Derived.Test.YtcpchdnhhjhpaacDoorKit
namespace Go.Proofs.YtcpchdnhhjhpaacDoor
set_option linter.unusedVariables false
set_option linter.unusedSimpArgs false
open Go.RowKit

theorem infoByte : (Tryd.prog.info? 5).map (fun i => (i.zero, i.size, i.bytes)) = some (some (.int .u8 0), 1, 1) := by kernel_rfl

end Go.Proofs.YtcpchdnhhjhpaacDoor

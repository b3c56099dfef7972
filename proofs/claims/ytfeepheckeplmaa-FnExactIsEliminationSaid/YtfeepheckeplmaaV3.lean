/- Walks over the specification's IsIndependent. -/
import Derived.Test.YtfeepheckeplmaaV2
namespace Go.Proofs.Ytfeepheckeplmaa
open Go.RowKit

end Go.Proofs.Ytfeepheckeplmaa

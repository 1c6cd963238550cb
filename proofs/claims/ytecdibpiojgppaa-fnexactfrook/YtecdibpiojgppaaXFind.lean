/- The binary search of the program: where a name is, or would have to be. -/
import Derived.Test.YtecdibpiojgppaaXStoOkS
import Derived.Test.YtecdibpiojgppaaXCmp
import Derived.Lib.Walk
namespace Go.Proofs.Ytecdibpiojgppaa
open Go.RowKit

end Go.Proofs.Ytecdibpiojgppaa

/- The binary search of the program: where a name is, or would have to be. -/
import Derived.Test.YtfmddejgoojghabStoOkS
import Derived.Test.YtfmddejgoojghabCmp
import Derived.Lib.Walk
namespace Go.Proofs.Ytfmddejgoojghab
open Go.RowKit

end Go.Proofs.Ytfmddejgoojghab

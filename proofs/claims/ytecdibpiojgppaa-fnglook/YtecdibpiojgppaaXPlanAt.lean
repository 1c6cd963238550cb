/- planAt: which method plans at which place. By actgen.py. -/
import Derived.Test.YtecdibpiojgppaaXAct
namespace Go.Proofs.Ytecdibpiojgppaa
open Go.RowKit

end Go.Proofs.Ytecdibpiojgppaa

/- Slices of logs. -/
import Derived.Test.YtecdibpiojgppaaXShapesLog
namespace Go.Proofs.Ytecdibpiojgppaa
open Go.RowKit

abbrev disksSh : Sh (List Disk) := diskSh.sl 54 (by decide)

end Go.Proofs.Ytecdibpiojgppaa

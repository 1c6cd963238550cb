/- A small bound. -/
import Derived.Test.YtfmddejgoojghaaXPlain
namespace Go.Proofs.Ytfmddejgoojghaa
theorem smallMax {n : Nat} (h : n ≤ 1048576) : n ≤ maxLen := by unfold maxLen; omega
end Go.Proofs.Ytfmddejgoojghaa

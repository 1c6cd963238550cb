/- A small bound. -/
import Derived.Test.YtmkombbjjmmgjaaMem
namespace Go.Proofs.Ytmkombbjjmmgjaa
theorem smallMax {n : Nat} (h : n ≤ 1048576) : n ≤ maxLen := by unfold maxLen; omega
end Go.Proofs.Ytmkombbjjmmgjaa

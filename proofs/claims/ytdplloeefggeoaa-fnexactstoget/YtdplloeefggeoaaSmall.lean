/- A small bound. -/
import Derived.Test.YtdplloeefggeoaaMem
namespace Go.Proofs.Ytdplloeefggeoaa
theorem smallMax {n : Nat} (h : n ≤ 1048576) : n ≤ maxLen := by unfold maxLen; omega
end Go.Proofs.Ytdplloeefggeoaa

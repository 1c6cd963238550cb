/- One number, made. -/
import Derived.Test.YtlmcpkijcadalaaMem
namespace Go.Proofs.Ytlmcpkijcadalaa
open Go.RowKit

theorem Ints.one (w : World) (m : Int) : Ints (w.alloc (.cells #[.int .i64 m] 3)) (w.alloc (.cells #[.int .i64 m] 3)).heap.size (.slice (some ⟨w.heap.size, 0, none⟩) 1 1) [m] := by
  refine ⟨some ⟨w.heap.size, 0, none⟩, 1, rfl, Nat.le_refl _, by unfold maxLen; omega, fun _ => ⟨w.heap.size, 0, rfl, by simp, fun j hj => ?_⟩⟩
  have hj0 : j = 0 := by simp at hj; exact hj
  subst hj0
  exact (Held.new w #[.int .i64 m] 3).of 0 _ rfl

end Go.Proofs.Ytlmcpkijcadalaa

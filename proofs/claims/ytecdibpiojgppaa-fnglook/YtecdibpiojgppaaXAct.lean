/- What is done as a value behind the interface. By actgen.py. -/
import Derived.Test.YtecdibpiojgppaaXPlanM3
import Derived.Test.YtecdibpiojgppaaXOpOk
namespace Go.Proofs.Ytecdibpiojgppaa
open Go.RowKit

theorem opK_kind {o : Op} (ho : opB o = true) : o.kind = 1 ∨ o.kind = 2 ∨ o.kind = 3 ∨ o.kind = 4 ∨ o.kind = 5 := by
  simp only [opB, Bool.and_eq_true] at ho
  obtain ⟨-, -, -, -, -, -, g⟩ := ho
  unfold opK at g
  by_cases h1 : o.kind = 1
  · exact .inl h1
  by_cases h2 : o.kind = 2
  · exact .inr (.inl h2)
  by_cases h3 : o.kind = 3
  · exact .inr (.inr (.inl h3))
  by_cases h4 : o.kind = 4
  · exact .inr (.inr (.inr (.inl h4)))
  by_cases h5 : o.kind = 5
  · exact .inr (.inr (.inr (.inr h5)))
  simp [h1, h2, h3, h4, h5] at g
end Go.Proofs.Ytecdibpiojgppaa

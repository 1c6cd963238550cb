/- From the reading of a number or a bool that came in. -/
import Derived.Test.YtecdibpiojgppaaFrame
namespace Go.Proofs.Ytecdibpiojgppaa
open Go.ChangeShapes Go.WideShapes Go.ChangeAt Go.RowKit Go.Joins

section
variable {H : Type} {enc : TypeId × Value → H} {W : World}
set_option maxRecDepth 100000 in
theorem intArg {b0 : Nat} {v : Value} {d : DataW H} {p : List MemPlace} (hv : Value.okWide Try.prog W .any b0 3 v) (h : DataW.Trod enc Try.prog W 0 (fun _ => true) true 3 v d p) : ∃ n, v = .int .i64 n ∧ (Lit.int .i64 n).wf = true := by
  obtain ⟨n, h1, _, _, h2⟩ := open_int Try.underlying3 hv h
  exact ⟨n, h1, h2⟩
set_option maxRecDepth 100000 in
theorem boolArg {b0 : Nat} {v : Value} {d : DataW H} {p : List MemPlace} (hv : Value.okWide Try.prog W .any b0 4 v) (h : DataW.Trod enc Try.prog W 0 (fun _ => true) true 4 v d p) : ∃ n, v = .bool n := by
  obtain ⟨n, h1, _⟩ := open_bool Try.underlying4 hv h
  exact ⟨n, h1⟩
end

end Go.Proofs.Ytecdibpiojgppaa

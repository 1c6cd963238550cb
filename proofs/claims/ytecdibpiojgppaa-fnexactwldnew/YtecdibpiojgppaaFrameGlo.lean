/- From the reading of slices that came in, and of stores in them. -/
import Derived.Test.YtecdibpiojgppaaFrameRow
import Derived.Test.YtecdibpiojgppaaShapesSto
namespace Go.Proofs.Ytecdibpiojgppaa
open Go.ChangeShapes Go.WideShapes Go.ChangeAt Go.RowKit Go.Joins Go.Deep

section
variable {H : Type} {enc : TypeId × Value → H} {W : World}
set_option maxRecDepth 100000 in
/-- A slice. -/
theorem rowArg {α : Type} {A : Sh α} {t e : TypeId} (ht : Try.prog.underlying t = some (.slice e)) (hc : Try.prog.cellsOf e = A.wd) (hwd : 0 < A.wd) (hA : Reads A e W enc) {b0 : Nat} {v : Value} {d : DataW H} {p : List MemPlace}
    (hv : Value.okWide Try.prog W .any b0 t v) (h : DataW.Trod enc Try.prog W 0 (fun _ => true) true t v d p) : ∃ xs, A.Row W W.heap.size v xs := by
  obtain ⟨a, len, cap, rfl⟩ := okWide_slice ht hv
  obtain ⟨fuel, hf⟩ := h
  obtain ⟨v', xs, e1, hx⟩ := reads_row ht hc hwd hA hf
  have : Value.slice a len cap = v' := by simpa [Value.cells] using e1
  exact ⟨xs, this ▸ hx⟩
end

end Go.Proofs.Ytecdibpiojgppaa

/- From the reading of slices that came in, and of stores in them. -/
import Derived.Test.YtlmcpkijcadalaaFrameRow
import Derived.Test.YtlmcpkijcadalaaShapesSto
namespace Go.Proofs.Ytlmcpkijcadalaa
open Go.ChangeShapes Go.WideShapes Go.ChangeAt Go.RowKit Go.Joins Go.Deep

section
variable {H : Type} {enc : TypeId × Value → H} {W : World}
theorem reads_sto : Reads stoSh 118 W enc := fun fuel cs y h => by
  obtain ⟨y0, n, _, hl, t0⟩ := trod_struct1 Try.underlying118 h
  obtain ⟨u, rfl⟩ := list1 (hl.trans cellsSto)
  have t0' : DataW.trod enc Try.prog W 0 (fun _ => true) true n 116 [u] = some y0 := by
    have := t0
    simp only [cellsSlI] at this
    simpa using this
  obtain ⟨its, hits⟩ := itemsOf t0'
  exact ⟨⟨its⟩, sto_rel.2 ⟨u, rfl, items_row.2 hits⟩⟩
set_option maxRecDepth 100000 in
/-- A slice. -/
theorem rowArg {α : Type} {A : Sh α} {t e : TypeId} (ht : Try.prog.underlying t = some (.slice e)) (hc : Try.prog.cellsOf e = A.wd) (hwd : 0 < A.wd) (hA : Reads A e W enc) {b0 : Nat} {v : Value} {d : DataW H} {p : List MemPlace}
    (hv : Value.okWide Try.prog W .any b0 t v) (h : DataW.Trod enc Try.prog W 0 (fun _ => true) true t v d p) : ∃ xs, A.Row W W.heap.size v xs := by
  obtain ⟨a, len, cap, rfl⟩ := okWide_slice ht hv
  obtain ⟨fuel, hf⟩ := h
  obtain ⟨v', xs, e1, hx⟩ := reads_row ht hc hwd hA hf
  have : Value.slice a len cap = v' := by simpa [Value.cells] using e1
  exact ⟨xs, this ▸ hx⟩
end

end Go.Proofs.Ytlmcpkijcadalaa

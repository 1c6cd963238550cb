/- From the reading of something sent that came in. -/
import Derived.Test.YtlmcpkijcadalaaFrameOp
import Derived.Test.YtlmcpkijcadalaaMsgP
namespace Go.Proofs.Ytlmcpkijcadalaa
open Go.ChangeShapes Go.WideShapes Go.ChangeAt Go.RowKit Go.Joins

theorem trod_struct5 {P : Program} {H : Type} {enc : TypeId × Value → H} {w : World} {base : Nat} {spare : Nat → Bool} {held : Bool} {t : TypeId} {f0 f1 f2 f3 f4 : Field} {fuel : Nat} {cs : List Value} {x : DataW H × List MemPlace} (ht : P.underlying t = some (.struct #[f0, f1, f2, f3, f4])) (h : DataW.trod enc P w base spare held fuel t cs = some x) :
    ∃ y0 y1 y2 y3 y4 n, cs.length = P.cellsOf t ∧ DataW.trod enc P w base spare held n f0.type ((cs.drop f0.offset).take (P.cellsOf f0.type)) = some y0 ∧ DataW.trod enc P w base spare held n f1.type ((cs.drop f1.offset).take (P.cellsOf f1.type)) = some y1 ∧ DataW.trod enc P w base spare held n f2.type ((cs.drop f2.offset).take (P.cellsOf f2.type)) = some y2 ∧ DataW.trod enc P w base spare held n f3.type ((cs.drop f3.offset).take (P.cellsOf f3.type)) = some y3 ∧ DataW.trod enc P w base spare held n f4.type ((cs.drop f4.offset).take (P.cellsOf f4.type)) = some y4 := by
  obtain ⟨xs, n, _, rfl, hl, hlen, hf⟩ := DataW.trod_struct ht h
  match xs, hlen with
  | [y0, y1, y2, y3, y4], _ => exact ⟨y0, y1, y2, y3, y4, n, hl, by simpa using hf 0 f0 rfl, by simpa using hf 1 f1 rfl, by simpa using hf 2 f2 rfl, by simpa using hf 3 f3 rfl, by simpa using hf 4 f4 rfl⟩
theorem cellsMsg : Try.prog.cellsOf 25 = 11 := by kernel_rfl
theorem list11 {α : Type} {l : List α} (h : l.length = 11) : ∃ a b c d e f g i j k m, l = [a, b, c, d, e, f, g, i, j, k, m] := by
  match l, h with
  | [a, b, c, d, e, f, g, i, j, k, m], _ => exact ⟨a, b, c, d, e, f, g, i, j, k, m, rfl⟩
section
variable {H : Type} {enc : TypeId × Value → H} {W : World}
set_option maxRecDepth 100000 in
theorem msgCells {fuel : Nat} {cs : List Value} {y : DataW H × List MemPlace} (h : DataW.trod enc Try.prog W 0 (fun _ => true) true fuel 25 cs = some y) : ∃ m : Msg, cs = msgC m := by
  obtain ⟨y0, y1, y2, y3, y4, n, hl, e0, e1, e2, e3, e4⟩ := trod_struct5 Try.underlying25 h
  obtain ⟨a, b, c, d, e, f, g, i, j, k, m, rfl⟩ := list11 (hl.trans cellsMsg)
  simp only [cellsInt] at e0 e1 e2 e3
  simp only [cellsOp] at e4
  obtain ⟨n0, q0, _⟩ := DataW.trod_int Try.underlying3 e0
  obtain ⟨n1, q1, _⟩ := DataW.trod_int Try.underlying3 e1
  obtain ⟨n2, q2, _⟩ := DataW.trod_int Try.underlying3 e2
  obtain ⟨n3, q3, _⟩ := DataW.trod_int Try.underlying3 e3
  obtain ⟨o, q4⟩ := opCells e4
  simp at q0 q1 q2 q3 q4
  subst q0 q1 q2 q3
  obtain ⟨rfl, rfl, rfl, rfl, rfl, rfl, rfl⟩ := q4
  exact ⟨⟨n0, n1, n2, n3, o⟩, rfl⟩
set_option maxRecDepth 100000 in
theorem msgArg {b0 : Nat} {v : Value} {d : DataW H} {p : List MemPlace} (hv : Value.okWide Try.prog W .any b0 25 v) (h : DataW.Trod enc Try.prog W 0 (fun _ => true) true 25 v d p) : ∃ m : Msg, v = msgV m := by
  obtain ⟨cs, rfl, hsz⟩ := okWide_struct Try.underlying25 hv
  obtain ⟨fuel, hf⟩ := h
  obtain ⟨l⟩ := cs
  obtain ⟨m, hm⟩ := msgCells hf
  simp [Value.cells] at hm
  exact ⟨m, by rw [hm]⟩
end

end Go.Proofs.Ytlmcpkijcadalaa

/- Texts that follow each other, merged: FrameOp, OpSh. -/
import Derived.Test.YtecdibpiojgppaaXFrameSto
import Derived.Test.YtecdibpiojgppaaXOpOkS
import Derived.Test.YtecdibpiojgppaaXShapes

/- From the reading of something that is done that came in. -/
namespace Go.Proofs.Ytecdibpiojgppaa
open Go.ChangeShapes Go.WideShapes Go.ChangeAt Go.RowKit Go.Joins

theorem list7 {α : Type} {l : List α} (h : l.length = 7) : ∃ a b c d e f g, l = [a, b, c, d, e, f, g] := by
  match l, h with
  | [a, b, c, d, e, f, g], _ => exact ⟨a, b, c, d, e, f, g, rfl⟩
theorem trod_struct7 {P : Program} {H : Type} {enc : TypeId × Value → H} {w : World} {base : Nat} {spare : Nat → Bool} {held : Bool} {t : TypeId} {f0 f1 f2 f3 f4 f5 f6 : Field} {fuel : Nat} {cs : List Value} {x : DataW H × List MemPlace} (ht : P.underlying t = some (.struct #[f0, f1, f2, f3, f4, f5, f6])) (h : DataW.trod enc P w base spare held fuel t cs = some x) :
    ∃ y0 y1 y2 y3 y4 y5 y6 n, cs.length = P.cellsOf t ∧ DataW.trod enc P w base spare held n f0.type ((cs.drop f0.offset).take (P.cellsOf f0.type)) = some y0 ∧ DataW.trod enc P w base spare held n f1.type ((cs.drop f1.offset).take (P.cellsOf f1.type)) = some y1 ∧ DataW.trod enc P w base spare held n f2.type ((cs.drop f2.offset).take (P.cellsOf f2.type)) = some y2 ∧ DataW.trod enc P w base spare held n f3.type ((cs.drop f3.offset).take (P.cellsOf f3.type)) = some y3 ∧ DataW.trod enc P w base spare held n f4.type ((cs.drop f4.offset).take (P.cellsOf f4.type)) = some y4 ∧ DataW.trod enc P w base spare held n f5.type ((cs.drop f5.offset).take (P.cellsOf f5.type)) = some y5 ∧ DataW.trod enc P w base spare held n f6.type ((cs.drop f6.offset).take (P.cellsOf f6.type)) = some y6 := by
  obtain ⟨xs, n, _, rfl, hl, hlen, hf⟩ := DataW.trod_struct ht h
  match xs, hlen with
  | [y0, y1, y2, y3, y4, y5, y6], _ => exact ⟨y0, y1, y2, y3, y4, y5, y6, n, hl, by simpa using hf 0 f0 rfl, by simpa using hf 1 f1 rfl, by simpa using hf 2 f2 rfl, by simpa using hf 3 f3 rfl, by simpa using hf 4 f4 rfl, by simpa using hf 5 f5 rfl, by simpa using hf 6 f6 rfl⟩
theorem cellsOp : Try.prog.cellsOf 167 = 7 := by kernel_rfl

section
variable {H : Type} {enc : TypeId × Value → H} {W : World}
set_option maxRecDepth 100000 in
theorem opCells {fuel : Nat} {cs : List Value} {y : DataW H × List MemPlace} (h : DataW.trod enc Try.prog W 0 (fun _ => true) true fuel 167 cs = some y) :
    ∃ o : Op, cs = [.int .i64 o.kind, .int .i64 o.who, .int .i64 o.inn, .int .i64 o.code, .int .i64 o.sec, .int .i64 o.fam, .int .i64 o.gen] := by
  obtain ⟨y0, y1, y2, y3, y4, y5, y6, n, hl, e0, e1, e2, e3, e4, e5, e6⟩ := trod_struct7 Try.underlying167 h
  obtain ⟨a, b, c, d, e, f, g, rfl⟩ := list7 (hl.trans cellsOp)
  simp only [cellsInt] at e0 e1 e2 e3 e4 e5 e6
  obtain ⟨n0, q0, _⟩ := DataW.trod_int Try.underlying3 e0
  obtain ⟨n1, q1, _⟩ := DataW.trod_int Try.underlying3 e1
  obtain ⟨n2, q2, _⟩ := DataW.trod_int Try.underlying3 e2
  obtain ⟨n3, q3, _⟩ := DataW.trod_int Try.underlying3 e3
  obtain ⟨n4, q4, _⟩ := DataW.trod_int Try.underlying3 e4
  obtain ⟨n5, q5, _⟩ := DataW.trod_int Try.underlying3 e5
  obtain ⟨n6, q6, _⟩ := DataW.trod_int Try.underlying3 e6
  simp at q0 q1 q2 q3 q4 q5 q6
  subst q0 q1 q2 q3 q4 q5 q6
  exact ⟨⟨n0, n1, n2, n3, n4, n5, n6⟩, rfl⟩
set_option maxRecDepth 100000 in
theorem opArg {b0 : Nat} {v : Value} {d : DataW H} {p : List MemPlace} (hv : Value.okWide Try.prog W .any b0 167 v) (h : DataW.Trod enc Try.prog W 0 (fun _ => true) true 167 v d p) : ∃ o : Op, v = opV o := by
  obtain ⟨cs, rfl, hsz⟩ := okWide_struct Try.underlying167 hv
  obtain ⟨fuel, hf⟩ := h
  obtain ⟨l⟩ := cs
  obtain ⟨o, ho⟩ := opCells hf
  simp [Value.cells] at ho
  exact ⟨o, by rw [ho]⟩
end

end Go.Proofs.Ytecdibpiojgppaa

/- The shape of what is done. -/
namespace Go.Proofs.Ytecdibpiojgppaa
open Go.RowKit

/-- Something that is done: seven numbers. -/
def opSh : Sh Op where
  wd := 7
  zc := [.int .i64 0, .int .i64 0, .int .i64 0, .int .i64 0, .int .i64 0, .int .i64 0, .int .i64 0]
  z := ⟨0, 0, 0, 0, 0, 0, 0⟩
  base := 7
  rel _ _ cs o := cs = [.int .i64 o.kind, .int .i64 o.who, .int .i64 o.inn, .int .i64 o.code, .int .i64 o.sec, .int .i64 o.fam, .int .i64 o.gen]
  own _ _ cs o := cs = [.int .i64 o.kind, .int .i64 o.who, .int .i64 o.inn, .int .i64 o.code, .int .i64 o.sec, .int .i64 o.fam, .int .i64 o.gen]
  wt _ := 0
  cnt _ := 7
  mkd k o := o = ⟨k, k + 1, k + 2, k + 3, k + 4, k + 5, k + 6⟩
  zlen := rfl
  rlen h := by rw [h]; rfl
  rone h := by rw [h]; intro u hu; simp at hu; rcases hu with rfl | rfl | rfl | rfl | rfl | rfl | rfl <;> rfl
  rkeep h _ := h
  rmore h _ := h
  omono h _ := h
  okeep h _ := h
  orel h := h
  ozero _ _ := rfl
  ocap h := h
  cntLe _ := by omega

end Go.Proofs.Ytecdibpiojgppaa

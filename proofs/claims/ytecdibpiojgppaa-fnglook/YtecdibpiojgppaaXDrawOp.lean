/- Something that is done is drawn. By drawopgen.py. -/
import Derived.Test.YtecdibpiojgppaaXFrame
import Derived.Test.YtecdibpiojgppaaXIntsOne
import Derived.Test.YtecdibpiojgppaaXPlanSh
import Derived.Test.YtecdibpiojgppaaXWrts
import Derived.Deep.CutBlock
import Derived.Deep.DeepCutAuto
namespace Go.Proofs.Ytecdibpiojgppaa
open Go.RowKit

def OpDrew (g : Nat) (P : Int) (w : World) (e : Ending) (w' : World) : Prop := ∃ o : Op, e = .returned (opV o) ∧ Drew g P w w'
/-- What lies in memory ahead of the end: the result's block R, the block O of what is drawn. -/
structure OpAt (w0 : World) (g : Nat) (P : Int) (R O : Nat) (a0 a1 a2 a3 a4 a5 a6 : Int) (w : World) : Prop where
  res : Held w R [.int .i64 0, .int .i64 0, .int .i64 0, .int .i64 0, .int .i64 0, .int .i64 0, .int .i64 0]
  op : Held w O [.int .i64 a0, .int .i64 a1, .int .i64 a2, .int .i64 a3, .int .i64 a4, .int .i64 a5, .int .i64 a6]
  drew : Drew g P w0 w
  gw : g < w0.heap.size
  hR : w0.heap.size ≤ R
  hO : w0.heap.size ≤ O
  ne : R ≠ O
section
variable {w0 w w' : World} {g R O : Nat} {P P' : Int} {a0 a1 a2 a3 a4 a5 a6 : Int}
theorem OpAt.pick (h : OpAt w0 g P R O a0 a1 a2 a3 a4 a5 a6 w) (hd : Drew g P' w w') : OpAt w0 g P' R O a0 a1 a2 a3 a4 a5 a6 w' :=
  ⟨h.res.drew hd (by have := h.gw; have := h.hR; omega), h.op.drew hd (by have := h.gw; have := h.hO; omega), h.drew.trans hd, h.gw, h.hR, h.hO, h.ne⟩
theorem OpAt.drewOne (h : OpAt w0 g P R O a0 a1 a2 a3 a4 a5 a6 w) : OpAt w0 g P R O a0 a1 a2 a3 a4 a5 a6 w.drew := ⟨h.res, h.op, h.drew.then_ (Below.refl _ w).drew, h.gw, h.hR, h.hO, h.ne⟩
theorem OpAt.put (h : OpAt w0 g P R O a0 a1 a2 a3 a4 a5 a6 w) (b0 b1 b2 b3 b4 b5 b6 : Int) : OpAt w0 g P R O b0 b1 b2 b3 b4 b5 b6 (put7 w O (.int .i64 b0) (.int .i64 b1) (.int .i64 b2) (.int .i64 b3) (.int .i64 b4) (.int .i64 b5) (.int .i64 b6)) :=
  ⟨h.res.far7 h.ne _ _ _ _ _ _ _, h.op.put7 _ _ _ _ _ _ _, h.drew.put7 O h.hO h.gw _ _ _ _ _ _ _, h.gw, h.hR, h.hO, h.ne⟩
theorem OpAt.more (h : OpAt w0 g P R O a0 a1 a2 a3 a4 a5 a6 w) (hP : P ≤ P') : OpAt w0 g P' R O a0 a1 a2 a3 a4 a5 a6 w := ⟨h.res, h.op, ⟨h.drew.1.more hP, h.drew.2⟩, h.gw, h.hR, h.hO, h.ne⟩
theorem OpAt.rds (h : OpAt w0 g P R O a0 a1 a2 a3 a4 a5 a6 w) : Rds w g P := h.drew.1
end

end Go.Proofs.Ytecdibpiojgppaa

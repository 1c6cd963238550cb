/- What is sent: plain facts. -/
import Derived.Test.YtlmcpkijcadalaaOpOk
import Derived.Test.YtlmcpkijcadalaaPlcOk
import Derived.Test.YtlmcpkijcadalaaNoteOk
namespace Go.Proofs.Ytlmcpkijcadalaa
open Go.RowKit

/-- What is sent. -/
structure Msg where
  kind : Int
  to_ : Int
  frm : Int
  tx : Int
  op : Op
deriving DecidableEq
abbrev msgC (m : Msg) : List Value := [.int .i64 m.kind, .int .i64 m.to_, .int .i64 m.frm, .int .i64 m.tx, .int .i64 m.op.kind, .int .i64 m.op.who, .int .i64 m.op.inn, .int .i64 m.op.code, .int .i64 m.op.sec, .int .i64 m.op.fam, .int .i64 m.op.gen]
abbrev msgV (m : Msg) : Value := .agg #[.int .i64 m.kind, .int .i64 m.to_, .int .i64 m.frm, .int .i64 m.tx, .int .i64 m.op.kind, .int .i64 m.op.who, .int .i64 m.op.inn, .int .i64 m.op.code, .int .i64 m.op.sec, .int .i64 m.op.fam, .int .i64 m.op.gen]
def noOp : Op := ⟨0, 0, 0, 0, 0, 0, 0⟩
/-- Something is nothing that is done. -/
def noneB (o : Op) : Bool := o.kind == 0 && (o.who == 0 && (o.inn == 0 && (o.code == 0 && (o.sec == 0 && (o.fam == 0 && o.gen == 0)))))
theorem noneB_eq {o : Op} (h : noneB o = true) : o = ⟨0, 0, 0, 0, 0, 0, 0⟩ := by
  simp only [noneB, Bool.and_eq_true, beq_iff_eq] at h
  obtain ⟨a, b, c, d, e, f, g⟩ := h
  cases o; simp_all
def toB (m : Msg) : Bool := m.frm == 0 && inB m.to_ 1 3
def frB (m : Msg) : Bool := m.to_ == 0 && inB m.frm 1 3
/-- What may be sent. -/
def msgB (m : Msg) : Bool :=
  inB m.tx 0 29 && (if m.kind = 1 then toB m && opB m.op else if m.kind = 2 ∨ m.kind = 3 then toB m && noneB m.op else if m.kind = 4 ∨ m.kind = 5 ∨ m.kind = 6 ∨ m.kind = 7 then frB m && noneB m.op else false)

end Go.Proofs.Ytlmcpkijcadalaa

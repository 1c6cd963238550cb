/- What OpOk of the program answers: the same as the model's. By opgen2.py. -/
import Derived.Test.YtecdibpiojgppaaXPlanSh
namespace Go.Proofs.Ytecdibpiojgppaa
open Go.RowKit

/-- The numbers that its kind has; whether that is one. -/
def ownO (o : Op) : Op :=
  if (o.kind == 1 || o.kind == 5) = true then ⟨o.kind, o.who, o.inn, 0, 0, 0, 0⟩ else if (o.kind == 2) = true then ⟨o.kind, o.who, o.inn, o.code, o.sec, 0, 0⟩ else if (o.kind == 3) = true then ⟨o.kind, 0, 0, o.code, o.sec, o.fam, 0⟩ else if (o.kind == 4) = true then ⟨o.kind, 0, 0, 0, 0, o.fam, o.gen⟩ else ⟨0, 0, 0, 0, 0, 0, 0⟩
def ownK (o : Op) : Bool := o.kind == 1 || (o.kind == 5 || (o.kind == 2 || (o.kind == 3 || o.kind == 4)))
def Owned (o : Op) (w : World) (e : Ending) (w' : World) : Prop := e = .returned (.tuple #[opV (ownO o), .bool (ownK o)]) ∧ Below w.heap.size w w'
end Go.Proofs.Ytecdibpiojgppaa

/- (*attempt).plan: what every place would write, or nothing. -/
import Derived.Test.YtecdibpiojgppaaXStoDoI
import Derived.Test.YtecdibpiojgppaaXOpPlaces
import Derived.Test.YtecdibpiojgppaaXShal
import Derived.Deep.CutRange
import Derived.Deep.DeepCutAuto
namespace Go.Proofs.Ytecdibpiojgppaa
open Go.RowKit

/-- Only the way that goes on. -/
abbrev calm (Q : Exit → Act → World → Prop) : Exit → Act → World → Prop := fun e a w => match e with
  | .normal => Q .normal a w
  | _ => False
/-- What a place keeps. -/
def atP (xs : List Sto) (q : Int) : List Item := (xs[(q - 1).toNat]?).elim [] (·.items)
def okP (xs : List Sto) (tx : Int) (o : Op) (q : Int) : Bool := (plcP (atP xs q) q tx o).ok
def pendP (xs : List Sto) (tx : Int) (o : Op) (q : Int) : Pend := ⟨q, (plcP (atP xs q) q tx o).writes⟩
section
variable {w W W' : World} {p : Nat} {us vp uw : Value} {xs : List Sto} {o : Op} {S1 S2 : Nat → Prop} {ps : List Pend}
end

end Go.Proofs.Ytecdibpiojgppaa

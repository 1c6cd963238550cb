/- (*attempt).plan: what every place would write, or nothing. -/
import Derived.Test.YteccebjnopladaaXStoDoI
import Derived.Test.YteccebjnopladaaXOutMay2
import Derived.Test.YteccebjnopladaaXShal
import Derived.Deep.CutRange
import Derived.Deep.DeepCutAuto
namespace Go.Proofs.Yteccebjnopladaa
open Go.RowKit

/-- Only the way that goes on. -/
abbrev calm (Q : Exit → Act → World → Prop) : Exit → Act → World → Prop := fun e a w => match e with
  | .normal => Q .normal a w
  | _ => False
theorem wp_calm {P : Program} {c : Code} {Q : Exit → Act → World → Prop} {a : Act} {w : World} (h : Code.wp P c (calm Q) a w) : Code.wp P c Q a w :=
  Code.wp_mono (fun e a w h => by cases e <;> first | exact h | exact h.elim) h
/-- What a place keeps. -/
def atP (xs : List Sto) (q : Int) : List Item := (xs[(q - 1).toNat]?).elim [] (·.items)
def okP (xs : List Sto) (tx : Int) (o : Op) (q : Int) : Bool := (plcP (atP xs q) q tx o).ok
def pendP (xs : List Sto) (tx : Int) (o : Op) (q : Int) : Pend := ⟨q, (plcP (atP xs q) q tx o).writes⟩
section
variable {w W W' : World} {p : Nat} {us vp uw : Value} {xs : List Sto} {o : Op} {S1 S2 : Nat → Prop} {ps : List Pend}
end

theorem places_len (o : Op) : (placesP o).length ≤ 3 := by
  unfold placesP
  split
  · unfold upto
    refine Nat.le_trans (List.length_filter_le _ _) ?_
    simp
  · simp
end Go.Proofs.Yteccebjnopladaa

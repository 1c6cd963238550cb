/- Texts that follow each other, merged: Ins, Ins2. -/
import Derived.Test.YtecdibpiojgppaaXRowOps
import Derived.Test.YtecdibpiojgppaaXExItems
import Derived.Lib.Overlaps
import Derived.Lib.AppendZerosOnto
import Derived.Shelf.RegionOpenPlain
import Derived.WalkKit
import Derived.Lib.Walk

/- slices.Insert of one thing, and slices.Delete of one, at things of the call's own. -/
namespace Go.Proofs.Ytecdibpiojgppaa
open Go.RowKit Go.Shelf

section
variable {P : Program}
end

/-- What a thing put in, or taken out, leaves. -/
def Changed (S : Nat → Prop) (v : Value) (xs : List Item) (w : World) (e : Ending) (w' : World) : Prop :=
  ∃ v', e = .returned v' ∧ itSh.Own 102 w' (fun b => S b ∨ w.heap.size ≤ b) v' xs ∧ w.grownBy w' v.ownBlock

end Go.Proofs.Ytecdibpiojgppaa

/- slices.Insert of one thing where there is no room: a new row; and wherever it goes. -/
namespace Go.Proofs.Ytecdibpiojgppaa
open Go.RowKit Go.Shelf

end Go.Proofs.Ytecdibpiojgppaa

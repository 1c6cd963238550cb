/- Texts that follow each other, merged: Del, ExTo. -/
import Derived.Test.YtecdibpiojgppaaXIns
import Derived.Test.YtecdibpiojgppaaXExItems

/- slices.Delete of one thing of the call's own. -/
namespace Go.Proofs.Ytecdibpiojgppaa
open Go.RowKit Go.Shelf

end Go.Proofs.Ytecdibpiojgppaa

/- Copies of things and of stores, in new memory. -/
namespace Go.Proofs.Ytecdibpiojgppaa
open Go.RowKit

theorem infoItem : (Try.prog.info? 102).map (fun i => (i.zero, i.size, i.bytes)) = some (some (.agg #[.string ByteArray.empty, .slice none 0 0]), 2, 40) := by kernel_rfl

/-- What a copy of a store leaves: a slice of its own. -/
def Copied (its : List Item) (w : World) (e : Ending) (w' : World) : Prop :=
  ∃ g, e = .returned (.agg #[.slice (some ⟨g, 0, none⟩) its.length its.length]) ∧ w.heap.size ≤ g ∧ Mine 102 3 w' g its its.length its.length ∧ Below w.heap.size w w'

end Go.Proofs.Ytecdibpiojgppaa

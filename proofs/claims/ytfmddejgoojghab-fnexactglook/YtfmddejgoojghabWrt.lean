/- What WrtOk answers, of the program and of the model: the same bool of every write. -/
import Derived.Test.YtfmddejgoojghabVal
namespace Go.Proofs.Ytfmddejgoojghab
open Go.RowKit

/-- Something that may be written: a name, and numbers, or none where it goes. -/
def wrtB (key : ByteArray) (del : Bool) (val : List Int) : Bool := keyB key && if del then val.isEmpty else valB val
theorem wrtB_key {key : ByteArray} {del : Bool} {val : List Int} (h : keyB key = false) : wrtB key del val = false := by simp [wrtB, h]
theorem wrtB_del {key : ByteArray} {val : List Int} (h : keyB key = true) : wrtB key true val = ((val.length : Int) == 0) := by
  simp only [wrtB, h, Bool.true_and, if_true]; cases val <;> simp; omega
theorem wrtB_val {key : ByteArray} {val : List Int} (h : keyB key = true) : wrtB key false val = valB val := by simp [wrtB, h]

end Go.Proofs.Ytfmddejgoojghab

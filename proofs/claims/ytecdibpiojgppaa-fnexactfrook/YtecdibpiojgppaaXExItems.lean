/- The helpers of the exact laws over things and stores: a count, a copy, a comparison. -/
import Derived.Test.YtecdibpiojgppaaXExInts
import Derived.Test.YtecdibpiojgppaaXMine
import Derived.Deep.RegionHeld3
namespace Go.Proofs.Ytecdibpiojgppaa
open Go.RowKit

/-- What is left behind n and then m more; -1 where that is less than none. -/
def lessTwo (left n m : Int) : Int := if left < n then -1 else less (left - n) m
theorem lessTwo_no {left n m : Int} (h : left < n) : lessTwo left n m = -1 := by unfold lessTwo; rw [if_pos h]
theorem lessTwo_yes {left n m : Int} (h : n ≤ left) : lessTwo left n m = less (left - n) m := by unfold lessTwo; rw [if_neg (by omega)]
theorem lessTwo_bound {left n m : Int} (hn : 0 ≤ n) (hm : 0 ≤ m) (h : 0 ≤ lessTwo left n m) : n ≤ left ∧ m ≤ left ∧ lessTwo left n m ≤ left := by
  unfold lessTwo less at *
  split at h
  · omega
  · split at h
    · omega
    · rename_i h1 h2
      rw [if_neg h1, if_neg h2]; omega
theorem lessTwo_low {left n m : Int} (hn : 0 ≤ n) (hm : 0 ≤ m) (hl : 0 ≤ left) : -1 ≤ lessTwo left n m ∧ lessTwo left n m ≤ left := by
  unfold lessTwo less
  split
  · omega
  · split <;> omega

/-- Of the first k things none is long. -/
def Short (its : List Item) (k : Nat) : Prop := ∀ j it, j < k → its[j]? = some it → it.key.size ≤ 1048576 ∧ it.val.length ≤ 1048576
theorem Short.start (its : List Item) : Short its 0 := fun j _ h => absurd h (by omega)
theorem Short.step {its : List Item} {k : Nat} {it : Item} (h : Short its k) (hk : its[k]? = some it) (h1 : it.key.size ≤ 1048576) (h2 : it.val.length ≤ 1048576) : Short its (k + 1) := by
  intro j x hj hx
  rcases Nat.lt_or_ge j k with hlt | hge
  · exact h j x hlt hx
  · have : j = k := by omega
    subst this
    rw [hk] at hx
    injection hx with hx
    rw [← hx]; exact ⟨h1, h2⟩
/-- What a count of things says: a number from -1 to what was left; where it is not below 0 they are few, and short. -/
def Counted (left : Int) (its : List Item) (w : World) (e : Ending) (w' : World) : Prop :=
  ∃ r : Int, e = .returned (.int .i64 r) ∧ -1 ≤ r ∧ r ≤ left ∧ (0 ≤ r → its.length ≤ 1048576 ∧ Short its its.length) ∧ Below w.heap.size w w'

end Go.Proofs.Ytecdibpiojgppaa

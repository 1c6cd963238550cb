/- Texts that follow each other, merged: StoDoI, GloWrite, GloPlan. -/
import Derived.Test.YtecdibpiojgppaaXCopyI
import Derived.Test.YtecdibpiojgppaaXStoDoS
import Derived.Test.YtecdibpiojgppaaXShal
import Derived.Defers

/- The program's StoDo. -/
namespace Go.Proofs.Ytecdibpiojgppaa
open Go.RowKit

/-- A store of its own, as a record. -/
def StoMade (its : List Item) (w : World) (e : Ending) (w' : World) : Prop :=
  ∃ u, e = .returned (.agg #[u]) ∧ itSh.Own 102 w' (fun b => w.heap.size ≤ b ∧ b < w'.heap.size) u its ∧ Below w.heap.size w w'
end Go.Proofs.Ytecdibpiojgppaa

/- What waits, and how the program writes it. -/
namespace Go.Proofs.Ytecdibpiojgppaa
open Go.RowKit

/-- What a place will write. -/
structure Pend where
  place : Int
  writes : List Wr
def pendSh : Sh Pend := (Sh.int.pair wrsSh).conv (fun x => (x.place, x.writes)) (fun p => ⟨p.1, p.2⟩) rfl
section
variable {w : World} {B : Nat} {S : Nat → Prop} {v : Value}
end
/-- What writing all that waits does to what some places keep. -/
def putP (xs : List Sto) (p : Pend) : List Sto := xs.set (p.place - 1).toNat ⟨stoDo ((xs[(p.place - 1).toNat]?).elim [] (·.items)) p.writes⟩
theorem putP_len (xs : List Sto) (p : Pend) : (putP xs p).length = xs.length := by unfold putP; rw [List.length_set]

section
variable {w W W' : World} {p : Nat} {us uw : Value} {ps : List Pend} {S1 S2 : Nat → Prop} {ys : List Sto}
theorem putP_eq {x : Pend} {i : Nat} {y : Sto} (hi : x.place = (i : Int) + 1) (hy : ys[i]? = some y) : putP ys x = ys.set i ⟨stoDo y.items x.writes⟩ := by
  unfold putP
  have : (x.place - 1).toNat = i := by omega
  rw [this, hy]; rfl
end

end Go.Proofs.Ytecdibpiojgppaa

/- (*attempt).plan: the function that it defers. -/
namespace Go.Proofs.Ytecdibpiojgppaa
open Go.RowKit

end Go.Proofs.Ytecdibpiojgppaa

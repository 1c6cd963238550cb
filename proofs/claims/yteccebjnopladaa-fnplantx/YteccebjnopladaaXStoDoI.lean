/- Texts that follow each other, merged: StoDoI, GloWrite, GloPlan. -/
import Derived.Test.YteccebjnopladaaXCopyI
import Derived.Test.YteccebjnopladaaXStoDoS
import Derived.Test.YteccebjnopladaaXShal
import Derived.Defers

/- The program's StoDo. -/
namespace Go.Proofs.Yteccebjnopladaa
open Go.RowKit

/-- A store of its own, as a record. -/
def StoMade (its : List Item) (w : World) (e : Ending) (w' : World) : Prop :=
  ∃ u, e = .returned (.agg #[u]) ∧ itSh.Own 50 w' (fun b => w.heap.size ≤ b ∧ b < w'.heap.size) u its ∧ Below w.heap.size w w'
theorem wAll_short {its : List Item} {x : Wr} (h : Fine its) (hx : x.ok = true) : Fine (wAll x.key x.del x.val its) := Fine.wAll h (Wr.fine hx)

end Go.Proofs.Yteccebjnopladaa

/- What waits, and how the program writes it. -/
namespace Go.Proofs.Yteccebjnopladaa
open Go.RowKit

/-- What a place will write. -/
structure Pend where
  place : Int
  writes : List Wr
def pendSh : Sh Pend := (Sh.int.pair wrsSh).conv (fun x => (x.place, x.writes)) (fun p => ⟨p.1, p.2⟩) rfl
section
variable {w : World} {B : Nat} {S : Nat → Prop} {v : Value}
theorem pend_rel {cs : List Value} {x : Pend} : pendSh.rel w B cs x ↔ ∃ u, cs = [.int .i64 x.place, u] ∧ wrSh.Row w B u x.writes := by
  constructor
  · rintro ⟨c1, c2, rfl, h1, u, rfl, h3⟩
    have h1' : c1 = [.int .i64 x.place] := h1
    subst h1'
    exact ⟨u, rfl, h3⟩
  · rintro ⟨u, rfl, h3⟩
    exact ⟨_, _, rfl, rfl, u, rfl, h3⟩
theorem pend_own {cs : List Value} {x : Pend} : pendSh.own w S cs x ↔ ∃ u, cs = [.int .i64 x.place, u] ∧ wrSh.Own 52 w S u x.writes := by
  constructor
  · rintro ⟨c1, c2, S1, S2, rfl, h1, ⟨u, rfl, h3⟩, -, s2, -⟩
    have h1' : c1 = [.int .i64 x.place] := h1
    subst h1'
    exact ⟨u, rfl, h3.mono s2⟩
  · rintro ⟨u, rfl, h3⟩
    exact ⟨_, _, fun _ => False, S, rfl, rfl, ⟨u, rfl, h3⟩, fun _ h => h.elim, fun _ h => h, fun _ h _ => h⟩
end
/-- What writing all that waits does to what some places keep. -/
def putP (xs : List Sto) (p : Pend) : List Sto := xs.set (p.place - 1).toNat ⟨stoDo ((xs[(p.place - 1).toNat]?).elim [] (·.items)) p.writes⟩
theorem putP_len (xs : List Sto) (p : Pend) : (putP xs p).length = xs.length := by unfold putP; rw [List.length_set]

section
variable {w W W' : World} {p : Nat} {us uw : Value} {ps : List Pend} {S1 S2 : Nat → Prop} {ys : List Sto}
theorem putP_eq {x : Pend} {i : Nat} {y : Sto} (hi : x.place = (i : Int) + 1) (hy : ys[i]? = some y) : putP ys x = ys.set i ⟨stoDo y.items x.writes⟩ := by
  unfold putP
  have : (x.place - 1).toNat = i := by omega
  rw [this, hy]; rfl
end

end Go.Proofs.Yteccebjnopladaa

/- (*attempt).plan: the function that it defers. -/
namespace Go.Proofs.Yteccebjnopladaa
open Go.RowKit

end Go.Proofs.Yteccebjnopladaa

/- Texts that follow each other, merged: OpPlaces, PlanAt52, PlcPlanI. -/
import Derived.Test.YtecdibpiojgppaaXPlanAt
import Derived.Test.YtecdibpiojgppaaXIntsOne
import Derived.Test.YtecdibpiojgppaaXOutMay2
import Derived.Test.YtecdibpiojgppaaXPlcIt

/- At which places something is done: OpPlaces of the program and of the model. -/
namespace Go.Proofs.Ytecdibpiojgppaa
open Go.RowKit

/-- Whether a kind is done at a place. -/
def hereB (k p : Int) : Bool := decide (p = 3 ∨ p = 1 ∧ (k = 1 ∨ k = 2 ∨ k = 5) ∨ p = 2 ∧ k ≠ 1)
/-- The places below k at which something is done. -/
def upto (o : Op) (k : Nat) : List Int := (([1, 2, 3] : List Int).take (k - 1)).filter (hereB o.kind)
def placesP (o : Op) : List Int := if opB o then upto o 4 else []
/-- What planAt leaves, loosely. -/
def SomePlan (b : Bool) (w : World) (e : Ending) (w' : World) : Prop := ∃ (q : Bool) (A : Option Addr) (n c : Nat) (A' : Option Addr) (n' c' : Nat), e = .returned (.tuple #[.agg #[.bool q, .slice A n c, .slice A' n' c'], .bool b]) ∧ Below w.heap.size w w'
/-- What OpPlaces leaves: numbers of its own. -/
def Placed (xs : List Int) (w : World) (e : Ending) (w' : World) : Prop := ∃ u, e = .returned u ∧ OwnInts w' w.heap.size u xs ∧ Below w.heap.size w w'

end Go.Proofs.Ytecdibpiojgppaa

/- planAt, all kinds and places. By actgen.py. -/
namespace Go.Proofs.Ytecdibpiojgppaa
open Go.RowKit

/-- What a place plans, in plain words. -/
def planP (its : List Item) (p tx : Int) (o : Op) : Plan :=
  if p = 3 then doneP its tx o
  else if p = 1 then (if o.kind = 1 then inP1 its o else if o.kind = 2 then inP2 its o else if o.kind = 5 then inP5 its o else ⟨false, [], []⟩)
  else (if o.kind = 2 then mayP2 its o else if o.kind = 3 then mayP3 its o else if o.kind = 4 then mayP4 its o else if o.kind = 5 then mayP5 its o else ⟨false, [], []⟩)
end Go.Proofs.Ytecdibpiojgppaa

/- The program's PlcPlan. -/
namespace Go.Proofs.Ytecdibpiojgppaa
open Go.RowKit

/-- What PlcPlan answers. -/
def plcP (its : List Item) (p tx : Int) (o : Op) : Plan := if (opB o && (plcB p its && inB tx 0 29)) = true then planP its p tx o else ⟨false, [], []⟩
/-- A plan of its own, as a record. -/
def PlannedAg (pl : Plan) (w : World) (e : Ending) (w' : World) : Prop :=
  ∃ u v, e = .returned (.agg #[.bool pl.ok, u, v]) ∧ planSh.own w' (fun b => w.heap.size ≤ b ∧ b < w'.heap.size) [.bool pl.ok, u, v] pl ∧ Below w.heap.size w w'
end Go.Proofs.Ytecdibpiojgppaa

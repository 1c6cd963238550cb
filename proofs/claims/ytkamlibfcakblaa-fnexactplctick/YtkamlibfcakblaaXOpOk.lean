/- What OpOk of the program answers: the same as the model's. By opgen2.py. -/
import Derived.Test.YtkamlibfcakblaaXPlcOk
namespace Go.Proofs.Ytkamlibfcakblaa
open Go.RowKit

/-- The numbers that its kind has; whether that is one. -/
def ownO (o : Op) : Op :=
  if (o.kind == 1 || o.kind == 5) = true then ⟨o.kind, o.who, o.inn, 0, 0, 0, 0⟩ else if (o.kind == 2) = true then ⟨o.kind, o.who, o.inn, o.code, o.sec, 0, 0⟩ else if (o.kind == 3) = true then ⟨o.kind, 0, 0, o.code, o.sec, o.fam, 0⟩ else if (o.kind == 4) = true then ⟨o.kind, 0, 0, 0, 0, o.fam, o.gen⟩ else ⟨0, 0, 0, 0, 0, 0, 0⟩
def ownK (o : Op) : Bool := o.kind == 1 || (o.kind == 5 || (o.kind == 2 || (o.kind == 3 || o.kind == 4)))
def Owned (o : Op) (w : World) (e : Ending) (w' : World) : Prop := e = .returned (.tuple #[opV (ownO o), .bool (ownK o)]) ∧ Below w.heap.size w w'
theorem beq_turn (a b : Int) : (a == b) = (b == a) := by rw [Bool.eq_iff_iff]; simp; exact eq_comm

theorem opB_k {o : Op} (h : opK o = false) : opB o = false := by simp [opB, h]
theorem opB_who {o : Op} (h : inB o.who 0 9 = false) : opB o = false := by simp [opB, h]
theorem opB_inn {o : Op} (h : inB o.inn 0 9 = false) : opB o = false := by simp [opB, h]
theorem opB_code {o : Op} (h : inB o.code 0 9 = false) : opB o = false := by simp [opB, h]
theorem opB_sec {o : Op} (h : inB o.sec 0 99 = false) : opB o = false := by simp [opB, h]
theorem opB_fam {o : Op} (h : inB o.fam 0 9 = false) : opB o = false := by simp [opB, h]
theorem opB_gen {o : Op} (h : inB o.gen 0 99 = false) : opB o = false := by simp [opB, h]
theorem opB_yes {o : Op} (h1 : inB o.who 0 9 = true) (h2 : inB o.inn 0 9 = true) (h3 : inB o.code 0 9 = true) (h4 : inB o.sec 0 99 = true) (h5 : inB o.fam 0 9 = true) (h6 : inB o.gen 0 99 = true) (h : opK o = true) : opB o = true := by simp [opB, h1, h2, h3, h4, h5, h6, h]

end Go.Proofs.Ytkamlibfcakblaa

/- Texts that follow each other, merged: PlcOk, OpOkS. -/
import Derived.Test.YtkamlibfcakblaaXPlcIt
import Derived.Test.YtkamlibfcakblaaXGet
import Derived.Test.YtkamlibfcakblaaXSOpen
import Derived.Test.YtkamlibfcakblaaXPlain
import Derived.Deep.RegionHeld3

/- What PlcOk of the program answers. -/
namespace Go.Proofs.Ytkamlibfcakblaa
open Go.RowKit

/-- What a place keeps is what it may keep. -/
def formB (p : Int) (its : List Item) : Bool := its.all fun it => itP p it.key it.val
def plcB (p : Int) (its : List Item) : Bool := inB p 1 3 && (stoB its && formB p its)
/-- The first k things may be kept. -/
def FormTo (p : Int) (its : List Item) (k : Nat) : Prop := ∀ j it, j < k → its[j]? = some it → itP p it.key it.val = true
theorem FormTo.start (p : Int) (its : List Item) : FormTo p its 0 := fun j _ h => absurd h (by omega)
theorem FormTo.step {p : Int} {its : List Item} {k : Nat} {it : Item} (h : FormTo p its k) (hit : its[k]? = some it) (hp : itP p it.key it.val = true) : FormTo p its (k + 1) := by
  intro j x hj hx
  rcases Nat.lt_or_ge j k with hlt | hge
  · exact h j x hlt hx
  · have : j = k := by omega
    subst this
    rw [hit] at hx
    injection hx with hx
    subst hx; exact hp
theorem formB_all {p : Int} {its : List Item} (h : FormTo p its its.length) : formB p its = true := by
  unfold formB
  rw [List.all_eq_true]
  intro x hx
  obtain ⟨j, hj, rfl⟩ := List.getElem_of_mem hx
  exact h j _ hj (List.getElem?_eq_getElem hj)
theorem formB_bad {p : Int} {its : List Item} {k : Nat} {it : Item} (hit : its[k]? = some it) (h : itP p it.key it.val = false) : formB p its = false := by
  unfold formB
  rw [List.all_eq_false]
  exact ⟨it, List.mem_of_getElem? hit, by simp [h]⟩
theorem plcB_place {p : Int} {its : List Item} (h : inB p 1 3 = false) : plcB p its = false := by simp [plcB, h]
theorem plcB_sto {p : Int} {its : List Item} (h : stoB its = false) : plcB p its = false := by simp [plcB, h]
theorem plcB_form {p : Int} {its : List Item} (h : formB p its = false) : plcB p its = false := by simp [plcB, h]
theorem plcB_yes {p : Int} {its : List Item} (h1 : inB p 1 3 = true) (h2 : stoB its = true) (h3 : formB p its = true) : plcB p its = true := by simp [plcB, h1, h2, h3]
theorem inB3 {p : Int} (h : inB p 1 3 = true) : p = 1 ∨ p = 2 ∨ p = 3 := by
  unfold inB at h; rw [decide_eq_true_iff] at h; omega

theorem isService_any (p : Int) (w : World) : Calls Try.prog 102 #[.int .i64 p] w fun e w' => e = .returned (.bool (inB p 1 3)) ∧ w = w' := by
  go_enter Try.func102, Try.ntmps102
  go_wp2_with (go_at_call 131; refine (within_any _ _ _ _).mono ?_; rintro e w' ⟨rfl, rfl⟩)
  go_ret
  exact ⟨rfl, rfl⟩

end Go.Proofs.Ytkamlibfcakblaa

/- What OpOk answers, of the program and of the model: the same bool of everything that is done. By opgen.py. -/
namespace Go.Proofs.Ytkamlibfcakblaa
open Go.RowKit

/-- What is done: its kind and its numbers. -/
structure Op where
  kind : Int
  who : Int
  inn : Int
  code : Int
  sec : Int
  fam : Int
  gen : Int
deriving DecidableEq
/-- The numbers that its kind has not are noughts. -/
def opK (o : Op) : Bool :=
  if (o.kind == 1 || o.kind == 5) = true then (o.code == 0 && (o.sec == 0 && (o.fam == 0 && o.gen == 0)))
  else if (o.kind == 2) = true then (o.fam == 0 && o.gen == 0)
  else if (o.kind == 3) = true then (o.who == 0 && (o.inn == 0 && o.gen == 0))
  else if (o.kind == 4) = true then (o.who == 0 && (o.inn == 0 && (o.code == 0 && o.sec == 0)))
  else false
def opB (o : Op) : Bool :=
  inB o.who 0 9 && (inB o.inn 0 9 && (inB o.code 0 9 && (inB o.sec 0 99 && (inB o.fam 0 9 && (inB o.gen 0 99 && opK o)))))
abbrev opV (o : Op) : Value := .agg #[.int .i64 o.kind, .int .i64 o.who, .int .i64 o.inn, .int .i64 o.code, .int .i64 o.sec, .int .i64 o.fam, .int .i64 o.gen]

end Go.Proofs.Ytkamlibfcakblaa

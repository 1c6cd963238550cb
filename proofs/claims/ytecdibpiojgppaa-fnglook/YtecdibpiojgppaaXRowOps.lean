/- Rows of wide elements: copies within memory, one more at a place, one less, one cleared. Nothing of the program. -/
import Derived.Test.YtecdibpiojgppaaXShOwn
import Derived.Laws.CopyRow
import Derived.Laws.Externs
namespace Go.Proofs.Ytecdibpiojgppaa
open Go.RowKit

section
variable {P : Program}
end

/-- One more at a place; one less. -/
def insF {β : Type} (C : Nat → β) (i : Nat) (c : β) (j : Nat) : β := if j < i then C j else if j = i then c else C (j - 1)
def delF {β : Type} (C : Nat → β) (i : Nat) (j : Nat) : β := if j < i then C j else C (j + 1)
def insAt {α : Type} (xs : List α) (i : Nat) (x : α) : List α := xs.take i ++ x :: xs.drop i
def delAt {α : Type} (xs : List α) (i : Nat) : List α := xs.take i ++ xs.drop (i + 1)
section
variable {α : Type}
theorem insAt_len {xs : List α} {i : Nat} (h : i ≤ xs.length) (x : α) : (insAt xs i x).length = xs.length + 1 := by
  simp only [insAt, List.length_append, List.length_take, List.length_cons, List.length_drop]; omega
theorem delAt_len {xs : List α} {i : Nat} (h : i < xs.length) : (delAt xs i).length = xs.length - 1 := by
  simp only [delAt, List.length_append, List.length_take, List.length_drop]; omega
theorem insAt_get {xs : List α} {i : Nat} (h : i ≤ xs.length) (x : α) (j : Nat) : (insAt xs i x)[j]? = if j < i then xs[j]? else if j = i then some x else xs[j - 1]? := by
  unfold insAt
  have hl : (xs.take i).length = i := by rw [List.length_take]; omega
  by_cases h1 : j < i
  · rw [List.getElem?_append_left (by omega), List.getElem?_take, if_pos h1, if_pos h1]
  · rw [List.getElem?_append_right (by omega), hl, if_neg h1]
    by_cases h2 : j = i
    · subst h2; simp
    · rw [if_neg h2, show j - i = (j - i - 1) + 1 by omega, List.getElem?_cons_succ, List.getElem?_drop]
      congr 1; omega
theorem delAt_get {xs : List α} {i : Nat} (h : i < xs.length) (j : Nat) : (delAt xs i)[j]? = if j < i then xs[j]? else xs[j + 1]? := by
  unfold delAt
  have hl : (xs.take i).length = i := by rw [List.length_take]; omega
  by_cases h1 : j < i
  · rw [List.getElem?_append_left (by omega), List.getElem?_take, if_pos h1, if_pos h1]
  · rw [List.getElem?_append_right (by omega), hl, if_neg h1, List.getElem?_drop]
    congr 1; omega
end

section
variable {α : Type} {A : Sh α} {e : TypeId} {w w' : World} {S S' : Nat → Prop} {v v' : Value} {xs : List α} {C : Nat → List Value} {F : Nat → Nat → Prop}
end

end Go.Proofs.Ytecdibpiojgppaa

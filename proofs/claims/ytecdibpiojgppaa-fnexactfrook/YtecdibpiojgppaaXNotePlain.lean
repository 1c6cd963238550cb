/- Notes that are ok: plain facts. Nothing of the program. -/
import Derived.Test.YtecdibpiojgppaaXShapesLog
import Derived.Test.YtecdibpiojgppaaXCmp
namespace Go.Proofs.Ytecdibpiojgppaa

/-- Of the first k each is one. -/
def AllTo {α : Type} (p : α → Bool) (xs : List α) (k : Nat) : Prop := ∀ j x, j < k → xs[j]? = some x → p x = true
section
variable {α : Type} {p : α → Bool} {xs : List α} {k : Nat} {x : α}
theorem AllTo.start (p : α → Bool) (xs : List α) : AllTo p xs 0 := fun j _ h => absurd h (by omega)
theorem AllTo.step (h : AllTo p xs k) (hx : xs[k]? = some x) (e : p x = true) : AllTo p xs (k + 1) := by
  intro j y hj hy
  rcases Nat.lt_or_ge j k with hlt | hge
  · exact h j y hlt hy
  · have : j = k := by omega
    subst this
    rw [hx] at hy
    injection hy with hy
    rw [← hy]; exact e
theorem AllTo.all (h : AllTo p xs xs.length) : xs.all p = true := by
  rw [List.all_eq_true]
  intro x hx
  obtain ⟨j, hj, rfl⟩ := List.getElem_of_mem hx
  exact h j _ hj (List.getElem?_eq_getElem hj)
theorem all_bad (hx : xs[k]? = some x) (e : p x = false) : xs.all p = false := by
  rw [List.all_eq_false]
  exact ⟨x, List.mem_of_getElem? hx, by simp [e]⟩
theorem all_at (h : xs.all p = true) (hx : xs[k]? = some x) : p x = true := List.all_eq_true.1 h x (List.mem_of_getElem? hx)
end

/-- Whether a name is one of some. -/
def hasB (l : List ByteArray) (s : ByteArray) : Bool := l.any fun k => decide (k = s)
/-- The first k are other ones. -/
def Miss (l : List ByteArray) (s : ByteArray) (k : Nat) : Prop := ∀ j x, j < k → l[j]? = some x → x ≠ s
theorem Miss.start (l : List ByteArray) (s : ByteArray) : Miss l s 0 := fun j _ h => absurd h (by omega)
theorem Miss.step {l : List ByteArray} {s x : ByteArray} {k : Nat} (h : Miss l s k) (hx : l[k]? = some x) (hn : x ≠ s) : Miss l s (k + 1) := by
  intro j y hj hy
  rcases Nat.lt_or_ge j k with hlt | hge
  · exact h j y hlt hy
  · have : j = k := by omega
    subst this
    rw [hx] at hy
    injection hy with hy
    rw [← hy]; exact hn
theorem hasB_yes {l : List ByteArray} {s : ByteArray} {k : Nat} (hx : l[k]? = some s) : hasB l s = true := by
  unfold hasB; rw [List.any_eq_true]; exact ⟨s, List.mem_of_getElem? hx, by simp⟩
theorem hasB_no {l : List ByteArray} {s : ByteArray} (h : Miss l s l.length) : hasB l s = false := by
  unfold hasB; rw [List.any_eq_false]
  intro x hx
  obtain ⟨j, hj, rfl⟩ := List.getElem_of_mem hx
  simpa using h j _ hj (List.getElem?_eq_getElem hj)

def locksB (l : List ByteArray) : Bool := decide (l.length ≤ 12) && l.all keyB
def lwB (locks : List ByteArray) (x : Wr) : Bool := x.ok && hasB locks x.key
def wrsB (locks : List ByteArray) (ws : List Wr) : Bool := decide (ws.length ≤ 12) && ws.all (lwB locks)
/-- A note that is ok. -/
def noteB (n : Note) : Bool := inB n.tx 0 29 && if n.kind = 1 then locksB n.locks && wrsB n.locks n.writes else inB n.kind 2 4 && (decide (n.locks.length = 0) && decide (n.writes.length = 0))
theorem locksB_bad {l : List ByteArray} {k : Nat} {x : ByteArray} (hx : l[k]? = some x) (e : keyB x = false) : locksB l = false := by unfold locksB; rw [all_bad hx e, Bool.and_false]
theorem locksB_all {l : List ByteArray} (h : AllTo keyB l l.length) : locksB l = decide (l.length ≤ 12) := by unfold locksB; rw [h.all, Bool.and_true]
theorem wrsB_bad {locks : List ByteArray} {ws : List Wr} {k : Nat} {x : Wr} (hx : ws[k]? = some x) (e : lwB locks x = false) : wrsB locks ws = false := by unfold wrsB; rw [all_bad hx e, Bool.and_false]
theorem wrsB_all {locks : List ByteArray} {ws : List Wr} (h : AllTo (lwB locks) ws ws.length) : wrsB locks ws = decide (ws.length ≤ 12) := by unfold wrsB; rw [h.all, Bool.and_true]
theorem lwB_ok {locks : List ByteArray} {x : Wr} (h : x.ok = false) : lwB locks x = false := by unfold lwB; rw [h]; rfl
theorem lwB_has {locks : List ByteArray} {x : Wr} (h : x.ok = true) : lwB locks x = hasB locks x.key := by unfold lwB; rw [h]; rfl
theorem noteB_tx {n : Note} (h : inB n.tx 0 29 = false) : noteB n = false := by unfold noteB; rw [h]; rfl
theorem noteB_ready {n : Note} (h : inB n.tx 0 29 = true) (hk : n.kind = 1) : noteB n = (locksB n.locks && wrsB n.locks n.writes) := by unfold noteB; rw [h, if_pos hk]; rfl
theorem noteB_other {n : Note} (h : inB n.tx 0 29 = true) (hk : n.kind ≠ 1) : noteB n = (inB n.kind 2 4 && (decide (n.locks.length = 0) && decide (n.writes.length = 0))) := by unfold noteB; rw [h, if_neg hk]; rfl
theorem noteB_kind {n : Note} (h : n.kind < 1 ∨ 4 < n.kind) : noteB n = false := by
  unfold noteB
  rw [if_neg (by omega), inB_no (n := n.kind) (by omega)]
  simp
/-- A place's notes that are ok. -/
def diskB (d : Disk) : Bool := decide (d.notes.length ≤ 120) && (inB d.safe 0 d.notes.length && d.notes.all noteB)
theorem diskB_long {d : Disk} (h : 120 < d.notes.length) : diskB d = false := by unfold diskB; rw [show decide (d.notes.length ≤ 120) = false by simp; omega]; rfl
theorem diskB_safe {d : Disk} (h : inB d.safe 0 d.notes.length = false) : diskB d = false := by unfold diskB; rw [h]; simp
theorem diskB_bad {d : Disk} {k : Nat} {x : Note} (hx : d.notes[k]? = some x) (e : noteB x = false) : diskB d = false := by unfold diskB; rw [all_bad hx e]; simp
theorem diskB_yes {d : Disk} (h1 : d.notes.length ≤ 120) (h2 : inB d.safe 0 d.notes.length = true) (h3 : AllTo noteB d.notes d.notes.length) : diskB d = true := by unfold diskB; rw [h2, h3.all]; simp [h1]
theorem diskB_parts {d : Disk} (h : diskB d = true) : d.notes.length ≤ 120 ∧ 0 ≤ d.safe ∧ d.safe ≤ d.notes.length ∧ d.notes.all noteB = true := by
  unfold diskB inB at h
  simp only [Bool.and_eq_true, decide_eq_true_eq] at h
  exact ⟨h.1, h.2.1.1, h.2.1.2, h.2.2⟩

end Go.Proofs.Ytecdibpiojgppaa

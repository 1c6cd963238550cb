/- Writes, one behind the other: plain facts. -/
import Derived.Test.YtgekggoenibnmaaWrite
import Derived.Test.YtgekggoenibnmaaMWrt
import Derived.Test.YtgekggoenibnmaaStoOkS
namespace Go.Proofs.Ytgekggoenibnmaa
open Go.RowKit

/-- What the model's StoDo answers, in plain words. -/
def doStep (o : Option (List Item)) (x : Wr) : Option (List Item) :=
  o.bind fun its => if x.ok = true then (if 40 < (wAll x.key x.del x.val its).length then none else some (wAll x.key x.del x.val its)) else none
def doAll (its : List Item) (ws : List Wr) : Option (List Item) := if stoB its = true then ws.foldl doStep (some its) else none
def stoDo (its : List Item) (ws : List Wr) : List Item := (doAll its ws).getD []

theorem foldNone (ws : List Wr) : ws.foldl doStep none = none := by
  induction ws with
  | nil => rfl
  | cons x ws ih => exact ih
theorem doTake {ws : List Wr} {k : Nat} {x : Wr} (h : ws[k]? = some x) (o : Option (List Item)) : (ws.take (k + 1)).foldl doStep o = doStep ((ws.take k).foldl doStep o) x := by
  rw [List.take_add_one, h, List.foldl_append]; rfl
theorem doStop {ws : List Wr} {k : Nat} {o : Option (List Item)} (h : (ws.take k).foldl doStep o = none) : ws.foldl doStep o = none := by
  rw [← List.take_append_drop k ws, List.foldl_append, h, foldNone]

/-- All names and numbers are short. -/
def Fine (its : List Item) : Prop := ∀ it ∈ its, it.key.size ≤ 3 ∧ it.val.length ≤ 3
theorem Fine.short {its : List Item} (h : Fine its) : Short its its.length := fun _ it _ hx => by
  have := h it (List.mem_of_getElem? hx)
  omega
theorem keyB_le3 {s : ByteArray} (h : keyB s = true) : s.size ≤ 3 := by
  unfold keyB at h
  rw [decide_eq_true_iff] at h
  exact h.2.1
theorem valB_le3 {l : List Int} (h : valB l = true) : l.length ≤ 3 := by
  unfold valB at h
  simp at h
  omega
theorem stoB_fine {its : List Item} (h : stoB its = true) : its.length ≤ 40 ∧ Fine its := by
  unfold stoB at h
  simp only [Bool.and_eq_true, decide_eq_true_iff, List.all_eq_true] at h
  refine ⟨h.1, fun it hi => ?_⟩
  have := h.2.1 it hi
  unfold itemB at this
  simp only [Bool.and_eq_true] at this
  exact ⟨keyB_le3 this.1, valB_le3 this.2⟩
theorem Wr.fine {x : Wr} (h : x.ok = true) : x.key.size ≤ 3 ∧ x.val.length ≤ 3 := by
  unfold Wr.ok wrtB at h
  simp only [Bool.and_eq_true] at h
  refine ⟨keyB_le3 h.1, ?_⟩
  have h2 := h.2
  cases hd : x.del with
  | true => rw [hd] at h2; simp at h2; simp [h2]
  | false => rw [hd] at h2; exact valB_le3 (by simpa using h2)
theorem Fine.snoc {its : List Item} {it : Item} (h : Fine its) (h1 : it.key.size ≤ 3 ∧ it.val.length ≤ 3) : Fine (its ++ [it]) := by
  intro x hx
  rcases List.mem_append.1 hx with h' | h'
  · exact h x h'
  · have : x = it := by simpa using h'
    rw [this]; exact h1
theorem Fine.wst {wk : ByteArray} {del : Bool} {wv : List Int} {st : List Item × Bool} {it : Item} (h : Fine st.1) (hw : wk.size ≤ 3 ∧ wv.length ≤ 3) (hi : it.key.size ≤ 3 ∧ it.val.length ≤ 3) : Fine (wst wk del wv st it).1 := by
  have h1 : Fine (wst1 wk wv st it).1 := by
    unfold wst1; split
    · exact h.snoc hw
    · exact h
  unfold Go.Proofs.Ytgekggoenibnmaa.wst wst2; split
  · split
    · exact h1
    · exact h1.snoc hw
  · exact h1.snoc hi
theorem Fine.wAll {wk : ByteArray} {del : Bool} {wv : List Int} {its : List Item} (h : Fine its) (hw : wk.size ≤ 3 ∧ wv.length ≤ 3) : Fine (wAll wk del wv its) := by
  have hf : ∀ (l : List Item) (st : List Item × Bool), Fine l → Fine st.1 → Fine (l.foldl (Go.Proofs.Ytgekggoenibnmaa.wst wk del wv) st).1 := by
    intro l
    induction l with
    | nil => intro st _ hs; exact hs
    | cons x l ih => intro st hl hs; exact ih _ (fun y hy => hl y (List.mem_cons_of_mem _ hy)) (Fine.wst hs hw (hl x (List.mem_cons_self)))
  have h1 := hf its ([], del) h (fun _ hx => by simp at hx)
  unfold Go.Proofs.Ytgekggoenibnmaa.wAll; split
  · exact h1
  · exact Fine.snoc h1 hw

end Go.Proofs.Ytgekggoenibnmaa

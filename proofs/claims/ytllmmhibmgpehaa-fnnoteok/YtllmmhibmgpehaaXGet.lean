/- What StoGet answers, of the program and of the model: the same. -/
import Derived.Test.YtllmmhibmgpehaaXCmp
import Derived.Test.YtllmmhibmgpehaaXExItems
namespace Go.Proofs.Ytllmmhibmgpehaa
open Go.RowKit

/-- The first k names are other ones. -/
def Before (its : List Item) (key : ByteArray) (k : Nat) : Prop := ∀ j x, j < k → its[j]? = some x → x.key ≠ key
theorem Before.start (its : List Item) (key : ByteArray) : Before its key 0 := fun j _ h => absurd h (by omega)
theorem Before.step {its : List Item} {key : ByteArray} {k : Nat} {x : Item} (h : Before its key k) (hx : its[k]? = some x) (hn : x.key ≠ key) : Before its key (k + 1) := by
  intro j y hj hy
  rcases Nat.lt_or_ge j k with hlt | hge
  · exact h j y hlt hy
  · have : j = k := by omega
    subst this
    rw [hx] at hy
    injection hy with hy
    rw [← hy]; exact hn
theorem Before.hit {its : List Item} {key : ByteArray} {k : Nat} {x : Item} (h : Before its key k) (hx : its[k]? = some x) (hk : x.key = key) : look its key = some x := by
  unfold look
  rw [List.find?_eq_some_iff_getElem]
  have hl := (List.getElem?_eq_some_iff.1 hx).1
  refine ⟨by simpa using hk, k, hl, by rw [List.getElem?_eq_getElem hl] at hx; exact Option.some.inj hx, fun j hj => ?_⟩
  simp only [Bool.not_eq_eq_eq_not, Bool.not_true, decide_eq_false_iff_not]
  exact h j _ hj (List.getElem?_eq_getElem (by omega))
theorem Before.none_ {its : List Item} {key : ByteArray} (h : Before its key its.length) : look its key = none := by
  unfold look
  rw [List.find?_eq_none]
  intro x hx
  obtain ⟨t, ht, rfl⟩ := List.getElem_of_mem hx
  simp only [decide_eq_true_eq]
  exact h t _ ht (List.getElem?_eq_getElem ht)

/-- The numbers of a name: none where it is not kept. -/
def lookV (its : List Item) (key : ByteArray) : List Int := match look its key with
  | some x => x.val
  | none => []
def lookOk (its : List Item) (key : ByteArray) : Bool := (look its key).isSome
theorem lookV_some {its : List Item} {key : ByteArray} {x : Item} (h : look its key = some x) : lookV its key = x.val := by simp [lookV, h]
theorem lookV_none {its : List Item} {key : ByteArray} (h : look its key = none) : lookV its key = [] := by simp [lookV, h]
theorem lookOk_some {its : List Item} {key : ByteArray} {x : Item} (h : look its key = some x) : lookOk its key = true := by simp [lookOk, h]
theorem lookOk_none {its : List Item} {key : ByteArray} (h : look its key = none) : lookOk its key = false := by simp [lookOk, h]
/-- The answer of StoGet: nothing, and false, where what is kept is not ok. -/
def getV (its : List Item) (key : ByteArray) : List Int := if stoB its then lookV its key else []
def getOk (its : List Item) (key : ByteArray) : Bool := stoB its && lookOk its key
theorem getV_no {its : List Item} {key : ByteArray} (h : stoB its = false) : getV its key = [] := by simp [getV, h]
theorem getOk_no {its : List Item} {key : ByteArray} (h : stoB its = false) : getOk its key = false := by simp [getOk, h]
theorem getV_yes {its : List Item} {key : ByteArray} (h : stoB its = true) : getV its key = lookV its key := by simp [getV, h]
theorem getOk_yes {its : List Item} {key : ByteArray} (h : stoB its = true) : getOk its key = lookOk its key := by simp [getOk, h]
theorem stoB_parts {its : List Item} (h : stoB its = true) : its.length ≤ 40 ∧ Each its its.length ∧ Rise its its.length := by
  unfold stoB at h
  simp only [Bool.and_eq_true, decide_eq_true_eq] at h
  exact ⟨h.1, all_each h.2.1, asc_rise h.2.2⟩
theorem itemB_len {it : Item} (h : itemB it = true) : it.val.length ≤ 3 := by
  unfold itemB valB at h
  simp only [Bool.and_eq_true, decide_eq_true_eq] at h
  exact h.2.1.2

/-- What a look-up leaves. -/
def Got (xs : List Int) (ok : Bool) (w : World) (e : Ending) (w' : World) : Prop :=
  ∃ u, e = .returned (.tuple #[u, .bool ok]) ∧ OwnInts w' w.heap.size u xs ∧ Below w.heap.size w w'

theorem ownEmpty {w0 w : World} (hb : Below w0.heap.size w0 w) : OwnInts (w.alloc (.cells #[] 3)) w0.heap.size (.slice (some ⟨w.heap.size, 0, none⟩) 0 0) [] := OwnInts.empty w _ hb.size
theorem OwnInts.less {w : World} {lo lo' : Nat} {v : Value} {xs : List Int} (h : OwnInts w lo v xs) (hl : lo' ≤ lo) : OwnInts w lo' v xs :=
  ⟨h.1, h.2.elim Or.inl fun ⟨g, cap, cur, hv, hg, r⟩ => Or.inr ⟨g, cap, cur, hv, Nat.le_trans hl hg, r⟩⟩

theorem ownLo {w : World} {lo : Nat} {v : Value} {xs : List Int} (h : OwnInts w lo v xs) : ∀ b, v.ownBlock = some b → lo ≤ b := fun b hb => (h.lt b hb).1
theorem belowGrown {B : Nat} {w w' : World} {v : Value} (hg : w.grownBy w' v.ownBlock) (h : ∀ b, v.ownBlock = some b → B ≤ b) (hB : B ≤ w.heap.size) : Below B w w' := (Below.refl B w).grown hg hB h

end Go.Proofs.Ytllmmhibmgpehaa

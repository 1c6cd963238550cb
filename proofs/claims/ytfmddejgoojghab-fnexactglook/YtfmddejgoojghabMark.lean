/- Marks: a text of a number; numbers laid one behind the other; and whether they are held. -/
import Derived.Test.YtfmddejgoojghabOwn
import Derived.Laws.BytesArg
namespace Go.Proofs.Ytfmddejgoojghab
open Go.RowKit

/-- One digit. -/
def digT (n : Int) : ByteArray := strOfNums [48 + n]
theorem digT_size (n : Int) : (digT n).size = 1 := strOfNums_size _
/-- The digits of a number, ahead of a text. -/
def decs (k : Int) (s : ByteArray) : ByteArray := if _h : 0 < k then decs (k / 10) (digT (k % 10) ++ s) else s
  termination_by k.toNat
  decreasing_by omega
theorem decs_step {k : Int} (s : ByteArray) (h : 0 < k) : decs (k / 10) (digT (k % 10) ++ s) = decs k s := by
  rw [decs.eq_def k s, dif_pos h]
theorem decs_end {k : Int} (s : ByteArray) (h : k ≤ 0) : decs k s = s := by
  rw [decs.eq_def, dif_neg (by omega)]
/-- The text of a mark. -/
def markS (k : Int) : ByteArray := ⟨#[109]⟩ ++ decs k ⟨#[]⟩

/-- Numbers that are marks from k on. -/
def Marked (ys : List Int) (k : Int) (m : Nat) : Prop := ∀ j, j < m → nth ys j = k + j

theorem nth_set_same {ys : List Int} {j : Nat} {x : Int} (h : j < ys.length) : nth (ys.set j x) j = x := by simp [nth, h]
theorem nth_set_other {ys : List Int} {i j : Nat} {x : Int} (h : j ≠ i) : nth (ys.set j x) i = nth ys i := by simp [nth, h]
theorem Marked.start (ys : List Int) (k : Int) : Marked ys k 0 := fun j h => absurd h (by omega)
theorem Marked.step {ys : List Int} {k : Int} {m : Nat} (h : Marked ys k m) (hm : m < ys.length) : Marked (ys.set m (k + m)) k (m + 1) := by
  intro j hj
  by_cases e : m = j
  · subst e; exact nth_set_same hm
  · rw [nth_set_other e]; exact h j (by omega)

/-- What marking a slice of its own leaves: as many numbers, marks from k on; no other block has turned. -/
def MarkedInts (lo : Nat) (v : Value) (n : Nat) (k : Int) (w : World) (e : Ending) (w' : World) : Prop :=
  ∃ ys : List Int, e = .returned (.int .i64 (k + n)) ∧ ys.length = n ∧ Marked ys k n ∧ OwnInts w' lo v ys ∧ w.grownBy w' v.ownBlock ∧ w'.heap.size = w.heap.size

theorem OwnInts.form {w : World} {lo : Nat} {v : Value} {xs : List Int} (h : OwnInts w lo v xs) : (v = .slice none 0 0 ∧ xs = []) ∨ ∃ g cap, v = .slice (some ⟨g, 0, none⟩) xs.length cap ∧ lo ≤ g ∧ g < w.heap.size ∧ xs.length ≤ cap ∧ cap ≤ maxLen := by
  rcases h.2 with ⟨hv, h0⟩ | ⟨g, cap, cur, hv, hb, hg, hn, hm, _⟩
  · exact .inl ⟨hv, List.length_eq_zero_iff.1 h0⟩
  · exact .inr ⟨g, cap, hv, hb, (Array.getElem?_eq_some_iff.1 hg).1, hn, hm⟩

end Go.Proofs.Ytfmddejgoojghab

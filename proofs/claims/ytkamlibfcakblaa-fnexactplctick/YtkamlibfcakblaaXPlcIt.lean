/- Which things a place may keep: itemOk of the program, by cases. By plcgen.py. -/
import Derived.Test.YtkamlibfcakblaaXSOpen
import Derived.Test.YtkamlibfcakblaaXStoOk
import Derived.Deep.QuietTactic
import Derived.BigQuiet
namespace Go.Proofs.Ytkamlibfcakblaa
open Go.RowKit

/-- The first byte of a text. -/
def chr0 (s : ByteArray) : Int := if h : 0 < s.size then ((s[0]'h).toNat : Int) else 0
theorem chr0_at {s : ByteArray} (h : 0 < s.size) : chr0 s = ((s[0]'h).toNat : Int) := by unfold chr0; rw [dif_pos h]
/-- Whether a place may keep a thing. -/
def itP (p : Int) (key : ByteArray) (val : List Int) : Bool :=
  if p = 3 then decide (chr0 key = 97 ∧ val.length = 1)
  else if p = 1 then decide (key.size = 2 ∧ nth val 0 ≤ 9 ∧ chr0 key = 115 ∧ val.length = 1)
  else decide (key.size = 2 ∧ nth val 0 ≤ 9 ∧ (chr0 key = 99 ∧ val.length = 2 ∨ chr0 key = 102 ∧ val.length = 3 ∧ 1 ≤ nth val 1 ∧ nth val 1 ≤ 99 ∧ nth val 2 ≤ 1))
theorem itP3 (key : ByteArray) (val : List Int) : itP 3 key val = decide (chr0 key = 97 ∧ val.length = 1) := by simp [itP]
theorem itP1 (key : ByteArray) (val : List Int) : itP 1 key val = decide (key.size = 2 ∧ nth val 0 ≤ 9 ∧ chr0 key = 115 ∧ val.length = 1) := by simp [itP]
theorem itP2 (key : ByteArray) (val : List Int) : itP 2 key val = decide (key.size = 2 ∧ nth val 0 ≤ 9 ∧ (chr0 key = 99 ∧ val.length = 2 ∨ chr0 key = 102 ∧ val.length = 3 ∧ 1 ≤ nth val 1 ∧ nth val 1 ≤ 99 ∧ nth val 2 ≤ 1)) := by simp [itP]
theorem itemB_parts {it : Item} (h : itemB it = true) : 2 ≤ it.key.size ∧ it.key.size ≤ 3 ∧ 1 ≤ it.val.length ∧ it.val.length ≤ 3 ∧ ∀ j, j < it.val.length → 0 ≤ nth it.val j := by
  simp only [itemB, Bool.and_eq_true] at h
  obtain ⟨h1, h2⟩ := h
  have h3 := h1
  unfold keyB at h3
  rw [decide_eq_true_iff] at h3
  unfold valB at h2
  simp only [Bool.and_eq_true, decide_eq_true_eq, List.all_eq_true] at h2
  refine ⟨h3.1, h3.2.1, h2.1.1, h2.1.2, fun j hj => ?_⟩
  rw [nth_get hj]
  exact (h2.2 _ (List.getElem_mem hj)).1


end Go.Proofs.Ytkamlibfcakblaa

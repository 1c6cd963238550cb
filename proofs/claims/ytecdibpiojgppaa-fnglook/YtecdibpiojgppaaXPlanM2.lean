/- The methods that plan: coming in, letting, trading, the next, going out. By planmgen.py. -/
import Derived.Test.YtecdibpiojgppaaXPlanSh
import Derived.Test.YtecdibpiojgppaaXPlcIt
import Derived.Deep.QuietTactic
import Derived.BigQuiet
import Derived.Test.YtecdibpiojgppaaXWrts
import Derived.Deep.DeepCutAuto
namespace Go.Proofs.Ytecdibpiojgppaa
open Go.RowKit

theorem inB_parts {n lo hi : Int} (h : inB n lo hi = true) : lo ≤ n ∧ n ≤ hi := by unfold inB at h; rwa [decide_eq_true_iff] at h
theorem opB_parts {o : Op} (h : opB o = true) : 0 ≤ o.who ∧ o.who ≤ 9 ∧ 0 ≤ o.inn ∧ o.inn ≤ 9 ∧ 0 ≤ o.code ∧ o.code ≤ 9 ∧ 0 ≤ o.sec ∧ o.sec ≤ 99 ∧ 0 ≤ o.fam ∧ o.fam ≤ 9 ∧ 0 ≤ o.gen ∧ o.gen ≤ 99 := by
  simp only [opB, Bool.and_eq_true] at h
  obtain ⟨a, b, c, d, e, f, -⟩ := h
  have := inB_parts a; have := inB_parts b; have := inB_parts c; have := inB_parts d; have := inB_parts e; have := inB_parts f
  omega
/-- What is found is one of the things. -/
theorem look_mem {its : List Item} {key : ByteArray} (h : lookOk its key = true) : ∃ it, it ∈ its ∧ it.key = key ∧ lookV its key = it.val := by
  unfold lookOk at h
  cases hf : look its key with
  | none => rw [hf] at h; cases h
  | some it =>
    refine ⟨it, ?_, ?_, lookV_some hf⟩
    · unfold look at hf; exact List.mem_of_find?_eq_some hf
    · unfold look at hf; simpa using List.find?_some hf
theorem look_item {its : List Item} {key : ByteArray} (hs : stoB its = true) (h : lookOk its key = true) : itemB ⟨key, lookV its key⟩ = true := by
  obtain ⟨it, hm, hk, hv⟩ := look_mem h
  obtain ⟨j, hj, rfl⟩ := List.getElem_of_mem hm
  have := (stoB_parts hs).2.1 j _ hj (List.getElem?_eq_getElem hj)
  rw [hv, ← hk]; exact this
theorem look_form {its : List Item} {p : Int} {key : ByteArray} (hf : formB p its = true) (h : lookOk its key = true) : itP p key (lookV its key) = true := by
  obtain ⟨it, hm, hk, hv⟩ := look_mem h
  unfold formB at hf
  have := List.all_eq_true.1 hf it hm
  rw [hv, ← hk]; exact this

end Go.Proofs.Ytecdibpiojgppaa

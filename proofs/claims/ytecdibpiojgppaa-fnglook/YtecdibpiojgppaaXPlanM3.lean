/- The methods that plan: trading, the next. By planmgen3.py. -/
import Derived.Test.YtecdibpiojgppaaXPlanM2
import Derived.Test.YtecdibpiojgppaaXTree
namespace Go.Proofs.Ytecdibpiojgppaa
open Go.RowKit

theorem chr0_keyN (c : UInt8) (n : Int) : chr0 (keyN c n) = (c.toNat : Int) := by
  have h : 0 < (keyN c n).size := by
    unfold keyN; rw [append_size]
    have h1 : (⟨#[c]⟩ : ByteArray).size = 1 := rfl
    omega
  rw [chr0_at h]
  unfold keyN
  rfl
/-- What is found of a code, and of a family, at the place that keeps who may what. -/
theorem code_found {its : List Item} {n : Int} (hs : stoB its = true) (hf : formB 2 its = true) (h : lookOk its (keyN 99 n) = true) : (lookV its (keyN 99 n)).length = 2 ∧ 0 ≤ nth (lookV its (keyN 99 n)) 0 ∧ nth (lookV its (keyN 99 n)) 0 ≤ 9 := by
  have h1 := look_form hf h
  have h2 := itemB_parts (look_item hs h)
  dsimp only at h2
  rw [itP2, decide_eq_true_iff, chr0_keyN] at h1
  have h99 : ((99 : UInt8).toNat : Int) = 99 := rfl
  rw [h99] at h1
  have h3 := h2.2.2.2.2 0 (by omega)
  omega
theorem fam_found {its : List Item} {n : Int} (hs : stoB its = true) (hf : formB 2 its = true) (h : lookOk its (keyN 102 n) = true) : (lookV its (keyN 102 n)).length = 3 ∧ 0 ≤ nth (lookV its (keyN 102 n)) 0 ∧ nth (lookV its (keyN 102 n)) 0 ≤ 9 ∧ 1 ≤ nth (lookV its (keyN 102 n)) 1 ∧ nth (lookV its (keyN 102 n)) 1 ≤ 99 := by
  have h1 := look_form hf h
  have h2 := itemB_parts (look_item hs h)
  dsimp only at h2
  rw [itP2, decide_eq_true_iff, chr0_keyN] at h1
  have h99 : ((102 : UInt8).toNat : Int) = 102 := rfl
  rw [h99] at h1
  have h3 := h2.2.2.2.2 0 (by omega)
  omega

end Go.Proofs.Ytecdibpiojgppaa

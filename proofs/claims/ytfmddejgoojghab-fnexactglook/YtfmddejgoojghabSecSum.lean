/- What SecSum answers, of the program and of the model: the same number of every number. -/
import Derived.Test.YtfmddejgoojghabKey
namespace Go.Proofs.Ytfmddejgoojghab
open Go.RowKit

/-- The sum of a secret; -1 of what is none. -/
def secS (n : Int) : Int := if 0 ≤ n ∧ n ≤ 99 then (7919 * n + 104) % 9973 else -1
theorem secS_yes {n : Int} (h : 0 ≤ n) (h' : n ≤ 99) : secS n = (7919 * n + 104) % 9973 := by unfold secS; rw [if_pos ⟨h, h'⟩]
theorem secS_no {n : Int} (h : n < 0 ∨ 99 < n) : secS n = -1 := by unfold secS; rw [if_neg (by omega)]

theorem within_any (n lo hi : Int) (w : World) :
    Calls Try.prog 27 #[.int .i64 n, .int .i64 lo, .int .i64 hi] w fun e w' => e = .returned (.bool (inB n lo hi)) ∧ w = w' := by
  by_cases h1 : lo ≤ n
  · by_cases h2 : n ≤ hi
    · go_enter Try.func27, Try.ntmps27
      go_wp2
      go_ret
      exact ⟨ret_bool (by unfold inB; simp [h1, h2]), rfl⟩
    · go_enter Try.func27, Try.ntmps27
      go_wp2
      go_ret
      exact ⟨ret_bool (by unfold inB; simp [h1, h2]), rfl⟩
  · go_enter Try.func27, Try.ntmps27
    go_wp2
    go_ret
    exact ⟨ret_bool (by rw [inB_no (by omega)]), rfl⟩

end Go.Proofs.Ytfmddejgoojghab

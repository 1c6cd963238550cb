/- What SecSum answers, of the program and of the model: the same number of every number. -/
import Derived.Test.YtlmcpkijcadalaaKey
namespace Go.Proofs.Ytlmcpkijcadalaa
open Go.RowKit

/-- The sum of a secret; -1 of what is none. -/
def secS (n : Int) : Int := if 0 ≤ n ∧ n ≤ 99 then (7919 * n + 104) % 9973 else -1
theorem secS_yes {n : Int} (h : 0 ≤ n) (h' : n ≤ 99) : secS n = (7919 * n + 104) % 9973 := by unfold secS; rw [if_pos ⟨h, h'⟩]
theorem secS_no {n : Int} (h : n < 0 ∨ 99 < n) : secS n = -1 := by unfold secS; rw [if_neg (by omega)]

theorem within_any (n lo hi : Int) (w : World) :
    Calls Try.prog 95 #[.int .i64 n, .int .i64 lo, .int .i64 hi] w fun e w' => e = .returned (.bool (inB n lo hi)) ∧ w = w' := by
  by_cases h1 : lo ≤ n
  · by_cases h2 : n ≤ hi
    · go_enter Try.func95, Try.ntmps95
      go_wp2
      go_ret
      exact ⟨ret_bool (by unfold inB; simp [h1, h2]), rfl⟩
    · go_enter Try.func95, Try.ntmps95
      go_wp2
      go_ret
      exact ⟨ret_bool (by unfold inB; simp [h1, h2]), rfl⟩
  · go_enter Try.func95, Try.ntmps95
    go_wp2
    go_ret
    exact ⟨ret_bool (by rw [inB_no (by omega)]), rfl⟩

theorem implSecSum_any (n : Int) (w : World) :
    Calls Try.prog 194 #[.int .i64 n] w fun e w' => e = .returned (.int .i64 (secS n)) ∧ w = w' := by
  by_cases h : 0 ≤ n ∧ n ≤ 99
  · obtain ⟨h0, h1⟩ := h
    have hb := inB_yes h0 h1
    go_enter Try.func194, Try.ntmps194
    go_wp2_with (go_at_call 95; refine (within_any _ _ _ _).mono ?_; rintro e w' ⟨rfl, rfl⟩)
    go_ret
    exact ⟨ret_int (by rw [secS_yes h0 h1]), rfl⟩
  · have hn : n < 0 ∨ 99 < n := by omega
    have hb := inB_no hn
    clear h
    have HN := Lib.hid hn
    clear hn
    go_enter Try.func194, Try.ntmps194
    go_wp2_with (go_at_call 95; refine (within_any _ _ _ _).mono ?_; rintro e w' ⟨rfl, rfl⟩)
    go_ret
    exact ⟨ret_int (by rw [secS_no HN.out]), rfl⟩

end Go.Proofs.Ytlmcpkijcadalaa

/- Small numbers as texts: strconv.Itoa from 0 to 29, and names with a letter. -/
import Derived.Test.YtmkombbjjmmgjaaDrawKey
namespace Go.Proofs.Ytmkombbjjmmgjaa
open Go.RowKit

/-- A number from 0 to 99, written. -/
def numS (n : Int) : ByteArray := if n < 10 then digS n else digS (n / 10) ++ digS (n % 10)

set_option maxRecDepth 100000 in
theorem small_any (w : World) (n : Int) (h0 : 0 ≤ n) (h9 : n ≤ 29) :
    Calls Try.prog 124 #[.int .i64 n] w fun e w' => e = .returned (.string (numS n)) ∧ w = w' := by
  by_cases h : n < 10
  · obtain ⟨k, rfl⟩ := Int.eq_ofNat_of_zero_le h0
    go_enter Try.func124, Try.ntmps124
    go_wp2
    go_ret
    have hk : k = 0 ∨ k = 1 ∨ k = 2 ∨ k = 3 ∨ k = 4 ∨ k = 5 ∨ k = 6 ∨ k = 7 ∨ k = 8 ∨ k = 9 := by omega
    refine ⟨?_, rfl⟩
    clear h0 h9
    rcases hk with rfl | rfl | rfl | rfl | rfl | rfl | rfl | rfl | rfl | rfl
    all_goals kernel_rfl
  · have h' : 10 ≤ n := by omega
    clear h
    obtain ⟨k, rfl⟩ := Int.eq_ofNat_of_zero_le h0
    go_enter Try.func124, Try.ntmps124
    go_wp2
    go_ret
    have hk : k = 10 ∨ k = 11 ∨ k = 12 ∨ k = 13 ∨ k = 14 ∨ k = 15 ∨ k = 16 ∨ k = 17 ∨ k = 18 ∨ k = 19 ∨ k = 20 ∨ k = 21 ∨ k = 22 ∨ k = 23 ∨ k = 24 ∨ k = 25 ∨ k = 26 ∨ k = 27 ∨ k = 28 ∨ k = 29 := by omega
    refine ⟨?_, rfl⟩
    clear h0 h9
    rcases hk with rfl | rfl | rfl | rfl | rfl | rfl | rfl | rfl | rfl | rfl | rfl | rfl | rfl | rfl | rfl | rfl | rfl | rfl | rfl | rfl
    all_goals kernel_rfl

theorem formatInt_any (w : World) (n : Int) (h0 : 0 ≤ n) (h9 : n ≤ 29) :
    Calls Try.prog 122 #[.int .i64 n, .int .i64 10] w fun e w' => e = .returned (.string (numS n)) ∧ w = w' := by
  have hl : n < 100 := by omega
  go_enter Try.func122, Try.ntmps122
  go_wp2_with (go_at_call 124; refine (small_any _ _ h0 h9).mono ?_; rintro e w' ⟨rfl, rfl⟩)
  go_ret
  exact ⟨rfl, rfl⟩
theorem itoa0_any (w : World) (n : Int) (h0 : 0 ≤ n) (h9 : n ≤ 29) :
    Calls Try.prog 118 #[.int .i64 n] w fun e w' => e = .returned (.string (numS n)) ∧ w = w' := by
  go_enter Try.func118, Try.ntmps118
  go_wp2_with (go_at_call 122; refine (formatInt_any _ _ h0 h9).mono ?_; rintro e w' ⟨rfl, rfl⟩)
  go_ret
  exact ⟨rfl, rfl⟩
theorem itoa_any (w : World) (n : Int) (h0 : 0 ≤ n) (h9 : n ≤ 29) :
    Calls Try.prog 115 #[.int .i64 n] w fun e w' => e = .returned (.string (numS n)) ∧ w = w' := by
  go_enter Try.func115, Try.ntmps115
  go_wp2_with (go_at_call 118; refine (itoa0_any _ _ h0 h9).mono ?_; rintro e w' ⟨rfl, rfl⟩)
  go_ret
  exact ⟨rfl, rfl⟩
/-- A name: a letter, and a number. -/
def keyN (c : UInt8) (n : Int) : ByteArray := ⟨#[c]⟩ ++ numS n
theorem numS_size (n : Int) : (numS n).size ≤ 2 := by
  unfold numS
  split
  · rw [digS_size]; omega
  · rw [append_size, digS_size, digS_size]; omega
theorem keyN_size (c : UInt8) (n : Int) : (keyN c n).size ≤ 3 := by
  unfold keyN
  rw [append_size]
  have h1 : (⟨#[c]⟩ : ByteArray).size = 1 := rfl
  have := numS_size n
  omega
theorem keyN_max (c : UInt8) (n : Int) : (keyN c n).size ≤ maxLen := by
  have := keyN_size c n
  unfold maxLen; omega
theorem numbered_any (w : World) (c : UInt8) (n : Int) (h0 : 0 ≤ n) (h9 : n ≤ 29) :
    Calls Try.prog 112 #[.string ⟨#[c]⟩, .int .i64 n] w fun e w' => e = .returned (.string (keyN c n)) ∧ w = w' := by
  have hs := numS_size n
  go_enter Try.func112, Try.ntmps112
  go_wp2_with (go_at_call 115; refine (itoa_any _ _ h0 h9).mono ?_; rintro e w' ⟨rfl, rfl⟩)
  go_ret
  exact ⟨rfl, rfl⟩

end Go.Proofs.Ytmkombbjjmmgjaa

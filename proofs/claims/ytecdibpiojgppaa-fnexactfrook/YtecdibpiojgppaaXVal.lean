/- What numbersOk (of the program) and l1Val (of the model) answer: the same bool of every list of integers. -/
import Derived.Test.YtecdibpiojgppaaXKey
import Derived.Test.YtecdibpiojgppaaXMem
namespace Go.Proofs.Ytecdibpiojgppaa
open Go.RowKit

theorem numbersOk_any (w : World) (B : Nat) (v : Value) (xs : List Int) (hv : Ints w B v xs) :
    Calls Try.prog 133 #[v] w fun e w' => e = .returned (.bool (valB xs)) ∧ w = w' := by
  obtain ⟨A, c, rfl, hc1, hc2, hrow⟩ := hv
  unfold maxLen at hc2
  by_cases hsz : xs.length < 1 ∨ 3 < xs.length
  · have hk := Lib.hid (valB_size hsz)
    clear hrow
    rcases hsz with hsz | hsz
    all_goals
      go_enter Try.func133, Try.ntmps133
      go_wp2
      go_ret
      exact ⟨ret_bool hk.out.symm, rfl⟩
  · have h1 : 1 ≤ xs.length := by omega
    have h3 : xs.length ≤ 3 := by omega
    clear hsz
    obtain ⟨b, off, rfl, hB, hcell⟩ := hrow (by omega)
    have hcell0 := Lib.hid hcell
    clear hcell hrow
    go_enter Try.func133, Try.ntmps133
    go_wp2
    go_loop [15] (fun i => ∃ k : Nat, k ≤ xs.length ∧ i = .int .i64 k ∧ Nums xs k) (fun i => xs.length - (intOf i).toNat)
    case atStart => exact ⟨0, Nat.zero_le _, rfl, Nums.start xs⟩
    case round =>
      obtain ⟨k, hk, rfl, hd⟩ := hrel
      by_cases hlt : k < xs.length
      · have hck := hcell0.out k hlt
        by_cases hh : nth xs k < 0 ∨ 9999 < nth xs k
        · have hkb := Lib.hid (valB_bad hlt hh)
          rcases hh with hh | hh
          all_goals
            go_wp2
            go_ret
            exact ⟨ret_bool hkb.out.symm, rfl⟩
        · have hh1 : 0 ≤ nth xs k := by omega
          have hh2 : nth xs k ≤ 9999 := by omega
          have hd1 : Nums xs (k + 1) := hd.step hh1 hh2
          clear hh
          go_wp2
          go_round
          case rel => exact ⟨k + 1, by omega, by go_num, hd1⟩
          case measure => simp [intOf]; omega
      · have hks : k = xs.length := by omega
        have hkb := Lib.hid (valB_yes (hks ▸ hd) h1 h3)
        clear hks
        go_wp2
        go_ret
        exact ⟨ret_bool hkb.out.symm, rfl⟩

theorem l1Val_any (w : World) (B : Nat) (v : Value) (xs : List Int) (hv : Ints w B v xs) :
    Calls Try.prog 138 #[v] w fun e w' => e = .returned (.bool (valB xs)) ∧ w = w' := by
  obtain ⟨A, c, rfl, hc1, hc2, hrow⟩ := hv
  unfold maxLen at hc2
  go_enter Try.func138, Try.ntmps138
  go_wp2
  go_loop [3] (fun i => ∃ k : Nat, k ≤ xs.length ∧ i = .int .i64 k ∧ Nums xs k) (fun i => xs.length - (intOf i).toNat)
  case atStart => exact ⟨0, Nat.zero_le _, rfl, Nums.start xs⟩
  case round =>
    obtain ⟨k, hk, rfl, hd⟩ := hrel
    by_cases hlt : k < xs.length
    · obtain ⟨b, off, rfl, hB, hcell⟩ := hrow (by omega)
      have hck := hcell k hlt
      clear hcell hrow
      by_cases hh : nth xs k < 0 ∨ 9999 < nth xs k
      · have hkb := Lib.hid (valB_bad hlt hh)
        have hin := inB_no hh
        clear hh
        go_wp2_with (go_at_call 68; refine (l1In_any _ _ _ _).mono ?_; rintro e w' ⟨rfl, rfl⟩)
        go_ret
        exact ⟨ret_bool hkb.out.symm, rfl⟩
      · have hin : inB (nth xs k) 0 9999 = true := inB_yes (by omega) (by omega)
        have hd1 : Nums xs (k + 1) := hd.step (by omega) (by omega)
        clear hh
        go_wp2_with (go_at_call 68; refine (l1In_any _ _ _ _).mono ?_; rintro e w' ⟨rfl, rfl⟩)
        go_round
        case rel => exact ⟨k + 1, by omega, by go_num, hd1⟩
        case measure => simp [intOf]; omega
    · have hks : k = xs.length := by omega
      have hkb := Lib.hid (valB_in (hks ▸ hd))
      clear hks hrow
      go_wp2_with (go_at_call 68; refine (l1In_any _ _ _ _).mono ?_; rintro e w' ⟨rfl, rfl⟩)
      go_ret
      exact ⟨ret_bool hkb.out.symm, rfl⟩

end Go.Proofs.Ytecdibpiojgppaa

/- Texts that follow each other, merged: Key, Val. -/
import Derived.Test.YtgekggoenibnmaaProg
import Derived.Test.YtgekggoenibnmaaMPlain
import Derived.WalkKit
import Derived.WalkSpells
import Derived.Lib.Hide

/- What keyOk (of the program) and l1Key (of the model) answer: the same bool of every string. -/
namespace Go.Proofs.Ytgekggoenibnmaa
open Go.RowKit

theorem ret_bool {a b : Bool} (h : a = b) : Ending.returned (.bool a) = .returned (.bool b) := by rw [h]
theorem ret_int {k : IntKind} {a b : Int} (h : a = b) : Ending.returned (.int k a) = .returned (.int k b) := by rw [h]

theorem l1In_any (n lo hi : Int) (w : World) :
    Calls Try.prog 83 #[.int .i64 n, .int .i64 lo, .int .i64 hi] w fun e w' => e = .returned (.bool (inB n lo hi)) ∧ w = w' := by
  by_cases h1 : lo ≤ n
  · by_cases h2 : n ≤ hi
    · go_enter Try.func83, Try.ntmps83
      go_wp2
      go_ret
      exact ⟨ret_bool (by unfold inB; simp [h1, h2]), rfl⟩
    · go_enter Try.func83, Try.ntmps83
      go_wp2
      go_ret
      exact ⟨ret_bool (by unfold inB; simp [h1, h2]), rfl⟩
  · go_enter Try.func83, Try.ntmps83
    go_wp2
    go_ret
    exact ⟨ret_bool (by rw [inB_no (by omega)]), rfl⟩

theorem keyOk_any (s : ByteArray) (w : World) (hs : s.size ≤ maxLen) :
    Calls Try.prog 75 #[.string s] w fun e w' => e = .returned (.bool (keyB s)) ∧ w = w' := by
  unfold maxLen at hs
  by_cases hsz : (s.size : Int) < 2 ∨ 3 < (s.size : Int)
  · have hk := Lib.hid (keyB_size hsz)
    rcases hsz with hsz | hsz
    all_goals
      go_enter Try.func75, Try.ntmps75
      go_wp2
      go_ret
      exact ⟨ret_bool hk.out.symm, rfl⟩
  · have h2 : 2 ≤ (s.size : Int) := by omega
    have h3 : (s.size : Int) ≤ 3 := by omega
    have h0 : 0 < s.size := by omega
    clear hsz
    by_cases hh : ((s[0]'h0).toNat : Int) < 97 ∨ 122 < ((s[0]'h0).toNat : Int)
    · have hk := Lib.hid (keyB_head h0 hh)
      rcases hh with hh | hh
      all_goals
        go_enter Try.func75, Try.ntmps75
        go_wp2
        go_ret
        exact ⟨ret_bool hk.out.symm, rfl⟩
    · have ha : 97 ≤ ((s[0]'h0).toNat : Int) := by omega
      have hz : ((s[0]'h0).toNat : Int) ≤ 122 := by omega
      clear hh
      go_enter Try.func75, Try.ntmps75
      go_wp2
      go_loop [3] (fun i => ∃ k : Nat, 1 ≤ k ∧ k ≤ s.size ∧ i = .int .i64 k ∧ Digs s k) (fun i => s.size - (intOf i).toNat)
      case atStart => exact ⟨1, Nat.le_refl _, by omega, rfl, Digs.start s⟩
      case round =>
        obtain ⟨k, hk1, hk, rfl, hd⟩ := hrel
        by_cases hlt : k < s.size
        · by_cases hh : ((s[k]'hlt).toNat : Int) < 48 ∨ 57 < ((s[k]'hlt).toNat : Int)
          · have hkb := Lib.hid (keyB_digit hlt hk1 hh)
            rcases hh with hh | hh
            all_goals
              go_wp2
              go_ret
              exact ⟨ret_bool hkb.out.symm, rfl⟩
          · have hd1 : Digs s (k + 1) := hd.step hlt (by omega) (by omega)
            have hh1 : 48 ≤ ((s[k]'hlt).toNat : Int) := by omega
            have hh2 : ((s[k]'hlt).toNat : Int) ≤ 57 := by omega
            clear hh
            go_wp2
            go_round
            case rel => exact ⟨k + 1, by omega, by omega, by go_num, hd1⟩
            case measure => simp [intOf]; omega
        · have hks : k = s.size := by omega
          have hkb := Lib.hid (keyB_yes h2 h3 h0 ha hz (hks ▸ hd))
          clear hks
          go_wp2
          go_ret
          exact ⟨ret_bool hkb.out.symm, rfl⟩

theorem l1Key_any (s : ByteArray) (w : World) (hs : s.size ≤ maxLen) :
    Calls Try.prog 72 #[.string s] w fun e w' => e = .returned (.bool (keyB s)) ∧ w = w' := by
  unfold maxLen at hs
  by_cases hsz : (s.size : Int) < 2 ∨ 3 < (s.size : Int)
  · have hk := Lib.hid (keyB_size hsz)
    rcases hsz with hsz | hsz
    all_goals
      go_enter Try.func72, Try.ntmps72
      go_wp2
      go_ret
      exact ⟨ret_bool hk.out.symm, rfl⟩
  · have h2 : 2 ≤ (s.size : Int) := by omega
    have h3 : (s.size : Int) ≤ 3 := by omega
    have h0 : 0 < s.size := by omega
    clear hsz
    by_cases hh : ((s[0]'h0).toNat : Int) < 97 ∨ 122 < ((s[0]'h0).toNat : Int)
    · have hk := Lib.hid (keyB_head h0 hh)
      rcases hh with hh | hh
      all_goals
        go_enter Try.func72, Try.ntmps72
        go_wp2
        go_ret
        exact ⟨ret_bool hk.out.symm, rfl⟩
    · have ha : 97 ≤ ((s[0]'h0).toNat : Int) := by omega
      have hz : ((s[0]'h0).toNat : Int) ≤ 122 := by omega
      clear hh
      go_enter Try.func72, Try.ntmps72
      go_wp2
      go_loop [3] (fun i => ∃ k : Nat, 1 ≤ k ∧ k ≤ s.size ∧ i = .int .i64 k ∧ Digs s k) (fun i => s.size - (intOf i).toNat)
      case atStart => exact ⟨1, Nat.le_refl _, by omega, rfl, Digs.start s⟩
      case round =>
        obtain ⟨k, hk1, hk, rfl, hd⟩ := hrel
        by_cases hlt : k < s.size
        · by_cases hh : ((s[k]'hlt).toNat : Int) < 48 ∨ 57 < ((s[k]'hlt).toNat : Int)
          · have hkb := Lib.hid (keyB_digit hlt hk1 hh)
            rcases hh with hh | hh
            all_goals
              go_wp2
              go_ret
              exact ⟨ret_bool hkb.out.symm, rfl⟩
          · have hd1 : Digs s (k + 1) := hd.step hlt (by omega) (by omega)
            have hh1 : 48 ≤ ((s[k]'hlt).toNat : Int) := by omega
            have hh2 : ((s[k]'hlt).toNat : Int) ≤ 57 := by omega
            clear hh
            go_wp2
            go_round
            case rel => exact ⟨k + 1, by omega, by omega, by go_num, hd1⟩
            case measure => simp [intOf]; omega
        · have hks : k = s.size := by omega
          have hkb := Lib.hid (keyB_yes h2 h3 h0 ha hz (hks ▸ hd))
          clear hks
          go_wp2
          go_ret
          exact ⟨ret_bool hkb.out.symm, rfl⟩

end Go.Proofs.Ytgekggoenibnmaa

/- What numbersOk (of the program) and l1Val (of the model) answer: the same bool of every list of integers. -/
namespace Go.Proofs.Ytgekggoenibnmaa
open Go.RowKit

theorem numbersOk_any (w : World) (B : Nat) (v : Value) (xs : List Int) (hv : Ints w B v xs) :
    Calls Try.prog 76 #[v] w fun e w' => e = .returned (.bool (valB xs)) ∧ w = w' := by
  obtain ⟨A, c, rfl, hc1, hc2, hrow⟩ := hv
  unfold maxLen at hc2
  by_cases hsz : xs.length < 1 ∨ 3 < xs.length
  · have hk := Lib.hid (valB_size hsz)
    clear hrow
    rcases hsz with hsz | hsz
    all_goals
      go_enter Try.func76, Try.ntmps76
      go_wp2
      go_ret
      exact ⟨ret_bool hk.out.symm, rfl⟩
  · have h1 : 1 ≤ xs.length := by omega
    have h3 : xs.length ≤ 3 := by omega
    clear hsz
    obtain ⟨b, off, rfl, hB, hcell⟩ := hrow (by omega)
    have hcell0 := Lib.hid hcell
    clear hcell hrow
    go_enter Try.func76, Try.ntmps76
    go_wp2
    go_loop [15] (fun i => ∃ k : Nat, k ≤ xs.length ∧ i = .int .i64 k ∧ Nums xs k) (fun i => xs.length - (intOf i).toNat)
    case atStart => exact ⟨0, Nat.zero_le _, rfl, Nums.start xs⟩
    case round =>
      obtain ⟨k, hk, rfl, hd⟩ := hrel
      by_cases hlt : k < xs.length
      · have hck := hcell0.out k hlt
        by_cases hh : nth xs k < 0 ∨ 9999 < nth xs k
        · have hkb := Lib.hid (valB_bad hlt hh)
          rcases hh with hh | hh
          all_goals
            go_wp2
            go_ret
            exact ⟨ret_bool hkb.out.symm, rfl⟩
        · have hh1 : 0 ≤ nth xs k := by omega
          have hh2 : nth xs k ≤ 9999 := by omega
          have hd1 : Nums xs (k + 1) := hd.step hh1 hh2
          clear hh
          go_wp2
          go_round
          case rel => exact ⟨k + 1, by omega, by go_num, hd1⟩
          case measure => simp [intOf]; omega
      · have hks : k = xs.length := by omega
        have hkb := Lib.hid (valB_yes (hks ▸ hd) h1 h3)
        clear hks
        go_wp2
        go_ret
        exact ⟨ret_bool hkb.out.symm, rfl⟩

theorem l1Val_any (w : World) (B : Nat) (v : Value) (xs : List Int) (hv : Ints w B v xs) :
    Calls Try.prog 73 #[v] w fun e w' => e = .returned (.bool (valB xs)) ∧ w = w' := by
  obtain ⟨A, c, rfl, hc1, hc2, hrow⟩ := hv
  unfold maxLen at hc2
  go_enter Try.func73, Try.ntmps73
  go_wp2
  go_loop [3] (fun i => ∃ k : Nat, k ≤ xs.length ∧ i = .int .i64 k ∧ Nums xs k) (fun i => xs.length - (intOf i).toNat)
  case atStart => exact ⟨0, Nat.zero_le _, rfl, Nums.start xs⟩
  case round =>
    obtain ⟨k, hk, rfl, hd⟩ := hrel
    by_cases hlt : k < xs.length
    · obtain ⟨b, off, rfl, hB, hcell⟩ := hrow (by omega)
      have hck := hcell k hlt
      clear hcell hrow
      by_cases hh : nth xs k < 0 ∨ 9999 < nth xs k
      · have hkb := Lib.hid (valB_bad hlt hh)
        have hin := inB_no hh
        clear hh
        go_wp2_with (go_at_call 83; refine (l1In_any _ _ _ _).mono ?_; rintro e w' ⟨rfl, rfl⟩)
        go_ret
        exact ⟨ret_bool hkb.out.symm, rfl⟩
      · have hin : inB (nth xs k) 0 9999 = true := inB_yes (by omega) (by omega)
        have hd1 : Nums xs (k + 1) := hd.step (by omega) (by omega)
        clear hh
        go_wp2_with (go_at_call 83; refine (l1In_any _ _ _ _).mono ?_; rintro e w' ⟨rfl, rfl⟩)
        go_round
        case rel => exact ⟨k + 1, by omega, by go_num, hd1⟩
        case measure => simp [intOf]; omega
    · have hks : k = xs.length := by omega
      have hkb := Lib.hid (valB_in (hks ▸ hd))
      clear hks hrow
      go_wp2_with (go_at_call 83; refine (l1In_any _ _ _ _).mono ?_; rintro e w' ⟨rfl, rfl⟩)
      go_ret
      exact ⟨ret_bool hkb.out.symm, rfl⟩

end Go.Proofs.Ytgekggoenibnmaa

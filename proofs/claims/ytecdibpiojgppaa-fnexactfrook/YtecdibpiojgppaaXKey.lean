/- What keyOk (of the program) and l1Key (of the model) answer: the same bool of every string. -/
import Derived.Test.YtecdibpiojgppaaProg
import Derived.Test.YtecdibpiojgppaaXPlain
import Derived.WalkKit
import Derived.WalkSpells
import Derived.Lib.Hide
namespace Go.Proofs.Ytecdibpiojgppaa
open Go.RowKit

theorem ret_bool {a b : Bool} (h : a = b) : Ending.returned (.bool a) = .returned (.bool b) := by rw [h]
theorem ret_int {k : IntKind} {a b : Int} (h : a = b) : Ending.returned (.int k a) = .returned (.int k b) := by rw [h]

theorem l1In_any (n lo hi : Int) (w : World) :
    Calls Try.prog 68 #[.int .i64 n, .int .i64 lo, .int .i64 hi] w fun e w' => e = .returned (.bool (inB n lo hi)) ∧ w = w' := by
  by_cases h1 : lo ≤ n
  · by_cases h2 : n ≤ hi
    · go_enter Try.func68, Try.ntmps68
      go_wp2
      go_ret
      exact ⟨ret_bool (by unfold inB; simp [h1, h2]), rfl⟩
    · go_enter Try.func68, Try.ntmps68
      go_wp2
      go_ret
      exact ⟨ret_bool (by unfold inB; simp [h1, h2]), rfl⟩
  · go_enter Try.func68, Try.ntmps68
    go_wp2
    go_ret
    exact ⟨ret_bool (by rw [inB_no (by omega)]), rfl⟩

theorem keyOk_any (s : ByteArray) (w : World) (hs : s.size ≤ maxLen) :
    Calls Try.prog 132 #[.string s] w fun e w' => e = .returned (.bool (keyB s)) ∧ w = w' := by
  unfold maxLen at hs
  by_cases hsz : (s.size : Int) < 2 ∨ 3 < (s.size : Int)
  · have hk := Lib.hid (keyB_size hsz)
    rcases hsz with hsz | hsz
    all_goals
      go_enter Try.func132, Try.ntmps132
      go_wp2
      go_ret
      exact ⟨ret_bool hk.out.symm, rfl⟩
  · have h2 : 2 ≤ (s.size : Int) := by omega
    have h3 : (s.size : Int) ≤ 3 := by omega
    have h0 : 0 < s.size := by omega
    clear hsz
    by_cases hh : ((s[0]'h0).toNat : Int) < 97 ∨ 122 < ((s[0]'h0).toNat : Int)
    · have hk := Lib.hid (keyB_head h0 hh)
      rcases hh with hh | hh
      all_goals
        go_enter Try.func132, Try.ntmps132
        go_wp2
        go_ret
        exact ⟨ret_bool hk.out.symm, rfl⟩
    · have ha : 97 ≤ ((s[0]'h0).toNat : Int) := by omega
      have hz : ((s[0]'h0).toNat : Int) ≤ 122 := by omega
      clear hh
      go_enter Try.func132, Try.ntmps132
      go_wp2
      go_loop [3] (fun i => ∃ k : Nat, 1 ≤ k ∧ k ≤ s.size ∧ i = .int .i64 k ∧ Digs s k) (fun i => s.size - (intOf i).toNat)
      case atStart => exact ⟨1, Nat.le_refl _, by omega, rfl, Digs.start s⟩
      case round =>
        obtain ⟨k, hk1, hk, rfl, hd⟩ := hrel
        by_cases hlt : k < s.size
        · by_cases hh : ((s[k]'hlt).toNat : Int) < 48 ∨ 57 < ((s[k]'hlt).toNat : Int)
          · have hkb := Lib.hid (keyB_digit hlt hk1 hh)
            rcases hh with hh | hh
            all_goals
              go_wp2
              go_ret
              exact ⟨ret_bool hkb.out.symm, rfl⟩
          · have hd1 : Digs s (k + 1) := hd.step hlt (by omega) (by omega)
            have hh1 : 48 ≤ ((s[k]'hlt).toNat : Int) := by omega
            have hh2 : ((s[k]'hlt).toNat : Int) ≤ 57 := by omega
            clear hh
            go_wp2
            go_round
            case rel => exact ⟨k + 1, by omega, by omega, by go_num, hd1⟩
            case measure => simp [intOf]; omega
        · have hks : k = s.size := by omega
          have hkb := Lib.hid (keyB_yes h2 h3 h0 ha hz (hks ▸ hd))
          clear hks
          go_wp2
          go_ret
          exact ⟨ret_bool hkb.out.symm, rfl⟩

theorem l1Key_any (s : ByteArray) (w : World) (hs : s.size ≤ maxLen) :
    Calls Try.prog 69 #[.string s] w fun e w' => e = .returned (.bool (keyB s)) ∧ w = w' := by
  unfold maxLen at hs
  by_cases hsz : (s.size : Int) < 2 ∨ 3 < (s.size : Int)
  · have hk := Lib.hid (keyB_size hsz)
    rcases hsz with hsz | hsz
    all_goals
      go_enter Try.func69, Try.ntmps69
      go_wp2
      go_ret
      exact ⟨ret_bool hk.out.symm, rfl⟩
  · have h2 : 2 ≤ (s.size : Int) := by omega
    have h3 : (s.size : Int) ≤ 3 := by omega
    have h0 : 0 < s.size := by omega
    clear hsz
    by_cases hh : ((s[0]'h0).toNat : Int) < 97 ∨ 122 < ((s[0]'h0).toNat : Int)
    · have hk := Lib.hid (keyB_head h0 hh)
      rcases hh with hh | hh
      all_goals
        go_enter Try.func69, Try.ntmps69
        go_wp2
        go_ret
        exact ⟨ret_bool hk.out.symm, rfl⟩
    · have ha : 97 ≤ ((s[0]'h0).toNat : Int) := by omega
      have hz : ((s[0]'h0).toNat : Int) ≤ 122 := by omega
      clear hh
      go_enter Try.func69, Try.ntmps69
      go_wp2
      go_loop [3] (fun i => ∃ k : Nat, 1 ≤ k ∧ k ≤ s.size ∧ i = .int .i64 k ∧ Digs s k) (fun i => s.size - (intOf i).toNat)
      case atStart => exact ⟨1, Nat.le_refl _, by omega, rfl, Digs.start s⟩
      case round =>
        obtain ⟨k, hk1, hk, rfl, hd⟩ := hrel
        by_cases hlt : k < s.size
        · by_cases hh : ((s[k]'hlt).toNat : Int) < 48 ∨ 57 < ((s[k]'hlt).toNat : Int)
          · have hkb := Lib.hid (keyB_digit hlt hk1 hh)
            rcases hh with hh | hh
            all_goals
              go_wp2
              go_ret
              exact ⟨ret_bool hkb.out.symm, rfl⟩
          · have hd1 : Digs s (k + 1) := hd.step hlt (by omega) (by omega)
            have hh1 : 48 ≤ ((s[k]'hlt).toNat : Int) := by omega
            have hh2 : ((s[k]'hlt).toNat : Int) ≤ 57 := by omega
            clear hh
            go_wp2
            go_round
            case rel => exact ⟨k + 1, by omega, by omega, by go_num, hd1⟩
            case measure => simp [intOf]; omega
        · have hks : k = s.size := by omega
          have hkb := Lib.hid (keyB_yes h2 h3 h0 ha hz (hks ▸ hd))
          clear hks
          go_wp2
          go_ret
          exact ⟨ret_bool hkb.out.symm, rfl⟩

end Go.Proofs.Ytecdibpiojgppaa

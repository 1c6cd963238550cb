/- jaInts and jaIn of the laws. -/
import Derived.Test.YtmkombbjjmmgjaaKey
import Derived.Test.YtmkombbjjmmgjaaMem
import Derived.Deep.QuietTactic
import Derived.BigQuiet
namespace Go.Proofs.Ytmkombbjjmmgjaa
open Go.RowKit

set_option maxRecDepth 100000 in
theorem jaInts_any (w : World) (B : Nat) (v u : Value) (xs ys : List Int) (hv : Ints w B v xs) (hu : Ints w B u ys) :
    Calls Try.prog 31 #[v, u] w fun e w' => e = .returned (.bool (decide (xs = ys))) ∧ ∃ n, w' = w.drewN n := by
  obtain ⟨A, c, rfl, hc1, hc2, hrow⟩ := hv
  obtain ⟨A', c', rfl, hc1', hc2', hrow'⟩ := hu
  unfold maxLen at hc2 hc2'
  by_cases hl : xs.length = ys.length
  · have HL := Lib.hid hl
    have hl1 : xs.length ≤ ys.length := by omega
    have hl2 : ys.length ≤ xs.length := by omega
    have hbe : (((xs.length : Nat) : Int) != ((ys.length : Nat) : Int)) = false := by simp [hl]
    clear hl
    go_enter Try.func31, Try.ntmps31
    go_wp2
    go_loopw [5] (fun i wr => ∃ k n : Nat, k ≤ xs.length ∧ i = .int .i64 k ∧ Same xs ys k ∧ wr = w.drewN n) (fun i _ => xs.length - (intOf i).toNat)
    case atStart => exact ⟨0, 0, Nat.zero_le _, rfl, Same.start xs ys, rfl⟩
    case round =>
      obtain ⟨k, n, hk, rfl, hs, rfl⟩ := hrel
      by_cases hlt : k < xs.length
      · obtain ⟨b, off, rfl, hB, hcell⟩ := hrow (by omega)
        obtain ⟨b', off', rfl, hB', hcell'⟩ := hrow' (by omega)
        have hck := hcell k hlt
        have hck' := hcell' k (by omega)
        have hlt' : k < ys.length := by omega
        clear hcell hrow hcell' hrow'
        by_cases hn : nth xs k = nth ys k
        · have hs1 := hs.step hn
          have hb1 : (nth xs k != nth ys k) = false := by simp [hn]
          clear hn
          go_wp2
          go_quiet (fail)
          go_wp2
          go_roundw
          case rel => exact ⟨k + 1, _, by omega, by go_num, hs1, rfl⟩
          case measure => simp [intOf]; omega
        · have hne := Lib.hid (nth_ne hn)
          have hb1 : (nth xs k != nth ys k) = true := by simp [hn]
          clear hn
          go_wp2
          go_quiet (fail)
          go_wp2
          go_ret
          exact ⟨ret_bool (by simp [hne.out]), _, World.drewN_drewN _ _ _⟩
      · have hks : k = xs.length := by omega
        have HE := Lib.hid ((hks ▸ hs : Same xs ys xs.length).eq HL.out)
        clear hks hrow hrow'
        go_wp2
        go_ret
        exact ⟨ret_bool (by simp [HE.out]), _, rfl⟩
  · have hne := Lib.hid (len_ne hl)
    have hbe : (((xs.length : Nat) : Int) != ((ys.length : Nat) : Int)) = true := by simp; omega
    clear hl hrow hrow'
    go_enter Try.func31, Try.ntmps31
    go_wp2
    go_ret
    exact ⟨ret_bool (by simp [hne.out]), 0, rfl⟩

/-- A number is one of some. -/
def memB (xs : List Int) (n : Int) : Bool := xs.contains n
/-- None of the first k is it. -/
def NoneTo (xs : List Int) (n : Int) (k : Nat) : Prop := ∀ j, j < k → j < xs.length → nth xs j ≠ n
theorem NoneTo.start (xs : List Int) (n : Int) : NoneTo xs n 0 := fun j h => absurd h (by omega)
theorem NoneTo.step {xs : List Int} {n : Int} {k : Nat} (h : NoneTo xs n k) (hn : nth xs k ≠ n) : NoneTo xs n (k + 1) := by
  intro j hj hl
  rcases Nat.lt_or_ge j k with hlt | hge
  · exact h j hlt hl
  · have : j = k := by omega
    subst this; exact hn
theorem NoneTo.all {xs : List Int} {n : Int} (h : NoneTo xs n xs.length) : memB xs n = false := by
  unfold memB
  rw [List.contains_eq_mem, decide_eq_false_iff_not]
  intro hm
  obtain ⟨j, hj, e⟩ := List.getElem_of_mem hm
  have := h j hj hj
  rw [nth_get hj] at this
  exact this e
theorem memB_at {xs : List Int} {n : Int} {k : Nat} (hk : k < xs.length) (h : nth xs k = n) : memB xs n = true := by
  unfold memB
  rw [List.contains_eq_mem, decide_eq_true_iff]
  rw [nth_get hk] at h
  exact h ▸ List.getElem_mem hk
set_option maxRecDepth 100000 in
theorem jaIn_any (w : World) (B : Nat) (v : Value) (xs : List Int) (n : Int) (hv : Ints w B v xs) :
    Calls Try.prog 32 #[v, .int .i64 n] w fun e w' => e = .returned (.bool (memB xs n)) ∧ w = w' := by
  obtain ⟨A, c, rfl, hc1, hc2, hrow⟩ := hv
  unfold maxLen at hc2
  go_enter Try.func32, Try.ntmps32
  go_wp2
  go_loop [5] (fun i => ∃ k : Nat, k ≤ xs.length ∧ i = .int .i64 k ∧ NoneTo xs n k) (fun i => xs.length - (intOf i).toNat)
  case atStart => exact ⟨0, Nat.zero_le _, rfl, NoneTo.start xs n⟩
  case round =>
    obtain ⟨k, hk, rfl, hs⟩ := hrel
    by_cases hlt : k < xs.length
    · obtain ⟨b, off, rfl, hB, hcell⟩ := hrow (by omega)
      have hck := hcell k hlt
      clear hcell hrow
      by_cases hn : nth xs k = n
      · have HM := Lib.hid (memB_at hlt hn)
        have hb1 : (nth xs k == n) = true := by simp [hn]
        clear hn
        go_wp2
        go_ret
        exact ⟨ret_bool HM.out.symm, rfl⟩
      · have HS := Lib.hid (hs.step hn)
        have hb1 : (nth xs k == n) = false := by simp [hn]
        clear hn
        go_wp2
        go_round
        case rel => exact ⟨k + 1, by omega, by go_num, HS.out⟩
        case measure => simp [intOf]; omega
    · have hks : k = xs.length := by omega
      have HM := Lib.hid (NoneTo.all (hks ▸ hs : NoneTo xs n xs.length))
      clear hks hrow
      go_wp2
      go_ret
      exact ⟨ret_bool HM.out.symm, rfl⟩

end Go.Proofs.Ytmkombbjjmmgjaa

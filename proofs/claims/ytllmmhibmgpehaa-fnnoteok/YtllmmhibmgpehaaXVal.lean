/- Texts that follow each other, merged: Val, ExInts. -/
import Derived.Test.YtllmmhibmgpehaaXFrame
import Derived.Test.YtllmmhibmgpehaaXPlain
import Derived.Deep.OwnRows
import Derived.Deep.QuietTactic
import Derived.BigQuiet
import Derived.OwnWalk

/- What numbersOk (of the program) and l1Val (of the model) answer: the same bool of every list of integers. -/
namespace Go.Proofs.Ytllmmhibmgpehaa
open Go.RowKit

theorem numbersOk_any (w : World) (B : Nat) (v : Value) (xs : List Int) (hv : Ints w B v xs) :
    Calls Try.prog 112 #[v] w fun e w' => e = .returned (.bool (valB xs)) ∧ w = w' := by
  obtain ⟨A, c, rfl, hc1, hc2, hrow⟩ := hv
  unfold maxLen at hc2
  by_cases hsz : xs.length < 1 ∨ 3 < xs.length
  · have hk := Lib.hid (valB_size hsz)
    clear hrow
    rcases hsz with hsz | hsz
    all_goals
      go_enter Try.func112, Try.ntmps112
      go_wp2
      go_ret
      exact ⟨ret_bool hk.out.symm, rfl⟩
  · have h1 : 1 ≤ xs.length := by omega
    have h3 : xs.length ≤ 3 := by omega
    clear hsz
    obtain ⟨b, off, rfl, hB, hcell⟩ := hrow (by omega)
    have hcell0 := Lib.hid hcell
    clear hcell hrow
    go_enter Try.func112, Try.ntmps112
    go_wp2
    go_loop [15] (fun i => ∃ k : Nat, k ≤ xs.length ∧ i = .int .i64 k ∧ Nums xs k) (fun i => xs.length - (intOf i).toNat)
    case atStart => exact ⟨0, Nat.zero_le _, rfl, Nums.start xs⟩
    case round =>
      obtain ⟨k, hk, rfl, hd⟩ := hrel
      by_cases hlt : k < xs.length
      · have hck := hcell0.out k hlt
        by_cases hh : nth xs k < 0 ∨ 9999 < nth xs k
        · have hkb := Lib.hid (valB_bad hlt hh)
          rcases hh with hh | hh
          all_goals
            go_wp2
            go_ret
            exact ⟨ret_bool hkb.out.symm, rfl⟩
        · have hh1 : 0 ≤ nth xs k := by omega
          have hh2 : nth xs k ≤ 9999 := by omega
          have hd1 : Nums xs (k + 1) := hd.step hh1 hh2
          clear hh
          go_wp2
          go_round
          case rel => exact ⟨k + 1, by omega, by go_num, hd1⟩
          case measure => simp [intOf]; omega
      · have hks : k = xs.length := by omega
        have hkb := Lib.hid (valB_yes (hks ▸ hd) h1 h3)
        clear hks
        go_wp2
        go_ret
        exact ⟨ret_bool hkb.out.symm, rfl⟩

theorem l1Val_any (w : World) (B : Nat) (v : Value) (xs : List Int) (hv : Ints w B v xs) :
    Calls Try.prog 111 #[v] w fun e w' => e = .returned (.bool (valB xs)) ∧ w = w' := by
  obtain ⟨A, c, rfl, hc1, hc2, hrow⟩ := hv
  unfold maxLen at hc2
  go_enter Try.func111, Try.ntmps111
  go_wp2
  go_loop [3] (fun i => ∃ k : Nat, k ≤ xs.length ∧ i = .int .i64 k ∧ Nums xs k) (fun i => xs.length - (intOf i).toNat)
  case atStart => exact ⟨0, Nat.zero_le _, rfl, Nums.start xs⟩
  case round =>
    obtain ⟨k, hk, rfl, hd⟩ := hrel
    by_cases hlt : k < xs.length
    · obtain ⟨b, off, rfl, hB, hcell⟩ := hrow (by omega)
      have hck := hcell k hlt
      clear hcell hrow
      by_cases hh : nth xs k < 0 ∨ 9999 < nth xs k
      · have hkb := Lib.hid (valB_bad hlt hh)
        have hin := inB_no hh
        clear hh
        go_wp2_with (go_at_call 66; refine (l1In_any _ _ _ _).mono ?_; rintro e w' ⟨rfl, rfl⟩)
        go_ret
        exact ⟨ret_bool hkb.out.symm, rfl⟩
      · have hin : inB (nth xs k) 0 9999 = true := inB_yes (by omega) (by omega)
        have hd1 : Nums xs (k + 1) := hd.step (by omega) (by omega)
        clear hh
        go_wp2_with (go_at_call 66; refine (l1In_any _ _ _ _).mono ?_; rintro e w' ⟨rfl, rfl⟩)
        go_round
        case rel => exact ⟨k + 1, by omega, by go_num, hd1⟩
        case measure => simp [intOf]; omega
    · have hks : k = xs.length := by omega
      have hkb := Lib.hid (valB_in (hks ▸ hd))
      clear hks hrow
      go_wp2_with (go_at_call 66; refine (l1In_any _ _ _ _).mono ?_; rintro e w' ⟨rfl, rfl⟩)
      go_ret
      exact ⟨ret_bool hkb.out.symm, rfl⟩

end Go.Proofs.Ytllmmhibmgpehaa

/- The helpers of the exact laws over slices of integers: a copy, a comparison, a count. -/
namespace Go.Proofs.Ytllmmhibmgpehaa
open Go.RowKit

theorem infoInt : (Try.prog.info? 3).map (fun i => (i.zero, i.size, i.bytes)) = some (some (.int .i64 0), 1, 8) := by kernel_rfl

/-- Cell j of a copy that has come to k. -/
def part (xs : List Int) (k j : Nat) : Value := .int .i64 (if j < k then nth xs j else 0)
theorem part_zero (xs : List Int) (j : Nat) : part xs 0 j = .int .i64 0 := by simp [part]
theorem part_step (xs : List Int) (k j : Nat) : (if j = k then .int .i64 (nth xs k) else part xs k j) = part xs (k + 1) j := by
  unfold part
  by_cases h : j = k
  · subst h; simp
  · rw [if_neg h]
    by_cases h' : j < k
    · rw [if_pos h', if_pos (by omega)]
    · rw [if_neg h', if_neg (by omega)]
theorem part_all {xs : List Int} {j : Nat} (h : j < xs.length) : part xs xs.length j = .int .i64 (nth xs j) := by simp [part, h]

theorem toIntS_any (w : World) (v : Value) (xs : List Int) (hv : Ints w w.heap.size v xs) (hl : xs.length ≤ 1048576) :
    Calls Try.prog 137 #[v] w fun e w' => e = .returned (.slice (some ⟨w.heap.size, 0, none⟩) xs.length xs.length) ∧ w'.rowIs w.heap.size 3 xs.length (fun j => .int .i64 (nth xs j)) ∧ Below w.heap.size w w' ∧ w'.heap.size = w.heap.size + 1 := by
  obtain ⟨A, c, rfl, hc1, hc2, hrow⟩ := hv
  unfold maxLen at hc2
  have hmk := fun W => run_make_row' (P := Try.prog) 31 3 (.int .i64 0) 8 Try.underlying31 infoInt rfl .i64 .i64 xs.length (by omega) (by omega) W
  go_enter Try.func137, Try.ntmps137
  go_wp2
  clear hmk
  go_loopw [4] (fun i wr => ∃ k : Nat, k ≤ xs.length ∧ i = .int .i64 k ∧ wr.rowIs w.heap.size 3 xs.length (part xs k) ∧ Below w.heap.size w wr ∧ wr.heap.size = w.heap.size + 1) (fun i _ => xs.length - (intOf i).toNat)
  case atStart => exact ⟨0, Nat.zero_le _, rfl, (World.rowIs_made w (.int .i64 0) xs.length 3).congr (fun j _ => (part_zero xs j).symm), (Below.refl _ _).alloc (Nat.le_refl _) _, by simp⟩
  case round =>
    obtain ⟨k, hk, rfl, hr, hb, hz⟩ := hrel
    by_cases hlt : k < xs.length
    · obtain ⟨b, off, rfl, hB, hcell⟩ := hrow (by omega)
      have hck := (hb.cell (p := ⟨b, off + k, none⟩) hB).trans (hcell k hlt)
      have hrk := hr.cell hlt
      have hfk := hr.frozen k
      have R1 := Lib.hid ((hr.set k (.int .i64 (nth xs k))).congr (fun j _ => part_step xs k j))
      have R2 := Lib.hid (hb.setCell (p := ⟨w.heap.size, k, none⟩) (Nat.le_refl _) (.int .i64 (nth xs k)))
      have HZ := Lib.hid hz
      clear hcell hrow hr hz
      go_wp2
      go_roundw
      case rel => exact ⟨k + 1, by omega, by go_num, R1.out, R2.out, by simpa [World.setCell] using HZ.out⟩
      case measure => simp [intOf]; omega
    · have hks : k = xs.length := by omega
      have R1 := Lib.hid (hr.congr (g := fun j => .int .i64 (nth xs j)) (fun j hj => by subst hks; exact part_all hj))
      have HZ := Lib.hid hz
      clear hks hrow hr hz
      go_wp2
      go_ret
      exact ⟨rfl, R1.out, hb, HZ.out⟩

theorem szIntS_any (w : World) (B : Nat) (v : Value) (xs : List Int) (hv : Ints w B v xs) (left : Int) (h0 : 0 ≤ left) (h1 : left ≤ 1048576) :
    Calls Try.prog 136 #[v, .int .i64 left] w fun e w' => e = .returned (.int .i64 (less left xs.length)) ∧ w = w' := by
  obtain ⟨A, c, rfl, hc2, hc1⟩ := hv.form
  clear hv
  unfold maxLen at hc2
  by_cases h : left < (xs.length : Int)
  · go_enter Try.func136, Try.ntmps136
    go_wp2
    go_ret
    exact ⟨ret_int (by rw [less_no h]), rfl⟩
  · go_enter Try.func136, Try.ntmps136
    go_wp2
    go_ret
    exact ⟨ret_int (by rw [less_yes (by omega)]), rfl⟩

theorem eqIntS_any (w : World) (B : Nat) (v u : Value) (xs ys : List Int) (hv : Ints w B v xs) (hu : Ints w B u ys) :
    Calls Try.prog 39 #[v, u] w fun e w' => e = .returned (.bool (decide (xs = ys))) ∧ ∃ n, w' = w.drewN n := by
  obtain ⟨A, c, rfl, hc1, hc2, hrow⟩ := hv
  obtain ⟨A', c', rfl, hc1', hc2', hrow'⟩ := hu
  unfold maxLen at hc2 hc2'
  by_cases hl : xs.length = ys.length
  · have HL := Lib.hid hl
    have hl1 : xs.length ≤ ys.length := by omega
    have hl2 : ys.length ≤ xs.length := by omega
    have hbe : (((xs.length : Nat) : Int) != ((ys.length : Nat) : Int)) = false := by simp [hl]
    clear hl
    go_enter Try.func39, Try.ntmps39
    go_wp2
    go_loopw [5] (fun i wr => ∃ k n : Nat, k ≤ xs.length ∧ i = .int .i64 k ∧ Same xs ys k ∧ wr = w.drewN n) (fun i _ => xs.length - (intOf i).toNat)
    case atStart => exact ⟨0, 0, Nat.zero_le _, rfl, Same.start xs ys, rfl⟩
    case round =>
      obtain ⟨k, n, hk, rfl, hs, rfl⟩ := hrel
      by_cases hlt : k < xs.length
      · obtain ⟨b, off, rfl, hB, hcell⟩ := hrow (by omega)
        obtain ⟨b', off', rfl, hB', hcell'⟩ := hrow' (by omega)
        have hck := hcell k hlt
        have hck' := hcell' k (by omega)
        have hlt' : k < ys.length := by omega
        clear hcell hrow hcell' hrow'
        by_cases hn : nth xs k = nth ys k
        · have hs1 := hs.step hn
          have hb1 : (nth xs k != nth ys k) = false := by simp [hn]
          clear hn
          go_wp2
          go_quiet (fail)
          go_wp2
          go_roundw
          case rel => exact ⟨k + 1, _, by omega, by go_num, hs1, rfl⟩
          case measure => simp [intOf]; omega
        · have hne := Lib.hid (nth_ne hn)
          have hb1 : (nth xs k != nth ys k) = true := by simp [hn]
          clear hn
          go_wp2
          go_quiet (fail)
          go_wp2
          go_ret
          exact ⟨ret_bool (by simp [hne.out]), _, World.drewN_drewN _ _ _⟩
      · have hks : k = xs.length := by omega
        have HE := Lib.hid ((hks ▸ hs : Same xs ys xs.length).eq HL.out)
        clear hks hrow hrow'
        go_wp2
        go_ret
        exact ⟨ret_bool (by simp [HE.out]), _, rfl⟩
  · have hne := Lib.hid (len_ne hl)
    have hbe : (((xs.length : Nat) : Int) != ((ys.length : Nat) : Int)) = true := by simp; omega
    clear hl hrow hrow'
    go_enter Try.func39, Try.ntmps39
    go_wp2
    go_ret
    exact ⟨ret_bool (by simp [hne.out]), 0, rfl⟩

end Go.Proofs.Ytllmmhibmgpehaa

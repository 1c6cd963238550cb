/- Texts that follow each other, merged: Key, Val, ExInts, Mine. -/
import Derived.Test.YtkamlibfcakblaaProg
import Derived.Test.YtkamlibfcakblaaXPlain
import Derived.WalkKit
import Derived.WalkSpells
import Derived.Lib.Hide
import Derived.Deep.OwnRows
import Derived.Deep.QuietTactic
import Derived.BigQuiet
import Derived.OwnWalk
import Derived.Laws.MakeOwn

/- What keyOk (of the program) and l1Key (of the model) answer: the same bool of every string. -/
namespace Go.Proofs.Ytkamlibfcakblaa
open Go.RowKit

theorem ret_bool {a b : Bool} (h : a = b) : Ending.returned (.bool a) = .returned (.bool b) := by rw [h]
theorem ret_int {k : IntKind} {a b : Int} (h : a = b) : Ending.returned (.int k a) = .returned (.int k b) := by rw [h]

theorem l1In_any (n lo hi : Int) (w : World) :
    Calls Try.prog 64 #[.int .i64 n, .int .i64 lo, .int .i64 hi] w fun e w' => e = .returned (.bool (inB n lo hi)) ∧ w = w' := by
  by_cases h1 : lo ≤ n
  · by_cases h2 : n ≤ hi
    · go_enter Try.func64, Try.ntmps64
      go_wp2
      go_ret
      exact ⟨ret_bool (by unfold inB; simp [h1, h2]), rfl⟩
    · go_enter Try.func64, Try.ntmps64
      go_wp2
      go_ret
      exact ⟨ret_bool (by unfold inB; simp [h1, h2]), rfl⟩
  · go_enter Try.func64, Try.ntmps64
    go_wp2
    go_ret
    exact ⟨ret_bool (by rw [inB_no (by omega)]), rfl⟩

theorem keyOk_any (s : ByteArray) (w : World) (hs : s.size ≤ maxLen) :
    Calls Try.prog 85 #[.string s] w fun e w' => e = .returned (.bool (keyB s)) ∧ w = w' := by
  unfold maxLen at hs
  by_cases hsz : (s.size : Int) < 2 ∨ 3 < (s.size : Int)
  · have hk := Lib.hid (keyB_size hsz)
    rcases hsz with hsz | hsz
    all_goals
      go_enter Try.func85, Try.ntmps85
      go_wp2
      go_ret
      exact ⟨ret_bool hk.out.symm, rfl⟩
  · have h2 : 2 ≤ (s.size : Int) := by omega
    have h3 : (s.size : Int) ≤ 3 := by omega
    have h0 : 0 < s.size := by omega
    clear hsz
    by_cases hh : ((s[0]'h0).toNat : Int) < 97 ∨ 122 < ((s[0]'h0).toNat : Int)
    · have hk := Lib.hid (keyB_head h0 hh)
      rcases hh with hh | hh
      all_goals
        go_enter Try.func85, Try.ntmps85
        go_wp2
        go_ret
        exact ⟨ret_bool hk.out.symm, rfl⟩
    · have ha : 97 ≤ ((s[0]'h0).toNat : Int) := by omega
      have hz : ((s[0]'h0).toNat : Int) ≤ 122 := by omega
      clear hh
      go_enter Try.func85, Try.ntmps85
      go_wp2
      go_loop [3] (fun i => ∃ k : Nat, 1 ≤ k ∧ k ≤ s.size ∧ i = .int .i64 k ∧ Digs s k) (fun i => s.size - (intOf i).toNat)
      case atStart => exact ⟨1, Nat.le_refl _, by omega, rfl, Digs.start s⟩
      case round =>
        obtain ⟨k, hk1, hk, rfl, hd⟩ := hrel
        by_cases hlt : k < s.size
        · by_cases hh : ((s[k]'hlt).toNat : Int) < 48 ∨ 57 < ((s[k]'hlt).toNat : Int)
          · have hkb := Lib.hid (keyB_digit hlt hk1 hh)
            rcases hh with hh | hh
            all_goals
              go_wp2
              go_ret
              exact ⟨ret_bool hkb.out.symm, rfl⟩
          · have hd1 : Digs s (k + 1) := hd.step hlt (by omega) (by omega)
            have hh1 : 48 ≤ ((s[k]'hlt).toNat : Int) := by omega
            have hh2 : ((s[k]'hlt).toNat : Int) ≤ 57 := by omega
            clear hh
            go_wp2
            go_round
            case rel => exact ⟨k + 1, by omega, by omega, by go_num, hd1⟩
            case measure => simp [intOf]; omega
        · have hks : k = s.size := by omega
          have hkb := Lib.hid (keyB_yes h2 h3 h0 ha hz (hks ▸ hd))
          clear hks
          go_wp2
          go_ret
          exact ⟨ret_bool hkb.out.symm, rfl⟩

theorem l1Key_any (s : ByteArray) (w : World) (hs : s.size ≤ maxLen) :
    Calls Try.prog 106 #[.string s] w fun e w' => e = .returned (.bool (keyB s)) ∧ w = w' := by
  unfold maxLen at hs
  by_cases hsz : (s.size : Int) < 2 ∨ 3 < (s.size : Int)
  · have hk := Lib.hid (keyB_size hsz)
    rcases hsz with hsz | hsz
    all_goals
      go_enter Try.func106, Try.ntmps106
      go_wp2
      go_ret
      exact ⟨ret_bool hk.out.symm, rfl⟩
  · have h2 : 2 ≤ (s.size : Int) := by omega
    have h3 : (s.size : Int) ≤ 3 := by omega
    have h0 : 0 < s.size := by omega
    clear hsz
    by_cases hh : ((s[0]'h0).toNat : Int) < 97 ∨ 122 < ((s[0]'h0).toNat : Int)
    · have hk := Lib.hid (keyB_head h0 hh)
      rcases hh with hh | hh
      all_goals
        go_enter Try.func106, Try.ntmps106
        go_wp2
        go_ret
        exact ⟨ret_bool hk.out.symm, rfl⟩
    · have ha : 97 ≤ ((s[0]'h0).toNat : Int) := by omega
      have hz : ((s[0]'h0).toNat : Int) ≤ 122 := by omega
      clear hh
      go_enter Try.func106, Try.ntmps106
      go_wp2
      go_loop [3] (fun i => ∃ k : Nat, 1 ≤ k ∧ k ≤ s.size ∧ i = .int .i64 k ∧ Digs s k) (fun i => s.size - (intOf i).toNat)
      case atStart => exact ⟨1, Nat.le_refl _, by omega, rfl, Digs.start s⟩
      case round =>
        obtain ⟨k, hk1, hk, rfl, hd⟩ := hrel
        by_cases hlt : k < s.size
        · by_cases hh : ((s[k]'hlt).toNat : Int) < 48 ∨ 57 < ((s[k]'hlt).toNat : Int)
          · have hkb := Lib.hid (keyB_digit hlt hk1 hh)
            rcases hh with hh | hh
            all_goals
              go_wp2
              go_ret
              exact ⟨ret_bool hkb.out.symm, rfl⟩
          · have hd1 : Digs s (k + 1) := hd.step hlt (by omega) (by omega)
            have hh1 : 48 ≤ ((s[k]'hlt).toNat : Int) := by omega
            have hh2 : ((s[k]'hlt).toNat : Int) ≤ 57 := by omega
            clear hh
            go_wp2
            go_round
            case rel => exact ⟨k + 1, by omega, by omega, by go_num, hd1⟩
            case measure => simp [intOf]; omega
        · have hks : k = s.size := by omega
          have hkb := Lib.hid (keyB_yes h2 h3 h0 ha hz (hks ▸ hd))
          clear hks
          go_wp2
          go_ret
          exact ⟨ret_bool hkb.out.symm, rfl⟩

end Go.Proofs.Ytkamlibfcakblaa

/- What numbersOk (of the program) and l1Val (of the model) answer: the same bool of every list of integers. -/
namespace Go.Proofs.Ytkamlibfcakblaa
open Go.RowKit

theorem numbersOk_any (w : World) (B : Nat) (v : Value) (xs : List Int) (hv : Ints w B v xs) :
    Calls Try.prog 86 #[v] w fun e w' => e = .returned (.bool (valB xs)) ∧ w = w' := by
  obtain ⟨A, c, rfl, hc1, hc2, hrow⟩ := hv
  unfold maxLen at hc2
  by_cases hsz : xs.length < 1 ∨ 3 < xs.length
  · have hk := Lib.hid (valB_size hsz)
    clear hrow
    rcases hsz with hsz | hsz
    all_goals
      go_enter Try.func86, Try.ntmps86
      go_wp2
      go_ret
      exact ⟨ret_bool hk.out.symm, rfl⟩
  · have h1 : 1 ≤ xs.length := by omega
    have h3 : xs.length ≤ 3 := by omega
    clear hsz
    obtain ⟨b, off, rfl, hB, hcell⟩ := hrow (by omega)
    have hcell0 := Lib.hid hcell
    clear hcell hrow
    go_enter Try.func86, Try.ntmps86
    go_wp2
    go_loop [15] (fun i => ∃ k : Nat, k ≤ xs.length ∧ i = .int .i64 k ∧ Nums xs k) (fun i => xs.length - (intOf i).toNat)
    case atStart => exact ⟨0, Nat.zero_le _, rfl, Nums.start xs⟩
    case round =>
      obtain ⟨k, hk, rfl, hd⟩ := hrel
      by_cases hlt : k < xs.length
      · have hck := hcell0.out k hlt
        by_cases hh : nth xs k < 0 ∨ 9999 < nth xs k
        · have hkb := Lib.hid (valB_bad hlt hh)
          rcases hh with hh | hh
          all_goals
            go_wp2
            go_ret
            exact ⟨ret_bool hkb.out.symm, rfl⟩
        · have hh1 : 0 ≤ nth xs k := by omega
          have hh2 : nth xs k ≤ 9999 := by omega
          have hd1 : Nums xs (k + 1) := hd.step hh1 hh2
          clear hh
          go_wp2
          go_round
          case rel => exact ⟨k + 1, by omega, by go_num, hd1⟩
          case measure => simp [intOf]; omega
      · have hks : k = xs.length := by omega
        have hkb := Lib.hid (valB_yes (hks ▸ hd) h1 h3)
        clear hks
        go_wp2
        go_ret
        exact ⟨ret_bool hkb.out.symm, rfl⟩

theorem l1Val_any (w : World) (B : Nat) (v : Value) (xs : List Int) (hv : Ints w B v xs) :
    Calls Try.prog 134 #[v] w fun e w' => e = .returned (.bool (valB xs)) ∧ w = w' := by
  obtain ⟨A, c, rfl, hc1, hc2, hrow⟩ := hv
  unfold maxLen at hc2
  go_enter Try.func134, Try.ntmps134
  go_wp2
  go_loop [3] (fun i => ∃ k : Nat, k ≤ xs.length ∧ i = .int .i64 k ∧ Nums xs k) (fun i => xs.length - (intOf i).toNat)
  case atStart => exact ⟨0, Nat.zero_le _, rfl, Nums.start xs⟩
  case round =>
    obtain ⟨k, hk, rfl, hd⟩ := hrel
    by_cases hlt : k < xs.length
    · obtain ⟨b, off, rfl, hB, hcell⟩ := hrow (by omega)
      have hck := hcell k hlt
      clear hcell hrow
      by_cases hh : nth xs k < 0 ∨ 9999 < nth xs k
      · have hkb := Lib.hid (valB_bad hlt hh)
        have hin := inB_no hh
        clear hh
        go_wp2_with (go_at_call 64; refine (l1In_any _ _ _ _).mono ?_; rintro e w' ⟨rfl, rfl⟩)
        go_ret
        exact ⟨ret_bool hkb.out.symm, rfl⟩
      · have hin : inB (nth xs k) 0 9999 = true := inB_yes (by omega) (by omega)
        have hd1 : Nums xs (k + 1) := hd.step (by omega) (by omega)
        clear hh
        go_wp2_with (go_at_call 64; refine (l1In_any _ _ _ _).mono ?_; rintro e w' ⟨rfl, rfl⟩)
        go_round
        case rel => exact ⟨k + 1, by omega, by go_num, hd1⟩
        case measure => simp [intOf]; omega
    · have hks : k = xs.length := by omega
      have hkb := Lib.hid (valB_in (hks ▸ hd))
      clear hks hrow
      go_wp2_with (go_at_call 64; refine (l1In_any _ _ _ _).mono ?_; rintro e w' ⟨rfl, rfl⟩)
      go_ret
      exact ⟨ret_bool hkb.out.symm, rfl⟩

end Go.Proofs.Ytkamlibfcakblaa

/- The helpers of the exact laws over slices of integers: a copy, a comparison, a count. -/
namespace Go.Proofs.Ytkamlibfcakblaa
open Go.RowKit

theorem infoInt : (Try.prog.info? 3).map (fun i => (i.zero, i.size, i.bytes)) = some (some (.int .i64 0), 1, 8) := by kernel_rfl

/-- Cell j of a copy that has come to k. -/
def part (xs : List Int) (k j : Nat) : Value := .int .i64 (if j < k then nth xs j else 0)
theorem part_zero (xs : List Int) (j : Nat) : part xs 0 j = .int .i64 0 := by simp [part]
theorem part_step (xs : List Int) (k j : Nat) : (if j = k then .int .i64 (nth xs k) else part xs k j) = part xs (k + 1) j := by
  unfold part
  by_cases h : j = k
  · subst h; simp
  · rw [if_neg h]
    by_cases h' : j < k
    · rw [if_pos h', if_pos (by omega)]
    · rw [if_neg h', if_neg (by omega)]
theorem part_all {xs : List Int} {j : Nat} (h : j < xs.length) : part xs xs.length j = .int .i64 (nth xs j) := by simp [part, h]

theorem toIntS_any (w : World) (v : Value) (xs : List Int) (hv : Ints w w.heap.size v xs) (hl : xs.length ≤ 1048576) :
    Calls Try.prog 157 #[v] w fun e w' => e = .returned (.slice (some ⟨w.heap.size, 0, none⟩) xs.length xs.length) ∧ w'.rowIs w.heap.size 3 xs.length (fun j => .int .i64 (nth xs j)) ∧ Below w.heap.size w w' ∧ w'.heap.size = w.heap.size + 1 := by
  obtain ⟨A, c, rfl, hc1, hc2, hrow⟩ := hv
  unfold maxLen at hc2
  have hmk := fun W => run_make_row' (P := Try.prog) 39 3 (.int .i64 0) 8 Try.underlying39 infoInt rfl .i64 .i64 xs.length (by omega) (by omega) W
  go_enter Try.func157, Try.ntmps157
  go_wp2
  clear hmk
  go_loopw [4] (fun i wr => ∃ k : Nat, k ≤ xs.length ∧ i = .int .i64 k ∧ wr.rowIs w.heap.size 3 xs.length (part xs k) ∧ Below w.heap.size w wr ∧ wr.heap.size = w.heap.size + 1) (fun i _ => xs.length - (intOf i).toNat)
  case atStart => exact ⟨0, Nat.zero_le _, rfl, (World.rowIs_made w (.int .i64 0) xs.length 3).congr (fun j _ => (part_zero xs j).symm), (Below.refl _ _).alloc (Nat.le_refl _) _, by simp⟩
  case round =>
    obtain ⟨k, hk, rfl, hr, hb, hz⟩ := hrel
    by_cases hlt : k < xs.length
    · obtain ⟨b, off, rfl, hB, hcell⟩ := hrow (by omega)
      have hck := (hb.cell (p := ⟨b, off + k, none⟩) hB).trans (hcell k hlt)
      have hrk := hr.cell hlt
      have hfk := hr.frozen k
      have R1 := Lib.hid ((hr.set k (.int .i64 (nth xs k))).congr (fun j _ => part_step xs k j))
      have R2 := Lib.hid (hb.setCell (p := ⟨w.heap.size, k, none⟩) (Nat.le_refl _) (.int .i64 (nth xs k)))
      have HZ := Lib.hid hz
      clear hcell hrow hr hz
      go_wp2
      go_roundw
      case rel => exact ⟨k + 1, by omega, by go_num, R1.out, R2.out, by simpa [World.setCell] using HZ.out⟩
      case measure => simp [intOf]; omega
    · have hks : k = xs.length := by omega
      have R1 := Lib.hid (hr.congr (g := fun j => .int .i64 (nth xs j)) (fun j hj => by subst hks; exact part_all hj))
      have HZ := Lib.hid hz
      clear hks hrow hr hz
      go_wp2
      go_ret
      exact ⟨rfl, R1.out, hb, HZ.out⟩

theorem szIntS_any (w : World) (B : Nat) (v : Value) (xs : List Int) (hv : Ints w B v xs) (left : Int) (h0 : 0 ≤ left) (h1 : left ≤ 1048576) :
    Calls Try.prog 156 #[v, .int .i64 left] w fun e w' => e = .returned (.int .i64 (less left xs.length)) ∧ w = w' := by
  obtain ⟨A, c, rfl, hc2, hc1⟩ := hv.form
  clear hv
  unfold maxLen at hc2
  by_cases h : left < (xs.length : Int)
  · go_enter Try.func156, Try.ntmps156
    go_wp2
    go_ret
    exact ⟨ret_int (by rw [less_no h]), rfl⟩
  · go_enter Try.func156, Try.ntmps156
    go_wp2
    go_ret
    exact ⟨ret_int (by rw [less_yes (by omega)]), rfl⟩

theorem eqIntS_any (w : World) (B : Nat) (v u : Value) (xs ys : List Int) (hv : Ints w B v xs) (hu : Ints w B u ys) :
    Calls Try.prog 41 #[v, u] w fun e w' => e = .returned (.bool (decide (xs = ys))) ∧ ∃ n, w' = w.drewN n := by
  obtain ⟨A, c, rfl, hc1, hc2, hrow⟩ := hv
  obtain ⟨A', c', rfl, hc1', hc2', hrow'⟩ := hu
  unfold maxLen at hc2 hc2'
  by_cases hl : xs.length = ys.length
  · have HL := Lib.hid hl
    have hl1 : xs.length ≤ ys.length := by omega
    have hl2 : ys.length ≤ xs.length := by omega
    have hbe : (((xs.length : Nat) : Int) != ((ys.length : Nat) : Int)) = false := by simp [hl]
    clear hl
    go_enter Try.func41, Try.ntmps41
    go_wp2
    go_loopw [5] (fun i wr => ∃ k n : Nat, k ≤ xs.length ∧ i = .int .i64 k ∧ Same xs ys k ∧ wr = w.drewN n) (fun i _ => xs.length - (intOf i).toNat)
    case atStart => exact ⟨0, 0, Nat.zero_le _, rfl, Same.start xs ys, rfl⟩
    case round =>
      obtain ⟨k, n, hk, rfl, hs, rfl⟩ := hrel
      by_cases hlt : k < xs.length
      · obtain ⟨b, off, rfl, hB, hcell⟩ := hrow (by omega)
        obtain ⟨b', off', rfl, hB', hcell'⟩ := hrow' (by omega)
        have hck := hcell k hlt
        have hck' := hcell' k (by omega)
        have hlt' : k < ys.length := by omega
        clear hcell hrow hcell' hrow'
        by_cases hn : nth xs k = nth ys k
        · have hs1 := hs.step hn
          have hb1 : (nth xs k != nth ys k) = false := by simp [hn]
          clear hn
          go_wp2
          go_quiet (fail)
          go_wp2
          go_roundw
          case rel => exact ⟨k + 1, _, by omega, by go_num, hs1, rfl⟩
          case measure => simp [intOf]; omega
        · have hne := Lib.hid (nth_ne hn)
          have hb1 : (nth xs k != nth ys k) = true := by simp [hn]
          clear hn
          go_wp2
          go_quiet (fail)
          go_wp2
          go_ret
          exact ⟨ret_bool (by simp [hne.out]), _, World.drewN_drewN _ _ _⟩
      · have hks : k = xs.length := by omega
        have HE := Lib.hid ((hks ▸ hs : Same xs ys xs.length).eq HL.out)
        clear hks hrow hrow'
        go_wp2
        go_ret
        exact ⟨ret_bool (by simp [HE.out]), _, rfl⟩
  · have hne := Lib.hid (len_ne hl)
    have hbe : (((xs.length : Nat) : Int) != ((ys.length : Nat) : Int)) = true := by simp; omega
    clear hl hrow hrow'
    go_enter Try.func41, Try.ntmps41
    go_wp2
    go_ret
    exact ⟨ret_bool (by simp [hne.out]), 0, rfl⟩

end Go.Proofs.Ytkamlibfcakblaa

/- Things that the call itself has made: a row of cells, and a row of numbers for each, all in blocks of their own. -/
namespace Go.Proofs.Ytkamlibfcakblaa
open Go.RowKit

/-- Cell i of a row of things of which the first k are laid; G says where the numbers of each lie. -/
def cellOf (its : List Item) (G : Nat → Nat) (k i : Nat) : Value :=
  if i / 2 < k then
    match its[i / 2]? with
    | some it => if i % 2 = 0 then .string it.key else .slice (some ⟨G (i / 2), 0, none⟩) it.val.length it.val.length
    | none => .string ByteArray.empty
  else if i % 2 = 0 then .string ByteArray.empty else .slice none 0 0
theorem cellOf_key {its : List Item} {G : Nat → Nat} {k j : Nat} {it : Item} (hj : j < k) (hit : its[j]? = some it) : cellOf its G k (j * 2) = .string it.key := by
  have h1 : j * 2 / 2 = j := by omega
  have h2 : j * 2 % 2 = 0 := by omega
  simp [cellOf, h1, h2, hj, hit]
theorem cellOf_val {its : List Item} {G : Nat → Nat} {k j : Nat} {it : Item} (hj : j < k) (hit : its[j]? = some it) : cellOf its G k (j * 2 + 1) = .slice (some ⟨G j, 0, none⟩) it.val.length it.val.length := by
  have h1 : (j * 2 + 1) / 2 = j := by omega
  have h2 : (j * 2 + 1) % 2 = 1 := by omega
  simp [cellOf, h1, h2, hj, hit]

/-- G with another block at k. -/
def putAt (G : Nat → Nat) (k g j : Nat) : Nat := if j = k then g else G j
theorem putAt_same (G : Nat → Nat) (k g : Nat) : putAt G k g k = g := by simp [putAt]
theorem putAt_other (G : Nat → Nat) {k j : Nat} (g : Nat) (h : j ≠ k) : putAt G k g j = G j := by simp [putAt, h]
theorem cellOf_next {its : List Item} {G : Nat → Nat} {k i : Nat} (g : Nat) (h : i / 2 ≠ k) : cellOf its G k i = cellOf its (putAt G k g) (k + 1) i := by
  unfold cellOf
  rw [putAt_other G g h]
  by_cases hik : i / 2 < k
  · have hik' : i / 2 < k + 1 := by omega
    simp only [hik, hik', if_true]
  · have hik' : ¬ i / 2 < k + 1 := by omega
    simp only [hik, hik', if_false]

/-- Block g holds n things' cells, of which the first k are those of its; the numbers of each lie in a block of their own, further on. -/
def Mine (ti tn : TypeId) (w : World) (g : Nat) (its : List Item) (n k : Nat) : Prop :=
  ∃ G : Nat → Nat, w.rowIs g ti (n * 2) (cellOf its G k) ∧
    (∀ j it, j < k → its[j]? = some it → it.key.size ≤ maxLen ∧ it.val.length ≤ maxLen ∧ g < G j ∧ w.rowIs (G j) tn it.val.length fun i => .int .i64 (nth it.val i)) ∧ ∀ i j, i < j → j < k → G i < G j

section
variable {ti tn : TypeId} {w w' : World} {g : Nat} {its : List Item} {n k : Nat}
theorem Mine.lt (h : Mine ti tn w g its n k) : g < w.heap.size := by
  obtain ⟨G, h1, _⟩ := h
  exact h1.lt
theorem Mine.kept (h : Mine ti tn w g its n k) (hk : ∀ b, g ≤ b → b < w.heap.size → w'.heap[b]? = w.heap[b]?) : Mine ti tn w' g its n k := by
  obtain ⟨G, h1, h2, h3⟩ := h
  refine ⟨G, h1.of_block (hk g (Nat.le_refl _) h1.lt), fun j it hj hit => ?_, h3⟩
  obtain ⟨a, b, c, d⟩ := h2 j it hj hit
  exact ⟨a, b, c, d.of_block (hk _ (Nat.le_of_lt c) d.lt)⟩
theorem Mine.below (h : Mine ti tn w g its n k) (hb : Below w.heap.size w w') : Mine ti tn w' g its n k := h.kept fun b _ hlt => hb.block b hlt
theorem Mine.step {it : Item} {g' : Nat} (h : Mine ti tn w g its n k) (hb : Below w.heap.size w w') (hg : w.heap.size ≤ g') (hr : w'.rowIs g' tn it.val.length fun i => .int .i64 (nth it.val i)) (hit : its[k]? = some it)
    (hs : it.key.size ≤ maxLen) (hl : it.val.length ≤ maxLen) :
    Mine ti tn ((w'.setCell ⟨g, k * 2, none⟩ (.string it.key)).setCell ⟨g, k * 2 + 1, none⟩ (.slice (some ⟨g', 0, none⟩) it.val.length it.val.length)) g its n (k + 1) := by
  have hlt := h.lt
  obtain ⟨G, h1, h2, h3⟩ := h
  have hG : ∀ j, j < k → ∀ it, its[j]? = some it → G j < w.heap.size := fun j hj it hit => (h2 j it hj hit).2.2.2.lt
  refine ⟨putAt G k g', ?_, fun j it' hj hit' => ?_, fun i j hij hj => ?_⟩
  · refine (((h1.of_block (hb.block g hlt)).set (k * 2) _).set (k * 2 + 1) _).congr fun i hi => ?_
    by_cases e1 : i = k * 2 + 1
    · subst e1
      rw [if_pos rfl, cellOf_val (Nat.lt_succ_self k) hit, putAt_same]
    · rw [if_neg e1]
      by_cases e2 : i = k * 2
      · subst e2
        rw [if_pos rfl, cellOf_key (Nat.lt_succ_self k) hit]
      · rw [if_neg e2]
        exact cellOf_next g' (by omega)
  · by_cases e : j = k
    · subst e
      rw [hit] at hit'
      injection hit' with hit'
      subst hit'
      rw [putAt_same]
      exact ⟨hs, hl, by omega, (hr.setOther (by simp; omega) _).setOther (by simp; omega) _⟩
    · rw [putAt_other G g' e]
      obtain ⟨a, b, c, d⟩ := h2 j it' (by omega) hit'
      exact ⟨a, b, c, ((d.of_block (hb.block _ d.lt)).setOther (by simp; omega) _).setOther (by simp; omega) _⟩
  · rw [putAt_other G g' (by omega : i ≠ k)]
    by_cases e : j = k
    · subst e
      rw [putAt_same]
      have hk' : j < its.length := (List.getElem?_eq_some_iff.1 hit).1
      exact Nat.lt_of_lt_of_le (hG i (by omega) _ (List.getElem?_eq_getElem (by omega))) hg
    · rw [putAt_other G g' e]; exact h3 i j hij (by omega)
theorem Mine.items (h : Mine ti tn w g its its.length its.length) (hl : its.length ≤ maxLen) : Items w w.heap.size (.slice (some ⟨g, 0, none⟩) its.length its.length) its := by
  have hlt := h.lt
  obtain ⟨G, h1, h2, h3⟩ := h
  refine ⟨_, _, rfl, Nat.le_refl _, hl, fun hn => ⟨g, 0, rfl, hlt, fun j it hit => ?_⟩⟩
  have hj : j < its.length := (List.getElem?_eq_some_iff.1 hit).1
  obtain ⟨a, b, c, d⟩ := h2 j it hj hit
  refine ⟨a, ?_, _, ?_, Ints.ofRow d b⟩
  · rw [Nat.zero_add, h1.cell (by omega), cellOf_key hj hit]
  · rw [Nat.zero_add, h1.cell (by omega), cellOf_val hj hit]
end

/-- make, of elements of two cells. -/
theorem made_two {P : Program} (t e : TypeId) (z0 z1 : Value) (bytes : Nat) (ht : P.underlying t = some (.slice e)) (hinfo : (P.info? e).map (fun i => (i.zero, i.size, i.bytes)) = some (some (.agg #[z0, z1]), 2, bytes))
    (n : Nat) (hbytes : bytes * n ≤ 281474976710656) (h63 : n ≤ 9223372036854775807) (w : World) :
    (Instr.makeSlice t (.int .i64 (n : Int)) (.int .i64 (n : Int))).run P w = .ok (.slice (some ⟨w.heap.size, 0, none⟩) n n) (w.alloc (.cells (madeCells #[z0, z1] (n * 2)) e)) := by
  obtain ⟨i, hi, hzz⟩ := Option.map_eq_some_iff.1 hinfo
  simp only [Prod.mk.injEq] at hzz
  obtain ⟨hz, hs, hb⟩ := hzz
  have hb' : (i.bytes : Int) * (n : Int) ≤ 281474976710656 := by
    have h : ((i.bytes * n : Nat) : Int) ≤ 281474976710656 := by rw [hb]; omega
    rwa [Int.natCast_mul] at h
  have hr := run_make (P := P) w t e i _ ht hi hz .i64 .i64 n n (by omega) (Int.le_refl _) hb' (by omega)
  simp only [Int.toNat_natCast, hs] at hr
  exact hr
theorem Mine.start (w : World) (ti tn : TypeId) (its : List Item) (n : Nat) : Mine ti tn (w.alloc (.cells (madeCells #[.string ByteArray.empty, .slice none 0 0] (n * 2)) ti)) w.heap.size its n 0 := by
  refine ⟨fun _ => 0, ?_, fun j _ h => absurd h (by omega), fun i j _ h => absurd h (by omega)⟩
  refine ⟨_, Go.Deep.blk_alloc_new _ _, size_madeCells _ _, fun i hi => ?_⟩
  simp only [madeCells, cellOf]
  rw [if_neg (by omega)]
  have h2 : i % 2 = 0 ∨ i % 2 = 1 := by omega
  rcases h2 with h | h <;> simp [hi, h]

end Go.Proofs.Ytkamlibfcakblaa

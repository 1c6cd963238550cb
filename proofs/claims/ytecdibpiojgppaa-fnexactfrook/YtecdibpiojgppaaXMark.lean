/- Marks: a text of a number; numbers laid one behind the other; and whether they are held. -/
import Derived.Test.YtecdibpiojgppaaXOwn
import Derived.Laws.BytesArg
namespace Go.Proofs.Ytecdibpiojgppaa
open Go.RowKit

/-- One digit. -/
def digT (n : Int) : ByteArray := strOfNums [48 + n]
theorem digT_size (n : Int) : (digT n).size = 1 := strOfNums_size _
/-- The digits of a number, ahead of a text. -/
def decs (k : Int) (s : ByteArray) : ByteArray := if _h : 0 < k then decs (k / 10) (digT (k % 10) ++ s) else s
  termination_by k.toNat
  decreasing_by omega
theorem decs_step {k : Int} (s : ByteArray) (h : 0 < k) : decs (k / 10) (digT (k % 10) ++ s) = decs k s := by
  rw [decs.eq_def k s, dif_pos h]
theorem decs_end {k : Int} (s : ByteArray) (h : k ≤ 0) : decs k s = s := by
  rw [decs.eq_def, dif_neg (by omega)]
/-- The text of a mark. -/
def markS (k : Int) : ByteArray := ⟨#[109]⟩ ++ decs k ⟨#[]⟩

set_option maxRecDepth 100000 in
theorem markText_any (w : World) (k : Int) (h0 : 1 ≤ k) (h1 : k ≤ 1000000000000000) :
    Calls Try.prog 150 #[.int .i64 k] w fun e w' => e = .returned (.string (markS k)) ∧ Below w.heap.size w w' := by
  have hk0 : ¬ k ≤ 0 := by omega
  go_enter Try.func150, Try.ntmps150
  go_wp2
  go_loopw [0, 3] (fun i o wr => ∃ (m : Int) (s : ByteArray), i = .int .i64 m ∧ o = .string s ∧ 0 ≤ m ∧ m ≤ 1000000000000000 ∧ (s.size : Int) ≤ 1000000000000000 - m ∧ decs m s = decs k ⟨#[]⟩ ∧ Below w.heap.size w wr) (fun i _ _ => (intOf i).toNat)
  case atStart => exact ⟨k, _, rfl, rfl, by omega, h1, by show ((0 : Nat) : Int) ≤ _; omega, rfl, Below.refl _ _⟩
  case round =>
    obtain ⟨m, s, rfl, rfl, hm0, hm1, hs, hd, hb⟩ := hrel
    have HD := Lib.hid hd
    clear hd
    by_cases h : 0 < m
    · have hcv := run_convert_bytes_arg (P := Try.prog) (wr.alloc (.cells #[.int .u8 (48 + m % 10)] 5)) 22 5 Try.underlying22 Try.underlying5 wr.heap.size 0 1 1 [48 + m % 10] rfl
        (fun i hi => by have : i = 0 := by omega
                        subst this; simp) 9 Try.underlying9
      have HS := Lib.hid (strOfNums_size [48 + m % 10])
      have hs1 : (strOfNums [48 + m % 10]).size ≤ 1 := by have := HS.out; simp at this; omega
      go_wp2
      go_roundw
      case rel => exact ⟨m / 10, _, by go_num, rfl, by omega, by omega, by rw [ByteArray.size_append]; omega, (decs_step s h).trans HD.out, hb.alloc hb.size _⟩
      case measure => simp [intOf]; omega
    · have HE := Lib.hid (decs_end s (show m ≤ 0 by omega))
      have hs2 : (s.size : Int) ≤ 1000000000000000 := by omega
      go_wp2
      go_ret
      refine ⟨?_, hb⟩
      unfold markS
      rw [← HD.out, HE.out]
      rfl

/-- Numbers that are marks from k on. -/
def Marked (ys : List Int) (k : Int) (m : Nat) : Prop := ∀ j, j < m → nth ys j = k + j

theorem nth_set_same {ys : List Int} {j : Nat} {x : Int} (h : j < ys.length) : nth (ys.set j x) j = x := by simp [nth, h]
theorem nth_set_other {ys : List Int} {i j : Nat} {x : Int} (h : j ≠ i) : nth (ys.set j x) i = nth ys i := by simp [nth, h]
theorem Marked.start (ys : List Int) (k : Int) : Marked ys k 0 := fun j h => absurd h (by omega)
theorem Marked.step {ys : List Int} {k : Int} {m : Nat} (h : Marked ys k m) (hm : m < ys.length) : Marked (ys.set m (k + m)) k (m + 1) := by
  intro j hj
  by_cases e : m = j
  · subst e; exact nth_set_same hm
  · rw [nth_set_other e]; exact h j (by omega)

/-- What marking a slice of its own leaves: as many numbers, marks from k on; no other block has turned. -/
def MarkedInts (lo : Nat) (v : Value) (n : Nat) (k : Int) (w : World) (e : Ending) (w' : World) : Prop :=
  ∃ ys : List Int, e = .returned (.int .i64 (k + n)) ∧ ys.length = n ∧ Marked ys k n ∧ OwnInts w' lo v ys ∧ w.grownBy w' v.ownBlock ∧ w'.heap.size = w.heap.size

theorem OwnInts.form {w : World} {lo : Nat} {v : Value} {xs : List Int} (h : OwnInts w lo v xs) : (v = .slice none 0 0 ∧ xs = []) ∨ ∃ g cap, v = .slice (some ⟨g, 0, none⟩) xs.length cap ∧ lo ≤ g ∧ g < w.heap.size ∧ xs.length ≤ cap ∧ cap ≤ maxLen := by
  rcases h.2 with ⟨hv, h0⟩ | ⟨g, cap, cur, hv, hb, hg, hn, hm, _⟩
  · exact .inl ⟨hv, List.length_eq_zero_iff.1 h0⟩
  · exact .inr ⟨g, cap, hv, hb, (Array.getElem?_eq_some_iff.1 hg).1, hn, hm⟩

theorem markIntS_any (w : World) (lo : Nat) (v : Value) (xs : List Int) (hv : OwnInts w lo v xs) (k : Int) (h0 : 0 ≤ k) (h1 : k ≤ 1000000000000000) (hl : xs.length ≤ 1048576) :
    Calls Try.prog 52 #[v, .int .i64 k] w (MarkedInts lo v xs.length k w) := by
  rcases hv.form with ⟨rfl, rfl⟩ | ⟨g, cap, rfl, hg0, hg1, hc1, hc2⟩
  · have HV := Lib.hid hv
    clear hv
    go_enter Try.func52, Try.ntmps52
    go_wp2
    go_loop [1, 5] (fun q i => q = .int .i64 k ∧ i = .int .i64 0) (fun _ _ => 0)
    case atStart => exact ⟨rfl, rfl⟩
    case round =>
      obtain ⟨rfl, rfl⟩ := hrel
      go_wp2
      go_ret
      exact ⟨[], by simp, rfl, Marked.start _ _, HV.out, World.grownBy.refl _ _, rfl⟩
  · unfold maxLen at hc2
    obtain ⟨n, hn⟩ : ∃ n, xs.length = n := ⟨_, rfl⟩
    have HV := Lib.hid hv
    have HN := Lib.hid hn
    have hn1 : n ≤ 1048576 := by omega
    have hn2 : n ≤ cap := by omega
    rw [hn]
    clear hv hn hl hc1
    go_enter Try.func52, Try.ntmps52
    go_wp2
    go_loopw [1, 5] (fun q i wr => ∃ (m : Nat) (ys : List Int), m ≤ n ∧ i = .int .i64 m ∧ q = .int .i64 (k + m) ∧ ys.length = n ∧ Marked ys k m ∧ OwnInts wr lo (.slice (some ⟨g, 0, none⟩) n cap) ys ∧ w.grownBy wr (some g) ∧ wr.heap.size = w.heap.size) (fun _ i _ => n - (intOf i).toNat)
    case atStart => exact ⟨0, xs, Nat.zero_le _, rfl, by go_num, HN.out, Marked.start _ _, HN.out ▸ HV.out, World.grownBy.refl _ _, rfl⟩
    case round =>
      obtain ⟨m, ys, hm, rfl, rfl, hyl, hmk, hown, hgr, hsz⟩ := hrel
      have HY := Lib.hid hyl
      have HG := Lib.hid hgr
      have HZ := Lib.hid hsz
      by_cases hlt : m < n
      · have hown' : wr.ownsRow lo 3 1 (.slice (some ⟨g, 0, none⟩) n cap) n (ys.map (Value.int .i64)) := hyl ▸ hown
        have hc := hown'.cellAt m (by omega)
        rw [nth_map (by omega)] at hc
        have hf := hown'.frozenAt m
        obtain ⟨hs1, hs2⟩ := hown'.stored m (.int .i64 (k + m))
        have HM := Lib.hid (hmk.step (by omega))
        have HO : Hid (OwnInts (wr.setCell ⟨g, m, none⟩ (.int .i64 (k + m))) lo (.slice (some ⟨g, 0, none⟩) n cap) (ys.set m (k + m))) := by
          show World.ownsRow _ _ _ _ _ _ _
          rw [List.map_set, List.length_set, hyl]
          exact hs1
        have HG2 := Lib.hid (hgr.trans hs2)
        clear hown hown' hs1 hs2 hyl hgr hsz hmk
        go_wp2
        go_roundw
        case rel => exact ⟨m + 1, ys.set m (k + m), by omega, by go_num, by go_num, by rw [List.length_set]; exact HY.out, HM.out, HO.out, HG2.out, by simpa [World.setCell] using HZ.out⟩
        case measure => simp [intOf]; omega
      · obtain rfl : m = n := by omega
        have HO := Lib.hid hown
        clear hown hyl hgr hsz
        go_wp2
        go_ret
        exact ⟨ys, rfl, HY.out, hmk, HO.out, HG.out, HZ.out⟩

theorem heldIntS_any (w : World) (B : Nat) (v : Value) (ys : List Int) (hv : Ints w B v ys) (k : Int) (h0 : 0 ≤ k) (h1 : k ≤ 1000000000000000) (hl : ys.length ≤ 1048576) (hm : Marked ys k ys.length) :
    Calls Try.prog 53 #[v, .int .i64 k] w fun e w' => e = .returned (.int .i64 (k + ys.length)) ∧ w = w' := by
  obtain ⟨A, c, rfl, hc1, hc2, hrow⟩ := hv
  unfold maxLen at hc2
  have HM := Lib.hid hm
  clear hm
  go_enter Try.func53, Try.ntmps53
  go_wp2
  go_loop [1, 5] (fun q i => ∃ m : Nat, m ≤ ys.length ∧ i = .int .i64 m ∧ q = .int .i64 (k + m)) (fun _ i => ys.length - (intOf i).toNat)
  case atStart => exact ⟨0, Nat.zero_le _, rfl, by go_num⟩
  case round =>
    obtain ⟨m, hm, rfl, rfl⟩ := hrel
    by_cases hlt : m < ys.length
    · obtain ⟨b, off, rfl, hB, hcell⟩ := hrow (by omega)
      have hck : w.cell? ⟨b, off + m, none⟩ = some (.int .i64 (k + m)) := (hcell m hlt).trans (by show some (Value.int .i64 (nth ys m)) = _; rw [HM.out m hlt])
      clear hcell hrow
      go_wp2
      go_round
      case rel => exact ⟨m + 1, by omega, by go_num, by go_num⟩
      case measure => simp [intOf]; omega
    · obtain rfl : m = ys.length := by omega
      clear hrow
      go_wp2
      go_ret
      exact ⟨rfl, rfl⟩

end Go.Proofs.Ytecdibpiojgppaa

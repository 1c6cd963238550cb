/- Texts that follow each other, merged: Mark, Wrt, Wr, Shapes. -/
import Derived.Test.YtkamlibfcakblaaXExItems
import Derived.Laws.BytesArg
import Derived.Test.YtkamlibfcakblaaXKey
import Derived.Test.YtkamlibfcakblaaXShOwn
import Derived.Test.YtkamlibfcakblaaXPlain

/- Marks: a text of a number; numbers laid one behind the other; and whether they are held. -/
namespace Go.Proofs.Ytkamlibfcakblaa
open Go.RowKit

/-- One digit. -/
def digT (n : Int) : ByteArray := strOfNums [48 + n]
theorem digT_size (n : Int) : (digT n).size = 1 := strOfNums_size _
/-- The digits of a number, ahead of a text. -/
def decs (k : Int) (s : ByteArray) : ByteArray := if _h : 0 < k then decs (k / 10) (digT (k % 10) ++ s) else s
  termination_by k.toNat
  decreasing_by omega
theorem decs_step {k : Int} (s : ByteArray) (h : 0 < k) : decs (k / 10) (digT (k % 10) ++ s) = decs k s := by
  rw [decs.eq_def k s, dif_pos h]
theorem decs_end {k : Int} (s : ByteArray) (h : k ≤ 0) : decs k s = s := by
  rw [decs.eq_def, dif_neg (by omega)]
/-- The text of a mark. -/
def markS (k : Int) : ByteArray := ⟨#[109]⟩ ++ decs k ⟨#[]⟩

set_option maxRecDepth 100000 in
theorem markText_any (w : World) (k : Int) (h0 : 1 ≤ k) (h1 : k ≤ 1000000000000000) :
    Calls Try.prog 97 #[.int .i64 k] w fun e w' => e = .returned (.string (markS k)) ∧ Below w.heap.size w w' := by
  have hk0 : ¬ k ≤ 0 := by omega
  go_enter Try.func97, Try.ntmps97
  go_wp2
  go_loopw [0, 3] (fun i o wr => ∃ (m : Int) (s : ByteArray), i = .int .i64 m ∧ o = .string s ∧ 0 ≤ m ∧ m ≤ 1000000000000000 ∧ (s.size : Int) ≤ 1000000000000000 - m ∧ decs m s = decs k ⟨#[]⟩ ∧ Below w.heap.size w wr) (fun i _ _ => (intOf i).toNat)
  case atStart => exact ⟨k, _, rfl, rfl, by omega, h1, by show ((0 : Nat) : Int) ≤ _; omega, rfl, Below.refl _ _⟩
  case round =>
    obtain ⟨m, s, rfl, rfl, hm0, hm1, hs, hd, hb⟩ := hrel
    have HD := Lib.hid hd
    clear hd
    by_cases h : 0 < m
    · have hcv := run_convert_bytes_arg (P := Try.prog) (wr.alloc (.cells #[.int .u8 (48 + m % 10)] 5)) 22 5 Try.underlying22 Try.underlying5 wr.heap.size 0 1 1 [48 + m % 10] rfl
        (fun i hi => by have : i = 0 := by omega
                        subst this; simp) 9 Try.underlying9
      have HS := Lib.hid (strOfNums_size [48 + m % 10])
      have hs1 : (strOfNums [48 + m % 10]).size ≤ 1 := by have := HS.out; simp at this; omega
      go_wp2
      go_roundw
      case rel => exact ⟨m / 10, _, by go_num, rfl, by omega, by omega, by rw [ByteArray.size_append]; omega, (decs_step s h).trans HD.out, hb.alloc hb.size _⟩
      case measure => simp [intOf]; omega
    · have HE := Lib.hid (decs_end s (show m ≤ 0 by omega))
      have hs2 : (s.size : Int) ≤ 1000000000000000 := by omega
      go_wp2
      go_ret
      refine ⟨?_, hb⟩
      unfold markS
      rw [← HD.out, HE.out]
      rfl

/-- Numbers that are marks from k on. -/
def Marked (ys : List Int) (k : Int) (m : Nat) : Prop := ∀ j, j < m → nth ys j = k + j

theorem nth_set_same {ys : List Int} {j : Nat} {x : Int} (h : j < ys.length) : nth (ys.set j x) j = x := by simp [nth, h]
theorem nth_set_other {ys : List Int} {i j : Nat} {x : Int} (h : j ≠ i) : nth (ys.set j x) i = nth ys i := by simp [nth, h]
theorem Marked.start (ys : List Int) (k : Int) : Marked ys k 0 := fun j h => absurd h (by omega)
theorem Marked.step {ys : List Int} {k : Int} {m : Nat} (h : Marked ys k m) (hm : m < ys.length) : Marked (ys.set m (k + m)) k (m + 1) := by
  intro j hj
  by_cases e : m = j
  · subst e; exact nth_set_same hm
  · rw [nth_set_other e]; exact h j (by omega)

/-- What marking a slice of its own leaves: as many numbers, marks from k on; no other block has turned. -/
def MarkedInts (lo : Nat) (v : Value) (n : Nat) (k : Int) (w : World) (e : Ending) (w' : World) : Prop :=
  ∃ ys : List Int, e = .returned (.int .i64 (k + n)) ∧ ys.length = n ∧ Marked ys k n ∧ OwnInts w' lo v ys ∧ w.grownBy w' v.ownBlock ∧ w'.heap.size = w.heap.size

theorem OwnInts.form {w : World} {lo : Nat} {v : Value} {xs : List Int} (h : OwnInts w lo v xs) : (v = .slice none 0 0 ∧ xs = []) ∨ ∃ g cap, v = .slice (some ⟨g, 0, none⟩) xs.length cap ∧ lo ≤ g ∧ g < w.heap.size ∧ xs.length ≤ cap ∧ cap ≤ maxLen := by
  rcases h.2 with ⟨hv, h0⟩ | ⟨g, cap, cur, hv, hb, hg, hn, hm, _⟩
  · exact .inl ⟨hv, List.length_eq_zero_iff.1 h0⟩
  · exact .inr ⟨g, cap, hv, hb, (Array.getElem?_eq_some_iff.1 hg).1, hn, hm⟩

theorem markIntS_any (w : World) (lo : Nat) (v : Value) (xs : List Int) (hv : OwnInts w lo v xs) (k : Int) (h0 : 0 ≤ k) (h1 : k ≤ 1000000000000000) (hl : xs.length ≤ 1048576) :
    Calls Try.prog 44 #[v, .int .i64 k] w (MarkedInts lo v xs.length k w) := by
  rcases hv.form with ⟨rfl, rfl⟩ | ⟨g, cap, rfl, hg0, hg1, hc1, hc2⟩
  · have HV := Lib.hid hv
    clear hv
    go_enter Try.func44, Try.ntmps44
    go_wp2
    go_loop [1, 5] (fun q i => q = .int .i64 k ∧ i = .int .i64 0) (fun _ _ => 0)
    case atStart => exact ⟨rfl, rfl⟩
    case round =>
      obtain ⟨rfl, rfl⟩ := hrel
      go_wp2
      go_ret
      exact ⟨[], by simp, rfl, Marked.start _ _, HV.out, World.grownBy.refl _ _, rfl⟩
  · unfold maxLen at hc2
    obtain ⟨n, hn⟩ : ∃ n, xs.length = n := ⟨_, rfl⟩
    have HV := Lib.hid hv
    have HN := Lib.hid hn
    have hn1 : n ≤ 1048576 := by omega
    have hn2 : n ≤ cap := by omega
    rw [hn]
    clear hv hn hl hc1
    go_enter Try.func44, Try.ntmps44
    go_wp2
    go_loopw [1, 5] (fun q i wr => ∃ (m : Nat) (ys : List Int), m ≤ n ∧ i = .int .i64 m ∧ q = .int .i64 (k + m) ∧ ys.length = n ∧ Marked ys k m ∧ OwnInts wr lo (.slice (some ⟨g, 0, none⟩) n cap) ys ∧ w.grownBy wr (some g) ∧ wr.heap.size = w.heap.size) (fun _ i _ => n - (intOf i).toNat)
    case atStart => exact ⟨0, xs, Nat.zero_le _, rfl, by go_num, HN.out, Marked.start _ _, HN.out ▸ HV.out, World.grownBy.refl _ _, rfl⟩
    case round =>
      obtain ⟨m, ys, hm, rfl, rfl, hyl, hmk, hown, hgr, hsz⟩ := hrel
      have HY := Lib.hid hyl
      have HG := Lib.hid hgr
      have HZ := Lib.hid hsz
      by_cases hlt : m < n
      · have hown' : wr.ownsRow lo 3 1 (.slice (some ⟨g, 0, none⟩) n cap) n (ys.map (Value.int .i64)) := hyl ▸ hown
        have hc := hown'.cellAt m (by omega)
        rw [nth_map (by omega)] at hc
        have hf := hown'.frozenAt m
        obtain ⟨hs1, hs2⟩ := hown'.stored m (.int .i64 (k + m))
        have HM := Lib.hid (hmk.step (by omega))
        have HO : Hid (OwnInts (wr.setCell ⟨g, m, none⟩ (.int .i64 (k + m))) lo (.slice (some ⟨g, 0, none⟩) n cap) (ys.set m (k + m))) := by
          show World.ownsRow _ _ _ _ _ _ _
          rw [List.map_set, List.length_set, hyl]
          exact hs1
        have HG2 := Lib.hid (hgr.trans hs2)
        clear hown hown' hs1 hs2 hyl hgr hsz hmk
        go_wp2
        go_roundw
        case rel => exact ⟨m + 1, ys.set m (k + m), by omega, by go_num, by go_num, by rw [List.length_set]; exact HY.out, HM.out, HO.out, HG2.out, by simpa [World.setCell] using HZ.out⟩
        case measure => simp [intOf]; omega
      · obtain rfl : m = n := by omega
        have HO := Lib.hid hown
        clear hown hyl hgr hsz
        go_wp2
        go_ret
        exact ⟨ys, rfl, HY.out, hmk, HO.out, HG.out, HZ.out⟩

theorem heldIntS_any (w : World) (B : Nat) (v : Value) (ys : List Int) (hv : Ints w B v ys) (k : Int) (h0 : 0 ≤ k) (h1 : k ≤ 1000000000000000) (hl : ys.length ≤ 1048576) (hm : Marked ys k ys.length) :
    Calls Try.prog 45 #[v, .int .i64 k] w fun e w' => e = .returned (.int .i64 (k + ys.length)) ∧ w = w' := by
  obtain ⟨A, c, rfl, hc1, hc2, hrow⟩ := hv
  unfold maxLen at hc2
  have HM := Lib.hid hm
  clear hm
  go_enter Try.func45, Try.ntmps45
  go_wp2
  go_loop [1, 5] (fun q i => ∃ m : Nat, m ≤ ys.length ∧ i = .int .i64 m ∧ q = .int .i64 (k + m)) (fun _ i => ys.length - (intOf i).toNat)
  case atStart => exact ⟨0, Nat.zero_le _, rfl, by go_num⟩
  case round =>
    obtain ⟨m, hm, rfl, rfl⟩ := hrel
    by_cases hlt : m < ys.length
    · obtain ⟨b, off, rfl, hB, hcell⟩ := hrow (by omega)
      have hck : w.cell? ⟨b, off + m, none⟩ = some (.int .i64 (k + m)) := (hcell m hlt).trans (by show some (Value.int .i64 (nth ys m)) = _; rw [HM.out m hlt])
      clear hcell hrow
      go_wp2
      go_round
      case rel => exact ⟨m + 1, by omega, by go_num, by go_num⟩
      case measure => simp [intOf]; omega
    · obtain rfl : m = ys.length := by omega
      clear hrow
      go_wp2
      go_ret
      exact ⟨rfl, rfl⟩

end Go.Proofs.Ytkamlibfcakblaa

/- What WrtOk answers, of the program and of the model: the same bool of every write. -/
namespace Go.Proofs.Ytkamlibfcakblaa
open Go.RowKit

/-- Something that may be written: a name, and numbers, or none where it goes. -/
def wrtB (key : ByteArray) (del : Bool) (val : List Int) : Bool := keyB key && if del then val.isEmpty else valB val
theorem wrtB_key {key : ByteArray} {del : Bool} {val : List Int} (h : keyB key = false) : wrtB key del val = false := by simp [wrtB, h]
theorem wrtB_del {key : ByteArray} {val : List Int} (h : keyB key = true) : wrtB key true val = ((val.length : Int) == 0) := by
  simp only [wrtB, h, Bool.true_and, if_true]; cases val <;> simp; omega
theorem wrtB_val {key : ByteArray} {val : List Int} (h : keyB key = true) : wrtB key false val = valB val := by simp [wrtB, h]

theorem implWrtOk_any (w : World) (key : ByteArray) (del : Bool) (v : Value) (xs : List Int) (hk : key.size ≤ maxLen) (hv : Ints w w.heap.size v xs) :
    Calls Try.prog 66 #[.agg #[.string key, .bool del, v]] w fun e w' => e = .returned (.bool (wrtB key del xs)) ∧ Below w.heap.size w w' := by
  obtain ⟨A, c, rfl, hc2, hc1⟩ := hv.form
  have hv1 := fun o => hv.alloc (Nat.le_refl _) o
  have HV := Lib.hid hv1
  clear hv1
  unfold maxLen at hc2
  rcases hkb : keyB key
  · have HK := Lib.hid (wrtB_key (del := del) (val := xs) hkb)
    go_enter Try.func66, Try.ntmps66
    go_wp2_with (go_at_call 85; refine (keyOk_any _ _ hk).mono ?_; rintro e w' ⟨rfl, rfl⟩)
    go_ret
    exact ⟨ret_bool HK.out.symm, (Below.refl _ _).alloc (Nat.le_refl _) _⟩
  · cases del
    · have HK := Lib.hid (wrtB_val (val := xs) hkb)
      go_enter Try.func66, Try.ntmps66
      go_wp2_with (first | (go_at_call 85; refine (keyOk_any _ _ hk).mono ?_; rintro e w' ⟨rfl, rfl⟩) | (go_at_call 86; refine (numbersOk_any _ _ _ _ (HV.out _)).mono ?_; rintro e w' ⟨rfl, rfl⟩))
      go_ret
      exact ⟨ret_bool HK.out.symm, (Below.refl _ _).alloc (Nat.le_refl _) _⟩
    · have HK := Lib.hid (wrtB_del (val := xs) hkb)
      go_enter Try.func66, Try.ntmps66
      go_wp2_with (go_at_call 85; refine (keyOk_any _ _ hk).mono ?_; rintro e w' ⟨rfl, rfl⟩)
      go_ret
      exact ⟨ret_bool HK.out.symm, (Below.refl _ _).alloc (Nat.le_refl _) _⟩

theorem specWrtOk_any (w : World) (key : ByteArray) (del : Bool) (v : Value) (xs : List Int) (hk : key.size ≤ maxLen) (hv : Ints w w.heap.size v xs) :
    Calls Try.prog 107 #[.agg #[.string key, .bool del, v]] w fun e w' => e = .returned (.bool (wrtB key del xs)) ∧ Below w.heap.size w w' := by
  obtain ⟨A, c, rfl, hc2, hc1⟩ := hv.form
  have hv1 := fun o => hv.alloc (Nat.le_refl _) o
  have HV := Lib.hid hv1
  clear hv1
  unfold maxLen at hc2
  rcases hkb : keyB key
  · have HK := Lib.hid (wrtB_key (del := del) (val := xs) hkb)
    cases del
    all_goals
      go_enter Try.func107, Try.ntmps107
      go_wp2_with (go_at_call 106; refine (l1Key_any _ _ hk).mono ?_; rintro e w' ⟨rfl, rfl⟩)
      go_ret
      exact ⟨ret_bool HK.out.symm, (Below.refl _ _).alloc (Nat.le_refl _) _⟩
  · cases del
    · have HK := Lib.hid (wrtB_val (val := xs) hkb)
      go_enter Try.func107, Try.ntmps107
      go_wp2_with (first | (go_at_call 106; refine (l1Key_any _ _ hk).mono ?_; rintro e w' ⟨rfl, rfl⟩) | (go_at_call 134; refine (l1Val_any _ _ _ _ (HV.out _)).mono ?_; rintro e w' ⟨rfl, rfl⟩))
      go_ret
      exact ⟨ret_bool HK.out.symm, (Below.refl _ _).alloc (Nat.le_refl _) _⟩
    · have HK := Lib.hid (wrtB_del (val := xs) hkb)
      go_enter Try.func107, Try.ntmps107
      go_wp2_with (go_at_call 106; refine (l1Key_any _ _ hk).mono ?_; rintro e w' ⟨rfl, rfl⟩)
      go_ret
      exact ⟨ret_bool HK.out.symm, (Below.refl _ _).alloc (Nat.le_refl _) _⟩

end Go.Proofs.Ytkamlibfcakblaa

/- Writes, and how they lie in memory. -/
namespace Go.Proofs.Ytkamlibfcakblaa
open Go.RowKit

structure Wr where
  key : ByteArray
  del : Bool
  val : List Int
def Wr.ok (x : Wr) : Bool := wrtB x.key x.del x.val

/-- A slice value that reads as writes, below block B. -/
def Wrts (w : World) (B : Nat) (v : Value) (ws : List Wr) : Prop :=
  ∃ A c, v = .slice A ws.length c ∧ ws.length ≤ c ∧ c ≤ maxLen ∧ (0 < ws.length → ∃ b off, A = some ⟨b, off, none⟩ ∧ b < B ∧
    ∀ j x, ws[j]? = some x → x.key.size ≤ maxLen ∧ w.cell? ⟨b, off + j * 3, none⟩ = some (.string x.key) ∧ w.cell? ⟨b, off + j * 3 + 1, none⟩ = some (.bool x.del) ∧ ∃ u, w.cell? ⟨b, off + j * 3 + 2, none⟩ = some u ∧ Ints w B u x.val)
section
variable {w w' : World} {B B' : Nat} {v : Value} {ws : List Wr}
theorem Wrts.keep (h : Wrts w B v ws) (hk : ∀ b o, b < B → w'.cell? ⟨b, o, none⟩ = w.cell? ⟨b, o, none⟩) : Wrts w' B v ws := by
  obtain ⟨A, c, hv, h1, h2, hr⟩ := h
  refine ⟨A, c, hv, h1, h2, fun hn => ?_⟩
  obtain ⟨b, off, hA, hb, hc⟩ := hr hn
  refine ⟨b, off, hA, hb, fun j x hx => ?_⟩
  obtain ⟨hs, c1, c2, u, c3, hu⟩ := hc j x hx
  exact ⟨hs, (hk b _ hb).trans c1, (hk b _ hb).trans c2, u, (hk b _ hb).trans c3, hu.keep hk⟩
theorem Wrts.below (h : Wrts w B v ws) (hb : Below B w w') : Wrts w' B v ws := h.keep fun b o hB => hb.cell (p := ⟨b, o, none⟩) hB
theorem Wrts.form (h : Wrts w B v ws) : ∃ A c, v = .slice A ws.length c ∧ c ≤ maxLen ∧ ws.length ≤ c := by
  obtain ⟨A, c, hv, h1, h2, _⟩ := h
  exact ⟨A, c, hv, h2, h1⟩
theorem Wrts.at_ (h : Wrts w B v ws) {k : Nat} (hk : k < ws.length) : ∃ b off c x u, v = .slice (some ⟨b, off, none⟩) ws.length c ∧ ws[k]? = some x ∧ b < B ∧ x.key.size ≤ maxLen ∧
    w.cell? ⟨b, off + k * 3, none⟩ = some (.string x.key) ∧ w.cell? ⟨b, off + k * 3 + 1, none⟩ = some (.bool x.del) ∧ w.cell? ⟨b, off + k * 3 + 2, none⟩ = some u ∧ Ints w B u x.val := by
  obtain ⟨A, c, hv, _, _, hr⟩ := h
  obtain ⟨b, off, hA, hb, hc⟩ := hr (by omega)
  obtain ⟨hs, c1, c2, u, c3, hu⟩ := hc k _ (List.getElem?_eq_getElem hk)
  exact ⟨b, off, c, _, u, by rw [hv, hA], List.getElem?_eq_getElem hk, hb, hs, c1, c2, c3, hu⟩
end

end Go.Proofs.Ytkamlibfcakblaa

/- The shapes of the program's data: numbers, texts, things, writes, notes. -/
namespace Go.Proofs.Ytkamlibfcakblaa
open Go.RowKit

abbrev strSh : Sh ByteArray := Sh.str markS
abbrev intsSh : Sh (List Int) := Sh.int.sl 3 (by decide)
abbrev strsSh : Sh (List ByteArray) := strSh.sl 9 (by decide)
def wrSh : Sh Wr := (strSh.pair (Sh.bool.pair intsSh)).conv (fun x => (x.key, x.del, x.val)) (fun p => ⟨p.1, p.2.1, p.2.2⟩) rfl
def itSh : Sh Item := (strSh.pair intsSh).conv (fun x => (x.key, x.val)) (fun p => ⟨p.1, p.2⟩) rfl
abbrev wrsSh : Sh (List Wr) := wrSh.sl 86 (by decide)
abbrev itsSh : Sh (List Item) := itSh.sl 104 (by decide)
section
variable {w : World} {B : Nat} {S : Nat → Prop} {v : Value}
theorem ints_row {xs : List Int} : Sh.int.Row w B v xs ↔ Ints w B v xs := by
  constructor
  · rintro ⟨A, c, hv, h1, h2, hr⟩
    refine ⟨A, c, hv, h1, h2, fun hn => ?_⟩
    obtain ⟨b, off, hA, hb, hc⟩ := hr hn
    refine ⟨b, off, hA, hb, fun j hj => ?_⟩
    obtain ⟨cs, h3, h4⟩ := hc j _ (List.getElem?_eq_getElem hj)
    have h3' : cs = [.int .i64 xs[j]] := h3
    have := h4 0 (.int .i64 xs[j]) (by rw [h3']; rfl)
    show w.cell? _ = some (.int .i64 (nth xs j))
    rw [nth_get hj]
    simpa [Sh.int] using this
  · rintro ⟨A, c, hv, h1, h2, hr⟩
    refine ⟨A, c, hv, h1, h2, fun hn => ?_⟩
    obtain ⟨b, off, hA, hb, hc⟩ := hr hn
    refine ⟨b, off, hA, hb, fun j x hx => ⟨[.int .i64 x], rfl, fun i u hu => ?_⟩⟩
    have hj : j < xs.length := (List.getElem?_eq_some_iff.1 hx).1
    have hi : i = 0 := by
      have := (List.getElem?_eq_some_iff.1 hu).1
      simp at this; exact this
    subst hi
    have hu' : .int .i64 x = u := by simpa using hu
    have hx' : xs[j] = x := (List.getElem?_eq_some_iff.1 hx).2
    have : w.cell? ⟨b, off + j, none⟩ = some (.int .i64 (nth xs j)) := hc j hj
    rw [nth_get hj, hx', hu'] at this
    simpa [Sh.int] using this
theorem wr_rel {cs : List Value} {x : Wr} : wrSh.rel w B cs x ↔ ∃ u, cs = [.string x.key, .bool x.del, u] ∧ x.key.size ≤ maxLen ∧ Sh.int.Row w B u x.val := by
  constructor
  · rintro ⟨c1, c2, rfl, ⟨rfl, hs⟩, c3, c4, rfl, h2, u, rfl, h3⟩
    have h2' : c3 = [.bool x.del] := h2
    subst h2'
    exact ⟨u, rfl, hs, h3⟩
  · rintro ⟨u, rfl, hs, h3⟩
    exact ⟨_, _, rfl, ⟨rfl, hs⟩, _, _, rfl, rfl, u, rfl, h3⟩
theorem it_rel {cs : List Value} {x : Item} : itSh.rel w B cs x ↔ ∃ u, cs = [.string x.key, u] ∧ x.key.size ≤ maxLen ∧ Sh.int.Row w B u x.val := by
  constructor
  · rintro ⟨c1, c2, rfl, ⟨rfl, hs⟩, u, rfl, h3⟩
    exact ⟨u, rfl, hs, h3⟩
  · rintro ⟨u, rfl, hs, h3⟩
    exact ⟨_, _, rfl, ⟨rfl, hs⟩, u, rfl, h3⟩
theorem wrts_row {ws : List Wr} : wrSh.Row w B v ws ↔ Wrts w B v ws := by
  constructor
  · rintro ⟨A, c, hv, h1, h2, hr⟩
    refine ⟨A, c, hv, h1, h2, fun hn => ?_⟩
    obtain ⟨b, off, hA, hb, hc⟩ := hr hn
    refine ⟨b, off, hA, hb, fun j x hx => ?_⟩
    obtain ⟨cs, h3, h4⟩ := hc j x hx
    obtain ⟨u, rfl, hs, hu⟩ := wr_rel.1 h3
    exact ⟨hs, h4 0 _ rfl, h4 1 _ rfl, u, h4 2 _ rfl, ints_row.1 hu⟩
  · rintro ⟨A, c, hv, h1, h2, hr⟩
    refine ⟨A, c, hv, h1, h2, fun hn => ?_⟩
    obtain ⟨b, off, hA, hb, hc⟩ := hr hn
    refine ⟨b, off, hA, hb, fun j x hx => ?_⟩
    obtain ⟨hs, c0, c1, u, c2, hu⟩ := hc j x hx
    refine ⟨_, wr_rel.2 ⟨u, rfl, hs, ints_row.2 hu⟩, fun i y hy => ?_⟩
    have hi := (List.getElem?_eq_some_iff.1 hy).1
    rcases (by simp at hi; omega : i = 0 ∨ i = 1 ∨ i = 2) with rfl | rfl | rfl
    · have hy' : Value.string x.key = y := by simpa using hy
      rw [← hy']; exact c0
    · have hy' : Value.bool x.del = y := by simpa using hy
      rw [← hy']; exact c1
    · have hy' : u = y := by simpa using hy
      rw [← hy']; exact c2
theorem items_row {its : List Item} : itSh.Row w B v its ↔ Items w B v its := by
  constructor
  · rintro ⟨A, c, hv, h1, h2, hr⟩
    refine ⟨A, c, hv, h1, h2, fun hn => ?_⟩
    obtain ⟨b, off, hA, hb, hc⟩ := hr hn
    refine ⟨b, off, hA, hb, fun j x hx => ?_⟩
    obtain ⟨cs, h3, h4⟩ := hc j x hx
    obtain ⟨u, rfl, hs, hu⟩ := it_rel.1 h3
    exact ⟨hs, h4 0 _ rfl, u, h4 1 _ rfl, ints_row.1 hu⟩
  · rintro ⟨A, c, hv, h1, h2, hr⟩
    refine ⟨A, c, hv, h1, h2, fun hn => ?_⟩
    obtain ⟨b, off, hA, hb, hc⟩ := hr hn
    refine ⟨b, off, hA, hb, fun j x hx => ?_⟩
    obtain ⟨hs, c0, u, c1, hu⟩ := hc j x hx
    refine ⟨_, it_rel.2 ⟨u, rfl, hs, ints_row.2 hu⟩, fun i y hy => ?_⟩
    have hi := (List.getElem?_eq_some_iff.1 hy).1
    rcases (by simp at hi; omega : i = 0 ∨ i = 1) with rfl | rfl
    · have hy' : Value.string x.key = y := by simpa using hy
      rw [← hy']; exact c0
    · have hy' : u = y := by simpa using hy
      rw [← hy']; exact c1
theorem wr_own {cs : List Value} {x : Wr} : wrSh.own w S cs x ↔ ∃ u, cs = [.string x.key, .bool x.del, u] ∧ x.key.size ≤ maxLen ∧ Sh.int.Own 3 w S u x.val := by
  constructor
  · rintro ⟨c1, c2, S1, S2, rfl, ⟨rfl, hs⟩, ⟨c3, c4, S3, S4, rfl, h2, ⟨u, rfl, h3⟩, -, s4, -⟩, -, s2, -⟩
    have h2' : c3 = [.bool x.del] := h2
    subst h2'
    exact ⟨u, rfl, hs, h3.mono fun b hb => s2 b (s4 b hb)⟩
  · rintro ⟨u, rfl, hs, h3⟩
    exact ⟨_, _, fun _ => False, S, rfl, ⟨rfl, hs⟩, ⟨_, _, fun _ => False, S, rfl, rfl, ⟨u, rfl, h3⟩, fun _ h => h.elim, fun _ h => h, fun _ h _ => h⟩, fun _ h => h.elim, fun _ h => h, fun _ h _ => h⟩
theorem it_own {cs : List Value} {x : Item} : itSh.own w S cs x ↔ ∃ u, cs = [.string x.key, u] ∧ x.key.size ≤ maxLen ∧ Sh.int.Own 3 w S u x.val := by
  constructor
  · rintro ⟨c1, c2, S1, S2, rfl, ⟨rfl, hs⟩, ⟨u, rfl, h3⟩, -, s2, -⟩
    exact ⟨u, rfl, hs, h3.mono s2⟩
  · rintro ⟨u, rfl, hs, h3⟩
    exact ⟨_, _, fun _ => False, S, rfl, ⟨rfl, hs⟩, ⟨u, rfl, h3⟩, fun _ h => h.elim, fun _ h => h, fun _ h _ => h⟩
/-- A text at a place. -/
theorem strs_at {xs : List ByteArray} (h : strSh.Row w B v xs) {k : Nat} (hk : k < xs.length) : ∃ b off c x, v = .slice (some ⟨b, off, none⟩) xs.length c ∧ xs[k]? = some x ∧ b < B ∧ x.size ≤ maxLen ∧ w.cell? ⟨b, off + k, none⟩ = some (.string x) := by
  obtain ⟨b, off, c, x, cs, hv, hx, hb, ⟨rfl, hs⟩, hc⟩ := h.at_ hk
  have := hc 0 _ rfl
  exact ⟨b, off, c, x, hv, hx, hb, hs, by simpa [Sh.str] using this⟩
end

end Go.Proofs.Ytkamlibfcakblaa

/- Texts that follow each other, merged: Mark, ExTo. -/
import Derived.Test.YtgekggoenibnmaaXMine
import Derived.Laws.BytesArg

/- Marks: a text of a number; numbers laid one behind the other; and whether they are held. -/
namespace Go.Proofs.Ytgekggoenibnmaa
open Go.RowKit

/-- One digit. -/
def digT (n : Int) : ByteArray := strOfNums [48 + n]
theorem digT_size (n : Int) : (digT n).size = 1 := strOfNums_size _
/-- The digits of a number, ahead of a text. -/
def decs (k : Int) (s : ByteArray) : ByteArray := if _h : 0 < k then decs (k / 10) (digT (k % 10) ++ s) else s
  termination_by k.toNat
  decreasing_by omega
theorem decs_step {k : Int} (s : ByteArray) (h : 0 < k) : decs (k / 10) (digT (k % 10) ++ s) = decs k s := by
  rw [decs.eq_def k s, dif_pos h]
theorem decs_end {k : Int} (s : ByteArray) (h : k ≤ 0) : decs k s = s := by
  rw [decs.eq_def, dif_neg (by omega)]
/-- The text of a mark. -/
def markS (k : Int) : ByteArray := ⟨#[109]⟩ ++ decs k ⟨#[]⟩

set_option maxRecDepth 100000 in
theorem markText_any (w : World) (k : Int) (h0 : 1 ≤ k) (h1 : k ≤ 1000000000000000) :
    Calls Try.prog 65 #[.int .i64 k] w fun e w' => e = .returned (.string (markS k)) ∧ Below w.heap.size w w' := by
  have hk0 : ¬ k ≤ 0 := by omega
  go_enter Try.func65, Try.ntmps65
  go_wp2
  go_loopw [0, 3] (fun i o wr => ∃ (m : Int) (s : ByteArray), i = .int .i64 m ∧ o = .string s ∧ 0 ≤ m ∧ m ≤ 1000000000000000 ∧ (s.size : Int) ≤ 1000000000000000 - m ∧ decs m s = decs k ⟨#[]⟩ ∧ Below w.heap.size w wr) (fun i _ _ => (intOf i).toNat)
  case atStart => exact ⟨k, _, rfl, rfl, by omega, h1, by show ((0 : Nat) : Int) ≤ _; omega, rfl, Below.refl _ _⟩
  case round =>
    obtain ⟨m, s, rfl, rfl, hm0, hm1, hs, hd, hb⟩ := hrel
    have HD := Lib.hid hd
    clear hd
    by_cases h : 0 < m
    · have hcv := run_convert_bytes_arg (P := Try.prog) (wr.alloc (.cells #[.int .u8 (48 + m % 10)] 5)) 50 5 Try.underlying50 Try.underlying5 wr.heap.size 0 1 1 [48 + m % 10] rfl
        (fun i hi => by have : i = 0 := by omega
                        subst this; simp) 9 Try.underlying9
      have HS := Lib.hid (strOfNums_size [48 + m % 10])
      have hs1 : (strOfNums [48 + m % 10]).size ≤ 1 := by have := HS.out; simp at this; omega
      go_wp2
      go_roundw
      case rel => exact ⟨m / 10, _, by go_num, rfl, by omega, by omega, by rw [ByteArray.size_append]; omega, (decs_step s h).trans HD.out, hb.alloc hb.size _⟩
      case measure => simp [intOf]; omega
    · have HE := Lib.hid (decs_end s (show m ≤ 0 by omega))
      have hs2 : (s.size : Int) ≤ 1000000000000000 := by omega
      go_wp2
      go_ret
      refine ⟨?_, hb⟩
      unfold markS
      rw [← HD.out, HE.out]
      rfl

/-- Numbers that are marks from k on. -/
def Marked (ys : List Int) (k : Int) (m : Nat) : Prop := ∀ j, j < m → nth ys j = k + j

theorem nth_set_same {ys : List Int} {j : Nat} {x : Int} (h : j < ys.length) : nth (ys.set j x) j = x := by simp [nth, h]
theorem nth_set_other {ys : List Int} {i j : Nat} {x : Int} (h : j ≠ i) : nth (ys.set j x) i = nth ys i := by simp [nth, h]
theorem Marked.start (ys : List Int) (k : Int) : Marked ys k 0 := fun j h => absurd h (by omega)
theorem Marked.step {ys : List Int} {k : Int} {m : Nat} (h : Marked ys k m) (hm : m < ys.length) : Marked (ys.set m (k + m)) k (m + 1) := by
  intro j hj
  by_cases e : m = j
  · subst e; exact nth_set_same hm
  · rw [nth_set_other e]; exact h j (by omega)

/-- What marking a slice of its own leaves: as many numbers, marks from k on; no other block has turned. -/
def MarkedInts (lo : Nat) (v : Value) (n : Nat) (k : Int) (w : World) (e : Ending) (w' : World) : Prop :=
  ∃ ys : List Int, e = .returned (.int .i64 (k + n)) ∧ ys.length = n ∧ Marked ys k n ∧ OwnInts w' lo v ys ∧ w.grownBy w' v.ownBlock ∧ w'.heap.size = w.heap.size

theorem OwnInts.form {w : World} {lo : Nat} {v : Value} {xs : List Int} (h : OwnInts w lo v xs) : (v = .slice none 0 0 ∧ xs = []) ∨ ∃ g cap, v = .slice (some ⟨g, 0, none⟩) xs.length cap ∧ lo ≤ g ∧ g < w.heap.size ∧ xs.length ≤ cap ∧ cap ≤ maxLen := by
  rcases h.2 with ⟨hv, h0⟩ | ⟨g, cap, cur, hv, hb, hg, hn, hm, _⟩
  · exact .inl ⟨hv, List.length_eq_zero_iff.1 h0⟩
  · exact .inr ⟨g, cap, hv, hb, (Array.getElem?_eq_some_iff.1 hg).1, hn, hm⟩

theorem markIntS_any (w : World) (lo : Nat) (v : Value) (xs : List Int) (hv : OwnInts w lo v xs) (k : Int) (h0 : 0 ≤ k) (h1 : k ≤ 1000000000000000) (hl : xs.length ≤ 1048576) :
    Calls Try.prog 66 #[v, .int .i64 k] w (MarkedInts lo v xs.length k w) := by
  rcases hv.form with ⟨rfl, rfl⟩ | ⟨g, cap, rfl, hg0, hg1, hc1, hc2⟩
  · have HV := Lib.hid hv
    clear hv
    go_enter Try.func66, Try.ntmps66
    go_wp2
    go_loop [1, 5] (fun q i => q = .int .i64 k ∧ i = .int .i64 0) (fun _ _ => 0)
    case atStart => exact ⟨rfl, rfl⟩
    case round =>
      obtain ⟨rfl, rfl⟩ := hrel
      go_wp2
      go_ret
      exact ⟨[], by simp, rfl, Marked.start _ _, HV.out, World.grownBy.refl _ _, rfl⟩
  · unfold maxLen at hc2
    obtain ⟨n, hn⟩ : ∃ n, xs.length = n := ⟨_, rfl⟩
    have HV := Lib.hid hv
    have HN := Lib.hid hn
    have hn1 : n ≤ 1048576 := by omega
    have hn2 : n ≤ cap := by omega
    rw [hn]
    clear hv hn hl hc1
    go_enter Try.func66, Try.ntmps66
    go_wp2
    go_loopw [1, 5] (fun q i wr => ∃ (m : Nat) (ys : List Int), m ≤ n ∧ i = .int .i64 m ∧ q = .int .i64 (k + m) ∧ ys.length = n ∧ Marked ys k m ∧ OwnInts wr lo (.slice (some ⟨g, 0, none⟩) n cap) ys ∧ w.grownBy wr (some g) ∧ wr.heap.size = w.heap.size) (fun _ i _ => n - (intOf i).toNat)
    case atStart => exact ⟨0, xs, Nat.zero_le _, rfl, by go_num, HN.out, Marked.start _ _, HN.out ▸ HV.out, World.grownBy.refl _ _, rfl⟩
    case round =>
      obtain ⟨m, ys, hm, rfl, rfl, hyl, hmk, hown, hgr, hsz⟩ := hrel
      have HY := Lib.hid hyl
      have HG := Lib.hid hgr
      have HZ := Lib.hid hsz
      by_cases hlt : m < n
      · have hown' : wr.ownsRow lo 3 1 (.slice (some ⟨g, 0, none⟩) n cap) n (ys.map (Value.int .i64)) := hyl ▸ hown
        have hc := hown'.cellAt m (by omega)
        rw [nth_map (by omega)] at hc
        have hf := hown'.frozenAt m
        obtain ⟨hs1, hs2⟩ := hown'.stored m (.int .i64 (k + m))
        have HM := Lib.hid (hmk.step (by omega))
        have HO : Hid (OwnInts (wr.setCell ⟨g, m, none⟩ (.int .i64 (k + m))) lo (.slice (some ⟨g, 0, none⟩) n cap) (ys.set m (k + m))) := by
          show World.ownsRow _ _ _ _ _ _ _
          rw [List.map_set, List.length_set, hyl]
          exact hs1
        have HG2 := Lib.hid (hgr.trans hs2)
        clear hown hown' hs1 hs2 hyl hgr hsz hmk
        go_wp2
        go_roundw
        case rel => exact ⟨m + 1, ys.set m (k + m), by omega, by go_num, by go_num, by rw [List.length_set]; exact HY.out, HM.out, HO.out, HG2.out, by simpa [World.setCell] using HZ.out⟩
        case measure => simp [intOf]; omega
      · obtain rfl : m = n := by omega
        have HO := Lib.hid hown
        clear hown hyl hgr hsz
        go_wp2
        go_ret
        exact ⟨ys, rfl, HY.out, hmk, HO.out, HG.out, HZ.out⟩

theorem heldIntS_any (w : World) (B : Nat) (v : Value) (ys : List Int) (hv : Ints w B v ys) (k : Int) (h0 : 0 ≤ k) (h1 : k ≤ 1000000000000000) (hl : ys.length ≤ 1048576) (hm : Marked ys k ys.length) :
    Calls Try.prog 99 #[v, .int .i64 k] w fun e w' => e = .returned (.int .i64 (k + ys.length)) ∧ w = w' := by
  obtain ⟨A, c, rfl, hc1, hc2, hrow⟩ := hv
  unfold maxLen at hc2
  have HM := Lib.hid hm
  clear hm
  go_enter Try.func99, Try.ntmps99
  go_wp2
  go_loop [1, 5] (fun q i => ∃ m : Nat, m ≤ ys.length ∧ i = .int .i64 m ∧ q = .int .i64 (k + m)) (fun _ i => ys.length - (intOf i).toNat)
  case atStart => exact ⟨0, Nat.zero_le _, rfl, by go_num⟩
  case round =>
    obtain ⟨m, hm, rfl, rfl⟩ := hrel
    by_cases hlt : m < ys.length
    · obtain ⟨b, off, rfl, hB, hcell⟩ := hrow (by omega)
      have hck : w.cell? ⟨b, off + m, none⟩ = some (.int .i64 (k + m)) := (hcell m hlt).trans (by show some (Value.int .i64 (nth ys m)) = _; rw [HM.out m hlt])
      clear hcell hrow
      go_wp2
      go_round
      case rel => exact ⟨m + 1, by omega, by go_num, by go_num⟩
      case measure => simp [intOf]; omega
    · obtain rfl : m = ys.length := by omega
      clear hrow
      go_wp2
      go_ret
      exact ⟨rfl, rfl⟩

end Go.Proofs.Ytgekggoenibnmaa

/- Copies of things and of stores, in new memory. -/
namespace Go.Proofs.Ytgekggoenibnmaa
open Go.RowKit

theorem infoItem : (Try.prog.info? 62).map (fun i => (i.zero, i.size, i.bytes)) = some (some (.agg #[.string ByteArray.empty, .slice none 0 0]), 2, 40) := by kernel_rfl

theorem toStoItem_any (w : World) (key : ByteArray) (v : Value) (xs : List Int) (hv : Ints w w.heap.size v xs) (hl : xs.length ≤ 1048576) :
    Calls Try.prog 102 #[.agg #[.string key, v]] w fun e w' =>
      ∃ g, e = .returned (.agg #[.string key, .slice (some ⟨g, 0, none⟩) xs.length xs.length]) ∧ w.heap.size ≤ g ∧ w'.rowIs g 3 xs.length (fun j => .int .i64 (nth xs j)) ∧ Below w.heap.size w w' := by
  obtain ⟨A, c, rfl, hc2, hc1⟩ := hv.form
  have HV := Lib.hid fun o1 o2 o3 => (((hv.alloc (Nat.le_refl _) o1).alloc (by simp) o2).alloc (by simp; omega) o3).more (B' := (((w.alloc o1).alloc o2).alloc o3).heap.size) (by simp; omega)
  clear hv
  unfold maxLen at hc2
  go_enter Try.func102, Try.ntmps102
  go_wp2_with fail
  refine (toIntS_any _ _ xs (HV.out _ _ _) hl).mono ?_
  rintro e w1 ⟨rfl, hr, hb, hz⟩
  simp at hr hb hz ⊢
  obtain ⟨hc, hf⟩ := oldCells hb
  have HR := Lib.hid hr
  have HB := Lib.hid hb
  have hz1 : w.heap.size + 3 < w1.heap.size := by omega
  clear hr hb hz
  go_wp2
  refine bodyPost_ret (v := .agg #[.string key, .slice (some ⟨w.heap.size + 1 + 1 + 1, 0, none⟩) xs.length xs.length]) (by simp [results, Try.results102, go_sem, hc]) rfl ⟨_, rfl, by omega, ?_, ?_⟩
  · refine (((HR.out).setOther ?_ _).setOther ?_ _).setOther ?_ _ <;> simp <;> omega
  · refine (((Below.trans (b := _) ?_ (HB.out.mono (by omega))).setCell ?_ _).setCell ?_ _).setCell ?_ _
    · exact belowThree _ _ _ _
    all_goals first | (simp; done) | (simp; omega)

theorem toStoItemS_any (w : World) (v : Value) (its : List Item) (hv : Items w w.heap.size v its) (hl : its.length ≤ 1048576) (hs : Short its its.length) :
    Calls Try.prog 56 #[v] w fun e w' =>
      e = .returned (.slice (some ⟨w.heap.size, 0, none⟩) its.length its.length) ∧ Mine 62 3 w' w.heap.size its its.length its.length ∧ Below w.heap.size w w' := by
  obtain ⟨A, c, rfl, hc2, hc1⟩ := hv.form
  unfold maxLen at hc2
  have hmk := fun W => made_two (P := Try.prog) 38 62 (.string ByteArray.empty) (.slice none 0 0) 40 Try.underlying38 infoItem its.length (by omega) (by omega) W
  have HM := Lib.hid (Mine.start w 62 3 its its.length)
  have HW := Lib.hid (belowOne w (.cells (madeCells #[.string ByteArray.empty, .slice none 0 0] (its.length * 2)) 62))
  go_enter Try.func56, Try.ntmps56
  go_wp2
  clear hmk
  go_loopw [4] (fun i wr => ∃ k : Nat, k ≤ its.length ∧ i = .int .i64 k ∧ Mine 62 3 wr w.heap.size its its.length k ∧ Below w.heap.size w wr) (fun i _ => its.length - (intOf i).toNat)
  case atStart => exact ⟨0, Nat.zero_le _, rfl, HM.out, HW.out⟩
  case round =>
    clear HM HW
    obtain ⟨k, hk, rfl, hm, hb⟩ := hrel
    by_cases hlt : k < its.length
    · obtain ⟨b, off, c', it, u, e1, hit, hB, hks, ck, cu, hu⟩ := (hv.below hb).at_ (k := k) hlt
      obtain ⟨hs1, hs2⟩ := hs k it hlt hit
      obtain ⟨A', c'', hu', _, _⟩ := hu.form
      subst hu'
      injection e1 with e1a e1b e1c
      subst e1a
      clear e1b e1c hv
      have HI := Lib.hid hit
      have HU := Lib.hid (hu.more hb.size)
      have HB := Lib.hid hb
      have HM := Lib.hid hm
      clear hit hu hb hm
      go_wp2_with fail
      refine (toStoItem_any _ _ _ _ HU.out hs2).mono ?_
      rintro e w1 ⟨g1, rfl, hg1, hr1, hb1⟩
      have HS := Lib.hid (HM.out.step hb1 hg1 hr1 HI.out hks (by unfold maxLen; omega))
      have HN := Lib.hid (belowNext HB.out hb1)
      obtain ⟨G, hrow, _⟩ := HM.out.below hb1
      have r0 := hrow.cell (i := k * 2) (by omega)
      have r1 := hrow.cell (i := k * 2 + 1) (by omega)
      have f0 := hrow.frozen (k * 2)
      have f1 := hrow.frozen (k * 2 + 1)
      clear hrow hb1 hr1 HM HB HU hs
      go_wp2
      go_roundw
      case rel => exact ⟨k + 1, by omega, by go_num, HS.out, (HN.out.setCell (Nat.le_refl _) _).setCell (Nat.le_refl _) _⟩
      case measure => simp [intOf]; omega
    · have hks : k = its.length := by omega
      have HM := Lib.hid (hks ▸ hm)
      clear hks hm hs
      go_wp2
      go_ret
      exact ⟨rfl, HM.out, hb⟩

theorem Mine.setFar {ti tn : TypeId} {w : World} {g : Nat} {its : List Item} {n k : Nat} (h : Mine ti tn w g its n k) {p : Addr} (hp : p.block < g) (u : Value) : Mine ti tn (w.setCell p u) g its n k :=
  h.kept fun b hb _ => Below.heap_setCell w p u b (by omega)

/-- What a copy of a store leaves: a slice of its own. -/
def Copied (its : List Item) (w : World) (e : Ending) (w' : World) : Prop :=
  ∃ g, e = .returned (.agg #[.slice (some ⟨g, 0, none⟩) its.length its.length]) ∧ w.heap.size ≤ g ∧ Mine 62 3 w' g its its.length its.length ∧ Below w.heap.size w w'

theorem toStoStore_any (w : World) (v : Value) (its : List Item) (hv : Items w w.heap.size v its) (hl : its.length ≤ 1048576) (hs : Short its its.length) :
    Calls Try.prog 25 #[.agg #[v]] w (Copied its w) := by
  obtain ⟨A, c, rfl, hc2, hc1⟩ := hv.form
  have HV := Lib.hid fun o1 o2 o3 => (((hv.alloc (Nat.le_refl _) o1).alloc (by simp) o2).alloc (by simp; omega) o3).more (B' := (((w.alloc o1).alloc o2).alloc o3).heap.size) (by simp; omega)
  clear hv
  go_enter Try.func25, Try.ntmps25
  go_wp2_with fail
  refine (toStoItemS_any _ _ its (HV.out _ _ _) hl hs).mono ?_
  rintro e w1 ⟨rfl, hm, hb⟩
  simp at hm hb ⊢
  obtain ⟨hc, hf⟩ := oldCells hb
  have hz1 : w.heap.size + 3 < w1.heap.size := by have := hm.lt; omega
  have HM := Lib.hid hm
  have HB := Lib.hid hb
  clear hm hb hs
  go_wp2
  refine bodyPost_ret (v := .agg #[.slice (some ⟨w.heap.size + 1 + 1 + 1, 0, none⟩) its.length its.length]) (by simp [results, Try.results25, go_sem, hc]) rfl ⟨_, rfl, by omega, ?_, ?_⟩
  · refine (HM.out.setFar ?_ _).setFar ?_ _ <;> simp <;> omega
  · refine ((Below.trans (b := _) ?_ (HB.out.mono (by omega))).setCell ?_ _).setCell ?_ _
    · exact belowThree _ _ _ _
    all_goals first | (simp; done) | (simp; omega)

theorem eqStoItem_any (w : World) (key key' : ByteArray) (v u : Value) (xs ys : List Int) (hv : Ints w w.heap.size v xs) (hu : Ints w w.heap.size u ys) :
    Calls Try.prog 106 #[.agg #[.string key, v], .agg #[.string key', u]] w fun e w' =>
      e = .returned (.bool ((key.toList == key'.toList) && decide (xs = ys))) ∧ Below w.heap.size w w' := by
  obtain ⟨A, c, rfl, hc2, hc1⟩ := hv.form
  obtain ⟨A', c', rfl, hc2', hc1'⟩ := hu.form
  have HV := Lib.hid fun o1 o2 => (hv.alloc (Nat.le_refl _) o1).alloc (by simp) o2
  have HU := Lib.hid fun o1 o2 => (hu.alloc (Nat.le_refl _) o1).alloc (by simp) o2
  clear hv hu
  unfold maxLen at hc2 hc2'
  go_enter Try.func106, Try.ntmps106
  go_wp2_with (go_at_call 107; refine (eqIntS_any _ _ _ _ _ _ (HV.out _ _) (HU.out _ _)).mono ?_; rintro e w' ⟨rfl, n, rfl⟩)
  all_goals go_ret
  all_goals refine ⟨ret_bool (by simp_all), ?_⟩
  all_goals first | exact belowTwo _ _ _ | exact belowDraws (belowTwo _ _ _) _

set_option maxRecDepth 100000 in
/-- Two slices that read as the same things are the same. -/
theorem eqStoItemS_same (w : World) (v u : Value) (its : List Item) (hv : Items w w.heap.size v its) (hu : Items w w.heap.size u its) :
    Calls Try.prog 63 #[v, u] w fun e w' => e = .returned (.bool true) ∧ Below w.heap.size w w' := by
  obtain ⟨A, c, rfl, hc2, hc1⟩ := hv.form
  obtain ⟨A', c', rfl, hc2', hc1'⟩ := hu.form
  unfold maxLen at hc2 hc2'
  go_enter Try.func63, Try.ntmps63
  go_wp2
  go_loopw [5] (fun i wr => ∃ k : Nat, k ≤ its.length ∧ i = .int .i64 k ∧ Below w.heap.size w wr) (fun i _ => its.length - (intOf i).toNat)
  case atStart => exact ⟨0, Nat.zero_le _, rfl, Below.refl _ _⟩
  case round =>
    obtain ⟨k, hk, rfl, hb⟩ := hrel
    by_cases hlt : k < its.length
    · obtain ⟨b, off, d, it, x, e1, hit, hB, hks, ck, cu, hx⟩ := hv.at_ (k := k) hlt
      obtain ⟨b2, off2, d2, it2, x2, e2, hit2, hB2, hks2, ck2, cu2, hx2⟩ := hu.at_ (k := k) hlt
      rw [hit] at hit2
      injection hit2 with hit2
      subst hit2
      obtain ⟨Ax, cx, hxf, _, _⟩ := hx.form
      obtain ⟨Ay, cy, hyf, _, _⟩ := hx2.form
      subst hxf hyf
      injection e1 with e1a e1b e1c
      injection e2 with e2a e2b e2c
      subst e1a e2a
      clear e1b e1c e2b e2c hv hu hit
      have HS := Lib.hid fun (y : World) (hy : Below w.heap.size w y) => And.intro ((hy.cell (p := ⟨b, off + k * 2, none⟩) hB).trans ck) (And.intro ((hy.cell (p := ⟨b, off + k * 2 + 1, none⟩) hB).trans cu) (And.intro ((hy.cell (p := ⟨b2, off2 + k * 2, none⟩) hB2).trans ck2) ((hy.cell (p := ⟨b2, off2 + k * 2 + 1, none⟩) hB2).trans cu2)))
      have HX := Lib.hid fun (y : World) (hy : Below w.heap.size w y) => (hx.below hy).more hy.size
      have HX2 := Lib.hid fun (y : World) (hy : Below w.heap.size w y) => (hx2.below hy).more hy.size
      obtain ⟨d1, d2, d3, d4⟩ := HS.out wr hb
      have hb0 := hb.drew
      have f3 : (0 : Int) ≤ (k : Int) := by omega
      have f4 : (k : Int) < (its.length : Int) := by omega
      clear ck cu ck2 cu2 hx hx2
      go_wp2
      go_region_held3 (fun w' => w'.cell? ⟨b, off + k * 2, none⟩ = some (.string it.key) ∧ w'.cell? ⟨b, off + k * 2 + 1, none⟩ = some (.slice Ax it.val.length cx) ∧ w'.cell? ⟨b2, off2 + k * 2, none⟩ = some (.string it.key) ∧ w'.cell? ⟨b2, off2 + k * 2 + 1, none⟩ = some (.slice Ay it.val.length cy))
        (first | exact HS.out _ hb0 | exact HS.out _ (by assumption))
        (first | (go_at_call 106; refine (eqStoItem_any _ _ _ _ _ it.val it.val (HX.out _ hb0) (HX2.out _ hb0)).mono ?_; rintro e w' ⟨rfl, hb'⟩; have hq := belowNext hb0 hb'; clear hb'))
      go_wp2
      go_roundw
      case rel => exact ⟨k + 1, by omega, by go_num, by assumption⟩
      case measure => simp [intOf]; omega
    · clear hv hu
      go_wp2
      go_ret
      exact ⟨rfl, hb⟩

theorem eqStoStore_same (w : World) (v u : Value) (its : List Item) (hv : Items w w.heap.size v its) (hu : Items w w.heap.size u its) :
    Calls Try.prog 28 #[.agg #[v], .agg #[u]] w fun e w' => e = .returned (.bool true) ∧ Below w.heap.size w w' := by
  obtain ⟨A, c, rfl, hc2, hc1⟩ := hv.form
  obtain ⟨A', c', rfl, hc2', hc1'⟩ := hu.form
  have HV := Lib.hid fun o1 o2 => ((hv.alloc (Nat.le_refl _) o1).alloc (by simp) o2).more (B' := ((w.alloc o1).alloc o2).heap.size) (by simp; omega)
  have HU := Lib.hid fun o1 o2 => ((hu.alloc (Nat.le_refl _) o1).alloc (by simp) o2).more (B' := ((w.alloc o1).alloc o2).heap.size) (by simp; omega)
  clear hv hu
  go_enter Try.func28, Try.ntmps28
  go_wp2_with (go_at_call 63; refine (eqStoItemS_same _ _ _ _ (HV.out _ _) (HU.out _ _)).mono ?_; rintro e w1 ⟨rfl, hb1⟩; have HB := Lib.hid (belowNext (belowTwo _ _ _) hb1); clear hb1)
  go_ret
  exact ⟨rfl, HB.out⟩

end Go.Proofs.Ytgekggoenibnmaa

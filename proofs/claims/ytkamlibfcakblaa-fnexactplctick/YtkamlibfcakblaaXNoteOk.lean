/- What NoteOk answers, of the program and of the model: the same bool of every note. -/
import Derived.Test.YtkamlibfcakblaaXFrameRow
import Derived.Deep.QuietTactic
import Derived.BigQuiet
import Derived.Deep.RegionHeld3
import Derived.WalkLawsBesides
namespace Go.Proofs.Ytkamlibfcakblaa
open Go.RowKit

theorem ne_toList {a b : ByteArray} (h : a ≠ b) : (a.toList == b.toList) = false := by rw [eq_toList]; simp [h]

theorem index_any (w : World) (B : Nat) (v : Value) (xs : List ByteArray) (s : ByteArray) (hv : strSh.Row w B v xs) :
    Calls Try.prog 114 #[v, .string s] w fun e w' => (∃ i : Int, e = .returned (.int .i64 i) ∧ hasB xs s = decide (0 ≤ i)) ∧ w = w' := by
  obtain ⟨A, c, rfl, hc2, hc1⟩ := hv.form
  unfold maxLen at hc2
  go_enter Try.func114, Try.ntmps114
  go_wp2
  go_loop [8] (fun i => ∃ k : Nat, k ≤ xs.length ∧ i = .int .i64 k ∧ Miss xs s k) (fun i => xs.length - (intOf i).toNat)
  case atStart => exact ⟨0, Nat.zero_le _, rfl, Miss.start _ _⟩
  case round =>
    obtain ⟨k, hk, rfl, hm⟩ := hrel
    by_cases hlt : k < xs.length
    · obtain ⟨b, off, c', x, e1, hx, hB, hs, ck⟩ := strs_at hv hlt
      injection e1 with e1a e1b e1c
      subst e1a
      clear e1b e1c hv
      by_cases he : x = s
      · subst he
        have HH := Lib.hid (hasB_yes hx)
        clear hx
        go_wp2
        go_ret
        exact ⟨⟨_, rfl, by rw [HH.out]; simp⟩, rfl⟩
      · have hb : (s.toList == x.toList) = false := ne_toList (Ne.symm he)
        have HM := Lib.hid (hm.step hx he)
        clear hx he
        go_wp2
        go_round
        case rel => exact ⟨k + 1, by omega, by go_num, HM.out⟩
        case measure => simp [intOf]; omega
    · have HH := Lib.hid (hasB_no (l := xs) (s := s) ((show k = xs.length by omega) ▸ hm))
      clear hv
      go_wp2
      go_ret
      exact ⟨⟨_, rfl, by rw [HH.out]; simp⟩, rfl⟩

theorem contains_any (w : World) (B : Nat) (v : Value) (xs : List ByteArray) (s : ByteArray) (hv : strSh.Row w B v xs) :
    Calls Try.prog 73 #[v, .string s] w fun e w' => e = .returned (.bool (hasB xs s)) ∧ w = w' := by
  go_enter Try.func73, Try.ntmps73
  go_wp2_with fail
  refine (index_any _ _ _ _ _ hv).mono ?_
  rintro e w' ⟨⟨i, rfl, hi⟩, rfl⟩
  have HI := Lib.hid hi
  clear hi hv
  go_wp2
  go_ret
  exact ⟨ret_bool HI.out.symm, rfl⟩

theorem l2Has_any (w : World) (B : Nat) (v : Value) (xs : List ByteArray) (s : ByteArray) (hv : strSh.Row w B v xs) :
    Calls Try.prog 75 #[v, .string s] w fun e w' => e = .returned (.bool (hasB xs s)) ∧ w = w' := by
  obtain ⟨A, c, rfl, hc2, hc1⟩ := hv.form
  unfold maxLen at hc2
  go_enter Try.func75, Try.ntmps75
  go_wp2
  go_loop [5] (fun i => ∃ k : Nat, k ≤ xs.length ∧ i = .int .i64 k ∧ Miss xs s k) (fun i => xs.length - (intOf i).toNat)
  case atStart => exact ⟨0, Nat.zero_le _, rfl, Miss.start _ _⟩
  case round =>
    obtain ⟨k, hk, rfl, hm⟩ := hrel
    by_cases hlt : k < xs.length
    · obtain ⟨b, off, c', x, e1, hx, hB, hs, ck⟩ := strs_at hv hlt
      injection e1 with e1a e1b e1c
      subst e1a
      clear e1b e1c hv
      by_cases he : x = s
      · subst he
        have HH := Lib.hid (hasB_yes hx)
        clear hx
        go_wp2
        go_ret
        exact ⟨ret_bool HH.out.symm, rfl⟩
      · have hb : (x.toList == s.toList) = false := ne_toList he
        have HM := Lib.hid (hm.step hx he)
        clear hx he
        go_wp2
        go_round
        case rel => exact ⟨k + 1, by omega, by go_num, HM.out⟩
        case measure => simp [intOf]; omega
    · have HH := Lib.hid (hasB_no (l := xs) (s := s) ((show k = xs.length by omega) ▸ hm))
      clear hv
      go_wp2
      go_ret
      exact ⟨ret_bool HH.out.symm, rfl⟩

theorem txOk_any (n : Int) (w : World) : Calls Try.prog 108 #[.int .i64 n] w fun e w' => e = .returned (.bool (inB n 0 29)) ∧ w = w' := by
  by_cases h1 : 0 ≤ n
  · by_cases h2 : n ≤ 29
    · go_enter Try.func108, Try.ntmps108
      go_wp2
      go_ret
      exact ⟨ret_bool (by unfold inB; simp [h1, h2]), rfl⟩
    · go_enter Try.func108, Try.ntmps108
      go_wp2
      go_ret
      exact ⟨ret_bool (by unfold inB; simp [h1, h2]), rfl⟩
  · go_enter Try.func108, Try.ntmps108
    go_wp2
    go_ret
    exact ⟨ret_bool (by rw [inB_no (by omega)]), rfl⟩

theorem locksOk_any (w : World) (B : Nat) (v : Value) (xs : List ByteArray) (hv : strSh.Row w B v xs) :
    Calls Try.prog 109 #[v] w fun e w' => e = .returned (.bool (locksB xs)) ∧ w = w' := by
  obtain ⟨A, c, rfl, hc2, hc1⟩ := hv.form
  unfold maxLen at hc2
  go_enter Try.func109, Try.ntmps109
  go_wp2
  go_loop [7] (fun i => ∃ k : Nat, k ≤ xs.length ∧ i = .int .i64 k ∧ AllTo keyB xs k) (fun i => xs.length - (intOf i).toNat)
  case atStart => exact ⟨0, Nat.zero_le _, rfl, AllTo.start _ _⟩
  case round =>
    obtain ⟨k, hk, rfl, hm⟩ := hrel
    by_cases hlt : k < xs.length
    · obtain ⟨b, off, c', x, e1, hx, hB, hs, ck⟩ := strs_at hv hlt
      injection e1 with e1a e1b e1c
      subst e1a
      clear e1b e1c hv
      rcases hkb : keyB x
      · have HH := Lib.hid (locksB_bad hx hkb)
        clear hx
        go_wp2_with (go_at_call 85; refine (keyOk_any _ _ hs).mono ?_; rintro e w' ⟨rfl, rfl⟩)
        go_ret
        exact ⟨ret_bool HH.out.symm, rfl⟩
      · have HM := Lib.hid (hm.step hx hkb)
        clear hx
        go_wp2_with (go_at_call 85; refine (keyOk_any _ _ hs).mono ?_; rintro e w' ⟨rfl, rfl⟩)
        go_round
        case rel => exact ⟨k + 1, by omega, by go_num, HM.out⟩
        case measure => simp [intOf]; omega
    · have HH := Lib.hid (locksB_all (l := xs) ((show k = xs.length by omega) ▸ hm))
      clear hv
      go_wp2
      go_ret
      exact ⟨ret_bool (by rw [HH.out, Bool.eq_iff_iff]; simp only [decide_eq_true_eq]; omega), rfl⟩

/-- A write at a place. -/
theorem wrs_at {w : World} {B : Nat} {v : Value} {xs : List Wr} (h : wrSh.Row w B v xs) {k : Nat} (hk : k < xs.length) : ∃ b off c x A n d, v = .slice (some ⟨b, off, none⟩) xs.length c ∧ xs[k]? = some x ∧ b < B ∧ x.key.size ≤ maxLen ∧
    w.cell? ⟨b, off + k * 3, none⟩ = some (.string x.key) ∧ w.cell? ⟨b, off + k * 3 + 1, none⟩ = some (.bool x.del) ∧ w.cell? ⟨b, off + k * 3 + 2, none⟩ = some (.slice A n d) ∧ Ints w B (.slice A n d) x.val := by
  obtain ⟨b, off, c, x, cs, hv, hx, hb, hr, hc⟩ := h.at_ hk
  obtain ⟨u, rfl, hs, h1⟩ := wr_rel.1 hr
  obtain ⟨A, d, rfl, -, -⟩ := h1.form
  exact ⟨b, off, c, x, A, _, d, hv, hx, hb, hs, hc 0 _ rfl, hc 1 _ rfl, hc 2 _ rfl, ints_row.1 h1⟩

set_option maxRecDepth 100000 in
theorem lockedWritesOk_any (w : World) (u v : Value) (ls : List ByteArray) (xs : List Wr) (hu : strSh.Row w w.heap.size u ls) (hv : wrSh.Row w w.heap.size v xs) :
    Calls Try.prog 110 #[u, v] w fun e w' => e = .returned (.bool (wrsB ls xs)) ∧ Below w.heap.size w w' := by
  obtain ⟨A, c, rfl, hc2, hc1⟩ := hv.form
  obtain ⟨Au, cu, rfl, -, -⟩ := hu.form
  unfold maxLen at hc2
  have HU := Lib.hid fun (y : World) (hy : Below w.heap.size w y) => hu.below hy
  clear hu
  go_enter Try.func110, Try.ntmps110
  go_wp2
  go_loopw [9] (fun i wr => ∃ k : Nat, k ≤ xs.length ∧ i = .int .i64 k ∧ AllTo (lwB ls) xs k ∧ Below w.heap.size w wr) (fun i _ => xs.length - (intOf i).toNat)
  case atStart => exact ⟨0, Nat.zero_le _, rfl, AllTo.start _ _, Below.refl _ _⟩
  case round =>
    obtain ⟨k, hk, rfl, hm, hb⟩ := hrel
    by_cases hlt : k < xs.length
    · obtain ⟨b, off, c', x, Ax, nx, cx, e1, hx, hB, hs, d0, d1, d2, hi⟩ := wrs_at (hv.below hb) hlt
      injection e1 with e1a e1b e1c
      subst e1a
      have HI := Lib.hid fun o => (hi.alloc hb.size o).more (B' := (wr.alloc o).heap.size) (by have := hb.size; simp; omega)
      have HB := Lib.hid fun o => hb.alloc hb.size o
      have HX := Lib.hid fun o => Held.new wr (#[.string x.key, .bool x.del, .slice Ax nx cx]) o
      clear e1b e1c hv hi hb
      rcases hok : x.ok
      · have HH := Lib.hid (wrsB_bad hx (lwB_ok (locks := ls) hok))
        have hok' : wrtB x.key x.del x.val = false := hok
        clear hx hok
        go_wp2_with (go_at_call 66; refine (implWrtOk_any _ _ _ _ _ hs (HI.out _)).mono ?_; rintro e w1 ⟨rfl, hb1⟩; have HN := Lib.hid (belowNext (HB.out _) hb1); clear hb1)
        go_ret
        exact ⟨ret_bool HH.out.symm, HN.out⟩
      · have hok' : wrtB x.key x.del x.val = true := hok
        rcases hh : hasB ls x.key
        · have HH := Lib.hid (wrsB_bad hx ((lwB_has (locks := ls) hok).trans hh))
          clear hx hok
          go_wp2_with (first
            | (go_at_call 66; refine (implWrtOk_any _ _ _ _ _ hs (HI.out _)).mono ?_; rintro e w1 ⟨rfl, hb1⟩; have HN := Lib.hid (belowNext (HB.out _) hb1); have x0 := ((HX.out _).below hb1 (HX.out _).1).of 0 _ rfl; clear hb1)
            | (go_at_call 73; refine (contains_any _ _ _ _ _ (HU.out _ HN.out)).mono ?_; rintro e w2 ⟨rfl, rfl⟩))
          go_ret
          exact ⟨ret_bool HH.out.symm, HN.out⟩
        · have HM := Lib.hid (hm.step hx ((lwB_has (locks := ls) hok).trans hh))
          clear hx hok
          go_wp2_with (first
            | (go_at_call 66; refine (implWrtOk_any _ _ _ _ _ hs (HI.out _)).mono ?_; rintro e w1 ⟨rfl, hb1⟩; have HN := Lib.hid (belowNext (HB.out _) hb1); have x0 := ((HX.out _).below hb1 (HX.out _).1).of 0 _ rfl; clear hb1)
            | (go_at_call 73; refine (contains_any _ _ _ _ _ (HU.out _ HN.out)).mono ?_; rintro e w2 ⟨rfl, rfl⟩))
          go_roundw
          case rel => exact ⟨k + 1, by omega, by go_num, HM.out, HN.out⟩
          case measure => simp [intOf]; omega
    · have HH := Lib.hid (wrsB_all (locks := ls) (ws := xs) ((show k = xs.length by omega) ▸ hm))
      clear hv
      go_wp2
      go_ret
      exact ⟨ret_bool (by rw [HH.out, Bool.eq_iff_iff]; simp only [decide_eq_true_eq]; omega), hb⟩

theorem implNoteOk_any (w : World) (cs : List Value) (x : Note) (h : noteSh.rel w w.heap.size cs x) :
    Calls Try.prog 67 #[.agg cs.toArray] w fun e w' => e = .returned (.bool (noteB x)) ∧ Below w.heap.size w w' := by
  obtain ⟨u, v, rfl, hu, hv⟩ := note_rel.1 h
  obtain ⟨Au, cu, rfl, hcu, -⟩ := hu.form
  obtain ⟨Av, cv, rfl, hcv, -⟩ := hv.form
  unfold maxLen at hcu hcv
  have HU := Lib.hid fun o => (hu.alloc (Nat.le_refl _) o).more (B' := (w.alloc o).heap.size) (by simp)
  have HV := Lib.hid fun o => (hv.alloc (Nat.le_refl _) o).more (B' := (w.alloc o).heap.size) (by simp)
  have HW := Lib.hid fun o => belowOne w o
  clear h hu hv
  rcases htx : inB x.tx 0 29
  · have HK := Lib.hid (noteB_tx htx)
    go_enter Try.func67, Try.ntmps67
    go_wp2_with (go_at_call 108; refine (txOk_any _ _).mono ?_; rintro e w1 ⟨rfl, rfl⟩)
    go_ret
    exact ⟨ret_bool HK.out.symm, HW.out _⟩
  · by_cases hk : x.kind = 1
    · have HK := Lib.hid (noteB_ready htx hk)
      have hb1 : (x.kind == 1) = true := by simp [hk]
      clear hk
      rcases hl : locksB x.locks
      · go_enter Try.func67, Try.ntmps67
        go_wp2_with (first
          | (go_at_call 108; refine (txOk_any _ _).mono ?_; rintro e w1 ⟨rfl, rfl⟩)
          | (go_at_call 109; refine (locksOk_any _ _ _ _ (HU.out _)).mono ?_; rintro e w1 ⟨rfl, rfl⟩))
        go_ret
        exact ⟨ret_bool (by rw [HK.out, hl]; rfl), HW.out _⟩
      · go_enter Try.func67, Try.ntmps67
        go_wp2_with (first
          | (go_at_call 108; refine (txOk_any _ _).mono ?_; rintro e w1 ⟨rfl, rfl⟩)
          | (go_at_call 109; refine (locksOk_any _ _ _ _ (HU.out _)).mono ?_; rintro e w1 ⟨rfl, rfl⟩)
          | (go_at_call 110; refine (lockedWritesOk_any _ _ _ _ _ (HU.out _) (HV.out _)).mono ?_; rintro e w1 ⟨rfl, hb⟩; have HN := Lib.hid (belowNext (HW.out _) hb); clear hb))
        go_ret
        exact ⟨ret_bool (by rw [HK.out, hl]; rfl), HN.out⟩
    · have hb1 : (x.kind == 1) = false := by simp [hk]
      have HK := Lib.hid (noteB_other htx hk)
      by_cases h24 : x.kind = 2 ∨ x.kind = 3 ∨ x.kind = 4
      · have HI : Hid (inB x.kind 2 4 = true) := Lib.hid (inB_yes (by omega) (by omega))
        by_cases hl : x.locks.length = 0
        · have hl0 : ((x.locks.length : Int) == 0) = true := by simp [hl]
          have HL := Lib.hid hl
          clear hl
          by_cases hw : x.writes.length = 0
          · have hw0 : ((x.writes.length : Int) == 0) = true := by simp [hw]
            have HW0 := Lib.hid hw
            clear hw
            rcases h24 with h24 | h24 | h24
            · have hb2 : (x.kind == 2) = true := by simp [h24]
              clear h24 hk
              go_enter Try.func67, Try.ntmps67
              go_wp2_with (go_at_call 108; refine (txOk_any _ _).mono ?_; rintro e w1 ⟨rfl, rfl⟩)
              go_ret
              exact ⟨ret_bool (by rw [HK.out, HI.out, HL.out, HW0.out]; rfl), HW.out _⟩
            · have hb2 : (x.kind == 2) = false := by simp [h24]
              have hb3 : (x.kind == 3) = true := by simp [h24]
              clear h24 hk
              go_enter Try.func67, Try.ntmps67
              go_wp2_with (go_at_call 108; refine (txOk_any _ _).mono ?_; rintro e w1 ⟨rfl, rfl⟩)
              go_ret
              exact ⟨ret_bool (by rw [HK.out, HI.out, HL.out, HW0.out]; rfl), HW.out _⟩
            · have hb2 : (x.kind == 2) = false := by simp [h24]
              have hb3 : (x.kind == 3) = false := by simp [h24]
              have hb4 : (x.kind == 4) = true := by simp [h24]
              clear h24 hk
              go_enter Try.func67, Try.ntmps67
              go_wp2_with (go_at_call 108; refine (txOk_any _ _).mono ?_; rintro e w1 ⟨rfl, rfl⟩)
              go_ret
              exact ⟨ret_bool (by rw [HK.out, HI.out, HL.out, HW0.out]; rfl), HW.out _⟩
          · have hw0 : ((x.writes.length : Int) == 0) = false := by rw [beq_eq_false_iff_ne]; omega
            have HW0 := Lib.hid (show decide (x.writes.length = 0) = false by simp [hw])
            clear hw
            rcases h24 with h24 | h24 | h24
            · have hb2 : (x.kind == 2) = true := by simp [h24]
              clear h24 hk
              go_enter Try.func67, Try.ntmps67
              go_wp2_with (go_at_call 108; refine (txOk_any _ _).mono ?_; rintro e w1 ⟨rfl, rfl⟩)
              go_ret
              exact ⟨ret_bool (by rw [HK.out, HW0.out]; simp), HW.out _⟩
            · have hb2 : (x.kind == 2) = false := by simp [h24]
              have hb3 : (x.kind == 3) = true := by simp [h24]
              clear h24 hk
              go_enter Try.func67, Try.ntmps67
              go_wp2_with (go_at_call 108; refine (txOk_any _ _).mono ?_; rintro e w1 ⟨rfl, rfl⟩)
              go_ret
              exact ⟨ret_bool (by rw [HK.out, HW0.out]; simp), HW.out _⟩
            · have hb2 : (x.kind == 2) = false := by simp [h24]
              have hb3 : (x.kind == 3) = false := by simp [h24]
              have hb4 : (x.kind == 4) = true := by simp [h24]
              clear h24 hk
              go_enter Try.func67, Try.ntmps67
              go_wp2_with (go_at_call 108; refine (txOk_any _ _).mono ?_; rintro e w1 ⟨rfl, rfl⟩)
              go_ret
              exact ⟨ret_bool (by rw [HK.out, HW0.out]; simp), HW.out _⟩
        · have hl0 : ((x.locks.length : Int) == 0) = false := by rw [beq_eq_false_iff_ne]; omega
          have HL := Lib.hid (show decide (x.locks.length = 0) = false by simp [hl])
          clear hl
          rcases h24 with h24 | h24 | h24
          · have hb2 : (x.kind == 2) = true := by simp [h24]
            clear h24 hk
            go_enter Try.func67, Try.ntmps67
            go_wp2_with (go_at_call 108; refine (txOk_any _ _).mono ?_; rintro e w1 ⟨rfl, rfl⟩)
            go_ret
            exact ⟨ret_bool (by rw [HK.out, HL.out]; simp), HW.out _⟩
          · have hb2 : (x.kind == 2) = false := by simp [h24]
            have hb3 : (x.kind == 3) = true := by simp [h24]
            clear h24 hk
            go_enter Try.func67, Try.ntmps67
            go_wp2_with (go_at_call 108; refine (txOk_any _ _).mono ?_; rintro e w1 ⟨rfl, rfl⟩)
            go_ret
            exact ⟨ret_bool (by rw [HK.out, HL.out]; simp), HW.out _⟩
          · have hb2 : (x.kind == 2) = false := by simp [h24]
            have hb3 : (x.kind == 3) = false := by simp [h24]
            have hb4 : (x.kind == 4) = true := by simp [h24]
            clear h24 hk
            go_enter Try.func67, Try.ntmps67
            go_wp2_with (go_at_call 108; refine (txOk_any _ _).mono ?_; rintro e w1 ⟨rfl, rfl⟩)
            go_ret
            exact ⟨ret_bool (by rw [HK.out, HL.out]; simp), HW.out _⟩
      · have HI := Lib.hid (noteB_kind (n := x) (by omega))
        have hb2 : (x.kind == 2) = false := by simp; omega
        have hb3 : (x.kind == 3) = false := by simp; omega
        have hb4 : (x.kind == 4) = false := by simp; omega
        clear h24 hk
        go_enter Try.func67, Try.ntmps67
        go_wp2_with (go_at_call 108; refine (txOk_any _ _).mono ?_; rintro e w1 ⟨rfl, rfl⟩)
        go_ret
        exact ⟨ret_bool HI.out.symm, HW.out _⟩

end Go.Proofs.Ytkamlibfcakblaa

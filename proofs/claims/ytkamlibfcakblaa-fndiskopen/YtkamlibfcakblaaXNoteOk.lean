/- Texts that follow each other, merged: NoteOk, RegLast. -/
import Derived.Test.YtkamlibfcakblaaXShal
import Derived.Deep.QuietTactic
import Derived.BigQuiet
import Derived.Deep.RegionHeld3
import Derived.WalkLawsBesides

/- What NoteOk answers, of the program and of the model: the same bool of every note. -/
namespace Go.Proofs.Ytkamlibfcakblaa
open Go.RowKit

theorem ne_toList {a b : ByteArray} (h : a ≠ b) : (a.toList == b.toList) = false := by rw [eq_toList]; simp [h]

theorem index_any (w : World) (B : Nat) (v : Value) (xs : List ByteArray) (s : ByteArray) (hv : strSh.Row w B v xs) :
    Calls Try.prog 114 #[v, .string s] w fun e w' => (∃ i : Int, e = .returned (.int .i64 i) ∧ hasB xs s = decide (0 ≤ i)) ∧ w = w' := by
  obtain ⟨A, c, rfl, hc2, hc1⟩ := hv.form
  unfold maxLen at hc2
  go_enter Try.func114, Try.ntmps114
  go_wp2
  go_loop [8] (fun i => ∃ k : Nat, k ≤ xs.length ∧ i = .int .i64 k ∧ Miss xs s k) (fun i => xs.length - (intOf i).toNat)
  case atStart => exact ⟨0, Nat.zero_le _, rfl, Miss.start _ _⟩
  case round =>
    obtain ⟨k, hk, rfl, hm⟩ := hrel
    by_cases hlt : k < xs.length
    · obtain ⟨b, off, c', x, e1, hx, hB, hs, ck⟩ := strs_at hv hlt
      injection e1 with e1a e1b e1c
      subst e1a
      clear e1b e1c hv
      by_cases he : x = s
      · subst he
        have HH := Lib.hid (hasB_yes hx)
        clear hx
        go_wp2
        go_ret
        exact ⟨⟨_, rfl, by rw [HH.out]; simp⟩, rfl⟩
      · have hb : (s.toList == x.toList) = false := ne_toList (Ne.symm he)
        have HM := Lib.hid (hm.step hx he)
        clear hx he
        go_wp2
        go_round
        case rel => exact ⟨k + 1, by omega, by go_num, HM.out⟩
        case measure => simp [intOf]; omega
    · have HH := Lib.hid (hasB_no (l := xs) (s := s) ((show k = xs.length by omega) ▸ hm))
      clear hv
      go_wp2
      go_ret
      exact ⟨⟨_, rfl, by rw [HH.out]; simp⟩, rfl⟩

theorem contains_any (w : World) (B : Nat) (v : Value) (xs : List ByteArray) (s : ByteArray) (hv : strSh.Row w B v xs) :
    Calls Try.prog 73 #[v, .string s] w fun e w' => e = .returned (.bool (hasB xs s)) ∧ w = w' := by
  go_enter Try.func73, Try.ntmps73
  go_wp2_with fail
  refine (index_any _ _ _ _ _ hv).mono ?_
  rintro e w' ⟨⟨i, rfl, hi⟩, rfl⟩
  have HI := Lib.hid hi
  clear hi hv
  go_wp2
  go_ret
  exact ⟨ret_bool HI.out.symm, rfl⟩

theorem l2Has_any (w : World) (B : Nat) (v : Value) (xs : List ByteArray) (s : ByteArray) (hv : strSh.Row w B v xs) :
    Calls Try.prog 75 #[v, .string s] w fun e w' => e = .returned (.bool (hasB xs s)) ∧ w = w' := by
  obtain ⟨A, c, rfl, hc2, hc1⟩ := hv.form
  unfold maxLen at hc2
  go_enter Try.func75, Try.ntmps75
  go_wp2
  go_loop [5] (fun i => ∃ k : Nat, k ≤ xs.length ∧ i = .int .i64 k ∧ Miss xs s k) (fun i => xs.length - (intOf i).toNat)
  case atStart => exact ⟨0, Nat.zero_le _, rfl, Miss.start _ _⟩
  case round =>
    obtain ⟨k, hk, rfl, hm⟩ := hrel
    by_cases hlt : k < xs.length
    · obtain ⟨b, off, c', x, e1, hx, hB, hs, ck⟩ := strs_at hv hlt
      injection e1 with e1a e1b e1c
      subst e1a
      clear e1b e1c hv
      by_cases he : x = s
      · subst he
        have HH := Lib.hid (hasB_yes hx)
        clear hx
        go_wp2
        go_ret
        exact ⟨ret_bool HH.out.symm, rfl⟩
      · have hb : (x.toList == s.toList) = false := ne_toList he
        have HM := Lib.hid (hm.step hx he)
        clear hx he
        go_wp2
        go_round
        case rel => exact ⟨k + 1, by omega, by go_num, HM.out⟩
        case measure => simp [intOf]; omega
    · have HH := Lib.hid (hasB_no (l := xs) (s := s) ((show k = xs.length by omega) ▸ hm))
      clear hv
      go_wp2
      go_ret
      exact ⟨ret_bool HH.out.symm, rfl⟩

theorem txOk_any (n : Int) (w : World) : Calls Try.prog 108 #[.int .i64 n] w fun e w' => e = .returned (.bool (inB n 0 29)) ∧ w = w' := by
  by_cases h1 : 0 ≤ n
  · by_cases h2 : n ≤ 29
    · go_enter Try.func108, Try.ntmps108
      go_wp2
      go_ret
      exact ⟨ret_bool (by unfold inB; simp [h1, h2]), rfl⟩
    · go_enter Try.func108, Try.ntmps108
      go_wp2
      go_ret
      exact ⟨ret_bool (by unfold inB; simp [h1, h2]), rfl⟩
  · go_enter Try.func108, Try.ntmps108
    go_wp2
    go_ret
    exact ⟨ret_bool (by rw [inB_no (by omega)]), rfl⟩

theorem locksOk_any (w : World) (B : Nat) (v : Value) (xs : List ByteArray) (hv : strSh.Row w B v xs) :
    Calls Try.prog 109 #[v] w fun e w' => e = .returned (.bool (locksB xs)) ∧ w = w' := by
  obtain ⟨A, c, rfl, hc2, hc1⟩ := hv.form
  unfold maxLen at hc2
  go_enter Try.func109, Try.ntmps109
  go_wp2
  go_loop [7] (fun i => ∃ k : Nat, k ≤ xs.length ∧ i = .int .i64 k ∧ AllTo keyB xs k) (fun i => xs.length - (intOf i).toNat)
  case atStart => exact ⟨0, Nat.zero_le _, rfl, AllTo.start _ _⟩
  case round =>
    obtain ⟨k, hk, rfl, hm⟩ := hrel
    by_cases hlt : k < xs.length
    · obtain ⟨b, off, c', x, e1, hx, hB, hs, ck⟩ := strs_at hv hlt
      injection e1 with e1a e1b e1c
      subst e1a
      clear e1b e1c hv
      rcases hkb : keyB x
      · have HH := Lib.hid (locksB_bad hx hkb)
        clear hx
        go_wp2_with (go_at_call 85; refine (keyOk_any _ _ hs).mono ?_; rintro e w' ⟨rfl, rfl⟩)
        go_ret
        exact ⟨ret_bool HH.out.symm, rfl⟩
      · have HM := Lib.hid (hm.step hx hkb)
        clear hx
        go_wp2_with (go_at_call 85; refine (keyOk_any _ _ hs).mono ?_; rintro e w' ⟨rfl, rfl⟩)
        go_round
        case rel => exact ⟨k + 1, by omega, by go_num, HM.out⟩
        case measure => simp [intOf]; omega
    · have HH := Lib.hid (locksB_all (l := xs) ((show k = xs.length by omega) ▸ hm))
      clear hv
      go_wp2
      go_ret
      exact ⟨ret_bool (by rw [HH.out, Bool.eq_iff_iff]; simp only [decide_eq_true_eq]; omega), rfl⟩

/-- A write at a place. -/
theorem wrs_at {w : World} {B : Nat} {v : Value} {xs : List Wr} (h : wrSh.Row w B v xs) {k : Nat} (hk : k < xs.length) : ∃ b off c x A n d, v = .slice (some ⟨b, off, none⟩) xs.length c ∧ xs[k]? = some x ∧ b < B ∧ x.key.size ≤ maxLen ∧
    w.cell? ⟨b, off + k * 3, none⟩ = some (.string x.key) ∧ w.cell? ⟨b, off + k * 3 + 1, none⟩ = some (.bool x.del) ∧ w.cell? ⟨b, off + k * 3 + 2, none⟩ = some (.slice A n d) ∧ Ints w B (.slice A n d) x.val := by
  obtain ⟨b, off, c, x, cs, hv, hx, hb, hr, hc⟩ := h.at_ hk
  obtain ⟨u, rfl, hs, h1⟩ := wr_rel.1 hr
  obtain ⟨A, d, rfl, -, -⟩ := h1.form
  exact ⟨b, off, c, x, A, _, d, hv, hx, hb, hs, hc 0 _ rfl, hc 1 _ rfl, hc 2 _ rfl, ints_row.1 h1⟩

set_option maxRecDepth 100000 in
theorem lockedWritesOk_any (w : World) (u v : Value) (ls : List ByteArray) (xs : List Wr) (hu : strSh.Row w w.heap.size u ls) (hv : wrSh.Row w w.heap.size v xs) :
    Calls Try.prog 110 #[u, v] w fun e w' => e = .returned (.bool (wrsB ls xs)) ∧ Below w.heap.size w w' := by
  obtain ⟨A, c, rfl, hc2, hc1⟩ := hv.form
  obtain ⟨Au, cu, rfl, -, -⟩ := hu.form
  unfold maxLen at hc2
  have HU := Lib.hid fun (y : World) (hy : Below w.heap.size w y) => hu.below hy
  clear hu
  go_enter Try.func110, Try.ntmps110
  go_wp2
  go_loopw [9] (fun i wr => ∃ k : Nat, k ≤ xs.length ∧ i = .int .i64 k ∧ AllTo (lwB ls) xs k ∧ Below w.heap.size w wr) (fun i _ => xs.length - (intOf i).toNat)
  case atStart => exact ⟨0, Nat.zero_le _, rfl, AllTo.start _ _, Below.refl _ _⟩
  case round =>
    obtain ⟨k, hk, rfl, hm, hb⟩ := hrel
    by_cases hlt : k < xs.length
    · obtain ⟨b, off, c', x, Ax, nx, cx, e1, hx, hB, hs, d0, d1, d2, hi⟩ := wrs_at (hv.below hb) hlt
      injection e1 with e1a e1b e1c
      subst e1a
      have HI := Lib.hid fun o => (hi.alloc hb.size o).more (B' := (wr.alloc o).heap.size) (by have := hb.size; simp; omega)
      have HB := Lib.hid fun o => hb.alloc hb.size o
      have HX := Lib.hid fun o => Held.new wr (#[.string x.key, .bool x.del, .slice Ax nx cx]) o
      clear e1b e1c hv hi hb
      rcases hok : x.ok
      · have HH := Lib.hid (wrsB_bad hx (lwB_ok (locks := ls) hok))
        have hok' : wrtB x.key x.del x.val = false := hok
        clear hx hok
        go_wp2_with (go_at_call 66; refine (implWrtOk_any _ _ _ _ _ hs (HI.out _)).mono ?_; rintro e w1 ⟨rfl, hb1⟩; have HN := Lib.hid (belowNext (HB.out _) hb1); clear hb1)
        go_ret
        exact ⟨ret_bool HH.out.symm, HN.out⟩
      · have hok' : wrtB x.key x.del x.val = true := hok
        rcases hh : hasB ls x.key
        · have HH := Lib.hid (wrsB_bad hx ((lwB_has (locks := ls) hok).trans hh))
          clear hx hok
          go_wp2_with (first
            | (go_at_call 66; refine (implWrtOk_any _ _ _ _ _ hs (HI.out _)).mono ?_; rintro e w1 ⟨rfl, hb1⟩; have HN := Lib.hid (belowNext (HB.out _) hb1); have x0 := ((HX.out _).below hb1 (HX.out _).1).of 0 _ rfl; clear hb1)
            | (go_at_call 73; refine (contains_any _ _ _ _ _ (HU.out _ HN.out)).mono ?_; rintro e w2 ⟨rfl, rfl⟩))
          go_ret
          exact ⟨ret_bool HH.out.symm, HN.out⟩
        · have HM := Lib.hid (hm.step hx ((lwB_has (locks := ls) hok).trans hh))
          clear hx hok
          go_wp2_with (first
            | (go_at_call 66; refine (implWrtOk_any _ _ _ _ _ hs (HI.out _)).mono ?_; rintro e w1 ⟨rfl, hb1⟩; have HN := Lib.hid (belowNext (HB.out _) hb1); have x0 := ((HX.out _).below hb1 (HX.out _).1).of 0 _ rfl; clear hb1)
            | (go_at_call 73; refine (contains_any _ _ _ _ _ (HU.out _ HN.out)).mono ?_; rintro e w2 ⟨rfl, rfl⟩))
          go_roundw
          case rel => exact ⟨k + 1, by omega, by go_num, HM.out, HN.out⟩
          case measure => simp [intOf]; omega
    · have HH := Lib.hid (wrsB_all (locks := ls) (ws := xs) ((show k = xs.length by omega) ▸ hm))
      clear hv
      go_wp2
      go_ret
      exact ⟨ret_bool (by rw [HH.out, Bool.eq_iff_iff]; simp only [decide_eq_true_eq]; omega), hb⟩

theorem implNoteOk_any (w : World) (cs : List Value) (x : Note) (h : noteSh.rel w w.heap.size cs x) :
    Calls Try.prog 67 #[.agg cs.toArray] w fun e w' => e = .returned (.bool (noteB x)) ∧ Below w.heap.size w w' := by
  obtain ⟨u, v, rfl, hu, hv⟩ := note_rel.1 h
  obtain ⟨Au, cu, rfl, hcu, -⟩ := hu.form
  obtain ⟨Av, cv, rfl, hcv, -⟩ := hv.form
  unfold maxLen at hcu hcv
  have HU := Lib.hid fun o => (hu.alloc (Nat.le_refl _) o).more (B' := (w.alloc o).heap.size) (by simp)
  have HV := Lib.hid fun o => (hv.alloc (Nat.le_refl _) o).more (B' := (w.alloc o).heap.size) (by simp)
  have HW := Lib.hid fun o => belowOne w o
  clear h hu hv
  rcases htx : inB x.tx 0 29
  · have HK := Lib.hid (noteB_tx htx)
    go_enter Try.func67, Try.ntmps67
    go_wp2_with (go_at_call 108; refine (txOk_any _ _).mono ?_; rintro e w1 ⟨rfl, rfl⟩)
    go_ret
    exact ⟨ret_bool HK.out.symm, HW.out _⟩
  · by_cases hk : x.kind = 1
    · have HK := Lib.hid (noteB_ready htx hk)
      have hb1 : (x.kind == 1) = true := by simp [hk]
      clear hk
      rcases hl : locksB x.locks
      · go_enter Try.func67, Try.ntmps67
        go_wp2_with (first
          | (go_at_call 108; refine (txOk_any _ _).mono ?_; rintro e w1 ⟨rfl, rfl⟩)
          | (go_at_call 109; refine (locksOk_any _ _ _ _ (HU.out _)).mono ?_; rintro e w1 ⟨rfl, rfl⟩))
        go_ret
        exact ⟨ret_bool (by rw [HK.out, hl]; rfl), HW.out _⟩
      · go_enter Try.func67, Try.ntmps67
        go_wp2_with (first
          | (go_at_call 108; refine (txOk_any _ _).mono ?_; rintro e w1 ⟨rfl, rfl⟩)
          | (go_at_call 109; refine (locksOk_any _ _ _ _ (HU.out _)).mono ?_; rintro e w1 ⟨rfl, rfl⟩)
          | (go_at_call 110; refine (lockedWritesOk_any _ _ _ _ _ (HU.out _) (HV.out _)).mono ?_; rintro e w1 ⟨rfl, hb⟩; have HN := Lib.hid (belowNext (HW.out _) hb); clear hb))
        go_ret
        exact ⟨ret_bool (by rw [HK.out, hl]; rfl), HN.out⟩
    · have hb1 : (x.kind == 1) = false := by simp [hk]
      have HK := Lib.hid (noteB_other htx hk)
      by_cases h24 : x.kind = 2 ∨ x.kind = 3 ∨ x.kind = 4
      · have HI : Hid (inB x.kind 2 4 = true) := Lib.hid (inB_yes (by omega) (by omega))
        by_cases hl : x.locks.length = 0
        · have hl0 : ((x.locks.length : Int) == 0) = true := by simp [hl]
          have HL := Lib.hid hl
          clear hl
          by_cases hw : x.writes.length = 0
          · have hw0 : ((x.writes.length : Int) == 0) = true := by simp [hw]
            have HW0 := Lib.hid hw
            clear hw
            rcases h24 with h24 | h24 | h24
            · have hb2 : (x.kind == 2) = true := by simp [h24]
              clear h24 hk
              go_enter Try.func67, Try.ntmps67
              go_wp2_with (go_at_call 108; refine (txOk_any _ _).mono ?_; rintro e w1 ⟨rfl, rfl⟩)
              go_ret
              exact ⟨ret_bool (by rw [HK.out, HI.out, HL.out, HW0.out]; rfl), HW.out _⟩
            · have hb2 : (x.kind == 2) = false := by simp [h24]
              have hb3 : (x.kind == 3) = true := by simp [h24]
              clear h24 hk
              go_enter Try.func67, Try.ntmps67
              go_wp2_with (go_at_call 108; refine (txOk_any _ _).mono ?_; rintro e w1 ⟨rfl, rfl⟩)
              go_ret
              exact ⟨ret_bool (by rw [HK.out, HI.out, HL.out, HW0.out]; rfl), HW.out _⟩
            · have hb2 : (x.kind == 2) = false := by simp [h24]
              have hb3 : (x.kind == 3) = false := by simp [h24]
              have hb4 : (x.kind == 4) = true := by simp [h24]
              clear h24 hk
              go_enter Try.func67, Try.ntmps67
              go_wp2_with (go_at_call 108; refine (txOk_any _ _).mono ?_; rintro e w1 ⟨rfl, rfl⟩)
              go_ret
              exact ⟨ret_bool (by rw [HK.out, HI.out, HL.out, HW0.out]; rfl), HW.out _⟩
          · have hw0 : ((x.writes.length : Int) == 0) = false := by rw [beq_eq_false_iff_ne]; omega
            have HW0 := Lib.hid (show decide (x.writes.length = 0) = false by simp [hw])
            clear hw
            rcases h24 with h24 | h24 | h24
            · have hb2 : (x.kind == 2) = true := by simp [h24]
              clear h24 hk
              go_enter Try.func67, Try.ntmps67
              go_wp2_with (go_at_call 108; refine (txOk_any _ _).mono ?_; rintro e w1 ⟨rfl, rfl⟩)
              go_ret
              exact ⟨ret_bool (by rw [HK.out, HW0.out]; simp), HW.out _⟩
            · have hb2 : (x.kind == 2) = false := by simp [h24]
              have hb3 : (x.kind == 3) = true := by simp [h24]
              clear h24 hk
              go_enter Try.func67, Try.ntmps67
              go_wp2_with (go_at_call 108; refine (txOk_any _ _).mono ?_; rintro e w1 ⟨rfl, rfl⟩)
              go_ret
              exact ⟨ret_bool (by rw [HK.out, HW0.out]; simp), HW.out _⟩
            · have hb2 : (x.kind == 2) = false := by simp [h24]
              have hb3 : (x.kind == 3) = false := by simp [h24]
              have hb4 : (x.kind == 4) = true := by simp [h24]
              clear h24 hk
              go_enter Try.func67, Try.ntmps67
              go_wp2_with (go_at_call 108; refine (txOk_any _ _).mono ?_; rintro e w1 ⟨rfl, rfl⟩)
              go_ret
              exact ⟨ret_bool (by rw [HK.out, HW0.out]; simp), HW.out _⟩
        · have hl0 : ((x.locks.length : Int) == 0) = false := by rw [beq_eq_false_iff_ne]; omega
          have HL := Lib.hid (show decide (x.locks.length = 0) = false by simp [hl])
          clear hl
          rcases h24 with h24 | h24 | h24
          · have hb2 : (x.kind == 2) = true := by simp [h24]
            clear h24 hk
            go_enter Try.func67, Try.ntmps67
            go_wp2_with (go_at_call 108; refine (txOk_any _ _).mono ?_; rintro e w1 ⟨rfl, rfl⟩)
            go_ret
            exact ⟨ret_bool (by rw [HK.out, HL.out]; simp), HW.out _⟩
          · have hb2 : (x.kind == 2) = false := by simp [h24]
            have hb3 : (x.kind == 3) = true := by simp [h24]
            clear h24 hk
            go_enter Try.func67, Try.ntmps67
            go_wp2_with (go_at_call 108; refine (txOk_any _ _).mono ?_; rintro e w1 ⟨rfl, rfl⟩)
            go_ret
            exact ⟨ret_bool (by rw [HK.out, HL.out]; simp), HW.out _⟩
          · have hb2 : (x.kind == 2) = false := by simp [h24]
            have hb3 : (x.kind == 3) = false := by simp [h24]
            have hb4 : (x.kind == 4) = true := by simp [h24]
            clear h24 hk
            go_enter Try.func67, Try.ntmps67
            go_wp2_with (go_at_call 108; refine (txOk_any _ _).mono ?_; rintro e w1 ⟨rfl, rfl⟩)
            go_ret
            exact ⟨ret_bool (by rw [HK.out, HL.out]; simp), HW.out _⟩
      · have HI := Lib.hid (noteB_kind (n := x) (by omega))
        have hb2 : (x.kind == 2) = false := by simp; omega
        have hb3 : (x.kind == 3) = false := by simp; omega
        have hb4 : (x.kind == 4) = false := by simp; omega
        clear h24 hk
        go_enter Try.func67, Try.ntmps67
        go_wp2_with (go_at_call 108; refine (txOk_any _ _).mono ?_; rintro e w1 ⟨rfl, rfl⟩)
        go_ret
        exact ⟨ret_bool HI.out.symm, HW.out _⟩

end Go.Proofs.Ytkamlibfcakblaa

/- A region that draws its order and whose last operation may break what is held of the world: that operation waits for all that is taken first. Nothing of the program. -/
namespace Go.Proofs.Ytkamlibfcakblaa

section
variable {P : Program} {md : Region.Mode} {ops : Array Oper} {Q : Exit → Act → World → Prop} {S : World → Prop}

/-- Whatever order is picked: S holds behind each operation but number z. -/
def wpAnyL (P : Program) (md : Region.Mode) (ops : Array Oper) (Q : Exit → Act → World → Prop) (S : World → Prop) (z : Nat) : Nat → Array Bool → Act → World → Prop
  | 0, l, a, w => Region.ready md ops l = [] ∧ Q .normal a w
  | n + 1, l, a, w => (Region.ready md ops l = [] → Q .normal a w) ∧
    ∀ i ∈ Region.ready md ops l, wpOp P ops Q i (fun a' w' => (i ≠ z → S w') ∧ wpAnyL P md ops Q S z n (l.setIfInBounds i true) a' w') a w
theorem wpAny_of_last {z : Nat} : ∀ (n : Nat) (l : Array Bool) (a : Act) (w : World), wpAnyL P md ops Q S z n l a w → wpAny P md ops Q n l a w
  | 0, _, _, _, h => h
  | n + 1, _, _, _, h => ⟨h.1, fun i hi => wpOp_mono (fun a' w' k => wpAny_of_last n _ a' w' k.2) (h.2 i hi)⟩
/-- Operation z waits for operation i. -/
def waits (md : Region.Mode) (ops : Array Oper) (z i : Nat) : Bool := match ops[z]? with
  | some o => o.after.any fun e => e.on == i && Region.binds md e
  | none => false

theorem wpAnyL_first {z i : Nat} {oi : Oper} {v : Value} (hi : ops[i]? = some oi) (hsel : ∀ (j : Nat) (o : Oper) cs b, ops[j]? = some o → o.op ≠ .select cs b)
    (hQ : ∀ c a w, Q (.panic c) (a.put oi.dst v) w → Q (.panic c) a w) (hz : waits md ops z i = true) :
    ∀ (n : Nat) (l : Array Bool) (a : Act) (w : World),
      (∀ j oj, ops[j]? = some oj → j ≠ i → l.getD j true = false → (∀ e ∈ oj.after, Region.binds md e = true → e.on ≠ i) → oi.apart ops oj = true) →
      i ∈ Region.ready md ops l → YieldsIf P ops S oi v a → S w →
      wpAnyL P md ops Q S z n (l.setIfInBounds i true) (a.put oi.dst v) w → wpAnyL P md ops Q S z (n + 1) l a w := by
  intro n
  induction n with
  | zero =>
    intro l a w _ hr hy hS H
    refine ⟨fun h => absurd (h ▸ hr) (by simp), fun j hj => ?_⟩
    by_cases e : j = i
    · subst e; exact hy.wpOp hi hS ⟨fun _ => hS, H⟩
    · exact absurd (H.1 ▸ ready_mono hj e) (by simp)
  | succ n ih =>
    intro l a w hfree hr hy hS H
    refine ⟨fun h => absurd (h ▸ hr) (by simp), fun j hj => ?_⟩
    by_cases e : j = i
    · subst e; exact hy.wpOp hi hS ⟨fun _ => hS, H⟩
    · obtain ⟨hun, oj, hoj, hall⟩ := mem_ready.1 hj
      have hno : ∀ ed ∈ oj.after, Region.binds md ed = true → ed.on ≠ i := by
        intro ed he hb heq
        have h1 := hall ed he hb
        have h0 := (mem_ready.1 hr).1
        rw [heq] at h1
        rcases Nat.lt_or_ge i l.size with h' | h'
        · simp [h'] at h0 h1; rw [h0] at h1; cases h1
        · simp [Array.getElem?_eq_none h'] at h1
      have hjz : j ≠ z := by
        rintro rfl
        unfold waits at hz
        rw [hoj] at hz
        obtain ⟨m, hm, he⟩ := Array.any_eq_true.1 hz
        simp only [Bool.and_eq_true, beq_iff_eq] at he
        exact hno _ (Array.getElem_mem hm) he.2 he.1
      have h2 := wpOp_putIf hoj (hfree j oj hoj e hun hno) (fun cs b => hsel i oi cs b hi) (fun cs b => hsel j oj cs b hoj) hQ hy
        (wpOp_mono (K' := fun a' w' => S w' ∧ wpAnyL P md ops Q S z n ((l.setIfInBounds i true).setIfInBounds j true) a' w') (fun a' w' k => ⟨k.1 hjz, k.2⟩) (H.2 j (ready_mono hj e)))
      refine wpOp_mono (fun a' w' k => ⟨fun _ => k.2.1, ih (l.setIfInBounds j true) a' w' (fun q oq hq hqi hqu hqn => hfree q oq hq hqi ?_ hqn) (ready_mono hr (Ne.symm e)) k.1 k.2.1 ?_⟩) h2
      · by_cases ejq : j = q
        · subst ejq; exact hun
        · rw [getD_set_ne true ejq] at hqu; exact hqu
      · rw [Array.setIfInBounds_comm _ _ e]; exact k.2.2

/-- Taken first. -/
theorem take_l (i d : Nat) {z : Nat} {oi : Oper} {v : Value} {n : Nat} {l : Array Bool} {a : Act} {w : World} (hi : ops[i]? = some oi) (hd : oi.dst = some d)
    (hs : Region.noSelect ops = true) (hf : Region.free md ops l i = true) (hr : (Region.ready md ops l).contains i = true) (hz : waits md ops z i = true)
    (hQ : ∀ c a w, Q (.panic c) (a.put oi.dst v) w → Q (.panic c) a w) (hw : Region.wanted oi (yielded ops a.tmps) = true) (hy : ∀ w, S w → (execOp a.eval oi).run P w = .ok (.value v) w) (hS : S w)
    (h : wpAnyL P md ops Q S z n (l.setIfInBounds i true) (a.put (some d) v) w) : wpAnyL P md ops Q S z (n + 1) l a w :=
  wpAnyL_first hi (Region.noSelect_spec hs) hQ hz n l a w (Region.free_spec hi hf) (by simpa using hr) (.inl ⟨hw, hy⟩) hS (by rw [hd]; exact h)
/-- The one that may come up comes up. -/
theorem one_l (i : Nat) {z : Nat} {o : Oper} {n : Nat} {l : Array Bool} {a : Act} {w : World} (ho : ops[i]? = some o) (hr : Region.ready md ops l = [i])
    (h : ∀ K : Act → World → Prop, Shut (∀ a w, (i ≠ z → S w) → ((i ≠ z → S w) → wpAnyL P md ops Q S z n (l.setIfInBounds i true) a w) → K a w) → if Region.wanted o (yielded ops a.tmps) = true then Oper.wp P o a w K Q else K (a.put o.dst undef) w) :
    wpAnyL P md ops Q S z (n + 1) l a w := by
  refine ⟨fun h0 => absurd (h0 ▸ hr) (by simp), fun j hj => ?_⟩
  rw [hr] at hj
  obtain rfl : j = i := by simpa using hj
  exact wpOp_step ho fun K hK => h K fun a w hS hW => hK a w ⟨hS, hW hS⟩
theorem done_l {z : Nat} {l : Array Bool} {a : Act} {w : World} (hr : Region.ready md ops l = []) (h : Q .normal a w) : ∀ n, wpAnyL P md ops Q S z n l a w
  | 0 => ⟨hr, h⟩
  | _ + 1 => ⟨fun _ => h, by rw [hr]; simp⟩
theorem region_l {id : Nat} {a : Act} {w : World} (z : Nat) (hm : P.follows .mixedOrders = true) (hS : S w.drew)
    (h : S w.drew → wpAnyL P .any ops Q S z ops.size (Array.replicate ops.size false) a w.drew) : (Code.region id ops true).wp P Q a w :=
  wp_region_any hm (wpAny_of_last _ _ _ _ (h hS))
end

end Go.Proofs.Ytkamlibfcakblaa

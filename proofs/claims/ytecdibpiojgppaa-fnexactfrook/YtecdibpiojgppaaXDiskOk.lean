/- What DiskOk answers, of the program and of the model: the same bool. -/
import Derived.Test.YtecdibpiojgppaaXNoteOkS
namespace Go.Proofs.Ytecdibpiojgppaa
open Go.RowKit

/-- A note at a place, its slices as such. -/
theorem notes_at2 {w : World} {B : Nat} {v : Value} {xs : List Note} (h : noteSh.Row w B v xs) {k : Nat} (hk : k < xs.length) : ∃ b off c x A1 c1 A2 c2, v = .slice (some ⟨b, off, none⟩) xs.length c ∧ xs[k]? = some x ∧ b < B ∧
    w.cell? ⟨b, off + k * 4, none⟩ = some (.int .i64 x.kind) ∧ w.cell? ⟨b, off + k * 4 + 1, none⟩ = some (.int .i64 x.tx) ∧ w.cell? ⟨b, off + k * 4 + 2, none⟩ = some (.slice A1 x.locks.length c1) ∧ w.cell? ⟨b, off + k * 4 + 3, none⟩ = some (.slice A2 x.writes.length c2) ∧
    noteSh.rel w B [.int .i64 x.kind, .int .i64 x.tx, .slice A1 x.locks.length c1, .slice A2 x.writes.length c2] x := by
  obtain ⟨b, off, c, x, cs, hv, hx, hb, hr, hc⟩ := h.at_ hk
  obtain ⟨u, u', rfl, h1, h2⟩ := note_rel.1 hr
  obtain ⟨A1, c1, rfl, -, -⟩ := h1.form
  obtain ⟨A2, c2, rfl, -, -⟩ := h2.form
  exact ⟨b, off, c, x, A1, c1, A2, c2, hv, hx, hb, hc 0 _ rfl, hc 1 _ rfl, hc 2 _ rfl, hc 3 _ rfl, hr⟩

set_option maxRecDepth 100000 in
theorem implDiskOk_any (w : World) (cs : List Value) (x : Disk) (h : diskSh.rel w w.heap.size cs x) :
    Calls Try.prog 79 #[.agg cs.toArray] w fun e w' => e = .returned (.bool (diskB x)) ∧ Below w.heap.size w w' := by
  obtain ⟨u, rfl, hu⟩ := disk_rel.1 h
  obtain ⟨Au, cu, rfl, hcu, hnu⟩ := hu.form
  unfold maxLen at hcu
  have HU := Lib.hid (hu.alloc (Nat.le_refl _) (.cells #[.slice Au x.notes.length cu, .int .i64 x.safe] 54))
  have HW := Lib.hid (belowOne w (.cells #[.slice Au x.notes.length cu, .int .i64 x.safe] 54))
  clear h hu
  by_cases h1 : 120 < x.notes.length
  · have HK := Lib.hid (diskB_long h1)
    go_enter Try.func79, Try.ntmps79
    go_wp2
    go_ret
    exact ⟨ret_bool HK.out.symm, HW.out⟩
  · by_cases h2 : x.safe < 0
    · have HK := Lib.hid (diskB_safe (inB_no (n := x.safe) (lo := 0) (hi := (x.notes.length : Int)) (.inl h2)))
      go_enter Try.func79, Try.ntmps79
      go_wp2
      go_ret
      exact ⟨ret_bool HK.out.symm, HW.out⟩
    · by_cases h3 : (x.notes.length : Int) < x.safe
      · have HK := Lib.hid (diskB_safe (inB_no (n := x.safe) (lo := 0) (hi := (x.notes.length : Int)) (.inr h3)))
        go_enter Try.func79, Try.ntmps79
        go_wp2
        go_ret
        exact ⟨ret_bool HK.out.symm, HW.out⟩
      · have HI := Lib.hid (inB_yes (n := x.safe) (lo := 0) (hi := (x.notes.length : Int)) (by omega) (by omega))
        have h1' : x.notes.length ≤ 120 := by omega
        have h2' : 0 ≤ x.safe := by omega
        have h3' : x.safe ≤ (x.notes.length : Int) := by omega
        clear h1 h2 h3
        have hz0 : w.heap.size < (w.alloc (.cells #[.slice Au x.notes.length cu, .int .i64 x.safe] 54)).heap.size := by simp
        go_enter Try.func79, Try.ntmps79
        go_wp2
        generalize w.alloc (.cells #[.slice Au x.notes.length cu, .int .i64 x.safe] 54) = w0 at *
        go_loopw [25] (fun i wr => ∃ k : Nat, k ≤ x.notes.length ∧ i = .int .i64 k ∧ AllTo noteB x.notes k ∧ Below w0.heap.size w0 wr) (fun i _ => x.notes.length - (intOf i).toNat)
        case atStart => exact ⟨0, Nat.zero_le _, rfl, AllTo.start _ _, Below.refl _ _⟩
        case round =>
          obtain ⟨k, hk, rfl, hm, hb⟩ := hrel
          by_cases hlt : k < x.notes.length
          · obtain ⟨b, off, c, y, A1, c1, A2, c2, e1, hx, hB, d0, d1, d2, d3, hr⟩ := notes_at2 (HU.out.below (hb.mono (Nat.le_of_lt hz0))) hlt
            injection e1 with e1a e1b e1c
            subst e1a
            have HR := Lib.hid fun o => noteSh.rmore (noteSh.rbelow (noteSh.rmore hr (Nat.le_trans (Nat.le_of_lt hz0) hb.size)) (belowOne wr o)) (B' := (wr.alloc o).heap.size) (by simp)
            have HB := Lib.hid fun o => hb.alloc hb.size o
            clear e1b e1c hr hb
            rcases hn : noteB y
            · have HK := Lib.hid (diskB_bad hx hn)
              clear hx
              go_wp2_with (go_at_call 19; refine (implNoteOk_any _ _ y (HR.out _)).mono ?_; rintro e w1 ⟨rfl, hb1⟩; have HN := Lib.hid (belowNext (HB.out _) hb1); clear hb1)
              go_ret
              exact ⟨ret_bool HK.out.symm, HW.out.trans (HN.out.mono (Nat.le_of_lt hz0))⟩
            · have HM := Lib.hid (hm.step hx hn)
              clear hx
              go_wp2_with (go_at_call 19; refine (implNoteOk_any _ _ y (HR.out _)).mono ?_; rintro e w1 ⟨rfl, hb1⟩; have HN := Lib.hid (belowNext (HB.out _) hb1); clear hb1)
              go_roundw
              case rel => exact ⟨k + 1, by omega, by go_num, HM.out, HN.out⟩
              case measure => simp [intOf]; omega
          · have HK := Lib.hid (diskB_yes h1' HI.out ((show k = x.notes.length by omega) ▸ hm))
            go_wp2
            go_ret
            exact ⟨ret_bool HK.out.symm, HW.out.trans (hb.mono (Nat.le_of_lt hz0))⟩

set_option maxRecDepth 100000 in
theorem specDiskOk_any (w : World) (cs : List Value) (x : Disk) (h : diskSh.rel w w.heap.size cs x) :
    Calls Try.prog 74 #[.agg cs.toArray] w fun e w' => e = .returned (.bool (diskB x)) ∧ Below w.heap.size w w' := by
  obtain ⟨u, rfl, hu⟩ := disk_rel.1 h
  obtain ⟨Au, cu, rfl, hcu, hnu⟩ := hu.form
  unfold maxLen at hcu
  have HU := Lib.hid (hu.alloc (Nat.le_refl _) (.cells #[.slice Au x.notes.length cu, .int .i64 x.safe] 54))
  have HX := Lib.hid (Held.new w #[.slice Au x.notes.length cu, .int .i64 x.safe] 54)
  have HW := Lib.hid (belowOne w (.cells #[.slice Au x.notes.length cu, .int .i64 x.safe] 54))
  clear h hu
  by_cases h1 : 120 < x.notes.length
  · have HK := Lib.hid (diskB_long h1)
    go_enter Try.func74, Try.ntmps74
    go_wp2
    go_ret
    exact ⟨ret_bool HK.out.symm, HW.out⟩
  · rcases hi : inB x.safe 0 (x.notes.length : Int)
    · have HK := Lib.hid (diskB_safe hi)
      go_enter Try.func74, Try.ntmps74
      go_wp2_with (go_at_call 68; refine (l1In_any _ _ _ _).mono ?_; rintro e w' ⟨rfl, rfl⟩)
      go_ret
      exact ⟨ret_bool HK.out.symm, HW.out⟩
    · have h1' : x.notes.length ≤ 120 := by omega
      clear h1
      have c0 := HX.out.of 0 _ rfl
      have hz0 : w.heap.size < (w.alloc (.cells #[.slice Au x.notes.length cu, .int .i64 x.safe] 54)).heap.size := by simp
      go_enter Try.func74, Try.ntmps74
      go_wp2_with (go_at_call 68; refine (l1In_any _ _ _ _).mono ?_; rintro e w' ⟨rfl, rfl⟩)
      generalize w.alloc (.cells #[.slice Au x.notes.length cu, .int .i64 x.safe] 54) = w0 at *
      go_loopw [3] (fun i wr => ∃ k : Nat, k ≤ x.notes.length ∧ i = .int .i64 k ∧ AllTo noteB x.notes k ∧ Below w0.heap.size w0 wr) (fun i _ => x.notes.length - (intOf i).toNat)
      case atStart => exact ⟨0, Nat.zero_le _, rfl, AllTo.start _ _, Below.refl _ _⟩
      case round =>
        obtain ⟨k, hk, rfl, hm, hb⟩ := hrel
        have d := (hb.cell (p := ⟨w.heap.size, 0, none⟩) hz0).trans c0
        by_cases hlt : k < x.notes.length
        · obtain ⟨b, off, c, y, A1, c1, A2, c2, e1, hx, hB, d0, d1, d2, d3, hr⟩ := notes_at2 (HU.out.below (hb.mono (Nat.le_of_lt hz0))) hlt
          injection e1 with e1a e1b e1c
          subst e1a
          have HR := Lib.hid (noteSh.rmore hr (Nat.le_trans (Nat.le_of_lt hz0) hb.size))
          have HB := Lib.hid hb
          clear e1b e1c hr hb
          rcases hn : noteB y
          · have HK := Lib.hid (diskB_bad hx hn)
            clear hx
            go_wp2_with (go_at_call 20; refine (specNoteOk_any _ _ y HR.out).mono ?_; rintro e w1 ⟨rfl, hb1⟩; have HN := Lib.hid (belowNext HB.out hb1); clear hb1)
            go_ret
            exact ⟨ret_bool HK.out.symm, HW.out.trans (HN.out.mono (Nat.le_of_lt hz0))⟩
          · have HM := Lib.hid (hm.step hx hn)
            clear hx
            go_wp2_with (go_at_call 20; refine (specNoteOk_any _ _ y HR.out).mono ?_; rintro e w1 ⟨rfl, hb1⟩; have HN := Lib.hid (belowNext HB.out hb1); clear hb1)
            go_roundw
            case rel => exact ⟨k + 1, by omega, by go_num, HM.out, HN.out⟩
            case measure => simp [intOf]; omega
        · have HK := Lib.hid (diskB_yes h1' hi ((show k = x.notes.length by omega) ▸ hm))
          go_wp2
          go_ret
          exact ⟨ret_bool HK.out.symm, HW.out.trans (hb.mono (Nat.le_of_lt hz0))⟩

end Go.Proofs.Ytecdibpiojgppaa

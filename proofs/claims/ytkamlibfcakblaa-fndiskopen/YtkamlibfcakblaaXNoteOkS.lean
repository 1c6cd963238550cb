/- Texts that follow each other, merged: NoteOkS, DiskOk, Ring. -/
import Derived.Test.YtkamlibfcakblaaXNoteOk
import Derived.Test.YtkamlibfcakblaaXWrts
import Derived.Test.YtkamlibfcakblaaXShOwn

/- What the model's NoteOk and both DiskOk answer. -/
namespace Go.Proofs.Ytkamlibfcakblaa
open Go.RowKit

theorem noteS_lock {n : Note} {k : Nat} {x : ByteArray} (hx : n.locks[k]? = some x) (e : keyB x = false) : noteB n = false := by
  unfold noteB
  by_cases hk : n.kind = 1
  · rw [if_pos hk, locksB_bad hx e]; simp
  · have : n.locks.length ≠ 0 := by have := (List.getElem?_eq_some_iff.1 hx).1; omega
    rw [if_neg hk]; simp [this]
theorem noteS_write {n : Note} {k : Nat} {x : Wr} (hx : n.writes[k]? = some x) (e : lwB n.locks x = false) : noteB n = false := by
  unfold noteB
  by_cases hk : n.kind = 1
  · rw [if_pos hk, wrsB_bad hx e]; simp
  · have : n.writes.length ≠ 0 := by have := (List.getElem?_eq_some_iff.1 hx).1; omega
    rw [if_neg hk]; simp [this]
theorem noteS_long {n : Note} (h : 12 < n.locks.length ∨ 12 < n.writes.length) : noteB n = false := by
  unfold noteB
  by_cases hk : n.kind = 1
  · rw [if_pos hk]; unfold locksB wrsB
    rcases h with h | h
    · rw [show decide (n.locks.length ≤ 12) = false by simp; omega]; simp
    · rw [show decide (n.writes.length ≤ 12) = false by simp; omega]; simp
  · rw [if_neg hk]
    rcases h with h | h
    · rw [show decide (n.locks.length = 0) = false by simp; intro h'; rw [h'] at h; simp at h]; simp
    · rw [show decide (n.writes.length = 0) = false by simp; intro h'; rw [h'] at h; simp at h]; simp
theorem noteS_one {n : Note} (ht : inB n.tx 0 29 = true) (hk : n.kind = 1) (h1 : n.locks.length ≤ 12) (h2 : n.writes.length ≤ 12) (h3 : AllTo keyB n.locks n.locks.length) (h4 : AllTo (lwB n.locks) n.writes n.writes.length) : noteB n = true := by
  rw [noteB_ready ht hk, locksB_all h3, wrsB_all h4]; simp [h1, h2]
theorem noteS_rest {n : Note} (ht : inB n.tx 0 29 = true) (hi : inB n.kind 1 4 = true) (hk : n.kind ≠ 1) : noteB n = (((n.locks.length : Int) + (n.writes.length : Int)) == 0) := by
  have h24 : inB n.kind 2 4 = true := by unfold inB at *; simp at *; omega
  rw [noteB_other ht hk, h24, Bool.true_and, Bool.eq_iff_iff]
  simp only [Bool.and_eq_true, decide_eq_true_eq, beq_iff_eq]
  omega

set_option maxRecDepth 100000 in
set_option maxHeartbeats 1000000 in
theorem specNoteOk_any (w : World) (cs : List Value) (x : Note) (h : noteSh.rel w w.heap.size cs x) :
    Calls Try.prog 65 #[.agg cs.toArray] w fun e w' => e = .returned (.bool (noteB x)) ∧ Below w.heap.size w w' := by
  obtain ⟨u, v, rfl, hu, hv⟩ := note_rel.1 h
  obtain ⟨Au, cu, rfl, hcu, hnu⟩ := hu.form
  obtain ⟨Av, cv, rfl, hcv, hnv⟩ := hv.form
  unfold maxLen at hcu hcv
  have HU := Lib.hid (hu.alloc (Nat.le_refl _) (.cells #[.int .i64 x.kind, .int .i64 x.tx, .slice Au x.locks.length cu, .slice Av x.writes.length cv] 36))
  have HV := Lib.hid (hv.alloc (Nat.le_refl _) (.cells #[.int .i64 x.kind, .int .i64 x.tx, .slice Au x.locks.length cu, .slice Av x.writes.length cv] 36))
  have HX := Lib.hid (Held.new w #[.int .i64 x.kind, .int .i64 x.tx, .slice Au x.locks.length cu, .slice Av x.writes.length cv] 36)
  have HW := Lib.hid (belowOne w (.cells #[.int .i64 x.kind, .int .i64 x.tx, .slice Au x.locks.length cu, .slice Av x.writes.length cv] 36))
  clear h hu hv
  rcases hki : inB x.kind 1 4
  · have HK := Lib.hid (noteB_kind (n := x) (by unfold inB at hki; rw [decide_eq_false_iff_not] at hki; omega))
    go_enter Try.func65, Try.ntmps65
    go_wp2_with (go_at_call 64; refine (l1In_any _ _ _ _).mono ?_; rintro e w' ⟨rfl, rfl⟩)
    go_ret
    exact ⟨ret_bool HK.out.symm, HW.out⟩
  · rcases htx : inB x.tx 0 29
    · have HK := Lib.hid (noteB_tx htx)
      go_enter Try.func65, Try.ntmps65
      go_wp2_with (go_at_call 64; refine (l1In_any _ _ _ _).mono ?_; rintro e w' ⟨rfl, rfl⟩)
      go_ret
      exact ⟨ret_bool HK.out.symm, HW.out⟩
    · by_cases hl1 : 12 < x.locks.length
      · have HK := Lib.hid (noteS_long (n := x) (.inl hl1))
        go_enter Try.func65, Try.ntmps65
        go_wp2_with (go_at_call 64; refine (l1In_any _ _ _ _).mono ?_; rintro e w' ⟨rfl, rfl⟩)
        go_ret
        exact ⟨ret_bool HK.out.symm, HW.out⟩
      · by_cases hl2 : 12 < x.writes.length
        · have HK := Lib.hid (noteS_long (n := x) (.inr hl2))
          go_enter Try.func65, Try.ntmps65
          go_wp2_with (go_at_call 64; refine (l1In_any _ _ _ _).mono ?_; rintro e w' ⟨rfl, rfl⟩)
          go_ret
          exact ⟨ret_bool HK.out.symm, HW.out⟩
        · have hl1' : x.locks.length ≤ 12 := by omega
          have hl2' : x.writes.length ≤ 12 := by omega
          clear hl1 hl2
          have c0 := HX.out.of 0 _ rfl
          have c1 := HX.out.of 1 _ rfl
          have c2 := HX.out.of 2 _ rfl
          have c3 := HX.out.of 3 _ rfl
          go_enter Try.func65, Try.ntmps65
          go_wp2_with (go_at_call 64; refine (l1In_any _ _ _ _).mono ?_; rintro e w' ⟨rfl, rfl⟩)
          have hz0 : w.heap.size < (w.alloc (.cells #[.int .i64 x.kind, .int .i64 x.tx, .slice Au x.locks.length cu, .slice Av x.writes.length cv] 36)).heap.size := HX.out.1
          generalize w.alloc (.cells #[.int .i64 x.kind, .int .i64 x.tx, .slice Au x.locks.length cu, .slice Av x.writes.length cv] 36) = w0 at *
          go_loop [3] (fun i => ∃ k : Nat, k ≤ x.locks.length ∧ i = .int .i64 k ∧ AllTo keyB x.locks k) (fun i => x.locks.length - (intOf i).toNat)
          case atStart => exact ⟨0, Nat.zero_le _, rfl, AllTo.start _ _⟩
          case round =>
            obtain ⟨k, hk, rfl, hm⟩ := hrel
            by_cases hlt : k < x.locks.length
            · obtain ⟨b, off, c', s, e1, hx, hB, hs, ck⟩ := strs_at HU.out hlt
              injection e1 with e1a e1b e1c
              subst e1a
              clear e1b e1c
              rcases hkb : keyB s
              · have HH := Lib.hid (noteS_lock hx hkb)
                clear hx
                go_wp2_with (go_at_call 106; refine (l1Key_any _ _ hs).mono ?_; rintro e w' ⟨rfl, rfl⟩)
                go_ret
                exact ⟨ret_bool HH.out.symm, HW.out⟩
              · have HM := Lib.hid (hm.step hx hkb)
                clear hx
                go_wp2_with (go_at_call 106; refine (l1Key_any _ _ hs).mono ?_; rintro e w' ⟨rfl, rfl⟩)
                go_round
                case rel => exact ⟨k + 1, by omega, by go_num, HM.out⟩
                case measure => simp [intOf]; omega
            · have HA : Hid (AllTo keyB x.locks x.locks.length) := Lib.hid ((show k = x.locks.length by omega) ▸ hm)
              clear hm
              go_wp2
              go_loopw [4] (fun i wr => ∃ k : Nat, k ≤ x.writes.length ∧ i = .int .i64 k ∧ AllTo (lwB x.locks) x.writes k ∧ Below w0.heap.size w0 wr) (fun i _ => x.writes.length - (intOf i).toNat)
              case atStart => exact ⟨0, Nat.zero_le _, rfl, AllTo.start _ _, Below.refl _ _⟩
              case round =>
                obtain ⟨k, hk, rfl, hm, hb⟩ := hrel
                have HB := Lib.hid hb
                have d0 := (hb.cell (p := ⟨w.heap.size, 0, none⟩) hz0).trans c0
                have d2 := (hb.cell (p := ⟨w.heap.size, 2, none⟩) hz0).trans c2
                have d3 := (hb.cell (p := ⟨w.heap.size, 3, none⟩) hz0).trans c3
                by_cases hlt : k < x.writes.length
                · obtain ⟨b, off, c', y, Ay, ny, cy, e1, hx, hB, hs, e0, e1', e2, hi⟩ := wrs_at HV.out hlt
                  injection e1 with e1a e1b e1c
                  subst e1a
                  have HS := Lib.hid fun (z : World) (hz : Below w0.heap.size w0 z) => And.intro ((hz.cell (p := ⟨w.heap.size, 2, none⟩) hz0).trans c2) (And.intro ((hz.cell (p := ⟨w.heap.size, 3, none⟩) hz0).trans c3) (And.intro ((hz.cell (p := ⟨b, off + k * 3, none⟩) (Nat.lt_trans hB hz0)).trans e0) (And.intro ((hz.cell (p := ⟨b, off + k * 3 + 1, none⟩) (Nat.lt_trans hB hz0)).trans e1') ((hz.cell (p := ⟨b, off + k * 3 + 2, none⟩) (Nat.lt_trans hB hz0)).trans e2))))
                  have HI := Lib.hid fun (z : World) (hz : Below w0.heap.size w0 z) => ((hi.more (Nat.le_of_lt hz0)).below hz).more hz.size
                  have HL := Lib.hid fun (z : World) (hz : Below w0.heap.size w0 z) => HU.out.below (hz.mono (Nat.le_of_lt hz0))
                  have hb0 := hb.drew
                  obtain ⟨g0, g1, g2, g3, g4⟩ := HS.out wr hb
                  have f3 : (0 : Int) ≤ (k : Int) := by omega
                  have f4 : (k : Int) < (x.writes.length : Int) := by omega
                  clear e1b e1c hi e0 e1' e2 c0 c1 c2 c3 d2 d3
                  rcases hok : y.ok
                  · have HH := Lib.hid (noteS_write hx (lwB_ok (locks := x.locks) hok))
                    have hok' : wrtB y.key y.del y.val = false := hok
                    clear hx hok
                    go_wp2
                    refine wp_region_held_drew (S := (fun w' => w'.cell? ⟨w.heap.size, 2, none⟩ = some (.slice Au x.locks.length cu) ∧ w'.cell? ⟨w.heap.size, 3, none⟩ = some (.slice (some ⟨b, off, none⟩) x.writes.length cv) ∧ w'.cell? ⟨b, off + k * 3, none⟩ = some (.string y.key) ∧ w'.cell? ⟨b, off + k * 3 + 1, none⟩ = some (.bool y.del) ∧ w'.cell? ⟨b, off + k * 3 + 2, none⟩ = some (.slice Ay ny cy))) (by kernel_rfl) ?hSA (fun hHeldA => ?stA)
                    case hSA => (first | (dsimp only; ((first | exact HS.out _ hb0 | exact HS.out _ (by assumption)))) | ((first | exact HS.out _ hb0 | exact HS.out _ (by assumption))))
                    refine take_first 0 48 (v := ?vA_1) rfl rfl (by kernel_rfl) (by kernel_rfl) (by kernel_rfl) (fun _ _ _ h => h) (by rfl) ?yA_1 (by assumption) ?rA_1
                    case yA_1 => (intro w hSw; (try dsimp only at hSw); go_simp; (try with_reducible rfl))
                    simp only [Act.put, List.setIfInBounds_toArray, List.set_cons_zero, List.set_cons_succ]
                    refine take_first 1 49 (v := ?vA_2) rfl rfl (by kernel_rfl) (by kernel_rfl) (by kernel_rfl) (fun _ _ _ h => h) (by rfl) ?yA_2 (by assumption) ?rA_2
                    case yA_2 => (intro w hSw; (try dsimp only at hSw); go_simp; (try with_reducible rfl))
                    simp only [Act.put, List.setIfInBounds_toArray, List.set_cons_zero, List.set_cons_succ]
                    refine take_first 2 50 (v := ?vA_3) rfl rfl (by kernel_rfl) (by kernel_rfl) (by kernel_rfl) (fun _ _ _ h => h) (by rfl) ?yA_3 (by assumption) ?rA_3
                    case yA_3 => (intro w hSw; (try dsimp only at hSw); go_simp; (try with_reducible rfl))
                    simp only [Act.put, List.setIfInBounds_toArray, List.set_cons_zero, List.set_cons_succ]
                    refine take_first 3 51 (v := ?vA_4) rfl rfl (by kernel_rfl) (by kernel_rfl) (by kernel_rfl) (fun _ _ _ h => h) (by rfl) ?yA_4 (by assumption) ?rA_4
                    case yA_4 => (intro w hSw; (try dsimp only at hSw); go_simp; (try with_reducible rfl))
                    simp only [Act.put, List.setIfInBounds_toArray, List.set_cons_zero, List.set_cons_succ]
                    refine take_first 4 52 (v := ?vA_5) rfl rfl (by kernel_rfl) (by kernel_rfl) (by kernel_rfl) (fun _ _ _ h => h) (by rfl) ?yA_5 (by assumption) ?rA_5
                    case yA_5 => (intro w hSw; (try dsimp only at hSw); go_simp; (try with_reducible rfl))
                    simp only [Act.put, List.setIfInBounds_toArray, List.set_cons_zero, List.set_cons_succ]
                    refine wpAnyH_ready (rs := [5]) (by kernel_rfl) (by simp) ?_
                    refine AllReadyH.cons (o := _) rfl (fun KA_6 hKA_6 => ?cA_6) ?mA_6
                    case mA_6 => exact AllReadyH.nil
                    go_simp
                    (go_at_call 107; refine (specWrtOk_any _ _ _ _ _ hs (HI.out _ hb0)).mono ?_; rintro e w1 ⟨rfl, hb1⟩; have hq := belowNext hb0 hb1; clear hb1)
                    go_wp2_with fail
                    refine hKA_6.out _ _ ?kA_6 (fun hHeldA_6 => ?dA_6)
                    case kA_6 => (first | (dsimp only; ((first | exact HS.out _ hb0 | exact HS.out _ (by assumption)))) | ((first | exact HS.out _ hb0 | exact HS.out _ (by assumption))))
                    clear hKA_6 KA_6
                    refine take_first 6 54 (v := ?vA_7) rfl rfl (by kernel_rfl) (by kernel_rfl) (by kernel_rfl) (fun _ _ _ h => h) (by rfl) ?yA_7 (by assumption) ?rA_7
                    case yA_7 => (intro w hSw; (try dsimp only at hSw); go_simp; (try with_reducible rfl))
                    simp only [Act.put, List.setIfInBounds_toArray, List.set_cons_zero, List.set_cons_succ]
                    refine take_first 7 55 (v := ?vA_8) rfl rfl (by kernel_rfl) (by kernel_rfl) (by kernel_rfl) (fun _ _ _ h => h) (by rfl) ?yA_8 (by assumption) ?rA_8
                    case yA_8 => (intro w hSw; (try dsimp only at hSw); go_simp; (try with_reducible rfl))
                    simp only [Act.put, List.setIfInBounds_toArray, List.set_cons_zero, List.set_cons_succ]
                    refine pass_over 8 56 rfl rfl (by kernel_rfl) (by kernel_rfl) (by kernel_rfl) (fun _ _ _ h => h) (by rfl) (by assumption) ?rA_9
                    simp only [Act.put, List.setIfInBounds_toArray, List.set_cons_zero, List.set_cons_succ]
                    refine pass_over 9 57 rfl rfl (by kernel_rfl) (by kernel_rfl) (by kernel_rfl) (fun _ _ _ h => h) (by rfl) (by assumption) ?rA_10
                    simp only [Act.put, List.setIfInBounds_toArray, List.set_cons_zero, List.set_cons_succ]
                    refine pass_over 10 58 rfl rfl (by kernel_rfl) (by kernel_rfl) (by kernel_rfl) (fun _ _ _ h => h) (by rfl) (by assumption) ?rA_11
                    simp only [Act.put, List.setIfInBounds_toArray, List.set_cons_zero, List.set_cons_succ]
                    refine pass_over 11 59 rfl rfl (by kernel_rfl) (by kernel_rfl) (by kernel_rfl) (fun _ _ _ h => h) (by rfl) (by assumption) ?rA_12
                    simp only [Act.put, List.setIfInBounds_toArray, List.set_cons_zero, List.set_cons_succ]
                    refine pass_over 12 60 rfl rfl (by kernel_rfl) (by kernel_rfl) (by kernel_rfl) (fun _ _ _ h => h) (by rfl) (by assumption) ?rA_13
                    simp only [Act.put, List.setIfInBounds_toArray, List.set_cons_zero, List.set_cons_succ]
                    refine pass_over 13 61 rfl rfl (by kernel_rfl) (by kernel_rfl) (by kernel_rfl) (fun _ _ _ h => h) (by rfl) (by assumption) ?rA_14
                    simp only [Act.put, List.setIfInBounds_toArray, List.set_cons_zero, List.set_cons_succ]
                    refine pass_over 14 62 rfl rfl (by kernel_rfl) (by kernel_rfl) (by kernel_rfl) (fun _ _ _ h => h) (by rfl) (by assumption) ?rA_15
                    simp only [Act.put, List.setIfInBounds_toArray, List.set_cons_zero, List.set_cons_succ]
                    refine pass_over 15 63 rfl rfl (by kernel_rfl) (by kernel_rfl) (by kernel_rfl) (fun _ _ _ h => h) (by rfl) (by assumption) ?rA_16
                    simp only [Act.put, List.setIfInBounds_toArray, List.set_cons_zero, List.set_cons_succ]
                    refine pass_over 16 64 rfl rfl (by kernel_rfl) (by kernel_rfl) (by kernel_rfl) (fun _ _ _ h => h) (by rfl) (by assumption) ?rA_17
                    simp only [Act.put, List.setIfInBounds_toArray, List.set_cons_zero, List.set_cons_succ]
                    refine pass_over 17 65 rfl rfl (by kernel_rfl) (by kernel_rfl) (by kernel_rfl) (fun _ _ _ h => h) (by rfl) (by assumption) ?rA_18
                    simp only [Act.put, List.setIfInBounds_toArray, List.set_cons_zero, List.set_cons_succ]
                    refine take_first 18 66 (v := ?vA_19) rfl rfl (by kernel_rfl) (by kernel_rfl) (by kernel_rfl) (fun _ _ _ h => h) (by rfl) ?yA_19 (by assumption) ?rA_19
                    case yA_19 => (intro w hSw; (try dsimp only at hSw); go_simp; (try with_reducible rfl))
                    simp only [Act.put, List.setIfInBounds_toArray, List.set_cons_zero, List.set_cons_succ]
                    refine wpAnyH_done (by kernel_rfl) ?eA _
                    go_wp2
                    go_ret
                    exact ⟨ret_bool HH.out.symm, HW.out.trans (Below.mono (by assumption) (Nat.le_of_lt hz0))⟩
                  · have hok' : wrtB y.key y.del y.val = true := hok
                    rcases hh : hasB x.locks y.key
                    · have HH := Lib.hid (noteS_write hx ((lwB_has (locks := x.locks) hok).trans hh))
                      clear hx hok
                      go_wp2
                      go_region_held3 (fun w' => w'.cell? ⟨w.heap.size, 2, none⟩ = some (.slice Au x.locks.length cu) ∧ w'.cell? ⟨w.heap.size, 3, none⟩ = some (.slice (some ⟨b, off, none⟩) x.writes.length cv) ∧ w'.cell? ⟨b, off + k * 3, none⟩ = some (.string y.key) ∧ w'.cell? ⟨b, off + k * 3 + 1, none⟩ = some (.bool y.del) ∧ w'.cell? ⟨b, off + k * 3 + 2, none⟩ = some (.slice Ay ny cy))
                        (first | exact HS.out _ hb0 | exact HS.out _ (by assumption))
                        (first
                          | (go_at_call 107; refine (specWrtOk_any _ _ _ _ _ hs (HI.out _ hb0)).mono ?_; rintro e w1 ⟨rfl, hb1⟩; have hq := belowNext hb0 hb1; clear hb1)
                          | (go_at_call 75; refine (l2Has_any _ _ _ _ _ (HL.out _ hq)).mono ?_; rintro e w2 ⟨rfl, rfl⟩))
                      go_wp2
                      go_ret
                      exact ⟨ret_bool HH.out.symm, HW.out.trans (Below.mono (by assumption) (Nat.le_of_lt hz0))⟩
                    · have HM := Lib.hid (hm.step hx ((lwB_has (locks := x.locks) hok).trans hh))
                      clear hx hok
                      go_wp2
                      go_region_held3 (fun w' => w'.cell? ⟨w.heap.size, 2, none⟩ = some (.slice Au x.locks.length cu) ∧ w'.cell? ⟨w.heap.size, 3, none⟩ = some (.slice (some ⟨b, off, none⟩) x.writes.length cv) ∧ w'.cell? ⟨b, off + k * 3, none⟩ = some (.string y.key) ∧ w'.cell? ⟨b, off + k * 3 + 1, none⟩ = some (.bool y.del) ∧ w'.cell? ⟨b, off + k * 3 + 2, none⟩ = some (.slice Ay ny cy))
                        (first | exact HS.out _ hb0 | exact HS.out _ (by assumption))
                        (first
                          | (go_at_call 107; refine (specWrtOk_any _ _ _ _ _ hs (HI.out _ hb0)).mono ?_; rintro e w1 ⟨rfl, hb1⟩; have hq := belowNext hb0 hb1; clear hb1)
                          | (go_at_call 75; refine (l2Has_any _ _ _ _ _ (HL.out _ hq)).mono ?_; rintro e w2 ⟨rfl, rfl⟩))
                      go_wp2
                      go_roundw
                      case rel => exact ⟨k + 1, by omega, by go_num, HM.out, by assumption⟩
                      case measure => simp [intOf]; omega
                · have HA2 : Hid (AllTo (lwB x.locks) x.writes x.writes.length) := Lib.hid ((show k = x.writes.length by omega) ▸ hm)
                  have HN := Lib.hid (HW.out.trans (hb.mono (Nat.le_of_lt hz0)))
                  clear hm hb
                  by_cases h1 : x.kind = 1
                  · have HH := Lib.hid (noteS_one htx h1 hl1' hl2' HA.out HA2.out)
                    have hb1 : (x.kind == 1) = true := by simp [h1]
                    clear h1
                    go_wp2
                    go_ret
                    exact ⟨ret_bool HH.out.symm, HN.out⟩
                  · have HH := Lib.hid (noteS_rest htx hki h1)
                    have hb1 : (x.kind == 1) = false := by simp [h1]
                    clear h1
                    go_wp2
                    go_ret
                    exact ⟨ret_bool HH.out.symm, HN.out⟩

end Go.Proofs.Ytkamlibfcakblaa

/- What DiskOk answers, of the program and of the model: the same bool. -/
namespace Go.Proofs.Ytkamlibfcakblaa
open Go.RowKit

/-- A note at a place, its slices as such. -/
theorem notes_at2 {w : World} {B : Nat} {v : Value} {xs : List Note} (h : noteSh.Row w B v xs) {k : Nat} (hk : k < xs.length) : ∃ b off c x A1 c1 A2 c2, v = .slice (some ⟨b, off, none⟩) xs.length c ∧ xs[k]? = some x ∧ b < B ∧
    w.cell? ⟨b, off + k * 4, none⟩ = some (.int .i64 x.kind) ∧ w.cell? ⟨b, off + k * 4 + 1, none⟩ = some (.int .i64 x.tx) ∧ w.cell? ⟨b, off + k * 4 + 2, none⟩ = some (.slice A1 x.locks.length c1) ∧ w.cell? ⟨b, off + k * 4 + 3, none⟩ = some (.slice A2 x.writes.length c2) ∧
    noteSh.rel w B [.int .i64 x.kind, .int .i64 x.tx, .slice A1 x.locks.length c1, .slice A2 x.writes.length c2] x := by
  obtain ⟨b, off, c, x, cs, hv, hx, hb, hr, hc⟩ := h.at_ hk
  obtain ⟨u, u', rfl, h1, h2⟩ := note_rel.1 hr
  obtain ⟨A1, c1, rfl, -, -⟩ := h1.form
  obtain ⟨A2, c2, rfl, -, -⟩ := h2.form
  exact ⟨b, off, c, x, A1, c1, A2, c2, hv, hx, hb, hc 0 _ rfl, hc 1 _ rfl, hc 2 _ rfl, hc 3 _ rfl, hr⟩

set_option maxRecDepth 100000 in
theorem implDiskOk_any (w : World) (cs : List Value) (x : Disk) (h : diskSh.rel w w.heap.size cs x) :
    Calls Try.prog 60 #[.agg cs.toArray] w fun e w' => e = .returned (.bool (diskB x)) ∧ Below w.heap.size w w' := by
  obtain ⟨u, rfl, hu⟩ := disk_rel.1 h
  obtain ⟨Au, cu, rfl, hcu, hnu⟩ := hu.form
  unfold maxLen at hcu
  have HU := Lib.hid (hu.alloc (Nat.le_refl _) (.cells #[.slice Au x.notes.length cu, .int .i64 x.safe] 25))
  have HW := Lib.hid (belowOne w (.cells #[.slice Au x.notes.length cu, .int .i64 x.safe] 25))
  clear h hu
  by_cases h1 : 120 < x.notes.length
  · have HK := Lib.hid (diskB_long h1)
    go_enter Try.func60, Try.ntmps60
    go_wp2
    go_ret
    exact ⟨ret_bool HK.out.symm, HW.out⟩
  · by_cases h2 : x.safe < 0
    · have HK := Lib.hid (diskB_safe (inB_no (n := x.safe) (lo := 0) (hi := (x.notes.length : Int)) (.inl h2)))
      go_enter Try.func60, Try.ntmps60
      go_wp2
      go_ret
      exact ⟨ret_bool HK.out.symm, HW.out⟩
    · by_cases h3 : (x.notes.length : Int) < x.safe
      · have HK := Lib.hid (diskB_safe (inB_no (n := x.safe) (lo := 0) (hi := (x.notes.length : Int)) (.inr h3)))
        go_enter Try.func60, Try.ntmps60
        go_wp2
        go_ret
        exact ⟨ret_bool HK.out.symm, HW.out⟩
      · have HI := Lib.hid (inB_yes (n := x.safe) (lo := 0) (hi := (x.notes.length : Int)) (by omega) (by omega))
        have h1' : x.notes.length ≤ 120 := by omega
        have h2' : 0 ≤ x.safe := by omega
        have h3' : x.safe ≤ (x.notes.length : Int) := by omega
        clear h1 h2 h3
        have hz0 : w.heap.size < (w.alloc (.cells #[.slice Au x.notes.length cu, .int .i64 x.safe] 25)).heap.size := by simp
        go_enter Try.func60, Try.ntmps60
        go_wp2
        generalize w.alloc (.cells #[.slice Au x.notes.length cu, .int .i64 x.safe] 25) = w0 at *
        go_loopw [25] (fun i wr => ∃ k : Nat, k ≤ x.notes.length ∧ i = .int .i64 k ∧ AllTo noteB x.notes k ∧ Below w0.heap.size w0 wr) (fun i _ => x.notes.length - (intOf i).toNat)
        case atStart => exact ⟨0, Nat.zero_le _, rfl, AllTo.start _ _, Below.refl _ _⟩
        case round =>
          obtain ⟨k, hk, rfl, hm, hb⟩ := hrel
          by_cases hlt : k < x.notes.length
          · obtain ⟨b, off, c, y, A1, c1, A2, c2, e1, hx, hB, d0, d1, d2, d3, hr⟩ := notes_at2 (HU.out.below (hb.mono (Nat.le_of_lt hz0))) hlt
            injection e1 with e1a e1b e1c
            subst e1a
            have HR := Lib.hid fun o => noteSh.rmore (noteSh.rbelow (noteSh.rmore hr (Nat.le_trans (Nat.le_of_lt hz0) hb.size)) (belowOne wr o)) (B' := (wr.alloc o).heap.size) (by simp)
            have HB := Lib.hid fun o => hb.alloc hb.size o
            clear e1b e1c hr hb
            rcases hn : noteB y
            · have HK := Lib.hid (diskB_bad hx hn)
              clear hx
              go_wp2_with (go_at_call 67; refine (implNoteOk_any _ _ y (HR.out _)).mono ?_; rintro e w1 ⟨rfl, hb1⟩; have HN := Lib.hid (belowNext (HB.out _) hb1); clear hb1)
              go_ret
              exact ⟨ret_bool HK.out.symm, HW.out.trans (HN.out.mono (Nat.le_of_lt hz0))⟩
            · have HM := Lib.hid (hm.step hx hn)
              clear hx
              go_wp2_with (go_at_call 67; refine (implNoteOk_any _ _ y (HR.out _)).mono ?_; rintro e w1 ⟨rfl, hb1⟩; have HN := Lib.hid (belowNext (HB.out _) hb1); clear hb1)
              go_roundw
              case rel => exact ⟨k + 1, by omega, by go_num, HM.out, HN.out⟩
              case measure => simp [intOf]; omega
          · have HK := Lib.hid (diskB_yes h1' HI.out ((show k = x.notes.length by omega) ▸ hm))
            go_wp2
            go_ret
            exact ⟨ret_bool HK.out.symm, HW.out.trans (hb.mono (Nat.le_of_lt hz0))⟩

set_option maxRecDepth 100000 in
theorem specDiskOk_any (w : World) (cs : List Value) (x : Disk) (h : diskSh.rel w w.heap.size cs x) :
    Calls Try.prog 15 #[.agg cs.toArray] w fun e w' => e = .returned (.bool (diskB x)) ∧ Below w.heap.size w w' := by
  obtain ⟨u, rfl, hu⟩ := disk_rel.1 h
  obtain ⟨Au, cu, rfl, hcu, hnu⟩ := hu.form
  unfold maxLen at hcu
  have HU := Lib.hid (hu.alloc (Nat.le_refl _) (.cells #[.slice Au x.notes.length cu, .int .i64 x.safe] 25))
  have HX := Lib.hid (Held.new w #[.slice Au x.notes.length cu, .int .i64 x.safe] 25)
  have HW := Lib.hid (belowOne w (.cells #[.slice Au x.notes.length cu, .int .i64 x.safe] 25))
  clear h hu
  by_cases h1 : 120 < x.notes.length
  · have HK := Lib.hid (diskB_long h1)
    go_enter Try.func15, Try.ntmps15
    go_wp2
    go_ret
    exact ⟨ret_bool HK.out.symm, HW.out⟩
  · rcases hi : inB x.safe 0 (x.notes.length : Int)
    · have HK := Lib.hid (diskB_safe hi)
      go_enter Try.func15, Try.ntmps15
      go_wp2_with (go_at_call 64; refine (l1In_any _ _ _ _).mono ?_; rintro e w' ⟨rfl, rfl⟩)
      go_ret
      exact ⟨ret_bool HK.out.symm, HW.out⟩
    · have h1' : x.notes.length ≤ 120 := by omega
      clear h1
      have c0 := HX.out.of 0 _ rfl
      have hz0 : w.heap.size < (w.alloc (.cells #[.slice Au x.notes.length cu, .int .i64 x.safe] 25)).heap.size := by simp
      go_enter Try.func15, Try.ntmps15
      go_wp2_with (go_at_call 64; refine (l1In_any _ _ _ _).mono ?_; rintro e w' ⟨rfl, rfl⟩)
      generalize w.alloc (.cells #[.slice Au x.notes.length cu, .int .i64 x.safe] 25) = w0 at *
      go_loopw [3] (fun i wr => ∃ k : Nat, k ≤ x.notes.length ∧ i = .int .i64 k ∧ AllTo noteB x.notes k ∧ Below w0.heap.size w0 wr) (fun i _ => x.notes.length - (intOf i).toNat)
      case atStart => exact ⟨0, Nat.zero_le _, rfl, AllTo.start _ _, Below.refl _ _⟩
      case round =>
        obtain ⟨k, hk, rfl, hm, hb⟩ := hrel
        have d := (hb.cell (p := ⟨w.heap.size, 0, none⟩) hz0).trans c0
        by_cases hlt : k < x.notes.length
        · obtain ⟨b, off, c, y, A1, c1, A2, c2, e1, hx, hB, d0, d1, d2, d3, hr⟩ := notes_at2 (HU.out.below (hb.mono (Nat.le_of_lt hz0))) hlt
          injection e1 with e1a e1b e1c
          subst e1a
          have HR := Lib.hid (noteSh.rmore hr (Nat.le_trans (Nat.le_of_lt hz0) hb.size))
          have HB := Lib.hid hb
          clear e1b e1c hr hb
          rcases hn : noteB y
          · have HK := Lib.hid (diskB_bad hx hn)
            clear hx
            go_wp2_with (go_at_call 65; refine (specNoteOk_any _ _ y HR.out).mono ?_; rintro e w1 ⟨rfl, hb1⟩; have HN := Lib.hid (belowNext HB.out hb1); clear hb1)
            go_ret
            exact ⟨ret_bool HK.out.symm, HW.out.trans (HN.out.mono (Nat.le_of_lt hz0))⟩
          · have HM := Lib.hid (hm.step hx hn)
            clear hx
            go_wp2_with (go_at_call 65; refine (specNoteOk_any _ _ y HR.out).mono ?_; rintro e w1 ⟨rfl, hb1⟩; have HN := Lib.hid (belowNext HB.out hb1); clear hb1)
            go_roundw
            case rel => exact ⟨k + 1, by omega, by go_num, HM.out, HN.out⟩
            case measure => simp [intOf]; omega
        · have HK := Lib.hid (diskB_yes h1' hi ((show k = x.notes.length by omega) ▸ hm))
          go_wp2
          go_ret
          exact ⟨ret_bool HK.out.symm, HW.out.trans (hb.mono (Nat.le_of_lt hz0))⟩

end Go.Proofs.Ytkamlibfcakblaa

/- A ring of notes: a marker, and a link for each note, one behind the other. Nothing of the program but how a link lies. -/
namespace Go.Proofs.Ytkamlibfcakblaa
open Go.RowKit

def at_ (L : List Nat) (i : Nat) : Nat := L.getD i 0
theorem at_left {L : List Nat} {b i : Nat} (h : i < L.length) : at_ (L ++ [b]) i = at_ L i := by simp [at_, List.getD_eq_getElem?_getD, List.getElem?_append_left h]
theorem at_last {L : List Nat} {b i : Nat} (h : i = L.length) : at_ (L ++ [b]) i = b := by subst h; simp [at_, List.getD_eq_getElem?_getD]
/-- A pointer to a block. -/
def ptr (b : Nat) : Value := .pointer (some ⟨b, 0, none⟩)
/-- Who comes before i, and behind it, of n and the marker. -/
def pre_ (n i : Nat) : Nat := if i = 0 then n else i - 1
def nxt_ (n i : Nat) : Nat := if i = n then 0 else i + 1

/-- A block of plain cells. -/
def Plain_ (w : World) (q : Nat) : Prop := ∃ (ca : Array Value) (ta : TypeId), w.heap[q]? = some (.cells ca ta (0, 0))
theorem Plain_.set {w : World} {q : Nat} (h : Plain_ w q) (p : Addr) (hp : p.spot = none) (u : Value) : Plain_ (w.setCell p u) q := by
  obtain ⟨ca, ta, h⟩ := h
  by_cases e : q = p.block
  · subst e
    obtain ⟨b, o, s⟩ := p
    simp only at hp
    subst hp
    exact ⟨_, _, heap_setCell_same w b o ca ta u h⟩
  · exact ⟨ca, ta, by rw [Below.heap_setCell w p u q e]; exact h⟩
theorem Plain_.new (w : World) (ca : Array Value) (ta : TypeId) : Plain_ (w.alloc (.cells ca ta)) w.heap.size := ⟨ca, ta, Go.Deep.blk_alloc_new w _⟩
theorem Plain_.below {w w' : World} {q n : Nat} (h : Plain_ w q) (hb : Below n w w') (hq : q < n) : Plain_ w' q := by
  obtain ⟨ca, ta, h⟩ := h
  exact ⟨ca, ta, by rw [hb.block q hq]; exact h⟩
theorem Plain_.third (w : World) (o1 o2 : Obj) (ca : Array Value) (ta : TypeId) : Plain_ (((w.alloc o1).alloc o2).alloc (.cells ca ta)) (w.heap.size + 1 + 1) := by
  have h := Plain_.new ((w.alloc o1).alloc o2) ca ta
  have e : ((w.alloc o1).alloc o2).heap.size = w.heap.size + 1 + 1 := by simp
  rw [e] at h; exact h
theorem Plain_.second (w : World) (o1 o3 : Obj) (ca : Array Value) (ta : TypeId) : Plain_ (((w.alloc o1).alloc (.cells ca ta)).alloc o3) (w.heap.size + 1) := by
  have h := (Plain_.new (w.alloc o1) ca ta).below (belowOne _ o3) (by simp)
  have e : (w.alloc o1).heap.size = w.heap.size + 1 := by simp
  rw [e] at h; exact h

structure Ring (w : World) (B : Nat) (L : List Nat) (ns : List Note) : Prop where
  len : L.length = ns.length + 1
  lo : ∀ i, i < L.length → B ≤ at_ L i
  up : ∀ i j, i < j → j < L.length → at_ L i < at_ L j
  lt : ∀ i, i < L.length → at_ L i < w.heap.size
  prev : ∀ i, i < L.length → w.cell? ⟨at_ L i, 4, none⟩ = some (ptr (at_ L (pre_ ns.length i)))
  next : ∀ i, i < L.length → w.cell? ⟨at_ L i, 5, none⟩ = some (ptr (at_ L (nxt_ ns.length i)))
  free : ∀ i j, i < L.length → w.frozen? ⟨at_ L i, j, none⟩ = false
  blk : ∀ i, i < L.length → Plain_ w (at_ L i)
  note : ∀ i x, ns[i]? = some x → ∃ cs, noteSh.rel w B cs x ∧ ∀ j u, cs[j]? = some u → w.cell? ⟨at_ L (i + 1), j, none⟩ = some u

section
variable {w w' : World} {B n : Nat} {L : List Nat} {ns : List Note}
theorem Ring.below (h : Ring w B L ns) (hb : Below n w w') (hB : B ≤ n) (hn : ∀ i, i < L.length → at_ L i < n) : Ring w' B L ns where
  len := h.len
  lo := h.lo
  up := h.up
  lt i hi := Nat.lt_of_lt_of_le (h.lt i hi) hb.size
  prev i hi := (hb.cell (p := ⟨at_ L i, 4, none⟩) (hn i hi)).trans (h.prev i hi)
  next i hi := (hb.cell (p := ⟨at_ L i, 5, none⟩) (hn i hi)).trans (h.next i hi)
  free i j hi := (hb.frozen (p := ⟨at_ L i, j, none⟩) (hn i hi)).trans (h.free i j hi)
  blk i hi := (h.blk i hi).below hb (hn i hi)
  note i x hx := by
    obtain ⟨cs, h1, h2⟩ := h.note i x hx
    have hi : i + 1 < L.length := by rw [h.len]; have := (List.getElem?_eq_some_iff.1 hx).1; omega
    exact ⟨cs, noteSh.rbelow h1 (hb.mono hB), fun j u hu => (hb.cell (p := ⟨at_ L (i + 1), j, none⟩) (hn _ hi)).trans (h2 j u hu)⟩
theorem Ring.size (h : Ring w B L ns) : B ≤ w.heap.size := Nat.le_trans (h.lo 0 (by rw [h.len]; omega)) (Nat.le_of_lt (h.lt 0 (by rw [h.len]; omega)))
theorem Ring.onward (h : Ring w B L ns) (hb : Below w.heap.size w w') : Ring w' B L ns := h.below hb h.size h.lt
/-- The cells of the link of a note. -/
theorem Ring.at_ (h : Ring w B L ns) {k : Nat} (hk : k < ns.length) : ∃ x A1 c1 A2 c2, ns[k]? = some x ∧ w.cell? ⟨Go.Proofs.Ytkamlibfcakblaa.at_ L (k + 1), 0, none⟩ = some (.int .i64 x.kind) ∧ w.cell? ⟨Go.Proofs.Ytkamlibfcakblaa.at_ L (k + 1), 1, none⟩ = some (.int .i64 x.tx) ∧
    w.cell? ⟨Go.Proofs.Ytkamlibfcakblaa.at_ L (k + 1), 2, none⟩ = some (.slice A1 x.locks.length c1) ∧ w.cell? ⟨Go.Proofs.Ytkamlibfcakblaa.at_ L (k + 1), 3, none⟩ = some (.slice A2 x.writes.length c2) ∧
    noteSh.rel w B [.int .i64 x.kind, .int .i64 x.tx, .slice A1 x.locks.length c1, .slice A2 x.writes.length c2] x := by
  obtain ⟨cs, hr, hc⟩ := h.note k _ (List.getElem?_eq_getElem hk)
  obtain ⟨u, u', rfl, h1, h2⟩ := note_rel.1 hr
  obtain ⟨A1, c1, rfl, -, -⟩ := h1.form
  obtain ⟨A2, c2, rfl, -, -⟩ := h2.form
  exact ⟨_, A1, c1, A2, c2, List.getElem?_eq_getElem hk, hc 0 _ rfl, hc 1 _ rfl, hc 2 _ rfl, hc 3 _ rfl, hr⟩
end

/-- A link more, behind all. -/
theorem Ring.more {w W : World} {B b : Nat} {L : List Nat} {ns : List Note} {cs : List Value} {x : Note} (h : Ring w B L ns) (hb : w.heap.size ≤ b) (hbW : b < W.heap.size)
    (hcell : ∀ q j, q < w.heap.size → W.cell? ⟨q, j, none⟩ = if q = Go.Proofs.Ytkamlibfcakblaa.at_ L 0 ∧ j = 4 then some (ptr b) else if q = Go.Proofs.Ytkamlibfcakblaa.at_ L ns.length ∧ j = 5 then some (ptr b) else w.cell? ⟨q, j, none⟩)
    (hfro : ∀ q j, q < w.heap.size → W.frozen? ⟨q, j, none⟩ = w.frozen? ⟨q, j, none⟩)
    (hnew : ∀ j u, (cs ++ [ptr (Go.Proofs.Ytkamlibfcakblaa.at_ L ns.length), ptr (Go.Proofs.Ytkamlibfcakblaa.at_ L 0)])[j]? = some u → W.cell? ⟨b, j, none⟩ = some u) (hnf : ∀ j, W.frozen? ⟨b, j, none⟩ = false) (hpl : ∀ q, q < w.heap.size → Plain_ w q → Plain_ W q) (hplb : Plain_ W b) (hx : noteSh.rel w B cs x) : Ring W B (L ++ [b]) (ns ++ [x]) := by
  have hl := h.len
  have hB := h.size
  have hcl : cs.length = 4 := noteSh.rlen hx
  have inj : ∀ i j, i < L.length → j < L.length → Go.Proofs.Ytkamlibfcakblaa.at_ L i = Go.Proofs.Ytkamlibfcakblaa.at_ L j → i = j := fun i j hi hj e => by
    rcases Nat.lt_trichotomy i j with h' | h' | h'
    · have := h.up i j h' hj; omega
    · exact h'
    · have := h.up j i h' hi; omega
  have hrel : ∀ {ds y}, noteSh.rel w B ds y → noteSh.rel W B ds y := fun {ds y} hr => noteSh.rkeep hr fun q o hq => by
    rw [hcell q o (by omega), if_neg, if_neg]
    · rintro ⟨e, -⟩; have := h.lo ns.length (by omega); omega
    · rintro ⟨e, -⟩; have := h.lo 0 (by omega); omega
  refine ⟨by simp [hl], fun i hi => ?_, fun i j hij hj => ?_, fun i hi => ?_, fun i hi => ?_, fun i hi => ?_, fun i j hi => ?_, fun i hi => ?_, fun i y hy => ?_⟩
  · simp only [List.length_append, List.length_cons, List.length_nil] at hi
    rcases Nat.lt_or_ge i L.length with h' | h'
    · rw [at_left h']; exact h.lo i h'
    · rw [at_last (by omega)]; omega
  · simp only [List.length_append, List.length_cons, List.length_nil] at hj
    rw [at_left (show i < L.length by omega)]
    rcases Nat.lt_or_ge j L.length with h' | h'
    · rw [at_left h']; exact h.up i j hij h'
    · rw [at_last (by omega)]; have := h.lt i (by omega); omega
  · simp only [List.length_append, List.length_cons, List.length_nil] at hi
    rcases Nat.lt_or_ge i L.length with h' | h'
    · rw [at_left h']; have := h.lt i h'; omega
    · rw [at_last (by omega)]; exact hbW
  · simp only [List.length_append, List.length_cons, List.length_nil] at hi ⊢
    rcases Nat.lt_or_ge i L.length with h' | h'
    · rw [at_left h', hcell _ _ (h.lt i h')]
      by_cases e : i = 0
      · subst e
        rw [if_pos ⟨rfl, rfl⟩]
        simp only [pre_, if_true]
        rw [at_last (by omega)]
      · rw [if_neg, if_neg, h.prev i h']
        · simp only [pre_, e, if_false]
          rw [at_left (by omega)]
        · rintro ⟨-, e'⟩; omega
        · rintro ⟨e', -⟩; exact e (inj i 0 h' (by omega) e')
    · have hi' : i = L.length := by omega
      subst hi'
      rw [at_last rfl, hnew 4 (ptr (Go.Proofs.Ytkamlibfcakblaa.at_ L ns.length)) (by rw [List.getElem?_append_right (by omega), hcl]; rfl)]
      simp only [pre_, show ¬ L.length = 0 by omega, if_false]
      rw [at_left (by omega), show L.length - 1 = ns.length by omega]
  · simp only [List.length_append, List.length_cons, List.length_nil] at hi ⊢
    rcases Nat.lt_or_ge i L.length with h' | h'
    · rw [at_left h', hcell _ _ (h.lt i h'), if_neg (by rintro ⟨-, e'⟩; omega)]
      by_cases e : i = ns.length
      · subst e
        rw [if_pos ⟨rfl, rfl⟩]
        simp only [nxt_, show ¬ ns.length = ns.length + (0 + 1) by omega, if_false]
        rw [at_last (by omega)]
      · rw [if_neg, h.next i h']
        · simp only [nxt_, e, if_false, show ¬ i = ns.length + (0 + 1) by omega]
          rw [at_left (by omega)]
        · rintro ⟨e', -⟩; exact e (inj i ns.length h' (by omega) e')
    · have hi' : i = L.length := by omega
      subst hi'
      rw [at_last rfl, hnew 5 (ptr (Go.Proofs.Ytkamlibfcakblaa.at_ L 0)) (by rw [List.getElem?_append_right (by omega), hcl]; rfl)]
      simp only [nxt_, show L.length = ns.length + (0 + 1) by omega, if_true]
      rw [at_left (by omega)]
  · simp only [List.length_append, List.length_cons, List.length_nil] at hi
    rcases Nat.lt_or_ge i L.length with h' | h'
    · rw [at_left h', hfro _ _ (h.lt i h')]; exact h.free i j h'
    · rw [at_last (by omega)]; exact hnf j
  · simp only [List.length_append, List.length_cons, List.length_nil] at hi
    rcases Nat.lt_or_ge i L.length with h' | h'
    · rw [at_left h']; exact hpl _ (h.lt i h') (h.blk i h')
    · rw [at_last (by omega)]; exact hplb
  · rcases Nat.lt_or_ge i ns.length with h' | h'
    · rw [List.getElem?_append_left h'] at hy
      obtain ⟨ds, h1, h2⟩ := h.note i y hy
      refine ⟨ds, hrel h1, fun j u hu => ?_⟩
      have hj : j < 4 := by have := (List.getElem?_eq_some_iff.1 hu).1; rw [noteSh.rlen h1] at this; exact this
      rw [at_left (by omega), hcell _ _ (h.lt _ (by omega)), if_neg (by rintro ⟨-, e'⟩; omega), if_neg (by rintro ⟨-, e'⟩; omega)]
      exact h2 j u hu
    · have hi' : i = ns.length := by
        have := (List.getElem?_eq_some_iff.1 hy).1
        simp at this; omega
      subst hi'
      have hy' : x = y := by simpa using hy
      subst hy'
      refine ⟨cs, hrel hx, fun j u hu => ?_⟩
      rw [at_last (by omega)]
      exact hnew j u (by rw [List.getElem?_append_left (List.getElem?_eq_some_iff.1 hu).1]; exact hu)

/-- A marker alone. -/
theorem Ring.one {w : World} {B b : Nat} (hB : B ≤ b) (hb : b < w.heap.size) (h4 : w.cell? ⟨b, 4, none⟩ = some (ptr b)) (h5 : w.cell? ⟨b, 5, none⟩ = some (ptr b)) (hf : ∀ j, w.frozen? ⟨b, j, none⟩ = false) (hpl : Plain_ w b) : Ring w B [b] [] where
  len := rfl
  lo i hi := by have : i = 0 := by simpa using hi
                subst this; exact hB
  up i j h1 h2 := by simp at h2; omega
  lt i hi := by have : i = 0 := by simpa using hi
                subst this; exact hb
  prev i hi := by have : i = 0 := by simpa using hi
                  subst this; exact h4
  next i hi := by have : i = 0 := by simpa using hi
                  subst this; exact h5
  free i j hi := by have : i = 0 := by simpa using hi
                    subst this; exact hf j
  blk i hi := by have : i = 0 := by simpa using hi
                 subst this; exact hpl
  note i x hx := by simp at hx

end Go.Proofs.Ytkamlibfcakblaa

/- Texts that follow each other, merged: RegTake, NoteOkS. -/
import Derived.Deep.RegionHeld3
import Derived.Test.YtkamlibfcakblaaXNoteOk

/- A region that draws its order, operation by operation: taken first, or passed over; the slot written out. Nothing of the program. -/
namespace Go.Proofs.Ytkamlibfcakblaa

section
variable {P : Program} {md : Region.Mode} {ops : Array Oper} {Q : Exit → Act → World → Prop} {S : World → Prop}
/-- Taken first. -/
theorem take_first (i d : Nat) {oi : Oper} {v : Value} {fuel : Nat} {listed : Array Bool} {a : Act} {w : World} (hi : ops[i]? = some oi) (hd : oi.dst = some d)
    (hs : Region.noSelect ops = true) (hf : Region.free md ops listed i = true) (hr : (Region.ready md ops listed).contains i = true)
    (hQ : ∀ c a w, Q (.panic c) (a.put oi.dst v) w → Q (.panic c) a w) (hw : Region.wanted oi (yielded ops a.tmps) = true) (hy : ∀ w, S w → (execOp a.eval oi).run P w = .ok (.value v) w) (hS : S w)
    (h : wpAnyH P md ops Q S fuel (listed.setIfInBounds i true) (a.put (some d) v) w) : wpAnyH P md ops Q S (fuel + 1) listed a w :=
  wpAnyH_take hi hs hf hr hQ (.inl ⟨hw, hy⟩) hS (by rw [hd]; exact h)
/-- Passed over: it is not wanted. -/
theorem pass_over (i d : Nat) {oi : Oper} {fuel : Nat} {listed : Array Bool} {a : Act} {w : World} (hi : ops[i]? = some oi) (hd : oi.dst = some d)
    (hs : Region.noSelect ops = true) (hf : Region.free md ops listed i = true) (hr : (Region.ready md ops listed).contains i = true)
    (hQ : ∀ c a w, Q (.panic c) (a.put oi.dst undef) w → Q (.panic c) a w) (hw : Region.wanted oi (yielded ops a.tmps) = false) (hS : S w)
    (h : wpAnyH P md ops Q S fuel (listed.setIfInBounds i true) (a.put (some d) undef) w) : wpAnyH P md ops Q S (fuel + 1) listed a w :=
  wpAnyH_take hi hs hf hr hQ (.inr ⟨hw, rfl⟩) hS (by rw [hd]; exact h)
end

end Go.Proofs.Ytkamlibfcakblaa

/- What the model's NoteOk and both DiskOk answer. -/
namespace Go.Proofs.Ytkamlibfcakblaa
open Go.RowKit

theorem noteS_lock {n : Note} {k : Nat} {x : ByteArray} (hx : n.locks[k]? = some x) (e : keyB x = false) : noteB n = false := by
  unfold noteB
  by_cases hk : n.kind = 1
  · rw [if_pos hk, locksB_bad hx e]; simp
  · have : n.locks.length ≠ 0 := by have := (List.getElem?_eq_some_iff.1 hx).1; omega
    rw [if_neg hk]; simp [this]
theorem noteS_write {n : Note} {k : Nat} {x : Wr} (hx : n.writes[k]? = some x) (e : lwB n.locks x = false) : noteB n = false := by
  unfold noteB
  by_cases hk : n.kind = 1
  · rw [if_pos hk, wrsB_bad hx e]; simp
  · have : n.writes.length ≠ 0 := by have := (List.getElem?_eq_some_iff.1 hx).1; omega
    rw [if_neg hk]; simp [this]
theorem noteS_long {n : Note} (h : 12 < n.locks.length ∨ 12 < n.writes.length) : noteB n = false := by
  unfold noteB
  by_cases hk : n.kind = 1
  · rw [if_pos hk]; unfold locksB wrsB
    rcases h with h | h
    · rw [show decide (n.locks.length ≤ 12) = false by simp; omega]; simp
    · rw [show decide (n.writes.length ≤ 12) = false by simp; omega]; simp
  · rw [if_neg hk]
    rcases h with h | h
    · rw [show decide (n.locks.length = 0) = false by simp; intro h'; rw [h'] at h; simp at h]; simp
    · rw [show decide (n.writes.length = 0) = false by simp; intro h'; rw [h'] at h; simp at h]; simp
theorem noteS_one {n : Note} (ht : inB n.tx 0 29 = true) (hk : n.kind = 1) (h1 : n.locks.length ≤ 12) (h2 : n.writes.length ≤ 12) (h3 : AllTo keyB n.locks n.locks.length) (h4 : AllTo (lwB n.locks) n.writes n.writes.length) : noteB n = true := by
  rw [noteB_ready ht hk, locksB_all h3, wrsB_all h4]; simp [h1, h2]
theorem noteS_rest {n : Note} (ht : inB n.tx 0 29 = true) (hi : inB n.kind 1 4 = true) (hk : n.kind ≠ 1) : noteB n = (((n.locks.length : Int) + (n.writes.length : Int)) == 0) := by
  have h24 : inB n.kind 2 4 = true := by unfold inB at *; simp at *; omega
  rw [noteB_other ht hk, h24, Bool.true_and, Bool.eq_iff_iff]
  simp only [Bool.and_eq_true, decide_eq_true_eq, beq_iff_eq]
  omega

set_option maxRecDepth 100000 in
set_option maxHeartbeats 1000000 in
theorem specNoteOk_any (w : World) (cs : List Value) (x : Note) (h : noteSh.rel w w.heap.size cs x) :
    Calls Try.prog 65 #[.agg cs.toArray] w fun e w' => e = .returned (.bool (noteB x)) ∧ Below w.heap.size w w' := by
  obtain ⟨u, v, rfl, hu, hv⟩ := note_rel.1 h
  obtain ⟨Au, cu, rfl, hcu, hnu⟩ := hu.form
  obtain ⟨Av, cv, rfl, hcv, hnv⟩ := hv.form
  unfold maxLen at hcu hcv
  have HU := Lib.hid (hu.alloc (Nat.le_refl _) (.cells #[.int .i64 x.kind, .int .i64 x.tx, .slice Au x.locks.length cu, .slice Av x.writes.length cv] 36))
  have HV := Lib.hid (hv.alloc (Nat.le_refl _) (.cells #[.int .i64 x.kind, .int .i64 x.tx, .slice Au x.locks.length cu, .slice Av x.writes.length cv] 36))
  have HX := Lib.hid (Held.new w #[.int .i64 x.kind, .int .i64 x.tx, .slice Au x.locks.length cu, .slice Av x.writes.length cv] 36)
  have HW := Lib.hid (belowOne w (.cells #[.int .i64 x.kind, .int .i64 x.tx, .slice Au x.locks.length cu, .slice Av x.writes.length cv] 36))
  clear h hu hv
  rcases hki : inB x.kind 1 4
  · have HK := Lib.hid (noteB_kind (n := x) (by unfold inB at hki; rw [decide_eq_false_iff_not] at hki; omega))
    go_enter Try.func65, Try.ntmps65
    go_wp2_with (go_at_call 64; refine (l1In_any _ _ _ _).mono ?_; rintro e w' ⟨rfl, rfl⟩)
    go_ret
    exact ⟨ret_bool HK.out.symm, HW.out⟩
  · rcases htx : inB x.tx 0 29
    · have HK := Lib.hid (noteB_tx htx)
      go_enter Try.func65, Try.ntmps65
      go_wp2_with (go_at_call 64; refine (l1In_any _ _ _ _).mono ?_; rintro e w' ⟨rfl, rfl⟩)
      go_ret
      exact ⟨ret_bool HK.out.symm, HW.out⟩
    · by_cases hl1 : 12 < x.locks.length
      · have HK := Lib.hid (noteS_long (n := x) (.inl hl1))
        go_enter Try.func65, Try.ntmps65
        go_wp2_with (go_at_call 64; refine (l1In_any _ _ _ _).mono ?_; rintro e w' ⟨rfl, rfl⟩)
        go_ret
        exact ⟨ret_bool HK.out.symm, HW.out⟩
      · by_cases hl2 : 12 < x.writes.length
        · have HK := Lib.hid (noteS_long (n := x) (.inr hl2))
          go_enter Try.func65, Try.ntmps65
          go_wp2_with (go_at_call 64; refine (l1In_any _ _ _ _).mono ?_; rintro e w' ⟨rfl, rfl⟩)
          go_ret
          exact ⟨ret_bool HK.out.symm, HW.out⟩
        · have hl1' : x.locks.length ≤ 12 := by omega
          have hl2' : x.writes.length ≤ 12 := by omega
          clear hl1 hl2
          have c0 := HX.out.of 0 _ rfl
          have c1 := HX.out.of 1 _ rfl
          have c2 := HX.out.of 2 _ rfl
          have c3 := HX.out.of 3 _ rfl
          go_enter Try.func65, Try.ntmps65
          go_wp2_with (go_at_call 64; refine (l1In_any _ _ _ _).mono ?_; rintro e w' ⟨rfl, rfl⟩)
          have hz0 : w.heap.size < (w.alloc (.cells #[.int .i64 x.kind, .int .i64 x.tx, .slice Au x.locks.length cu, .slice Av x.writes.length cv] 36)).heap.size := HX.out.1
          generalize w.alloc (.cells #[.int .i64 x.kind, .int .i64 x.tx, .slice Au x.locks.length cu, .slice Av x.writes.length cv] 36) = w0 at *
          go_loop [3] (fun i => ∃ k : Nat, k ≤ x.locks.length ∧ i = .int .i64 k ∧ AllTo keyB x.locks k) (fun i => x.locks.length - (intOf i).toNat)
          case atStart => exact ⟨0, Nat.zero_le _, rfl, AllTo.start _ _⟩
          case round =>
            obtain ⟨k, hk, rfl, hm⟩ := hrel
            by_cases hlt : k < x.locks.length
            · obtain ⟨b, off, c', s, e1, hx, hB, hs, ck⟩ := strs_at HU.out hlt
              injection e1 with e1a e1b e1c
              subst e1a
              clear e1b e1c
              rcases hkb : keyB s
              · have HH := Lib.hid (noteS_lock hx hkb)
                clear hx
                go_wp2_with (go_at_call 106; refine (l1Key_any _ _ hs).mono ?_; rintro e w' ⟨rfl, rfl⟩)
                go_ret
                exact ⟨ret_bool HH.out.symm, HW.out⟩
              · have HM := Lib.hid (hm.step hx hkb)
                clear hx
                go_wp2_with (go_at_call 106; refine (l1Key_any _ _ hs).mono ?_; rintro e w' ⟨rfl, rfl⟩)
                go_round
                case rel => exact ⟨k + 1, by omega, by go_num, HM.out⟩
                case measure => simp [intOf]; omega
            · have HA : Hid (AllTo keyB x.locks x.locks.length) := Lib.hid ((show k = x.locks.length by omega) ▸ hm)
              clear hm
              go_wp2
              go_loopw [4] (fun i wr => ∃ k : Nat, k ≤ x.writes.length ∧ i = .int .i64 k ∧ AllTo (lwB x.locks) x.writes k ∧ Below w0.heap.size w0 wr) (fun i _ => x.writes.length - (intOf i).toNat)
              case atStart => exact ⟨0, Nat.zero_le _, rfl, AllTo.start _ _, Below.refl _ _⟩
              case round =>
                obtain ⟨k, hk, rfl, hm, hb⟩ := hrel
                have HB := Lib.hid hb
                have d0 := (hb.cell (p := ⟨w.heap.size, 0, none⟩) hz0).trans c0
                have d2 := (hb.cell (p := ⟨w.heap.size, 2, none⟩) hz0).trans c2
                have d3 := (hb.cell (p := ⟨w.heap.size, 3, none⟩) hz0).trans c3
                by_cases hlt : k < x.writes.length
                · obtain ⟨b, off, c', y, Ay, ny, cy, e1, hx, hB, hs, e0, e1', e2, hi⟩ := wrs_at HV.out hlt
                  injection e1 with e1a e1b e1c
                  subst e1a
                  have HS := Lib.hid fun (z : World) (hz : Below w0.heap.size w0 z) => And.intro ((hz.cell (p := ⟨w.heap.size, 2, none⟩) hz0).trans c2) (And.intro ((hz.cell (p := ⟨w.heap.size, 3, none⟩) hz0).trans c3) (And.intro ((hz.cell (p := ⟨b, off + k * 3, none⟩) (Nat.lt_trans hB hz0)).trans e0) (And.intro ((hz.cell (p := ⟨b, off + k * 3 + 1, none⟩) (Nat.lt_trans hB hz0)).trans e1') ((hz.cell (p := ⟨b, off + k * 3 + 2, none⟩) (Nat.lt_trans hB hz0)).trans e2))))
                  have HI := Lib.hid fun (z : World) (hz : Below w0.heap.size w0 z) => ((hi.more (Nat.le_of_lt hz0)).below hz).more hz.size
                  have HL := Lib.hid fun (z : World) (hz : Below w0.heap.size w0 z) => HU.out.below (hz.mono (Nat.le_of_lt hz0))
                  have hb0 := hb.drew
                  obtain ⟨g0, g1, g2, g3, g4⟩ := HS.out wr hb
                  have f3 : (0 : Int) ≤ (k : Int) := by omega
                  have f4 : (k : Int) < (x.writes.length : Int) := by omega
                  clear e1b e1c hi e0 e1' e2 c0 c1 c2 c3 d2 d3
                  rcases hok : y.ok
                  · have HH := Lib.hid (noteS_write hx (lwB_ok (locks := x.locks) hok))
                    have hok' : wrtB y.key y.del y.val = false := hok
                    clear hx hok
                    go_wp2
                    refine wp_region_held_drew (S := (fun w' => w'.cell? ⟨w.heap.size, 2, none⟩ = some (.slice Au x.locks.length cu) ∧ w'.cell? ⟨w.heap.size, 3, none⟩ = some (.slice (some ⟨b, off, none⟩) x.writes.length cv) ∧ w'.cell? ⟨b, off + k * 3, none⟩ = some (.string y.key) ∧ w'.cell? ⟨b, off + k * 3 + 1, none⟩ = some (.bool y.del) ∧ w'.cell? ⟨b, off + k * 3 + 2, none⟩ = some (.slice Ay ny cy))) (by kernel_rfl) ?hSA (fun hHeldA => ?stA)
                    case hSA => (first | (dsimp only; ((first | exact HS.out _ hb0 | exact HS.out _ (by assumption)))) | ((first | exact HS.out _ hb0 | exact HS.out _ (by assumption))))
                    refine take_first 0 48 (v := ?vA_1) rfl rfl (by kernel_rfl) (by kernel_rfl) (by kernel_rfl) (fun _ _ _ h => h) (by rfl) ?yA_1 (by assumption) ?rA_1
                    case yA_1 => (intro w hSw; (try dsimp only at hSw); go_simp; (try with_reducible rfl))
                    simp only [Act.put, List.setIfInBounds_toArray, List.set_cons_zero, List.set_cons_succ]
                    refine take_first 1 49 (v := ?vA_2) rfl rfl (by kernel_rfl) (by kernel_rfl) (by kernel_rfl) (fun _ _ _ h => h) (by rfl) ?yA_2 (by assumption) ?rA_2
                    case yA_2 => (intro w hSw; (try dsimp only at hSw); go_simp; (try with_reducible rfl))
                    simp only [Act.put, List.setIfInBounds_toArray, List.set_cons_zero, List.set_cons_succ]
                    refine take_first 2 50 (v := ?vA_3) rfl rfl (by kernel_rfl) (by kernel_rfl) (by kernel_rfl) (fun _ _ _ h => h) (by rfl) ?yA_3 (by assumption) ?rA_3
                    case yA_3 => (intro w hSw; (try dsimp only at hSw); go_simp; (try with_reducible rfl))
                    simp only [Act.put, List.setIfInBounds_toArray, List.set_cons_zero, List.set_cons_succ]
                    refine take_first 3 51 (v := ?vA_4) rfl rfl (by kernel_rfl) (by kernel_rfl) (by kernel_rfl) (fun _ _ _ h => h) (by rfl) ?yA_4 (by assumption) ?rA_4
                    case yA_4 => (intro w hSw; (try dsimp only at hSw); go_simp; (try with_reducible rfl))
                    simp only [Act.put, List.setIfInBounds_toArray, List.set_cons_zero, List.set_cons_succ]
                    refine take_first 4 52 (v := ?vA_5) rfl rfl (by kernel_rfl) (by kernel_rfl) (by kernel_rfl) (fun _ _ _ h => h) (by rfl) ?yA_5 (by assumption) ?rA_5
                    case yA_5 => (intro w hSw; (try dsimp only at hSw); go_simp; (try with_reducible rfl))
                    simp only [Act.put, List.setIfInBounds_toArray, List.set_cons_zero, List.set_cons_succ]
                    refine wpAnyH_ready (rs := [5]) (by kernel_rfl) (by simp) ?_
                    refine AllReadyH.cons (o := _) rfl (fun KA_6 hKA_6 => ?cA_6) ?mA_6
                    case mA_6 => exact AllReadyH.nil
                    go_simp
                    (go_at_call 107; refine (specWrtOk_any _ _ _ _ _ hs (HI.out _ hb0)).mono ?_; rintro e w1 ⟨rfl, hb1⟩; have hq := belowNext hb0 hb1; clear hb1)
                    go_wp2_with fail
                    refine hKA_6.out _ _ ?kA_6 (fun hHeldA_6 => ?dA_6)
                    case kA_6 => (first | (dsimp only; ((first | exact HS.out _ hb0 | exact HS.out _ (by assumption)))) | ((first | exact HS.out _ hb0 | exact HS.out _ (by assumption))))
                    clear hKA_6 KA_6
                    refine take_first 6 54 (v := ?vA_7) rfl rfl (by kernel_rfl) (by kernel_rfl) (by kernel_rfl) (fun _ _ _ h => h) (by rfl) ?yA_7 (by assumption) ?rA_7
                    case yA_7 => (intro w hSw; (try dsimp only at hSw); go_simp; (try with_reducible rfl))
                    simp only [Act.put, List.setIfInBounds_toArray, List.set_cons_zero, List.set_cons_succ]
                    refine take_first 7 55 (v := ?vA_8) rfl rfl (by kernel_rfl) (by kernel_rfl) (by kernel_rfl) (fun _ _ _ h => h) (by rfl) ?yA_8 (by assumption) ?rA_8
                    case yA_8 => (intro w hSw; (try dsimp only at hSw); go_simp; (try with_reducible rfl))
                    simp only [Act.put, List.setIfInBounds_toArray, List.set_cons_zero, List.set_cons_succ]
                    refine pass_over 8 56 rfl rfl (by kernel_rfl) (by kernel_rfl) (by kernel_rfl) (fun _ _ _ h => h) (by rfl) (by assumption) ?rA_9
                    simp only [Act.put, List.setIfInBounds_toArray, List.set_cons_zero, List.set_cons_succ]
                    refine pass_over 9 57 rfl rfl (by kernel_rfl) (by kernel_rfl) (by kernel_rfl) (fun _ _ _ h => h) (by rfl) (by assumption) ?rA_10
                    simp only [Act.put, List.setIfInBounds_toArray, List.set_cons_zero, List.set_cons_succ]
                    refine pass_over 10 58 rfl rfl (by kernel_rfl) (by kernel_rfl) (by kernel_rfl) (fun _ _ _ h => h) (by rfl) (by assumption) ?rA_11
                    simp only [Act.put, List.setIfInBounds_toArray, List.set_cons_zero, List.set_cons_succ]
                    refine pass_over 11 59 rfl rfl (by kernel_rfl) (by kernel_rfl) (by kernel_rfl) (fun _ _ _ h => h) (by rfl) (by assumption) ?rA_12
                    simp only [Act.put, List.setIfInBounds_toArray, List.set_cons_zero, List.set_cons_succ]
                    refine pass_over 12 60 rfl rfl (by kernel_rfl) (by kernel_rfl) (by kernel_rfl) (fun _ _ _ h => h) (by rfl) (by assumption) ?rA_13
                    simp only [Act.put, List.setIfInBounds_toArray, List.set_cons_zero, List.set_cons_succ]
                    refine pass_over 13 61 rfl rfl (by kernel_rfl) (by kernel_rfl) (by kernel_rfl) (fun _ _ _ h => h) (by rfl) (by assumption) ?rA_14
                    simp only [Act.put, List.setIfInBounds_toArray, List.set_cons_zero, List.set_cons_succ]
                    refine pass_over 14 62 rfl rfl (by kernel_rfl) (by kernel_rfl) (by kernel_rfl) (fun _ _ _ h => h) (by rfl) (by assumption) ?rA_15
                    simp only [Act.put, List.setIfInBounds_toArray, List.set_cons_zero, List.set_cons_succ]
                    refine pass_over 15 63 rfl rfl (by kernel_rfl) (by kernel_rfl) (by kernel_rfl) (fun _ _ _ h => h) (by rfl) (by assumption) ?rA_16
                    simp only [Act.put, List.setIfInBounds_toArray, List.set_cons_zero, List.set_cons_succ]
                    refine pass_over 16 64 rfl rfl (by kernel_rfl) (by kernel_rfl) (by kernel_rfl) (fun _ _ _ h => h) (by rfl) (by assumption) ?rA_17
                    simp only [Act.put, List.setIfInBounds_toArray, List.set_cons_zero, List.set_cons_succ]
                    refine pass_over 17 65 rfl rfl (by kernel_rfl) (by kernel_rfl) (by kernel_rfl) (fun _ _ _ h => h) (by rfl) (by assumption) ?rA_18
                    simp only [Act.put, List.setIfInBounds_toArray, List.set_cons_zero, List.set_cons_succ]
                    refine take_first 18 66 (v := ?vA_19) rfl rfl (by kernel_rfl) (by kernel_rfl) (by kernel_rfl) (fun _ _ _ h => h) (by rfl) ?yA_19 (by assumption) ?rA_19
                    case yA_19 => (intro w hSw; (try dsimp only at hSw); go_simp; (try with_reducible rfl))
                    simp only [Act.put, List.setIfInBounds_toArray, List.set_cons_zero, List.set_cons_succ]
                    refine wpAnyH_done (by kernel_rfl) ?eA _
                    go_wp2
                    go_ret
                    exact ⟨ret_bool HH.out.symm, HW.out.trans (Below.mono (by assumption) (Nat.le_of_lt hz0))⟩
                  · have hok' : wrtB y.key y.del y.val = true := hok
                    rcases hh : hasB x.locks y.key
                    · have HH := Lib.hid (noteS_write hx ((lwB_has (locks := x.locks) hok).trans hh))
                      clear hx hok
                      go_wp2
                      go_region_held3 (fun w' => w'.cell? ⟨w.heap.size, 2, none⟩ = some (.slice Au x.locks.length cu) ∧ w'.cell? ⟨w.heap.size, 3, none⟩ = some (.slice (some ⟨b, off, none⟩) x.writes.length cv) ∧ w'.cell? ⟨b, off + k * 3, none⟩ = some (.string y.key) ∧ w'.cell? ⟨b, off + k * 3 + 1, none⟩ = some (.bool y.del) ∧ w'.cell? ⟨b, off + k * 3 + 2, none⟩ = some (.slice Ay ny cy))
                        (first | exact HS.out _ hb0 | exact HS.out _ (by assumption))
                        (first
                          | (go_at_call 107; refine (specWrtOk_any _ _ _ _ _ hs (HI.out _ hb0)).mono ?_; rintro e w1 ⟨rfl, hb1⟩; have hq := belowNext hb0 hb1; clear hb1)
                          | (go_at_call 75; refine (l2Has_any _ _ _ _ _ (HL.out _ hq)).mono ?_; rintro e w2 ⟨rfl, rfl⟩))
                      go_wp2
                      go_ret
                      exact ⟨ret_bool HH.out.symm, HW.out.trans (Below.mono (by assumption) (Nat.le_of_lt hz0))⟩
                    · have HM := Lib.hid (hm.step hx ((lwB_has (locks := x.locks) hok).trans hh))
                      clear hx hok
                      go_wp2
                      go_region_held3 (fun w' => w'.cell? ⟨w.heap.size, 2, none⟩ = some (.slice Au x.locks.length cu) ∧ w'.cell? ⟨w.heap.size, 3, none⟩ = some (.slice (some ⟨b, off, none⟩) x.writes.length cv) ∧ w'.cell? ⟨b, off + k * 3, none⟩ = some (.string y.key) ∧ w'.cell? ⟨b, off + k * 3 + 1, none⟩ = some (.bool y.del) ∧ w'.cell? ⟨b, off + k * 3 + 2, none⟩ = some (.slice Ay ny cy))
                        (first | exact HS.out _ hb0 | exact HS.out _ (by assumption))
                        (first
                          | (go_at_call 107; refine (specWrtOk_any _ _ _ _ _ hs (HI.out _ hb0)).mono ?_; rintro e w1 ⟨rfl, hb1⟩; have hq := belowNext hb0 hb1; clear hb1)
                          | (go_at_call 75; refine (l2Has_any _ _ _ _ _ (HL.out _ hq)).mono ?_; rintro e w2 ⟨rfl, rfl⟩))
                      go_wp2
                      go_roundw
                      case rel => exact ⟨k + 1, by omega, by go_num, HM.out, by assumption⟩
                      case measure => simp [intOf]; omega
                · have HA2 : Hid (AllTo (lwB x.locks) x.writes x.writes.length) := Lib.hid ((show k = x.writes.length by omega) ▸ hm)
                  have HN := Lib.hid (HW.out.trans (hb.mono (Nat.le_of_lt hz0)))
                  clear hm hb
                  by_cases h1 : x.kind = 1
                  · have HH := Lib.hid (noteS_one htx h1 hl1' hl2' HA.out HA2.out)
                    have hb1 : (x.kind == 1) = true := by simp [h1]
                    clear h1
                    go_wp2
                    go_ret
                    exact ⟨ret_bool HH.out.symm, HN.out⟩
                  · have HH := Lib.hid (noteS_rest htx hki h1)
                    have hb1 : (x.kind == 1) = false := by simp [h1]
                    clear h1
                    go_wp2
                    go_ret
                    exact ⟨ret_bool HH.out.symm, HN.out⟩

end Go.Proofs.Ytkamlibfcakblaa

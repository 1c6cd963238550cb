/- The walk of FnExactStoDo. -/
import Derived.Test.YtgekggoenibnmaaStoDoI
import Derived.Test.YtgekggoenibnmaaMStoStore
import Derived.Test.YtgekggoenibnmaaMStoWrite
import Derived.Test.YtgekggoenibnmaaMMarkWt
import Derived.Test.YtgekggoenibnmaaMDrawWrts
namespace Go.Proofs.Ytgekggoenibnmaa
open Go.RowKit

theorem fine_wt {its : List Item} (h : Fine its) : wtL itSh.wt its ≤ 7 * its.length := by
  induction its with
  | nil => simp [wtL]
  | cons x l ih =>
    have h1 := h x (List.mem_cons_self ..)
    have h2 := ih fun y hy => h y (List.mem_cons_of_mem _ hy)
    have hw : itSh.wt x = x.key.size + intsSh.wt x.val := rfl
    have hi := ints_wt x.val
    simp only [wtL, List.length_cons]
    omega
set_option maxRecDepth 100000 in
theorem markStoStore_sh (w : World) (S : Nat → Prop) (v : Value) (xs : List Item) (hv : itSh.Own 62 w S v xs) (k : Int) (hl : itsSh.wt xs ≤ 1048576) (h0 : 1 ≤ k) (h1 : k + 16 * (itsSh.wt xs : Int) ≤ 1000000000000000) :
    Calls Try.prog 30 #[.agg #[v], .int .i64 k] w (MarkedSl itSh 62 S v xs k w) := by
  obtain ⟨A, c, rfl, -, -⟩ := hv.row.form
  have HV := Lib.hid (hv.below (belowOne w (.cells #[.slice A xs.length c] 40)))
  clear hv
  go_enter Try.func30, Try.ntmps30
  go_wp2_with fail
  refine (markStoItemS_sh _ S _ xs HV.out k hl h0 h1).mono ?_
  rintro e w1 ⟨ys, rfl, hy1, hy2, hy3, hy4, hy5⟩
  have HF := Lib.hid (And.intro hy1 (And.intro hy2 (And.intro hy3 (And.intro hy4 hy5))))
  clear hy1 hy2 hy3 hy4 hy5
  go_wp2
  go_ret
  obtain ⟨hy1, hy2, hy3, hy4, hy5⟩ := HF.out
  exact ⟨ys, rfl, hy1, hy2, hy3, hy4, (Outs.of_below (belowOne w _)).trans hy5⟩
set_option maxRecDepth 100000 in
theorem heldStoStore_sh (w : World) (v : Value) (xs : List Item) (hv : itSh.Row w w.heap.size v xs) (k : Int) (hl : itsSh.wt xs ≤ 1048576) (h0 : 1 ≤ k) (h1 : k + 16 * (itsSh.wt xs : Int) ≤ 1000000000000000) (hm : mkdL itSh.cnt itSh.mkd k xs) :
    Calls Try.prog 32 #[.agg #[v], .int .i64 k] w fun e w' => e = .returned (.int .i64 (k + cntL itSh.cnt xs)) ∧ Below w.heap.size w w' := by
  obtain ⟨A, c, rfl, -, -⟩ := hv.form
  have HV := Lib.hid ((hv.alloc (Nat.le_refl _) (.cells #[.slice A xs.length c] 40)).more (B' := (w.alloc (.cells #[.slice A xs.length c] 40)).heap.size) (by simp))
  have HM := Lib.hid hm
  have hcn : (0 : Int) ≤ k + cntL itSh.cnt xs := by omega
  clear hv hm
  go_enter Try.func32, Try.ntmps32
  go_wp2_with fail
  refine (heldStoItemS_sh _ _ xs HV.out k hl h0 h1 HM.out).mono ?_
  rintro e w1 ⟨rfl, hb⟩
  have HB := Lib.hid (belowNext (belowOne w (.cells #[.slice A xs.length c] 40)) hb)
  clear hb
  go_wp2
  go_ret
  exact ⟨rfl, HB.out⟩

/-- The blocks that the law itself marks. -/
def three (a b c d e f : Nat) (q : Nat) : Prop := (a ≤ q ∧ q < b) ∨ (c ≤ q ∧ q < d) ∨ (e ≤ q ∧ q < f)

set_option maxRecDepth 100000 in
set_option maxHeartbeats 4000000 in
theorem exStoDo_any (w : World) (v : Value) (its : List Item) (hv : Items w w.heap.size v its) (lv : Value) (ws : List Wr) (hw : wrSh.Row w w.heap.size lv ws) :
    Calls Try.prog 5 #[.agg #[v], lv] w fun e w' => e = .returned (.bool true) ∧ Below w.heap.size w w' := by
  obtain ⟨A, c, rfl, hc2, hc1⟩ := hv.form
  obtain ⟨A2, c2, rfl, hd2, hd1⟩ := hw.form
  have HX := Lib.hid (Held.new w #[.slice A its.length c] 34)
  have HB := Lib.hid (belowOne w (.cells #[.slice A its.length c] 34))
  have HV := Lib.hid fun W (h : Below w.heap.size w W) => sto_rel (x := ⟨its⟩).2 ⟨_, rfl, ((items_row.2 hv).below h).more h.size⟩
  have HW := Lib.hid fun W (h : Below w.heap.size w W) => (hw.below h).more h.size
  clear hv hw hc2 hc1 hd2 hd1
  go_enter Try.func5, Try.ntmps5
  by_cases hq1 : (1048576 : Int) < (stoSh.wt ⟨its⟩ : Int)
  · have hl := less_no hq1
    go_wp2_with fail
    refine (szStoStore_sh1 _ [_] ⟨its⟩ (HV.out _ HB.out) _ (by omega) (by omega)).mono ?_
    rintro e w1 ⟨rfl, hb⟩
    rw [hl]
    have HB1 := Lib.hid (belowNext HB.out hb)
    clear hb
    go_wp2
    go_ret
    exact ⟨rfl, HB1.out⟩
  have hl := less_yes (show (stoSh.wt ⟨its⟩ : Int) ≤ 1048576 by omega)
  have hw1 : stoSh.wt ⟨its⟩ ≤ 1048576 := by omega
  have hw1' : itsSh.wt its ≤ 1048576 := hw1
  go_wp2_with fail
  refine (szStoStore_sh1 _ [_] ⟨its⟩ (HV.out _ HB.out) _ (by omega) (by omega)).mono ?_
  rintro e w1 ⟨rfl, hb⟩
  rw [hl]
  replace HB := Lib.hid (belowNext HB.out hb)
  replace HX := Lib.hid (HX.out.below hb HX.out.1)
  obtain ⟨r1, hr1⟩ : ∃ r1 : Int, 1048576 - (stoSh.wt ⟨its⟩ : Int) = r1 := ⟨_, rfl⟩
  have hr0 : 0 ≤ r1 ∧ r1 ≤ 1048576 := by omega
  rw [hr1]
  clear hb hl hr1 hq1
  by_cases hq2 : r1 < (wrsSh.wt ws : Int)
  · have hl := less_no hq2
    go_wp2_with fail
    refine (szStoWriteS_sh _ _ ws (HW.out _ HB.out) _ (by omega) (by omega)).mono ?_
    rintro e w2 ⟨rfl, hb⟩
    rw [hl]
    have HB1 := Lib.hid (belowNext HB.out hb)
    clear hb
    go_wp2
    go_ret
    exact ⟨rfl, HB1.out⟩
  have hl := less_yes (show (wrsSh.wt ws : Int) ≤ r1 by omega)
  have hw2 : wrsSh.wt ws ≤ 1048576 := by omega
  go_wp2_with fail
  refine (szStoWriteS_sh _ _ ws (HW.out _ HB.out) _ (by omega) (by omega)).mono ?_
  rintro e w2 ⟨rfl, hb⟩
  rw [hl]
  have hr2 : 0 ≤ r1 - (wrsSh.wt ws : Int) := by omega
  replace HB := Lib.hid (belowNext HB.out hb)
  replace HX := Lib.hid (HX.out.below hb HX.out.1)
  clear hb hl hq2
  -- w0
  have c0 := HX.out.of 0 _ rfl
  go_wp2_with fail
  refine (toStoStore_sh1 _ [_] ⟨its⟩ (HV.out _ HB.out) hw1).mono ?_
  rintro e w3 ⟨cs3, rfl, hp3, hb3⟩
  obtain ⟨u3, rfl, ho3⟩ := sto_own.1 hp3
  obtain ⟨A3, c3, hf3, -, -⟩ := ho3.row.form
  subst hf3
  have HO3 := Lib.hid ho3
  replace HB := Lib.hid (belowNext HB.out hb3)
  replace HX := Lib.hid (HX.out.below hb3 HX.out.1)
  clear ho3 hb3 c0
  go_wp2_with fail
  refine (toStoWriteS_sh _ _ ws (HW.out _ HB.out) hw2).mono ?_
  rintro e w4 ⟨u4, rfl, ho4, hb4⟩
  replace HO3 := Lib.hid (HO3.out.below hb4)
  have HO4 := Lib.hid ho4.row
  replace HB := Lib.hid (belowNext HB.out hb4)
  replace HX := Lib.hid (HX.out.below hb4 HX.out.1)
  clear ho4 hb4
  obtain ⟨R, hR⟩ : ∃ R, stoDo its ws = R := ⟨_, rfl⟩
  have hRf := stoDo_fine its ws
  rw [hR] at hRf
  have HRf := Lib.hid hRf
  have HR := Lib.hid hR
  have hRw : itsSh.wt R ≤ 280 := by have h1 := fine_wt hRf.2; have h2 := hRf.1; have h3 : itsSh.wt R = wtL itSh.wt R := rfl; omega
  clear hR hRf
  go_wp2_with fail
  refine (specStoDo_any _ _ _ its ws (items_row.1 HO3.out.row) (wrts_row.1 HO4.out)).mono ?_
  rintro e w5 ⟨u5, rfl, ho5, hb5⟩
  rw [HR.out] at ho5
  obtain ⟨A5, c5, hf5, -, -⟩ := ho5.items.form
  subst hf5
  have HO5 := Lib.hid (items_row.2 ho5.items)
  replace HB := Lib.hid (belowNext HB.out hb5)
  replace HX := Lib.hid (HX.out.below hb5 HX.out.1)
  clear ho5 hb5 HO3 HO4
  replace HX := Lib.hid (HX.out.after (.cells #[.slice A5 R.length c5] 40))
  have HY := Lib.hid (Held.new w5 #[.slice A5 R.length c5] 40)
  replace HB := Lib.hid (HB.out.alloc HB.out.size (.cells #[.slice A5 R.length c5] 40))
  have HL := Lib.hid (belowOne w5 (.cells #[.slice A5 R.length c5] 40))
  have c0 := HX.out.of 0 _ rfl
  have HA5 := Lib.hid (show w.heap.size < w5.heap.size + 1 by have := HX.out.1; rw [allocSize] at this; exact this)
  -- x0
  go_wp2_with fail
  refine (toStoStore_sh1 _ [_] ⟨its⟩ (HV.out _ HB.out) hw1).mono ?_
  rintro e w6 ⟨cs6, rfl, hp6, hb6⟩
  obtain ⟨u6, rfl, ho6⟩ := sto_own.1 hp6
  obtain ⟨A6, c6, hf6, -, -⟩ := ho6.row.form
  subst hf6
  rw [allocSize] at ho6
  have HZ6 := Lib.hid (show w5.heap.size + 1 ≤ w6.heap.size by have := hb6.size; rw [allocSize] at this; exact this)
  replace HB := Lib.hid ((belowNext HB.out hb6).alloc (belowNext HB.out hb6).size (.cells #[.slice A6 its.length c6] 40))
  replace HL := Lib.hid ((belowNext HL.out hb6).alloc (belowNext HL.out hb6).size (.cells #[.slice A6 its.length c6] 40))
  replace HX := Lib.hid ((HX.out.below hb6 HX.out.1).after (.cells #[.slice A6 its.length c6] 40))
  replace HY := Lib.hid ((HY.out.below hb6 HY.out.1).after (.cells #[.slice A6 its.length c6] 40))
  have HZ := Lib.hid (Held.new w6 #[.slice A6 its.length c6] 40)
  have HX0 := Lib.hid (ho6.below (belowOne w6 (.cells #[.slice A6 its.length c6] 40)))
  clear ho6 hb6 c0
  -- x1
  go_wp2_with fail
  refine (toStoWriteS_sh _ _ ws (HW.out _ HB.out) hw2).mono ?_
  rintro e w7 ⟨u7, rfl, ho7, hb7⟩
  rw [allocSize] at ho7
  have HZ7 := Lib.hid (show w6.heap.size + 1 ≤ w7.heap.size by have := hb7.size; rw [allocSize] at this; exact this)
  replace HB := Lib.hid (belowNext HB.out hb7)
  replace HL := Lib.hid (belowNext HL.out hb7)
  replace HX := Lib.hid (HX.out.below hb7 HX.out.1)
  replace HY := Lib.hid (HY.out.below hb7 HY.out.1)
  replace HZ := Lib.hid (HZ.out.below hb7 HZ.out.1)
  replace HX0 := Lib.hid (HX0.out.below hb7)
  have HX1 := Lib.hid ho7
  clear ho7 hb7
  have z0 := HZ.out.of 0 _ rfl
  -- g0
  go_wp2_with fail
  refine (implStoDo_any _ _ _ its ws (items_row.1 HX0.out.row) (wrts_row.1 HX1.out.row)).mono ?_
  rintro e w8 ⟨u8, rfl, ho8, hb8⟩
  rw [HR.out] at ho8
  obtain ⟨A8, c8, hf8, -, -⟩ := ho8.row.form
  subst hf8
  have HZ8 := Lib.hid hb8.size
  replace HB := Lib.hid ((belowNext HB.out hb8).alloc (belowNext HB.out hb8).size (.cells #[.slice A8 R.length c8] 40))
  replace HL := Lib.hid ((belowNext HL.out hb8).alloc (belowNext HL.out hb8).size (.cells #[.slice A8 R.length c8] 40))
  replace HX := Lib.hid ((HX.out.below hb8 HX.out.1).after (.cells #[.slice A8 R.length c8] 40))
  replace HY := Lib.hid ((HY.out.below hb8 HY.out.1).after (.cells #[.slice A8 R.length c8] 40))
  replace HZ := Lib.hid ((HZ.out.below hb8 HZ.out.1).after (.cells #[.slice A8 R.length c8] 40))
  have HG := Lib.hid (Held.new w8 #[.slice A8 R.length c8] 40)
  replace HX0 := Lib.hid ((HX0.out.below hb8).below (belowOne w8 (.cells #[.slice A8 R.length c8] 40)))
  replace HX1 := Lib.hid ((HX1.out.below hb8).below (belowOne w8 (.cells #[.slice A8 R.length c8] 40)))
  have HG0 := Lib.hid (ho8.below (belowOne w8 (.cells #[.slice A8 R.length c8] 40)))
  clear ho8 hb8 z0
  -- what stands from here on
  have KC := Lib.hid fun W (h : Outs (three (w5.heap.size + 1) w6.heap.size (w6.heap.size + 1) w7.heap.size w7.heap.size w8.heap.size) (w8.alloc (.cells #[.slice A8 R.length c8] 40)) W) =>
    And.intro ((HX.out.outs h (by unfold three; have := HA5.out; have := HZ6.out; have := HZ7.out; omega)).of 0 _ rfl) (And.intro ((HY.out.outs h (by unfold three; have := HZ6.out; have := HZ7.out; omega)).of 0 _ rfl) (And.intro ((HZ.out.outs h (by unfold three; have := HZ7.out; omega)).of 0 _ rfl) ((HG.out.outs h (by unfold three; have := HZ8.out; have := HZ7.out; omega)).of 0 _ rfl)))
  have KB := Lib.hid fun W (h : Outs (three (w5.heap.size + 1) w6.heap.size (w6.heap.size + 1) w7.heap.size w7.heap.size w8.heap.size) (w8.alloc (.cells #[.slice A8 R.length c8] 40)) W) =>
    HB.out.trans (h.below (B := w.heap.size) HB.out.size (fun b hb => by unfold three at hb; have := HA5.out; have := HZ6.out; have := HZ7.out; omega))
  have KR := Lib.hid fun W (h : Outs (three (w5.heap.size + 1) w6.heap.size (w6.heap.size + 1) w7.heap.size w7.heap.size w8.heap.size) (w8.alloc (.cells #[.slice A8 R.length c8] 40)) W) =>
    sto_rel (x := ⟨R⟩).2 ⟨_, rfl, (HO5.out.below (HL.out.trans (h.below (B := w5.heap.size) HL.out.size (fun b hb => by unfold three at hb; have := HZ6.out; have := HZ7.out; omega)))).more (HL.out.trans (h.below (B := w5.heap.size) HL.out.size (fun b hb => by unfold three at hb; have := HZ6.out; have := HZ7.out; omega))).size⟩
  have HQ := Lib.hid (Outs.refl (three (w5.heap.size + 1) w6.heap.size (w6.heap.size + 1) w7.heap.size w7.heap.size w8.heap.size) (w8.alloc (.cells #[.slice A8 R.length c8] 40)))
  clear HX HY HZ HG HB HL HO5
  generalize hT : three (w5.heap.size + 1) w6.heap.size (w6.heap.size + 1) w7.heap.size w7.heap.size w8.heap.size = T at *
  have HT := Lib.hid hT
  clear hT
  obtain ⟨d0, d6, d7, d9⟩ := KC.out _ HQ.out
  go_wp2_with fail
  refine (eqStoStore_alike _ [_] [_] ⟨R⟩ (sto_rel.2 ⟨_, rfl, HG0.out.row⟩) (KR.out _ HQ.out)).mono ?_
  rintro e w9 ⟨rfl, hb⟩
  replace HQ := Lib.hid (HQ.out.trans (Outs.of_below hb))
  replace HX0 := Lib.hid (HX0.out.below hb)
  replace HX1 := Lib.hid (HX1.out.below hb)
  replace HG0 := Lib.hid (HG0.out.below hb)
  clear hb d0 d6 d7 d9
  have k0 : w9.drew.cell? ⟨w6.heap.size, 0, none⟩ = some (.slice A6 its.length c6) ∧ w9.drew.cell? ⟨w.heap.size, 0, none⟩ = some (.slice A its.length c) := And.intro (KC.out _ HQ.out).2.2.1 (KC.out _ HQ.out).1
  go_wp2
  refine wp_region_held_drew (S := (fun w' => w'.cell? ⟨w6.heap.size, 0, none⟩ = some (.slice A6 its.length c6) ∧ w'.cell? ⟨w.heap.size, 0, none⟩ = some (.slice A its.length c))) (by kernel_rfl) ?hSr (fun hHeldr => ?str)
  case hSr => (first | (dsimp only; (first | with_reducible exact k2 | with_reducible exact k1 | exact k0)) | (first | with_reducible exact k2 | with_reducible exact k1 | exact k0))
  refine take_first 0 40 (v := ?vr_1) rfl rfl (by kernel_rfl) (by kernel_rfl) (by kernel_rfl) (fun _ _ _ h => h) (by rfl) ?yr_1 (by assumption) ?rr_1
  case yr_1 => (intro w hSw; (try dsimp only at hSw); go_simp; (try with_reducible rfl))
  simp only [Act.put, List.setIfInBounds_toArray, List.set_cons_zero, List.set_cons_succ]
  refine take_first 1 41 (v := ?vr_2) rfl rfl (by kernel_rfl) (by kernel_rfl) (by kernel_rfl) (fun _ _ _ h => h) (by rfl) ?yr_2 (by assumption) ?rr_2
  case yr_2 => (intro w hSw; (try dsimp only at hSw); go_simp; (try with_reducible rfl))
  simp only [Act.put, List.setIfInBounds_toArray, List.set_cons_zero, List.set_cons_succ]
  refine wpAnyH_ready (rs := [2]) (by kernel_rfl) (by simp) ?_
  refine AllReadyH.cons (o := _) rfl (fun Kr_3 hKr_3 => ?cr_3) ?mr_3
  case mr_3 => exact AllReadyH.nil
  go_simp
  refine (toStoStore_sh1 w9.drew [_] ⟨its⟩ (HV.out _ (KB.out _ HQ.out.drew)) hw1).mono ?_; rintro e w10 ⟨cs10, rfl, hp10, hb10⟩; obtain ⟨u10, rfl, ho10⟩ := sto_own.1 hp10; obtain ⟨A10, c10, hf10, -, -⟩ := ho10.row.form; subst hf10; have HP10 := Lib.hid ho10.row; have HQ10 := Lib.hid (HQ.out.drew.trans (Outs.of_below hb10)); have HX10 := Lib.hid (Sh.Own.below (w := w9.drew) HX0.out hb10); have HY10 := Lib.hid (Sh.Own.below (w := w9.drew) HX1.out hb10); have HG10 := Lib.hid (Sh.Own.below (w := w9.drew) HG0.out hb10); have k1 := And.intro (KC.out _ HQ10.out).2.2.1 (KC.out _ HQ10.out).1; clear hb10 ho10
  go_wp2_with fail
  refine hKr_3.out _ _ ?kr_3 (fun hHeldr_3 => ?dr_3)
  case kr_3 => (first | (dsimp only; (first | with_reducible exact k2 | with_reducible exact k1 | exact k0)) | (first | with_reducible exact k2 | with_reducible exact k1 | exact k0))
  clear hKr_3 Kr_3
  refine wpAnyH_ready (rs := [3]) (by kernel_rfl) (by simp) ?_
  refine AllReadyH.cons (o := _) rfl (fun Kr_4 hKr_4 => ?cr_4) ?mr_4
  case mr_4 => exact AllReadyH.nil
  go_simp
  refine (eqStoStore_alike _ [_] [_] ⟨its⟩ (sto_rel.2 ⟨_, rfl, HX10.out.row⟩) (sto_rel.2 ⟨_, rfl, HP10.out⟩)).mono ?_; rintro e w11 ⟨rfl, hb11⟩; have HQ11 := Lib.hid (HQ10.out.trans (Outs.of_below hb11)); have HX11 := Lib.hid (HX10.out.below hb11); have HY11 := Lib.hid (HY10.out.below hb11); have HG11 := Lib.hid (HG10.out.below hb11); have k2 := And.intro (KC.out _ HQ11.out).2.2.1 (KC.out _ HQ11.out).1; clear hb11
  go_wp2_with fail
  refine hKr_4.out _ _ ?kr_4 (fun hHeldr_4 => ?dr_4)
  case kr_4 => (first | (dsimp only; (first | with_reducible exact k2 | with_reducible exact k1 | exact k0)) | (first | with_reducible exact k2 | with_reducible exact k1 | exact k0))
  clear hKr_4 Kr_4
  refine take_first 4 44 (v := ?vr_5) rfl rfl (by kernel_rfl) (by kernel_rfl) (by kernel_rfl) (fun _ _ _ h => h) (by rfl) ?yr_5 (by assumption) ?rr_5
  case yr_5 => (intro w hSw; (try dsimp only at hSw); go_simp; (try with_reducible rfl))
  simp only [Act.put, List.setIfInBounds_toArray, List.set_cons_zero, List.set_cons_succ]
  refine wpAnyH_done (by kernel_rfl) ?er _
  clear k0 k1 k2 HQ HX0 HX1 HG0 HQ10 HX10 HY10 HG10 HP10
  go_wp2_with fail
  refine (toStoWriteS_sh _ _ ws (HW.out _ (KB.out _ HQ11.out)) hw2).mono ?_
  rintro e w12 ⟨u12, rfl, ho12, hb⟩
  have HP12 := Lib.hid ho12.row
  have HQ12 := Lib.hid (HQ11.out.trans (Outs.of_below hb))
  have HX12 := Lib.hid (HX11.out.below hb)
  have HY12 := Lib.hid (HY11.out.below hb)
  have HG12 := Lib.hid (HG11.out.below hb)
  clear ho12 hb HQ11 HX11 HY11 HG11
  go_wp2_with fail
  refine (eqStoWriteS_same _ _ _ ws HY12.out.row HP12.out).mono ?_
  rintro e w13 ⟨rfl, hb⟩
  have HQ13 := Lib.hid (HQ12.out.trans (Outs.of_below hb))
  have HX13 := Lib.hid (HX12.out.below hb)
  have HY13 := Lib.hid (HY12.out.below hb)
  have HG13 := Lib.hid (HG12.out.below hb)
  clear hb HQ12 HX12 HY12 HG12 HP12
  have z7 := (KC.out _ HQ13.out).2.2.1
  -- marks on the arguments
  have hcb : cntL itSh.cnt its ≤ 0 + 16 * itsSh.wt its := cntL_le itSh.cnt itSh.wt itSh.base (by decide) itSh.cntLe its
  have hcb2 : cntL wrSh.cnt ws ≤ 0 + 16 * wrsSh.wt ws := cntL_le wrSh.cnt wrSh.wt wrSh.base (by decide) wrSh.cntLe ws
  go_wp2_with fail
  refine (markStoStore_sh _ _ _ its HX13.out 1 hw1' (by omega) (by omega)).mono ?_
  rintro e w14 ⟨y14, rfl, -, -, -, -, ht⟩
  have HQ14 := Lib.hid (HQ13.out.trans (ht.mono fun b _ hb => by rw [← HT.out]; exact .inl hb))
  have HY14 := Lib.hid (HY13.out.keep fun b hb hlt => ht.block b hlt fun h => by have := hb.1; have := h.2; omega)
  have HG14 := Lib.hid (HG13.out.keep fun b hb hlt => ht.block b hlt fun h => by have := hb.1; have := h.2; have := HZ7.out; omega)
  clear ht HQ13 HX13 HY13 HG13 z7
  go_wp2_with fail
  refine (markStoWriteS_sh _ _ _ ws HY14.out _ hw2 (by omega) (by omega)).mono ?_
  rintro e w15 ⟨y15, rfl, -, -, -, -, ht⟩
  have HQ15 := Lib.hid (HQ14.out.trans (ht.mono fun b _ hb => by rw [← HT.out]; exact .inr (.inl hb)))
  have HG15 := Lib.hid (HG14.out.keep fun b hb hlt => ht.block b hlt fun h => by have := hb.1; have := h.2; omega)
  clear ht HQ14 HY14 HG14
  have z9 := (KC.out _ HQ15.out).2.2.2
  have z6 := (KC.out _ HQ15.out).2.1
  have hk15 : ¬ (1 + (cntL itSh.cnt its : Int) + (cntL wrSh.cnt ws : Int) < 0) := by omega
  go_wp2_with fail
  refine (eqStoStore_alike _ [_] [_] ⟨R⟩ (sto_rel.2 ⟨_, rfl, HG15.out.row⟩) (KR.out _ HQ15.out)).mono ?_
  rintro e w16 ⟨rfl, hb⟩
  have HQ16 := Lib.hid (HQ15.out.trans (Outs.of_below hb))
  have HG16 := Lib.hid (HG15.out.below hb)
  clear hb HQ15 HG15 z9 z6
  have z9 := (KC.out _ HQ16.out).2.2.2
  -- marks on the answer
  go_wp2_with fail
  refine (markStoStore_sh _ _ _ R HG16.out 1 (by omega) (by omega) (by omega)).mono ?_
  rintro e w17 ⟨ys, rfl, hyl, hyc, hym, hyo, ht⟩
  have HQ17 := Lib.hid (HQ16.out.trans (ht.mono fun b _ hb => by rw [← HT.out]; exact .inr (.inr hb)))
  have HG17 := Lib.hid hyo
  have HM := Lib.hid hym
  have HC := Lib.hid hyc
  have hRc : cntL itSh.cnt R ≤ 160 := by have h1 := its_cnt (its := R) (fun it hi => (HRf.out.2 it hi).2); have h2 := HRf.out.1; omega
  have hyw : itsSh.wt ys ≤ 1048576 := by
    have h := its_wt (M := 161) hym (by omega) (by rw [hyc]; omega)
    rw [hyc] at h
    have h2 : cntL itSh.cnt R * (161 + 3) ≤ 160 * 164 := Nat.mul_le_mul hRc (by omega)
    have h3 : itsSh.wt ys = wtL itSh.wt ys := rfl
    omega
  clear ht hyl hyc hym hyo HQ16 HG16 z9
  have z9 := (KC.out _ HQ17.out).2.2.2
  have hcn : ¬ (1 + (cntL itSh.cnt R : Int) < 0) := by omega
  go_wp2_with fail
  refine (heldStoStore_sh _ _ ys HG17.out.row 1 hyw (by omega) (by omega) HM.out).mono ?_
  rintro e w18 ⟨rfl, hb⟩
  rw [HC.out]
  have HQ18 := Lib.hid (HQ17.out.trans (Outs.of_below hb))
  have HG18 := Lib.hid (HG17.out.below hb)
  clear hb HQ17 HG17 z9
  -- another call
  have z2 := (KC.out _ HQ18.out).1
  go_wp2_with fail
  refine (toStoStore_sh1 _ [_] ⟨its⟩ (HV.out _ (KB.out _ HQ18.out)) hw1).mono ?_
  rintro e w19 ⟨cs19, rfl, hp19, hb⟩
  obtain ⟨u19, rfl, ho19⟩ := sto_own.1 hp19
  obtain ⟨A19, c19, hf19, -, -⟩ := ho19.row.form
  subst hf19
  have HP19 := Lib.hid ho19
  have HQ19 := Lib.hid (HQ18.out.trans (Outs.of_below hb))
  have HG19 := Lib.hid (HG18.out.below hb)
  clear ho19 hb HQ18 HG18 z2
  go_wp2_with fail
  refine (toStoWriteS_sh _ _ ws (HW.out _ (KB.out _ HQ19.out)) hw2).mono ?_
  rintro e w20 ⟨u20, rfl, ho20, hb⟩
  have HR20 := Lib.hid ho20.row
  have HP20 := Lib.hid (HP19.out.below hb)
  have HQ20 := Lib.hid (HQ19.out.trans (Outs.of_below hb))
  have HG20 := Lib.hid (HG19.out.below hb)
  clear ho20 hb HQ19 HG19 HP19
  go_wp2_with fail
  refine (implStoDo_any _ _ _ its ws (items_row.1 HP20.out.row) (wrts_row.1 HR20.out)).mono ?_
  rintro e w21 ⟨u21, rfl, ho21, hb⟩
  rw [HR.out] at ho21
  obtain ⟨A21, c21, hf21, -, -⟩ := ho21.row.form
  subst hf21
  have HQ21 := Lib.hid ((HQ20.out.trans (Outs.of_below hb)).trans (Outs.of_below (belowOne w21 (.cells #[.slice A21 R.length c21] 40))))
  have HG21 := Lib.hid ((HG20.out.below hb).below (belowOne w21 (.cells #[.slice A21 R.length c21] 40)))
  have HP21 := Lib.hid ((ho21.below (belowOne w21 (.cells #[.slice A21 R.length c21] 40))).row)
  clear ho21 hb HQ20 HG20 HP20 HR20
  have z6 := (KC.out _ HQ21.out).2.1
  go_wp2_with fail
  refine (eqStoStore_alike _ [_] [_] ⟨R⟩ (sto_rel.2 ⟨_, rfl, HP21.out⟩) (KR.out _ HQ21.out)).mono ?_
  rintro e w22 ⟨rfl, hb⟩
  have HQ22 := Lib.hid (HQ21.out.trans (Outs.of_below hb))
  have HG22 := Lib.hid (HG21.out.below hb)
  clear hb HQ21 HG21 HP21 z6
  have z9 := (KC.out _ HQ22.out).2.2.2
  go_wp2_with fail
  refine (heldStoStore_sh _ _ ys HG22.out.row 1 hyw (by omega) (by omega) HM.out).mono ?_
  rintro e w23 ⟨rfl, hb⟩
  rw [HC.out]
  have HQ23 := Lib.hid (HQ22.out.trans (Outs.of_below hb))
  clear hb HQ22 HG22 z9
  go_wp2
  go_ret
  exact ⟨rfl, KB.out _ HQ23.out⟩

end Go.Proofs.Ytgekggoenibnmaa

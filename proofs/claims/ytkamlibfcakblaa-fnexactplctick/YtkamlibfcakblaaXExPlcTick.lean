/- The walk of FnExactPlcTick. By exmark.py. -/
import Derived.Test.YtkamlibfcakblaaXMsgP
import Derived.Test.YtkamlibfcakblaaXMMsgMsg
import Derived.Test.YtkamlibfcakblaaXHLogDisk
import Derived.Test.YtkamlibfcakblaaXRegTake
import Derived.Deep.CutRange
import Derived.Deep.DeepCutAuto
namespace Go.Proofs.Ytkamlibfcakblaa
open Go.RowKit


set_option maxRecDepth 100000 in
set_option maxHeartbeats 8000000 in
theorem exPlcTick_any (w : World) (place : Int) (cs1 : List Value) (x : Disk) (h1 : diskSh.rel w w.heap.size cs1 x) :
    Calls Try.prog 11 #[.int .i64 place, .agg cs1.toArray] w fun e w' => e = .returned (.bool true) ∧ Below w.heap.size w w' := by
  have HV1 := Lib.hid fun W (hb : Below w.heap.size w W) => diskSh.rmore (diskSh.rbelow h1 hb) hb.size
  obtain ⟨ua1, rfl, hua1⟩ := disk_rel.1 h1
  obtain ⟨Aa1, ca1, rfl, -, -⟩ := hua1.form
  clear hua1
  clear h1
  have HB := Lib.hid (show Below w.heap.size w (w.alloc (.cells #[.slice Aa1 x.notes.length ca1, .int .i64 x.safe] 61)) from belowOne w (.cells #[.slice Aa1 x.notes.length ca1, .int .i64 x.safe] 61))
  have HX1 := Lib.hid (show Held (w.alloc (.cells #[.slice Aa1 x.notes.length ca1, .int .i64 x.safe] 61)) (w.heap.size) [.slice Aa1 x.notes.length ca1, .int .i64 x.safe] from (by have h := Held.new w #[.slice Aa1 x.notes.length ca1, .int .i64 x.safe] 61; exact h))
  have HZ0 := Lib.hid (allocSize w (.cells #[.slice Aa1 x.notes.length ca1, .int .i64 x.safe] 61))
  go_enter Try.func11, Try.ntmps11
  by_cases hq1 : (1048576 : Int) < (diskSh.wt x : Int)
  · have hl := less_no hq1
    go_wp2_with fail
    refine (szLogDisk_any _ _ x (HV1.out _ HB.out) _ (by omega) (by omega)).mono ?_
    rintro e w1 ⟨rfl, hb⟩
    rw [hl]
    have HB1 := Lib.hid (belowNext HB.out hb)
    clear hb
    go_wp2
    go_ret
    exact ⟨rfl, HB1.out⟩
  have hl := less_yes (show (diskSh.wt x : Int) ≤ 1048576 by omega)
  have hw1 : diskSh.wt x ≤ 1048576 := by omega
  go_wp2_with fail
  refine (szLogDisk_any _ _ x (HV1.out _ HB.out) _ (by omega) (by omega)).mono ?_
  rintro e w2 ⟨rfl, hb⟩
  rw [hl]
  replace HB := Lib.hid (belowNext HB.out hb)
  replace HX1 := Lib.hid (HX1.out.below hb HX1.out.1)
  have HZ3 := Lib.hid hb.size
  clear hb
  obtain ⟨r1, hr1⟩ : ∃ r : Int, 1048576 - (diskSh.wt x : Int) = r := ⟨_, rfl⟩
  have hr1' : 0 ≤ r1 ∧ r1 ≤ 1048576 := by omega
  rw [hr1]
  clear hl hr1 hq1
  obtain ⟨R, hR⟩ : ∃ R, tickD place x = R := ⟨_, rfl⟩
  have hsm := tickD_small (p := place) (x := x)
  rw [hR] at hsm
  obtain ⟨hRl, hRc, hRw⟩ := hsm
  have HSp := Lib.hid fun (W : World) (cs : List Value) (h : diskSh.rel W W.heap.size cs x) => (show Calls Try.prog 52 #[.int .i64 place, .agg cs.toArray] W (CopiedSl msgSh 126 R W) from by have hc := specPlcTick_any W place cs x h; rw [hR] at hc; exact hc)
  have HIm := Lib.hid fun (W : World) (cs : List Value) (h : diskSh.rel W W.heap.size cs x) => (show Calls Try.prog 53 #[.int .i64 place, .agg cs.toArray] W (CopiedSl msgSh 126 R W) from by have hc := implPlcTick_any W place cs x h; rw [hR] at hc; exact hc)
  clear hR
  have a1_0 := HX1.out.of 0 _ rfl
  have a1_1 := HX1.out.of 1 _ rfl
  go_wp2_with fail
  clear a1_0 a1_1
  refine (toLogDisk_any _ _ x (HV1.out _ HB.out) hw1).mono ?_
  rintro e w4 ⟨cs', rfl, ho, hb⟩
  obtain ⟨up5, rfl, hup5⟩ := disk_own.1 ho
  obtain ⟨Ap5, cp5, rfl, -, -⟩ := hup5.row.form
  clear hup5
  replace HB := Lib.hid (belowNext HB.out hb)
  replace HX1 := Lib.hid (HX1.out.below hb HX1.out.1)
  have HZ6 := Lib.hid hb.size
  clear hb
  have HP1 := Lib.hid (diskSh.orel ho)
  clear ho
  go_wp2_with fail
  refine (HSp.out _ _ HP1.out).mono ?_
  rintro e w7 ⟨v0, rfl, ho0, hb⟩
  clear HP1
  obtain ⟨Aw0, cw0, rfl, -, -⟩ := ho0.row.form
  replace HB := Lib.hid (belowNext HB.out hb)
  replace HX1 := Lib.hid (HX1.out.below hb HX1.out.1)
  have HZ8 := Lib.hid hb.size
  clear hb
  have HRlW0 := Lib.hid ho0.row
  clear ho0
  have a1_0 := HX1.out.of 0 _ rfl
  have a1_1 := HX1.out.of 1 _ rfl
  go_wp2_with fail
  clear a1_0 a1_1
  refine (toLogDisk_any _ _ x (HV1.out _ HB.out) hw1).mono ?_
  rintro e w9 ⟨cs', rfl, ho, hb⟩
  obtain ⟨ux1, rfl, hux1⟩ := disk_own.1 ho
  obtain ⟨Ax1, cx1, rfl, -, -⟩ := hux1.row.form
  clear hux1
  replace HB := Lib.hid (belowNext HB.out hb)
  replace HX1 := Lib.hid (HX1.out.below hb HX1.out.1)
  replace HRlW0 := Lib.hid (row_call HRlW0.out hb (by have z0 := HZ0.out; have z3 := HZ3.out; have z6 := HZ6.out; have z8 := HZ8.out; omega))
  have HZ10 := Lib.hid hb.size
  clear hb
  have HC1 := Lib.hid ho
  clear ho
  have hal := belowOne w9 (.cells #[.slice Ax1 x.notes.length cx1, .int .i64 x.safe] 25)
  replace HB := Lib.hid (belowNext HB.out hal)
  replace HX1 := Lib.hid (HX1.out.below hal HX1.out.1)
  replace HC1 := Lib.hid (own_call HC1.out hal)
  replace HRlW0 := Lib.hid (row_call HRlW0.out hal (by have z0 := HZ0.out; have z3 := HZ3.out; have z6 := HZ6.out; have z8 := HZ8.out; have z10 := HZ10.out; omega))
  have HZ11 := Lib.hid (allocSize w9 (.cells #[.slice Ax1 x.notes.length cx1, .int .i64 x.safe] 25))
  clear hal
  have HY1 := Lib.hid (Held.new w9 #[.slice Ax1 x.notes.length cx1, .int .i64 x.safe] 25)
  have a1_0 := HY1.out.of 0 _ rfl
  have a1_1 := HY1.out.of 1 _ rfl
  go_wp2_with fail
  clear a1_0 a1_1
  refine (HIm.out _ _ (diskSh.orel HC1.out)).mono ?_
  rintro e w12 ⟨v0, rfl, ho0, hb⟩
  obtain ⟨Ag0, cg0, rfl, -, -⟩ := ho0.row.form
  replace HB := Lib.hid (belowNext HB.out hb)
  replace HX1 := Lib.hid (HX1.out.below hb HX1.out.1)
  replace HY1 := Lib.hid (HY1.out.below hb HY1.out.1)
  replace HC1 := Lib.hid (own_call HC1.out hb)
  replace HRlW0 := Lib.hid (row_call HRlW0.out hb (by have z0 := HZ0.out; have z3 := HZ3.out; have z6 := HZ6.out; have z8 := HZ8.out; have z10 := HZ10.out; have z11 := HZ11.out; omega))
  have HZ13 := Lib.hid hb.size
  clear hb
  have HOwG0 := Lib.hid ho0
  clear ho0
  go_wp2_with fail
  refine (eqMsgMsgS_w _ w12.heap.size _ _ R HOwG0.out.row (HRlW0.out.more (by have z0 := HZ0.out; have z3 := HZ3.out; have z6 := HZ6.out; have z8 := HZ8.out; have z10 := HZ10.out; have z11 := HZ11.out; have z13 := HZ13.out; omega))).mono ?_
  rintro e w14 ⟨rfl, hb⟩
  replace HB := Lib.hid (belowNext HB.out hb)
  replace HX1 := Lib.hid (HX1.out.below hb HX1.out.1)
  replace HY1 := Lib.hid (HY1.out.below hb HY1.out.1)
  replace HC1 := Lib.hid (own_call HC1.out hb)
  replace HOwG0 := Lib.hid (own_sl_call HOwG0.out hb)
  replace HRlW0 := Lib.hid (row_call HRlW0.out hb (by have z0 := HZ0.out; have z3 := HZ3.out; have z6 := HZ6.out; have z8 := HZ8.out; have z10 := HZ10.out; have z11 := HZ11.out; have z13 := HZ13.out; omega))
  have HZ15 := Lib.hid hb.size
  clear hb
  go_wp2
  have k0_ : w14.drew.cell? ⟨w9.heap.size, 0, none⟩ = some (.slice Ax1 x.notes.length cx1) ∧ w14.drew.cell? ⟨w9.heap.size, 1, none⟩ = some (.int .i64 x.safe) ∧ w14.drew.cell? ⟨w.heap.size, 0, none⟩ = some (.slice Aa1 x.notes.length ca1) ∧ w14.drew.cell? ⟨w.heap.size, 1, none⟩ = some (.int .i64 x.safe) := (And.intro (HY1.out.of 0 _ rfl) (And.intro (HY1.out.of 1 _ rfl) (And.intro (HX1.out.of 0 _ rfl) (HX1.out.of 1 _ rfl))))
  refine wp_region_held_drew (S := (fun w' => w'.cell? ⟨w9.heap.size, 0, none⟩ = some (.slice Ax1 x.notes.length cx1) ∧ w'.cell? ⟨w9.heap.size, 1, none⟩ = some (.int .i64 x.safe) ∧ w'.cell? ⟨w.heap.size, 0, none⟩ = some (.slice Aa1 x.notes.length ca1) ∧ w'.cell? ⟨w.heap.size, 1, none⟩ = some (.int .i64 x.safe))) (by kernel_rfl) ?hSe1 (fun hHelde1 => ?ste1)
  case hSe1 => (first | (dsimp only; (exact k0_)) | (exact k0_))
  have hdr := (Below.refl w14.heap.size w14).drew
  replace HB := Lib.hid (belowNext HB.out hdr)
  replace HX1 := Lib.hid (HX1.out.below hdr HX1.out.1)
  replace HY1 := Lib.hid (HY1.out.below hdr HY1.out.1)
  replace HC1 := Lib.hid (own_call HC1.out hdr)
  replace HOwG0 := Lib.hid (own_sl_call HOwG0.out hdr)
  replace HRlW0 := Lib.hid (row_call HRlW0.out hdr (by have z0 := HZ0.out; have z3 := HZ3.out; have z6 := HZ6.out; have z8 := HZ8.out; have z10 := HZ10.out; have z11 := HZ11.out; have z13 := HZ13.out; have z15 := HZ15.out; omega))
  have HZ16 := Lib.hid hdr.size
  clear hdr
  refine take_first 0 31 (v := ?ve1_1) rfl rfl (by kernel_rfl) (by kernel_rfl) (by kernel_rfl) (fun _ _ _ h => h) (by rfl) ?ye1_1 (by assumption) ?re1_1
  case ye1_1 => (intro w hSw; (try dsimp only at hSw); go_simp; (try with_reducible rfl))
  simp only [Act.put, List.setIfInBounds_toArray, List.set_cons_zero, List.set_cons_succ]
  refine take_first 1 32 (v := ?ve1_2) rfl rfl (by kernel_rfl) (by kernel_rfl) (by kernel_rfl) (fun _ _ _ h => h) (by rfl) ?ye1_2 (by assumption) ?re1_2
  case ye1_2 => (intro w hSw; (try dsimp only at hSw); go_simp; (try with_reducible rfl))
  simp only [Act.put, List.setIfInBounds_toArray, List.set_cons_zero, List.set_cons_succ]
  refine wpAnyH_ready (rs := [2]) (by kernel_rfl) (by simp) ?_
  refine AllReadyH.cons (o := _) rfl (fun Ke1_3 hKe1_3 => ?ce1_3) ?me1_3
  case me1_3 => exact AllReadyH.nil
  go_simp
  refine (toLogDisk_any _ _ x (HV1.out _ HB.out) hw1).mono ?_
  rintro e w17 ⟨cs', rfl, ho, hb⟩
  obtain ⟨up17, rfl, hup17⟩ := disk_own.1 ho
  obtain ⟨Ap17, cp17, rfl, -, -⟩ := hup17.row.form
  clear hup17
  replace HB := Lib.hid (belowNext HB.out hb)
  replace HX1 := Lib.hid (HX1.out.below hb HX1.out.1)
  replace HY1 := Lib.hid (HY1.out.below hb HY1.out.1)
  replace HC1 := Lib.hid (own_call HC1.out hb)
  replace HOwG0 := Lib.hid (own_sl_call HOwG0.out hb)
  replace HRlW0 := Lib.hid (row_call HRlW0.out hb (by have z0 := HZ0.out; have z3 := HZ3.out; have z6 := HZ6.out; have z8 := HZ8.out; have z10 := HZ10.out; have z11 := HZ11.out; have z13 := HZ13.out; have z15 := HZ15.out; have z16 := HZ16.out; omega))
  have HZ18 := Lib.hid hb.size
  clear hb
  have HP := Lib.hid (diskSh.orel ho)
  clear ho
  have k19_ := (And.intro (HY1.out.of 0 _ rfl) (And.intro (HY1.out.of 1 _ rfl) (And.intro (HX1.out.of 0 _ rfl) (HX1.out.of 1 _ rfl))))
  go_wp2_with fail
  refine hKe1_3.out _ _ ?ke1_3 (fun hHelde1_3 => ?de1_3)
  case ke1_3 => (first | (dsimp only; (with_reducible exact k19_)) | (with_reducible exact k19_))
  clear hKe1_3 Ke1_3
  refine wpAnyH_ready (rs := [3]) (by kernel_rfl) (by simp) ?_
  refine AllReadyH.cons (o := _) rfl (fun Ke1_4 hKe1_4 => ?ce1_4) ?me1_4
  case me1_4 => exact AllReadyH.nil
  go_simp
  refine (eqLogDisk_same _ _ _ x (diskSh.orel HC1.out) HP.out).mono ?_
  rintro e w20 ⟨rfl, hb⟩
  clear HP
  replace HB := Lib.hid (belowNext HB.out hb)
  replace HX1 := Lib.hid (HX1.out.below hb HX1.out.1)
  replace HY1 := Lib.hid (HY1.out.below hb HY1.out.1)
  replace HC1 := Lib.hid (own_call HC1.out hb)
  replace HOwG0 := Lib.hid (own_sl_call HOwG0.out hb)
  replace HRlW0 := Lib.hid (row_call HRlW0.out hb (by have z0 := HZ0.out; have z3 := HZ3.out; have z6 := HZ6.out; have z8 := HZ8.out; have z10 := HZ10.out; have z11 := HZ11.out; have z13 := HZ13.out; have z15 := HZ15.out; have z16 := HZ16.out; have z18 := HZ18.out; omega))
  have HZ21 := Lib.hid hb.size
  clear hb
  have k22_ := (And.intro (HY1.out.of 0 _ rfl) (And.intro (HY1.out.of 1 _ rfl) (And.intro (HX1.out.of 0 _ rfl) (HX1.out.of 1 _ rfl))))
  go_wp2_with fail
  refine hKe1_4.out _ _ ?ke1_4 (fun hHelde1_4 => ?de1_4)
  case ke1_4 => (first | (dsimp only; (with_reducible exact k22_)) | (with_reducible exact k22_))
  clear hKe1_4 Ke1_4
  refine take_first 4 35 (v := ?ve1_5) rfl rfl (by kernel_rfl) (by kernel_rfl) (by kernel_rfl) (fun _ _ _ h => h) (by rfl) ?ye1_5 (by assumption) ?re1_5
  case ye1_5 => (intro w hSw; (try dsimp only at hSw); go_simp; (try with_reducible rfl))
  simp only [Act.put, List.setIfInBounds_toArray, List.set_cons_zero, List.set_cons_succ]
  refine wpAnyH_done (by kernel_rfl) ?ee1_6 _
  clear k0_ k19_ k22_
  have hcbx : dCnt x ≤ 16 * diskSh.wt x := by have h := cntL_le noteSh.cnt noteSh.wt noteSh.base (by decide) noteSh.cntLe x.notes; have e : diskSh.wt x = wtL noteSh.wt x.notes + 0 := rfl; unfold dCnt; omega
  have a1_0 := HY1.out.of 0 _ rfl
  have a1_1 := HY1.out.of 1 _ rfl
  go_wp2_with fail
  clear a1_0 a1_1
  refine (markLogDisk_r _ _ _ x HC1.out _ hw1 (by omega) (by omega)).mono ?_
  rintro e w23 ⟨y, rfl, -, -, -, ht⟩
  have HT := Lib.hid ht
  replace HB := Lib.hid (below_mark HB.out HT.out HB.out.size (fun b hb => by have z0 := HZ0.out; have z3 := HZ3.out; have z6 := HZ6.out; have z8 := HZ8.out; have z10 := HZ10.out; have z11 := HZ11.out; have z13 := HZ13.out; have z15 := HZ15.out; have z16 := HZ16.out; have z18 := HZ18.out; have z21 := HZ21.out; have h1 := hb.1; omega))
  replace HX1 := Lib.hid (HX1.out.outs HT.out (fun h => by have z0 := HZ0.out; have z3 := HZ3.out; have z6 := HZ6.out; have z8 := HZ8.out; have z10 := HZ10.out; have z11 := HZ11.out; have z13 := HZ13.out; have z15 := HZ15.out; have z16 := HZ16.out; have z18 := HZ18.out; have z21 := HZ21.out; have h1 := h.1; have h2 := h.2; omega))
  replace HY1 := Lib.hid (HY1.out.outs HT.out (fun h => by have z0 := HZ0.out; have z3 := HZ3.out; have z6 := HZ6.out; have z8 := HZ8.out; have z10 := HZ10.out; have z11 := HZ11.out; have z13 := HZ13.out; have z15 := HZ15.out; have z16 := HZ16.out; have z18 := HZ18.out; have z21 := HZ21.out; have h1 := h.1; have h2 := h.2; omega))
  replace HOwG0 := Lib.hid (own_sl_mark HOwG0.out HT.out (fun b hb h => by have z0 := HZ0.out; have z3 := HZ3.out; have z6 := HZ6.out; have z8 := HZ8.out; have z10 := HZ10.out; have z11 := HZ11.out; have z13 := HZ13.out; have z15 := HZ15.out; have z16 := HZ16.out; have z18 := HZ18.out; have z21 := HZ21.out; have h1 := hb.1; have h2 := hb.2; have h3 := h.1; have h4 := h.2; omega))
  replace HRlW0 := Lib.hid (row_mark HRlW0.out HT.out (by have z0 := HZ0.out; have z3 := HZ3.out; have z6 := HZ6.out; have z8 := HZ8.out; have z10 := HZ10.out; have z11 := HZ11.out; have z13 := HZ13.out; have z15 := HZ15.out; have z16 := HZ16.out; have z18 := HZ18.out; have z21 := HZ21.out; omega) (fun b hb => by have z0 := HZ0.out; have z3 := HZ3.out; have z6 := HZ6.out; have z8 := HZ8.out; have z10 := HZ10.out; have z11 := HZ11.out; have z13 := HZ13.out; have z15 := HZ15.out; have z16 := HZ16.out; have z18 := HZ18.out; have z21 := HZ21.out; have h1 := hb.1; omega))
  have HZ24 := Lib.hid HT.out.size
  clear ht HT
  clear HC1
  have hkn : ¬ (1 + (dCnt x : Int) < 0) := by omega
  go_wp2_with fail
  refine (eqMsgMsgS_w _ w23.heap.size _ _ R HOwG0.out.row (HRlW0.out.more (by have z0 := HZ0.out; have z3 := HZ3.out; have z6 := HZ6.out; have z8 := HZ8.out; have z10 := HZ10.out; have z11 := HZ11.out; have z13 := HZ13.out; have z15 := HZ15.out; have z16 := HZ16.out; have z18 := HZ18.out; have z21 := HZ21.out; have z24 := HZ24.out; omega))).mono ?_
  rintro e w25 ⟨rfl, hb⟩
  replace HB := Lib.hid (belowNext HB.out hb)
  replace HX1 := Lib.hid (HX1.out.below hb HX1.out.1)
  replace HY1 := Lib.hid (HY1.out.below hb HY1.out.1)
  replace HOwG0 := Lib.hid (own_sl_call HOwG0.out hb)
  replace HRlW0 := Lib.hid (row_call HRlW0.out hb (by have z0 := HZ0.out; have z3 := HZ3.out; have z6 := HZ6.out; have z8 := HZ8.out; have z10 := HZ10.out; have z11 := HZ11.out; have z13 := HZ13.out; have z15 := HZ15.out; have z16 := HZ16.out; have z18 := HZ18.out; have z21 := HZ21.out; have z24 := HZ24.out; omega))
  have HZ26 := Lib.hid hb.size
  clear hb
  go_wp2_with fail
  refine (markMsgMsgS_sh _ _ _ R HOwG0.out 1 (by omega) (by omega) (by omega)).mono ?_
  rintro e w27 ⟨y0, rfl, hyl, hyc, hym, hyo, ht⟩
  have HT := Lib.hid ht
  replace HB := Lib.hid (below_mark HB.out HT.out HB.out.size (fun b hb => by have z0 := HZ0.out; have z3 := HZ3.out; have z6 := HZ6.out; have z8 := HZ8.out; have z10 := HZ10.out; have z11 := HZ11.out; have z13 := HZ13.out; have z15 := HZ15.out; have z16 := HZ16.out; have z18 := HZ18.out; have z21 := HZ21.out; have z24 := HZ24.out; have z26 := HZ26.out; have h1 := hb.1; omega))
  replace HX1 := Lib.hid (HX1.out.outs HT.out (fun h => by have z0 := HZ0.out; have z3 := HZ3.out; have z6 := HZ6.out; have z8 := HZ8.out; have z10 := HZ10.out; have z11 := HZ11.out; have z13 := HZ13.out; have z15 := HZ15.out; have z16 := HZ16.out; have z18 := HZ18.out; have z21 := HZ21.out; have z24 := HZ24.out; have z26 := HZ26.out; have h1 := h.1; have h2 := h.2; omega))
  replace HY1 := Lib.hid (HY1.out.outs HT.out (fun h => by have z0 := HZ0.out; have z3 := HZ3.out; have z6 := HZ6.out; have z8 := HZ8.out; have z10 := HZ10.out; have z11 := HZ11.out; have z13 := HZ13.out; have z15 := HZ15.out; have z16 := HZ16.out; have z18 := HZ18.out; have z21 := HZ21.out; have z24 := HZ24.out; have z26 := HZ26.out; have h1 := h.1; have h2 := h.2; omega))
  replace HRlW0 := Lib.hid (row_mark HRlW0.out HT.out (by have z0 := HZ0.out; have z3 := HZ3.out; have z6 := HZ6.out; have z8 := HZ8.out; have z10 := HZ10.out; have z11 := HZ11.out; have z13 := HZ13.out; have z15 := HZ15.out; have z16 := HZ16.out; have z18 := HZ18.out; have z21 := HZ21.out; have z24 := HZ24.out; have z26 := HZ26.out; omega) (fun b hb => by have z0 := HZ0.out; have z3 := HZ3.out; have z6 := HZ6.out; have z8 := HZ8.out; have z10 := HZ10.out; have z11 := HZ11.out; have z13 := HZ13.out; have z15 := HZ15.out; have z16 := HZ16.out; have z18 := HZ18.out; have z21 := HZ21.out; have z24 := HZ24.out; have z26 := HZ26.out; have h1 := hb.1; omega))
  have HZ28 := Lib.hid HT.out.size
  replace HOwG0 := Lib.hid hyo
  have hyw0 : msgsSh.wt y0 ≤ 1048576 := msgs_marked hyl hym (by omega) hyc (by omega)
  have HM0 := Lib.hid hym
  have HCn0 := Lib.hid hyc
  clear ht HT hyo hym hyc hyl
  have hcn0 : ¬ (1 + (cntL msgSh.cnt R : Int) < 0) := by omega
  have hhc0 : cntL msgSh.cnt y0 = cntL msgSh.cnt R := HCn0.out
  go_wp2_with fail
  refine (heldMsgMsgS_sh _ _ y0 HOwG0.out.row 1 hyw0 (by omega) (by omega) HM0.out).mono ?_
  rintro e w29 ⟨rfl, hb⟩
  rw [hhc0]
  clear hhc0
  replace HB := Lib.hid (belowNext HB.out hb)
  replace HX1 := Lib.hid (HX1.out.below hb HX1.out.1)
  replace HY1 := Lib.hid (HY1.out.below hb HY1.out.1)
  replace HOwG0 := Lib.hid (own_sl_call HOwG0.out hb)
  replace HRlW0 := Lib.hid (row_call HRlW0.out hb (by have z0 := HZ0.out; have z3 := HZ3.out; have z6 := HZ6.out; have z8 := HZ8.out; have z10 := HZ10.out; have z11 := HZ11.out; have z13 := HZ13.out; have z15 := HZ15.out; have z16 := HZ16.out; have z18 := HZ18.out; have z21 := HZ21.out; have z24 := HZ24.out; have z26 := HZ26.out; have z28 := HZ28.out; omega))
  have HZ30 := Lib.hid hb.size
  clear hb
  have a1_0 := HX1.out.of 0 _ rfl
  have a1_1 := HX1.out.of 1 _ rfl
  go_wp2_with fail
  clear a1_0 a1_1
  refine (toLogDisk_any _ _ x (HV1.out _ HB.out) hw1).mono ?_
  rintro e w31 ⟨cs', rfl, ho, hb⟩
  obtain ⟨up32, rfl, hup32⟩ := disk_own.1 ho
  obtain ⟨Ap32, cp32, rfl, -, -⟩ := hup32.row.form
  clear hup32
  replace HB := Lib.hid (belowNext HB.out hb)
  replace HX1 := Lib.hid (HX1.out.below hb HX1.out.1)
  replace HY1 := Lib.hid (HY1.out.below hb HY1.out.1)
  replace HOwG0 := Lib.hid (own_sl_call HOwG0.out hb)
  replace HRlW0 := Lib.hid (row_call HRlW0.out hb (by have z0 := HZ0.out; have z3 := HZ3.out; have z6 := HZ6.out; have z8 := HZ8.out; have z10 := HZ10.out; have z11 := HZ11.out; have z13 := HZ13.out; have z15 := HZ15.out; have z16 := HZ16.out; have z18 := HZ18.out; have z21 := HZ21.out; have z24 := HZ24.out; have z26 := HZ26.out; have z28 := HZ28.out; have z30 := HZ30.out; omega))
  have HZ33 := Lib.hid hb.size
  clear hb
  have HP1 := Lib.hid (diskSh.orel ho)
  clear ho
  go_wp2_with fail
  refine (HIm.out _ _ HP1.out).mono ?_
  rintro e w34 ⟨v0, rfl, ho0, hb⟩
  clear HP1
  obtain ⟨Ah0, ch0, rfl, -, -⟩ := ho0.row.form
  replace HB := Lib.hid (belowNext HB.out hb)
  replace HX1 := Lib.hid (HX1.out.below hb HX1.out.1)
  replace HY1 := Lib.hid (HY1.out.below hb HY1.out.1)
  replace HOwG0 := Lib.hid (own_sl_call HOwG0.out hb)
  replace HRlW0 := Lib.hid (row_call HRlW0.out hb (by have z0 := HZ0.out; have z3 := HZ3.out; have z6 := HZ6.out; have z8 := HZ8.out; have z10 := HZ10.out; have z11 := HZ11.out; have z13 := HZ13.out; have z15 := HZ15.out; have z16 := HZ16.out; have z18 := HZ18.out; have z21 := HZ21.out; have z24 := HZ24.out; have z26 := HZ26.out; have z28 := HZ28.out; have z30 := HZ30.out; have z33 := HZ33.out; omega))
  have HZ35 := Lib.hid hb.size
  clear hb
  have HRlH0 := Lib.hid ho0.row
  clear ho0
  go_wp2_with fail
  refine (eqMsgMsgS_w _ w34.heap.size _ _ R (HRlH0.out.more (by have z0 := HZ0.out; have z3 := HZ3.out; have z6 := HZ6.out; have z8 := HZ8.out; have z10 := HZ10.out; have z11 := HZ11.out; have z13 := HZ13.out; have z15 := HZ15.out; have z16 := HZ16.out; have z18 := HZ18.out; have z21 := HZ21.out; have z24 := HZ24.out; have z26 := HZ26.out; have z28 := HZ28.out; have z30 := HZ30.out; have z33 := HZ33.out; have z35 := HZ35.out; omega)) (HRlW0.out.more (by have z0 := HZ0.out; have z3 := HZ3.out; have z6 := HZ6.out; have z8 := HZ8.out; have z10 := HZ10.out; have z11 := HZ11.out; have z13 := HZ13.out; have z15 := HZ15.out; have z16 := HZ16.out; have z18 := HZ18.out; have z21 := HZ21.out; have z24 := HZ24.out; have z26 := HZ26.out; have z28 := HZ28.out; have z30 := HZ30.out; have z33 := HZ33.out; have z35 := HZ35.out; omega))).mono ?_
  rintro e w36 ⟨rfl, hb⟩
  replace HB := Lib.hid (belowNext HB.out hb)
  replace HX1 := Lib.hid (HX1.out.below hb HX1.out.1)
  replace HY1 := Lib.hid (HY1.out.below hb HY1.out.1)
  replace HOwG0 := Lib.hid (own_sl_call HOwG0.out hb)
  replace HRlW0 := Lib.hid (row_call HRlW0.out hb (by have z0 := HZ0.out; have z3 := HZ3.out; have z6 := HZ6.out; have z8 := HZ8.out; have z10 := HZ10.out; have z11 := HZ11.out; have z13 := HZ13.out; have z15 := HZ15.out; have z16 := HZ16.out; have z18 := HZ18.out; have z21 := HZ21.out; have z24 := HZ24.out; have z26 := HZ26.out; have z28 := HZ28.out; have z30 := HZ30.out; have z33 := HZ33.out; have z35 := HZ35.out; omega))
  replace HRlH0 := Lib.hid (row_call HRlH0.out hb (by have z0 := HZ0.out; have z3 := HZ3.out; have z6 := HZ6.out; have z8 := HZ8.out; have z10 := HZ10.out; have z11 := HZ11.out; have z13 := HZ13.out; have z15 := HZ15.out; have z16 := HZ16.out; have z18 := HZ18.out; have z21 := HZ21.out; have z24 := HZ24.out; have z26 := HZ26.out; have z28 := HZ28.out; have z30 := HZ30.out; have z33 := HZ33.out; have z35 := HZ35.out; omega))
  have HZ37 := Lib.hid hb.size
  clear hb
  have hhc0 : cntL msgSh.cnt y0 = cntL msgSh.cnt R := HCn0.out
  go_wp2_with fail
  refine (heldMsgMsgS_sh _ _ y0 HOwG0.out.row 1 hyw0 (by omega) (by omega) HM0.out).mono ?_
  rintro e w38 ⟨rfl, hb⟩
  rw [hhc0]
  clear hhc0
  replace HB := Lib.hid (belowNext HB.out hb)
  replace HX1 := Lib.hid (HX1.out.below hb HX1.out.1)
  replace HY1 := Lib.hid (HY1.out.below hb HY1.out.1)
  replace HOwG0 := Lib.hid (own_sl_call HOwG0.out hb)
  replace HRlW0 := Lib.hid (row_call HRlW0.out hb (by have z0 := HZ0.out; have z3 := HZ3.out; have z6 := HZ6.out; have z8 := HZ8.out; have z10 := HZ10.out; have z11 := HZ11.out; have z13 := HZ13.out; have z15 := HZ15.out; have z16 := HZ16.out; have z18 := HZ18.out; have z21 := HZ21.out; have z24 := HZ24.out; have z26 := HZ26.out; have z28 := HZ28.out; have z30 := HZ30.out; have z33 := HZ33.out; have z35 := HZ35.out; have z37 := HZ37.out; omega))
  replace HRlH0 := Lib.hid (row_call HRlH0.out hb (by have z0 := HZ0.out; have z3 := HZ3.out; have z6 := HZ6.out; have z8 := HZ8.out; have z10 := HZ10.out; have z11 := HZ11.out; have z13 := HZ13.out; have z15 := HZ15.out; have z16 := HZ16.out; have z18 := HZ18.out; have z21 := HZ21.out; have z24 := HZ24.out; have z26 := HZ26.out; have z28 := HZ28.out; have z30 := HZ30.out; have z33 := HZ33.out; have z35 := HZ35.out; have z37 := HZ37.out; omega))
  have HZ39 := Lib.hid hb.size
  clear hb
  go_wp2
  go_ret
  exact ⟨rfl, HB.out⟩

end Go.Proofs.Ytkamlibfcakblaa

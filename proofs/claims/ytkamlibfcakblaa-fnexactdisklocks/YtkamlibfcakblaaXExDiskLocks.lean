/- The walk of FnExactDiskLocks. By exmark.py. -/
import Derived.Test.YtkamlibfcakblaaXSLocks
import Derived.Test.YtkamlibfcakblaaXMExact
import Derived.Test.YtkamlibfcakblaaXNoteOk
import Derived.Test.YtkamlibfcakblaaXHLogDisk
import Derived.Deep.CutRange
import Derived.Deep.DeepCutAuto
namespace Go.Proofs.Ytkamlibfcakblaa
open Go.RowKit


set_option maxRecDepth 100000 in
set_option maxHeartbeats 8000000 in
theorem exDiskLocks_any (w : World) (cs0 : List Value) (x : Disk) (h0 : diskSh.rel w w.heap.size cs0 x) :
    Calls Try.prog 9 #[.agg cs0.toArray] w fun e w' => e = .returned (.bool true) ∧ Below w.heap.size w w' := by
  have HV0 := Lib.hid fun W (hb : Below w.heap.size w W) => diskSh.rmore (diskSh.rbelow h0 hb) hb.size
  obtain ⟨ua0, rfl, hua0⟩ := disk_rel.1 h0
  obtain ⟨Aa0, ca0, rfl, -, -⟩ := hua0.form
  clear hua0
  clear h0
  have HB := Lib.hid (show Below w.heap.size w (w.alloc (.cells #[.slice Aa0 x.notes.length ca0, .int .i64 x.safe] 61)) from belowOne w (.cells #[.slice Aa0 x.notes.length ca0, .int .i64 x.safe] 61))
  have HX0 := Lib.hid (show Held (w.alloc (.cells #[.slice Aa0 x.notes.length ca0, .int .i64 x.safe] 61)) (w.heap.size) [.slice Aa0 x.notes.length ca0, .int .i64 x.safe] from (by have h := Held.new w #[.slice Aa0 x.notes.length ca0, .int .i64 x.safe] 61; exact h))
  have HZ0 := Lib.hid (allocSize w (.cells #[.slice Aa0 x.notes.length ca0, .int .i64 x.safe] 61))
  go_enter Try.func9, Try.ntmps9
  by_cases hq0 : (1048576 : Int) < (diskSh.wt x : Int)
  · have hl := less_no hq0
    go_wp2_with fail
    refine (szLogDisk_any _ _ x (HV0.out _ HB.out) _ (by omega) (by omega)).mono ?_
    rintro e w1 ⟨rfl, hb⟩
    rw [hl]
    have HB1 := Lib.hid (belowNext HB.out hb)
    clear hb
    go_wp2
    go_ret
    exact ⟨rfl, HB1.out⟩
  have hl := less_yes (show (diskSh.wt x : Int) ≤ 1048576 by omega)
  have hw0 : diskSh.wt x ≤ 1048576 := by omega
  go_wp2_with fail
  refine (szLogDisk_any _ _ x (HV0.out _ HB.out) _ (by omega) (by omega)).mono ?_
  rintro e w2 ⟨rfl, hb⟩
  rw [hl]
  replace HB := Lib.hid (belowNext HB.out hb)
  replace HX0 := Lib.hid (HX0.out.below hb HX0.out.1)
  have HZ3 := Lib.hid hb.size
  clear hb
  obtain ⟨r0, hr0⟩ : ∃ r : Int, 1048576 - (diskSh.wt x : Int) = r := ⟨_, rfl⟩
  have hr0' : 0 ≤ r0 ∧ r0 ≤ 1048576 := by omega
  rw [hr0]
  clear hl hr0 hq0
  obtain ⟨R, hR⟩ : ∃ R, locksD x = R := ⟨_, rfl⟩
  have hsm := locksD_small (x := x)
  rw [hR] at hsm
  obtain ⟨hRl, hRc, hRw⟩ := hsm
  have HSp := Lib.hid fun (W : World) (cs : List Value) (h : diskSh.rel W W.heap.size cs x) => (show Calls Try.prog 25 #[.agg cs.toArray] W (CopiedSl strSh 9 R W) from by have hc := specDiskLocks_any W cs x h; rw [hR] at hc; exact hc)
  have HIm := Lib.hid fun (W : World) (cs : List Value) (h : diskSh.rel W W.heap.size cs x) => (show Calls Try.prog 21 #[.agg cs.toArray] W (CopiedSl strSh 9 R W) from by have hc := implDiskLocks_any W cs x h; rw [hR] at hc; exact hc)
  clear hR
  have a0_0 := HX0.out.of 0 _ rfl
  have a0_1 := HX0.out.of 1 _ rfl
  go_wp2_with fail
  clear a0_0 a0_1
  refine (toLogDisk_any _ _ x (HV0.out _ HB.out) hw0).mono ?_
  rintro e w4 ⟨cs', rfl, ho, hb⟩
  obtain ⟨up5, rfl, hup5⟩ := disk_own.1 ho
  obtain ⟨Ap5, cp5, rfl, -, -⟩ := hup5.row.form
  clear hup5
  replace HB := Lib.hid (belowNext HB.out hb)
  replace HX0 := Lib.hid (HX0.out.below hb HX0.out.1)
  have HZ6 := Lib.hid hb.size
  clear hb
  have HP0 := Lib.hid (diskSh.orel ho)
  clear ho
  go_wp2_with fail
  refine (HSp.out _ _ HP0.out).mono ?_
  rintro e w7 ⟨v0, rfl, ho0, hb⟩
  clear HP0
  obtain ⟨Aw0, cw0, rfl, -, -⟩ := ho0.row.form
  replace HB := Lib.hid (belowNext HB.out hb)
  replace HX0 := Lib.hid (HX0.out.below hb HX0.out.1)
  have HZ8 := Lib.hid hb.size
  clear hb
  have HRlW0 := Lib.hid ho0.row
  clear ho0
  have a0_0 := HX0.out.of 0 _ rfl
  have a0_1 := HX0.out.of 1 _ rfl
  go_wp2_with fail
  clear a0_0 a0_1
  refine (toLogDisk_any _ _ x (HV0.out _ HB.out) hw0).mono ?_
  rintro e w9 ⟨cs', rfl, ho, hb⟩
  obtain ⟨ux0, rfl, hux0⟩ := disk_own.1 ho
  obtain ⟨Ax0, cx0, rfl, -, -⟩ := hux0.row.form
  clear hux0
  replace HB := Lib.hid (belowNext HB.out hb)
  replace HX0 := Lib.hid (HX0.out.below hb HX0.out.1)
  replace HRlW0 := Lib.hid (row_call HRlW0.out hb (by have z0 := HZ0.out; have z3 := HZ3.out; have z6 := HZ6.out; have z8 := HZ8.out; omega))
  have HZ10 := Lib.hid hb.size
  clear hb
  have HC0 := Lib.hid ho
  clear ho
  have hal := belowOne w9 (.cells #[.slice Ax0 x.notes.length cx0, .int .i64 x.safe] 25)
  replace HB := Lib.hid (belowNext HB.out hal)
  replace HX0 := Lib.hid (HX0.out.below hal HX0.out.1)
  replace HC0 := Lib.hid (own_call HC0.out hal)
  replace HRlW0 := Lib.hid (row_call HRlW0.out hal (by have z0 := HZ0.out; have z3 := HZ3.out; have z6 := HZ6.out; have z8 := HZ8.out; have z10 := HZ10.out; omega))
  have HZ11 := Lib.hid (allocSize w9 (.cells #[.slice Ax0 x.notes.length cx0, .int .i64 x.safe] 25))
  clear hal
  have HY0 := Lib.hid (Held.new w9 #[.slice Ax0 x.notes.length cx0, .int .i64 x.safe] 25)
  have a0_0 := HY0.out.of 0 _ rfl
  have a0_1 := HY0.out.of 1 _ rfl
  go_wp2_with fail
  clear a0_0 a0_1
  refine (HIm.out _ _ (diskSh.orel HC0.out)).mono ?_
  rintro e w12 ⟨v0, rfl, ho0, hb⟩
  obtain ⟨Ag0, cg0, rfl, -, -⟩ := ho0.row.form
  replace HB := Lib.hid (belowNext HB.out hb)
  replace HX0 := Lib.hid (HX0.out.below hb HX0.out.1)
  replace HY0 := Lib.hid (HY0.out.below hb HY0.out.1)
  replace HC0 := Lib.hid (own_call HC0.out hb)
  replace HRlW0 := Lib.hid (row_call HRlW0.out hb (by have z0 := HZ0.out; have z3 := HZ3.out; have z6 := HZ6.out; have z8 := HZ8.out; have z10 := HZ10.out; have z11 := HZ11.out; omega))
  have HZ13 := Lib.hid hb.size
  clear hb
  have HOwG0 := Lib.hid ho0
  clear ho0
  go_wp2_with fail
  refine (eqStringS_same _ w12.heap.size _ _ R HOwG0.out.row (HRlW0.out.more (by have z0 := HZ0.out; have z3 := HZ3.out; have z6 := HZ6.out; have z8 := HZ8.out; have z10 := HZ10.out; have z11 := HZ11.out; have z13 := HZ13.out; omega))).mono ?_
  rintro e w14 ⟨rfl, hb⟩
  replace HB := Lib.hid (belowNext HB.out hb)
  replace HX0 := Lib.hid (HX0.out.below hb HX0.out.1)
  replace HY0 := Lib.hid (HY0.out.below hb HY0.out.1)
  replace HC0 := Lib.hid (own_call HC0.out hb)
  replace HOwG0 := Lib.hid (own_sl_call HOwG0.out hb)
  replace HRlW0 := Lib.hid (row_call HRlW0.out hb (by have z0 := HZ0.out; have z3 := HZ3.out; have z6 := HZ6.out; have z8 := HZ8.out; have z10 := HZ10.out; have z11 := HZ11.out; have z13 := HZ13.out; omega))
  have HZ15 := Lib.hid hb.size
  clear hb
  go_wp2
  have k0_ : w14.drew.cell? ⟨w9.heap.size, 0, none⟩ = some (.slice Ax0 x.notes.length cx0) ∧ w14.drew.cell? ⟨w9.heap.size, 1, none⟩ = some (.int .i64 x.safe) ∧ w14.drew.cell? ⟨w.heap.size, 0, none⟩ = some (.slice Aa0 x.notes.length ca0) ∧ w14.drew.cell? ⟨w.heap.size, 1, none⟩ = some (.int .i64 x.safe) := (And.intro (HY0.out.of 0 _ rfl) (And.intro (HY0.out.of 1 _ rfl) (And.intro (HX0.out.of 0 _ rfl) (HX0.out.of 1 _ rfl))))
  refine wp_region_held_drew (S := (fun w' => w'.cell? ⟨w9.heap.size, 0, none⟩ = some (.slice Ax0 x.notes.length cx0) ∧ w'.cell? ⟨w9.heap.size, 1, none⟩ = some (.int .i64 x.safe) ∧ w'.cell? ⟨w.heap.size, 0, none⟩ = some (.slice Aa0 x.notes.length ca0) ∧ w'.cell? ⟨w.heap.size, 1, none⟩ = some (.int .i64 x.safe))) (by kernel_rfl) ?hSe0 (fun hHelde0 => ?ste0)
  case hSe0 => (first | (dsimp only; (exact k0_)) | (exact k0_))
  have hdr := (Below.refl w14.heap.size w14).drew
  replace HB := Lib.hid (belowNext HB.out hdr)
  replace HX0 := Lib.hid (HX0.out.below hdr HX0.out.1)
  replace HY0 := Lib.hid (HY0.out.below hdr HY0.out.1)
  replace HC0 := Lib.hid (own_call HC0.out hdr)
  replace HOwG0 := Lib.hid (own_sl_call HOwG0.out hdr)
  replace HRlW0 := Lib.hid (row_call HRlW0.out hdr (by have z0 := HZ0.out; have z3 := HZ3.out; have z6 := HZ6.out; have z8 := HZ8.out; have z10 := HZ10.out; have z11 := HZ11.out; have z13 := HZ13.out; have z15 := HZ15.out; omega))
  have HZ16 := Lib.hid hdr.size
  clear hdr
  refine take_first 0 27 (v := ?ve0_1) rfl rfl (by kernel_rfl) (by kernel_rfl) (by kernel_rfl) (fun _ _ _ h => h) (by rfl) ?ye0_1 (by assumption) ?re0_1
  case ye0_1 => (intro w hSw; (try dsimp only at hSw); go_simp; (try with_reducible rfl))
  simp only [Act.put, List.setIfInBounds_toArray, List.set_cons_zero, List.set_cons_succ]
  refine take_first 1 28 (v := ?ve0_2) rfl rfl (by kernel_rfl) (by kernel_rfl) (by kernel_rfl) (fun _ _ _ h => h) (by rfl) ?ye0_2 (by assumption) ?re0_2
  case ye0_2 => (intro w hSw; (try dsimp only at hSw); go_simp; (try with_reducible rfl))
  simp only [Act.put, List.setIfInBounds_toArray, List.set_cons_zero, List.set_cons_succ]
  refine wpAnyH_ready (rs := [2]) (by kernel_rfl) (by simp) ?_
  refine AllReadyH.cons (o := _) rfl (fun Ke0_3 hKe0_3 => ?ce0_3) ?me0_3
  case me0_3 => exact AllReadyH.nil
  go_simp
  refine (toLogDisk_any _ _ x (HV0.out _ HB.out) hw0).mono ?_
  rintro e w17 ⟨cs', rfl, ho, hb⟩
  obtain ⟨up17, rfl, hup17⟩ := disk_own.1 ho
  obtain ⟨Ap17, cp17, rfl, -, -⟩ := hup17.row.form
  clear hup17
  replace HB := Lib.hid (belowNext HB.out hb)
  replace HX0 := Lib.hid (HX0.out.below hb HX0.out.1)
  replace HY0 := Lib.hid (HY0.out.below hb HY0.out.1)
  replace HC0 := Lib.hid (own_call HC0.out hb)
  replace HOwG0 := Lib.hid (own_sl_call HOwG0.out hb)
  replace HRlW0 := Lib.hid (row_call HRlW0.out hb (by have z0 := HZ0.out; have z3 := HZ3.out; have z6 := HZ6.out; have z8 := HZ8.out; have z10 := HZ10.out; have z11 := HZ11.out; have z13 := HZ13.out; have z15 := HZ15.out; have z16 := HZ16.out; omega))
  have HZ18 := Lib.hid hb.size
  clear hb
  have HP := Lib.hid (diskSh.orel ho)
  clear ho
  have k19_ := (And.intro (HY0.out.of 0 _ rfl) (And.intro (HY0.out.of 1 _ rfl) (And.intro (HX0.out.of 0 _ rfl) (HX0.out.of 1 _ rfl))))
  go_wp2_with fail
  refine hKe0_3.out _ _ ?ke0_3 (fun hHelde0_3 => ?de0_3)
  case ke0_3 => (first | (dsimp only; (with_reducible exact k19_)) | (with_reducible exact k19_))
  clear hKe0_3 Ke0_3
  refine wpAnyH_ready (rs := [3]) (by kernel_rfl) (by simp) ?_
  refine AllReadyH.cons (o := _) rfl (fun Ke0_4 hKe0_4 => ?ce0_4) ?me0_4
  case me0_4 => exact AllReadyH.nil
  go_simp
  refine (eqLogDisk_same _ _ _ x (diskSh.orel HC0.out) HP.out).mono ?_
  rintro e w20 ⟨rfl, hb⟩
  clear HP
  replace HB := Lib.hid (belowNext HB.out hb)
  replace HX0 := Lib.hid (HX0.out.below hb HX0.out.1)
  replace HY0 := Lib.hid (HY0.out.below hb HY0.out.1)
  replace HC0 := Lib.hid (own_call HC0.out hb)
  replace HOwG0 := Lib.hid (own_sl_call HOwG0.out hb)
  replace HRlW0 := Lib.hid (row_call HRlW0.out hb (by have z0 := HZ0.out; have z3 := HZ3.out; have z6 := HZ6.out; have z8 := HZ8.out; have z10 := HZ10.out; have z11 := HZ11.out; have z13 := HZ13.out; have z15 := HZ15.out; have z16 := HZ16.out; have z18 := HZ18.out; omega))
  have HZ21 := Lib.hid hb.size
  clear hb
  have k22_ := (And.intro (HY0.out.of 0 _ rfl) (And.intro (HY0.out.of 1 _ rfl) (And.intro (HX0.out.of 0 _ rfl) (HX0.out.of 1 _ rfl))))
  go_wp2_with fail
  refine hKe0_4.out _ _ ?ke0_4 (fun hHelde0_4 => ?de0_4)
  case ke0_4 => (first | (dsimp only; (with_reducible exact k22_)) | (with_reducible exact k22_))
  clear hKe0_4 Ke0_4
  refine take_first 4 31 (v := ?ve0_5) rfl rfl (by kernel_rfl) (by kernel_rfl) (by kernel_rfl) (fun _ _ _ h => h) (by rfl) ?ye0_5 (by assumption) ?re0_5
  case ye0_5 => (intro w hSw; (try dsimp only at hSw); go_simp; (try with_reducible rfl))
  simp only [Act.put, List.setIfInBounds_toArray, List.set_cons_zero, List.set_cons_succ]
  refine wpAnyH_done (by kernel_rfl) ?ee0_6 _
  clear k0_ k19_ k22_
  have hcbx : dCnt x ≤ 16 * diskSh.wt x := by have h := cntL_le noteSh.cnt noteSh.wt noteSh.base (by decide) noteSh.cntLe x.notes; have e : diskSh.wt x = wtL noteSh.wt x.notes + 0 := rfl; unfold dCnt; omega
  have a0_0 := HY0.out.of 0 _ rfl
  have a0_1 := HY0.out.of 1 _ rfl
  go_wp2_with fail
  clear a0_0 a0_1
  refine (markLogDisk_r _ _ _ x HC0.out _ hw0 (by omega) (by omega)).mono ?_
  rintro e w23 ⟨y, rfl, -, -, -, ht⟩
  have HT := Lib.hid ht
  replace HB := Lib.hid (below_mark HB.out HT.out HB.out.size (fun b hb => by have z0 := HZ0.out; have z3 := HZ3.out; have z6 := HZ6.out; have z8 := HZ8.out; have z10 := HZ10.out; have z11 := HZ11.out; have z13 := HZ13.out; have z15 := HZ15.out; have z16 := HZ16.out; have z18 := HZ18.out; have z21 := HZ21.out; have h1 := hb.1; omega))
  replace HX0 := Lib.hid (HX0.out.outs HT.out (fun h => by have z0 := HZ0.out; have z3 := HZ3.out; have z6 := HZ6.out; have z8 := HZ8.out; have z10 := HZ10.out; have z11 := HZ11.out; have z13 := HZ13.out; have z15 := HZ15.out; have z16 := HZ16.out; have z18 := HZ18.out; have z21 := HZ21.out; have h1 := h.1; have h2 := h.2; omega))
  replace HY0 := Lib.hid (HY0.out.outs HT.out (fun h => by have z0 := HZ0.out; have z3 := HZ3.out; have z6 := HZ6.out; have z8 := HZ8.out; have z10 := HZ10.out; have z11 := HZ11.out; have z13 := HZ13.out; have z15 := HZ15.out; have z16 := HZ16.out; have z18 := HZ18.out; have z21 := HZ21.out; have h1 := h.1; have h2 := h.2; omega))
  replace HOwG0 := Lib.hid (own_sl_mark HOwG0.out HT.out (fun b hb h => by have z0 := HZ0.out; have z3 := HZ3.out; have z6 := HZ6.out; have z8 := HZ8.out; have z10 := HZ10.out; have z11 := HZ11.out; have z13 := HZ13.out; have z15 := HZ15.out; have z16 := HZ16.out; have z18 := HZ18.out; have z21 := HZ21.out; have h1 := hb.1; have h2 := hb.2; have h3 := h.1; have h4 := h.2; omega))
  replace HRlW0 := Lib.hid (row_mark HRlW0.out HT.out (by have z0 := HZ0.out; have z3 := HZ3.out; have z6 := HZ6.out; have z8 := HZ8.out; have z10 := HZ10.out; have z11 := HZ11.out; have z13 := HZ13.out; have z15 := HZ15.out; have z16 := HZ16.out; have z18 := HZ18.out; have z21 := HZ21.out; omega) (fun b hb => by have z0 := HZ0.out; have z3 := HZ3.out; have z6 := HZ6.out; have z8 := HZ8.out; have z10 := HZ10.out; have z11 := HZ11.out; have z13 := HZ13.out; have z15 := HZ15.out; have z16 := HZ16.out; have z18 := HZ18.out; have z21 := HZ21.out; have h1 := hb.1; omega))
  have HZ24 := Lib.hid HT.out.size
  clear ht HT
  clear HC0
  have hkn : ¬ (1 + (dCnt x : Int) < 0) := by omega
  go_wp2_with fail
  refine (eqStringS_same _ w23.heap.size _ _ R HOwG0.out.row (HRlW0.out.more (by have z0 := HZ0.out; have z3 := HZ3.out; have z6 := HZ6.out; have z8 := HZ8.out; have z10 := HZ10.out; have z11 := HZ11.out; have z13 := HZ13.out; have z15 := HZ15.out; have z16 := HZ16.out; have z18 := HZ18.out; have z21 := HZ21.out; have z24 := HZ24.out; omega))).mono ?_
  rintro e w25 ⟨rfl, hb⟩
  replace HB := Lib.hid (belowNext HB.out hb)
  replace HX0 := Lib.hid (HX0.out.below hb HX0.out.1)
  replace HY0 := Lib.hid (HY0.out.below hb HY0.out.1)
  replace HOwG0 := Lib.hid (own_sl_call HOwG0.out hb)
  replace HRlW0 := Lib.hid (row_call HRlW0.out hb (by have z0 := HZ0.out; have z3 := HZ3.out; have z6 := HZ6.out; have z8 := HZ8.out; have z10 := HZ10.out; have z11 := HZ11.out; have z13 := HZ13.out; have z15 := HZ15.out; have z16 := HZ16.out; have z18 := HZ18.out; have z21 := HZ21.out; have z24 := HZ24.out; omega))
  have HZ26 := Lib.hid hb.size
  clear hb
  go_wp2_with fail
  refine (markStringS_sh _ _ _ R HOwG0.out 1 (by omega) (by omega) (by omega)).mono ?_
  rintro e w27 ⟨y0, rfl, hyl, hyc, hym, hyo, ht⟩
  have HT := Lib.hid ht
  replace HB := Lib.hid (below_mark HB.out HT.out HB.out.size (fun b hb => by have z0 := HZ0.out; have z3 := HZ3.out; have z6 := HZ6.out; have z8 := HZ8.out; have z10 := HZ10.out; have z11 := HZ11.out; have z13 := HZ13.out; have z15 := HZ15.out; have z16 := HZ16.out; have z18 := HZ18.out; have z21 := HZ21.out; have z24 := HZ24.out; have z26 := HZ26.out; have h1 := hb.1; omega))
  replace HX0 := Lib.hid (HX0.out.outs HT.out (fun h => by have z0 := HZ0.out; have z3 := HZ3.out; have z6 := HZ6.out; have z8 := HZ8.out; have z10 := HZ10.out; have z11 := HZ11.out; have z13 := HZ13.out; have z15 := HZ15.out; have z16 := HZ16.out; have z18 := HZ18.out; have z21 := HZ21.out; have z24 := HZ24.out; have z26 := HZ26.out; have h1 := h.1; have h2 := h.2; omega))
  replace HY0 := Lib.hid (HY0.out.outs HT.out (fun h => by have z0 := HZ0.out; have z3 := HZ3.out; have z6 := HZ6.out; have z8 := HZ8.out; have z10 := HZ10.out; have z11 := HZ11.out; have z13 := HZ13.out; have z15 := HZ15.out; have z16 := HZ16.out; have z18 := HZ18.out; have z21 := HZ21.out; have z24 := HZ24.out; have z26 := HZ26.out; have h1 := h.1; have h2 := h.2; omega))
  replace HRlW0 := Lib.hid (row_mark HRlW0.out HT.out (by have z0 := HZ0.out; have z3 := HZ3.out; have z6 := HZ6.out; have z8 := HZ8.out; have z10 := HZ10.out; have z11 := HZ11.out; have z13 := HZ13.out; have z15 := HZ15.out; have z16 := HZ16.out; have z18 := HZ18.out; have z21 := HZ21.out; have z24 := HZ24.out; have z26 := HZ26.out; omega) (fun b hb => by have z0 := HZ0.out; have z3 := HZ3.out; have z6 := HZ6.out; have z8 := HZ8.out; have z10 := HZ10.out; have z11 := HZ11.out; have z13 := HZ13.out; have z15 := HZ15.out; have z16 := HZ16.out; have z18 := HZ18.out; have z21 := HZ21.out; have z24 := HZ24.out; have z26 := HZ26.out; have h1 := hb.1; omega))
  have HZ28 := Lib.hid HT.out.size
  replace HOwG0 := Lib.hid hyo
  have hyw0 : strsSh.wt y0 ≤ 1048576 := strs_marked hyl hym (by omega) hyc (by omega)
  have HM0 := Lib.hid hym
  have HCn0 := Lib.hid hyc
  clear ht HT hyo hym hyc hyl
  have hcn0 : ¬ (1 + (cntL strSh.cnt R : Int) < 0) := by omega
  have hhc0 : cntL strSh.cnt y0 = cntL strSh.cnt R := HCn0.out
  go_wp2_with fail
  refine (heldStringS_sh _ _ y0 HOwG0.out.row 1 hyw0 (by omega) (by omega) HM0.out).mono ?_
  rintro e w29 ⟨rfl, hb⟩
  rw [hhc0]
  clear hhc0
  replace HB := Lib.hid (belowNext HB.out hb)
  replace HX0 := Lib.hid (HX0.out.below hb HX0.out.1)
  replace HY0 := Lib.hid (HY0.out.below hb HY0.out.1)
  replace HOwG0 := Lib.hid (own_sl_call HOwG0.out hb)
  replace HRlW0 := Lib.hid (row_call HRlW0.out hb (by have z0 := HZ0.out; have z3 := HZ3.out; have z6 := HZ6.out; have z8 := HZ8.out; have z10 := HZ10.out; have z11 := HZ11.out; have z13 := HZ13.out; have z15 := HZ15.out; have z16 := HZ16.out; have z18 := HZ18.out; have z21 := HZ21.out; have z24 := HZ24.out; have z26 := HZ26.out; have z28 := HZ28.out; omega))
  have HZ30 := Lib.hid hb.size
  clear hb
  have a0_0 := HX0.out.of 0 _ rfl
  have a0_1 := HX0.out.of 1 _ rfl
  go_wp2_with fail
  clear a0_0 a0_1
  refine (toLogDisk_any _ _ x (HV0.out _ HB.out) hw0).mono ?_
  rintro e w31 ⟨cs', rfl, ho, hb⟩
  obtain ⟨up32, rfl, hup32⟩ := disk_own.1 ho
  obtain ⟨Ap32, cp32, rfl, -, -⟩ := hup32.row.form
  clear hup32
  replace HB := Lib.hid (belowNext HB.out hb)
  replace HX0 := Lib.hid (HX0.out.below hb HX0.out.1)
  replace HY0 := Lib.hid (HY0.out.below hb HY0.out.1)
  replace HOwG0 := Lib.hid (own_sl_call HOwG0.out hb)
  replace HRlW0 := Lib.hid (row_call HRlW0.out hb (by have z0 := HZ0.out; have z3 := HZ3.out; have z6 := HZ6.out; have z8 := HZ8.out; have z10 := HZ10.out; have z11 := HZ11.out; have z13 := HZ13.out; have z15 := HZ15.out; have z16 := HZ16.out; have z18 := HZ18.out; have z21 := HZ21.out; have z24 := HZ24.out; have z26 := HZ26.out; have z28 := HZ28.out; have z30 := HZ30.out; omega))
  have HZ33 := Lib.hid hb.size
  clear hb
  have HP0 := Lib.hid (diskSh.orel ho)
  clear ho
  go_wp2_with fail
  refine (HIm.out _ _ HP0.out).mono ?_
  rintro e w34 ⟨v0, rfl, ho0, hb⟩
  clear HP0
  obtain ⟨Ah0, ch0, rfl, -, -⟩ := ho0.row.form
  replace HB := Lib.hid (belowNext HB.out hb)
  replace HX0 := Lib.hid (HX0.out.below hb HX0.out.1)
  replace HY0 := Lib.hid (HY0.out.below hb HY0.out.1)
  replace HOwG0 := Lib.hid (own_sl_call HOwG0.out hb)
  replace HRlW0 := Lib.hid (row_call HRlW0.out hb (by have z0 := HZ0.out; have z3 := HZ3.out; have z6 := HZ6.out; have z8 := HZ8.out; have z10 := HZ10.out; have z11 := HZ11.out; have z13 := HZ13.out; have z15 := HZ15.out; have z16 := HZ16.out; have z18 := HZ18.out; have z21 := HZ21.out; have z24 := HZ24.out; have z26 := HZ26.out; have z28 := HZ28.out; have z30 := HZ30.out; have z33 := HZ33.out; omega))
  have HZ35 := Lib.hid hb.size
  clear hb
  have HRlH0 := Lib.hid ho0.row
  clear ho0
  go_wp2_with fail
  refine (eqStringS_same _ w34.heap.size _ _ R (HRlH0.out.more (by have z0 := HZ0.out; have z3 := HZ3.out; have z6 := HZ6.out; have z8 := HZ8.out; have z10 := HZ10.out; have z11 := HZ11.out; have z13 := HZ13.out; have z15 := HZ15.out; have z16 := HZ16.out; have z18 := HZ18.out; have z21 := HZ21.out; have z24 := HZ24.out; have z26 := HZ26.out; have z28 := HZ28.out; have z30 := HZ30.out; have z33 := HZ33.out; have z35 := HZ35.out; omega)) (HRlW0.out.more (by have z0 := HZ0.out; have z3 := HZ3.out; have z6 := HZ6.out; have z8 := HZ8.out; have z10 := HZ10.out; have z11 := HZ11.out; have z13 := HZ13.out; have z15 := HZ15.out; have z16 := HZ16.out; have z18 := HZ18.out; have z21 := HZ21.out; have z24 := HZ24.out; have z26 := HZ26.out; have z28 := HZ28.out; have z30 := HZ30.out; have z33 := HZ33.out; have z35 := HZ35.out; omega))).mono ?_
  rintro e w36 ⟨rfl, hb⟩
  replace HB := Lib.hid (belowNext HB.out hb)
  replace HX0 := Lib.hid (HX0.out.below hb HX0.out.1)
  replace HY0 := Lib.hid (HY0.out.below hb HY0.out.1)
  replace HOwG0 := Lib.hid (own_sl_call HOwG0.out hb)
  replace HRlW0 := Lib.hid (row_call HRlW0.out hb (by have z0 := HZ0.out; have z3 := HZ3.out; have z6 := HZ6.out; have z8 := HZ8.out; have z10 := HZ10.out; have z11 := HZ11.out; have z13 := HZ13.out; have z15 := HZ15.out; have z16 := HZ16.out; have z18 := HZ18.out; have z21 := HZ21.out; have z24 := HZ24.out; have z26 := HZ26.out; have z28 := HZ28.out; have z30 := HZ30.out; have z33 := HZ33.out; have z35 := HZ35.out; omega))
  replace HRlH0 := Lib.hid (row_call HRlH0.out hb (by have z0 := HZ0.out; have z3 := HZ3.out; have z6 := HZ6.out; have z8 := HZ8.out; have z10 := HZ10.out; have z11 := HZ11.out; have z13 := HZ13.out; have z15 := HZ15.out; have z16 := HZ16.out; have z18 := HZ18.out; have z21 := HZ21.out; have z24 := HZ24.out; have z26 := HZ26.out; have z28 := HZ28.out; have z30 := HZ30.out; have z33 := HZ33.out; have z35 := HZ35.out; omega))
  have HZ37 := Lib.hid hb.size
  clear hb
  have hhc0 : cntL strSh.cnt y0 = cntL strSh.cnt R := HCn0.out
  go_wp2_with fail
  refine (heldStringS_sh _ _ y0 HOwG0.out.row 1 hyw0 (by omega) (by omega) HM0.out).mono ?_
  rintro e w38 ⟨rfl, hb⟩
  rw [hhc0]
  clear hhc0
  replace HB := Lib.hid (belowNext HB.out hb)
  replace HX0 := Lib.hid (HX0.out.below hb HX0.out.1)
  replace HY0 := Lib.hid (HY0.out.below hb HY0.out.1)
  replace HOwG0 := Lib.hid (own_sl_call HOwG0.out hb)
  replace HRlW0 := Lib.hid (row_call HRlW0.out hb (by have z0 := HZ0.out; have z3 := HZ3.out; have z6 := HZ6.out; have z8 := HZ8.out; have z10 := HZ10.out; have z11 := HZ11.out; have z13 := HZ13.out; have z15 := HZ15.out; have z16 := HZ16.out; have z18 := HZ18.out; have z21 := HZ21.out; have z24 := HZ24.out; have z26 := HZ26.out; have z28 := HZ28.out; have z30 := HZ30.out; have z33 := HZ33.out; have z35 := HZ35.out; have z37 := HZ37.out; omega))
  replace HRlH0 := Lib.hid (row_call HRlH0.out hb (by have z0 := HZ0.out; have z3 := HZ3.out; have z6 := HZ6.out; have z8 := HZ8.out; have z10 := HZ10.out; have z11 := HZ11.out; have z13 := HZ13.out; have z15 := HZ15.out; have z16 := HZ16.out; have z18 := HZ18.out; have z21 := HZ21.out; have z24 := HZ24.out; have z26 := HZ26.out; have z28 := HZ28.out; have z30 := HZ30.out; have z33 := HZ33.out; have z35 := HZ35.out; have z37 := HZ37.out; omega))
  have HZ39 := Lib.hid hb.size
  clear hb
  go_wp2
  go_ret
  exact ⟨rfl, HB.out⟩

end Go.Proofs.Ytkamlibfcakblaa

/- The walk of FnExactDiskFold. By exmark.py. -/
import Derived.Test.YtkamlibfcakblaaXSFold
import Derived.Test.YtkamlibfcakblaaXIFold
import Derived.Test.YtkamlibfcakblaaXMStoStore
import Derived.Test.YtkamlibfcakblaaXMExact
import Derived.Test.YtkamlibfcakblaaXNoteOk
import Derived.Test.YtkamlibfcakblaaXHLogDisk
import Derived.Deep.CutRange
import Derived.Deep.DeepCutAuto
namespace Go.Proofs.Ytkamlibfcakblaa
open Go.RowKit

/-- What the model's answer stands for, and the program's own. -/
def StoRel (R : Sto) (w : World) (e : Ending) (w' : World) : Prop := ∃ cs, e = .returned (.agg (List.toArray cs)) ∧ stoSh.rel w' w'.heap.size cs R ∧ Below w.heap.size w w'
def StoOwn (R : Sto) (w : World) (e : Ending) (w' : World) : Prop := ∃ cs, e = .returned (.agg (List.toArray cs)) ∧ stoSh.own w' (fun b => w.heap.size ≤ b ∧ b < w'.heap.size) cs R ∧ Below w.heap.size w w'

set_option maxRecDepth 100000 in
set_option maxHeartbeats 8000000 in
theorem exDiskFold_any (w : World) (cs0 : List Value) (x : Disk) (h0 : diskSh.rel w w.heap.size cs0 x) :
    Calls Try.prog 10 #[.agg cs0.toArray] w fun e w' => e = .returned (.bool true) ∧ Below w.heap.size w w' := by
  have HV0 := Lib.hid fun W (hb : Below w.heap.size w W) => diskSh.rmore (diskSh.rbelow h0 hb) hb.size
  obtain ⟨ua0, rfl, hua0⟩ := disk_rel.1 h0
  obtain ⟨Aa0, ca0, rfl, -, -⟩ := hua0.form
  clear hua0
  clear h0
  have HB := Lib.hid (show Below w.heap.size w (w.alloc (.cells #[.slice Aa0 x.notes.length ca0, .int .i64 x.safe] 61)) from belowOne w (.cells #[.slice Aa0 x.notes.length ca0, .int .i64 x.safe] 61))
  have HX0 := Lib.hid (show Held (w.alloc (.cells #[.slice Aa0 x.notes.length ca0, .int .i64 x.safe] 61)) (w.heap.size) [.slice Aa0 x.notes.length ca0, .int .i64 x.safe] from (by have h := Held.new w #[.slice Aa0 x.notes.length ca0, .int .i64 x.safe] 61; exact h))
  have HZ0 := Lib.hid (allocSize w (.cells #[.slice Aa0 x.notes.length ca0, .int .i64 x.safe] 61))
  go_enter Try.func10, Try.ntmps10
  by_cases hq0 : (1048576 : Int) < (diskSh.wt x : Int)
  · have hl := less_no hq0
    go_wp2_with fail
    refine (szLogDisk_any _ _ x (HV0.out _ HB.out) _ (by omega) (by omega)).mono ?_
    rintro e w1 ⟨rfl, hb⟩
    rw [hl]
    have HB1 := Lib.hid (belowNext HB.out hb)
    clear hb
    go_wp2
    go_ret
    exact ⟨rfl, HB1.out⟩
  have hl := less_yes (show (diskSh.wt x : Int) ≤ 1048576 by omega)
  have hw0 : diskSh.wt x ≤ 1048576 := by omega
  go_wp2_with fail
  refine (szLogDisk_any _ _ x (HV0.out _ HB.out) _ (by omega) (by omega)).mono ?_
  rintro e w2 ⟨rfl, hb⟩
  rw [hl]
  replace HB := Lib.hid (belowNext HB.out hb)
  replace HX0 := Lib.hid (HX0.out.below hb HX0.out.1)
  have HZ3 := Lib.hid hb.size
  clear hb
  obtain ⟨r0, hr0⟩ : ∃ r : Int, 1048576 - (diskSh.wt x : Int) = r := ⟨_, rfl⟩
  have hr0' : 0 ≤ r0 ∧ r0 ≤ 1048576 := by omega
  rw [hr0]
  clear hl hr0 hq0
  obtain ⟨R, hR⟩ : ∃ R : Sto, ⟨foldD x⟩ = R := ⟨_, rfl⟩
  have hsm := foldD_small (x := x)
  rw [hR] at hsm
  obtain ⟨hRc, hRw⟩ := hsm
  have HSp := Lib.hid fun (W : World) (cs : List Value) (h : diskSh.rel W W.heap.size cs x) => (show Calls Try.prog 36 #[.agg cs.toArray] W (StoRel R W) from by rw [← hR]; exact (specDiskFold_any W cs x h).mono fun e w' ⟨u, h1, h2, h3⟩ => ⟨[u], h1, sto_rel.2 ⟨u, rfl, items_row.2 h2.items⟩, h3⟩)
  have HIm := Lib.hid fun (W : World) (cs : List Value) (h : diskSh.rel W W.heap.size cs x) => (show Calls Try.prog 34 #[.agg cs.toArray] W (StoOwn R W) from by rw [← hR]; exact (implDiskFold_any W cs x h).mono fun e w' ⟨u, h1, h2, h3⟩ => ⟨[u], h1, sto_own.2 ⟨u, rfl, h2⟩, h3⟩)
  clear hR
  have a0_0 := HX0.out.of 0 _ rfl
  have a0_1 := HX0.out.of 1 _ rfl
  go_wp2_with fail
  clear a0_0 a0_1
  refine (toLogDisk_any _ _ x (HV0.out _ HB.out) hw0).mono ?_
  rintro e w4 ⟨cs', rfl, ho, hb⟩
  obtain ⟨up5, rfl, hup5⟩ := disk_own.1 ho
  obtain ⟨Ap5, cp5, rfl, -, -⟩ := hup5.row.form
  clear hup5
  replace HB := Lib.hid (belowNext HB.out hb)
  replace HX0 := Lib.hid (HX0.out.below hb HX0.out.1)
  have HZ6 := Lib.hid hb.size
  clear hb
  have HP0 := Lib.hid (diskSh.orel ho)
  clear ho
  go_wp2_with fail
  refine (HSp.out _ _ HP0.out).mono ?_
  rintro e w7 ⟨cs', rfl, ho0, hb⟩
  clear HP0
  obtain ⟨uqw0, rfl, huqw0⟩ := sto_rel.1 ho0
  obtain ⟨Aqw0, cqw0, rfl, -, -⟩ := huqw0.form
  clear huqw0
  replace HB := Lib.hid (belowNext HB.out hb)
  replace HX0 := Lib.hid (HX0.out.below hb HX0.out.1)
  have HZ8 := Lib.hid hb.size
  clear hb
  have HRlW0 := Lib.hid ho0
  clear ho0
  have hal := belowOne w7 (.cells #[.slice Aqw0 R.items.length cqw0] 54)
  replace HB := Lib.hid (belowNext HB.out hal)
  replace HX0 := Lib.hid (HX0.out.below hal HX0.out.1)
  replace HRlW0 := Lib.hid (rel_call HRlW0.out hal (by have z0 := HZ0.out; have z3 := HZ3.out; have z6 := HZ6.out; have z8 := HZ8.out; omega))
  have HZ9 := Lib.hid (allocSize w7 (.cells #[.slice Aqw0 R.items.length cqw0] 54))
  clear hal
  have HBxW0 := Lib.hid (Held.new w7 #[.slice Aqw0 R.items.length cqw0] 54)
  have a0_0 := HX0.out.of 0 _ rfl
  have a0_1 := HX0.out.of 1 _ rfl
  go_wp2_with fail
  clear a0_0 a0_1
  refine (toLogDisk_any _ _ x (HV0.out _ HB.out) hw0).mono ?_
  rintro e w10 ⟨cs', rfl, ho, hb⟩
  obtain ⟨ux0, rfl, hux0⟩ := disk_own.1 ho
  obtain ⟨Ax0, cx0, rfl, -, -⟩ := hux0.row.form
  clear hux0
  replace HB := Lib.hid (belowNext HB.out hb)
  replace HX0 := Lib.hid (HX0.out.below hb HX0.out.1)
  replace HBxW0 := Lib.hid (HBxW0.out.below hb HBxW0.out.1)
  replace HRlW0 := Lib.hid (rel_call HRlW0.out hb (by have z0 := HZ0.out; have z3 := HZ3.out; have z6 := HZ6.out; have z8 := HZ8.out; have z9 := HZ9.out; omega))
  have HZ11 := Lib.hid hb.size
  clear hb
  have HC0 := Lib.hid ho
  clear ho
  have hal := belowOne w10 (.cells #[.slice Ax0 x.notes.length cx0, .int .i64 x.safe] 25)
  replace HB := Lib.hid (belowNext HB.out hal)
  replace HX0 := Lib.hid (HX0.out.below hal HX0.out.1)
  replace HBxW0 := Lib.hid (HBxW0.out.below hal HBxW0.out.1)
  replace HC0 := Lib.hid (own_call HC0.out hal)
  replace HRlW0 := Lib.hid (rel_call HRlW0.out hal (by have z0 := HZ0.out; have z3 := HZ3.out; have z6 := HZ6.out; have z8 := HZ8.out; have z9 := HZ9.out; have z11 := HZ11.out; omega))
  have HZ12 := Lib.hid (allocSize w10 (.cells #[.slice Ax0 x.notes.length cx0, .int .i64 x.safe] 25))
  clear hal
  have HY0 := Lib.hid (Held.new w10 #[.slice Ax0 x.notes.length cx0, .int .i64 x.safe] 25)
  have a0_0 := HY0.out.of 0 _ rfl
  have a0_1 := HY0.out.of 1 _ rfl
  go_wp2_with fail
  clear a0_0 a0_1
  refine (HIm.out _ _ (diskSh.orel HC0.out)).mono ?_
  rintro e w13 ⟨cs', rfl, ho0, hb⟩
  obtain ⟨uqg0, rfl, huqg0⟩ := sto_own.1 ho0
  obtain ⟨Aqg0, cqg0, rfl, -, -⟩ := huqg0.row.form
  clear huqg0
  replace HB := Lib.hid (belowNext HB.out hb)
  replace HX0 := Lib.hid (HX0.out.below hb HX0.out.1)
  replace HBxW0 := Lib.hid (HBxW0.out.below hb HBxW0.out.1)
  replace HY0 := Lib.hid (HY0.out.below hb HY0.out.1)
  replace HC0 := Lib.hid (own_call HC0.out hb)
  replace HRlW0 := Lib.hid (rel_call HRlW0.out hb (by have z0 := HZ0.out; have z3 := HZ3.out; have z6 := HZ6.out; have z8 := HZ8.out; have z9 := HZ9.out; have z11 := HZ11.out; have z12 := HZ12.out; omega))
  have HZ14 := Lib.hid hb.size
  clear hb
  have HOwG0 := Lib.hid ho0
  clear ho0
  have hal := belowOne w13 (.cells #[.slice Aqg0 R.items.length cqg0] 54)
  replace HB := Lib.hid (belowNext HB.out hal)
  replace HX0 := Lib.hid (HX0.out.below hal HX0.out.1)
  replace HBxW0 := Lib.hid (HBxW0.out.below hal HBxW0.out.1)
  replace HY0 := Lib.hid (HY0.out.below hal HY0.out.1)
  replace HC0 := Lib.hid (own_call HC0.out hal)
  replace HOwG0 := Lib.hid (own_call HOwG0.out hal)
  replace HRlW0 := Lib.hid (rel_call HRlW0.out hal (by have z0 := HZ0.out; have z3 := HZ3.out; have z6 := HZ6.out; have z8 := HZ8.out; have z9 := HZ9.out; have z11 := HZ11.out; have z12 := HZ12.out; have z14 := HZ14.out; omega))
  have HZ15 := Lib.hid (allocSize w13 (.cells #[.slice Aqg0 R.items.length cqg0] 54))
  clear hal
  have HBxG0 := Lib.hid (Held.new w13 #[.slice Aqg0 R.items.length cqg0] 54)
  have axG0_0 := HBxG0.out.of 0 _ rfl
  have axW0_0 := HBxW0.out.of 0 _ rfl
  go_wp2_with fail
  clear axG0_0 axW0_0
  refine (eqStoStore_alike _ _ _ R (stoSh.orel HOwG0.out) (stoSh.rmore HRlW0.out (by have z0 := HZ0.out; have z3 := HZ3.out; have z6 := HZ6.out; have z8 := HZ8.out; have z9 := HZ9.out; have z11 := HZ11.out; have z12 := HZ12.out; have z14 := HZ14.out; have z15 := HZ15.out; omega))).mono ?_
  rintro e w16 ⟨rfl, hb⟩
  replace HB := Lib.hid (belowNext HB.out hb)
  replace HX0 := Lib.hid (HX0.out.below hb HX0.out.1)
  replace HBxW0 := Lib.hid (HBxW0.out.below hb HBxW0.out.1)
  replace HY0 := Lib.hid (HY0.out.below hb HY0.out.1)
  replace HBxG0 := Lib.hid (HBxG0.out.below hb HBxG0.out.1)
  replace HC0 := Lib.hid (own_call HC0.out hb)
  replace HOwG0 := Lib.hid (own_call HOwG0.out hb)
  replace HRlW0 := Lib.hid (rel_call HRlW0.out hb (by have z0 := HZ0.out; have z3 := HZ3.out; have z6 := HZ6.out; have z8 := HZ8.out; have z9 := HZ9.out; have z11 := HZ11.out; have z12 := HZ12.out; have z14 := HZ14.out; have z15 := HZ15.out; omega))
  have HZ17 := Lib.hid hb.size
  clear hb
  go_wp2
  have k0_ : w16.drew.cell? ⟨w10.heap.size, 0, none⟩ = some (.slice Ax0 x.notes.length cx0) ∧ w16.drew.cell? ⟨w10.heap.size, 1, none⟩ = some (.int .i64 x.safe) ∧ w16.drew.cell? ⟨w.heap.size, 0, none⟩ = some (.slice Aa0 x.notes.length ca0) ∧ w16.drew.cell? ⟨w.heap.size, 1, none⟩ = some (.int .i64 x.safe) := (And.intro (HY0.out.of 0 _ rfl) (And.intro (HY0.out.of 1 _ rfl) (And.intro (HX0.out.of 0 _ rfl) (HX0.out.of 1 _ rfl))))
  refine wp_region_held_drew (S := (fun w' => w'.cell? ⟨w10.heap.size, 0, none⟩ = some (.slice Ax0 x.notes.length cx0) ∧ w'.cell? ⟨w10.heap.size, 1, none⟩ = some (.int .i64 x.safe) ∧ w'.cell? ⟨w.heap.size, 0, none⟩ = some (.slice Aa0 x.notes.length ca0) ∧ w'.cell? ⟨w.heap.size, 1, none⟩ = some (.int .i64 x.safe))) (by kernel_rfl) ?hSe0 (fun hHelde0 => ?ste0)
  case hSe0 => (first | (dsimp only; (exact k0_)) | (exact k0_))
  have hdr := (Below.refl w16.heap.size w16).drew
  replace HB := Lib.hid (belowNext HB.out hdr)
  replace HX0 := Lib.hid (HX0.out.below hdr HX0.out.1)
  replace HBxW0 := Lib.hid (HBxW0.out.below hdr HBxW0.out.1)
  replace HY0 := Lib.hid (HY0.out.below hdr HY0.out.1)
  replace HBxG0 := Lib.hid (HBxG0.out.below hdr HBxG0.out.1)
  replace HC0 := Lib.hid (own_call HC0.out hdr)
  replace HOwG0 := Lib.hid (own_call HOwG0.out hdr)
  replace HRlW0 := Lib.hid (rel_call HRlW0.out hdr (by have z0 := HZ0.out; have z3 := HZ3.out; have z6 := HZ6.out; have z8 := HZ8.out; have z9 := HZ9.out; have z11 := HZ11.out; have z12 := HZ12.out; have z14 := HZ14.out; have z15 := HZ15.out; have z17 := HZ17.out; omega))
  have HZ18 := Lib.hid hdr.size
  clear hdr
  refine take_first 0 27 (v := ?ve0_1) rfl rfl (by kernel_rfl) (by kernel_rfl) (by kernel_rfl) (fun _ _ _ h => h) (by rfl) ?ye0_1 (by assumption) ?re0_1
  case ye0_1 => (intro w hSw; (try dsimp only at hSw); go_simp; (try with_reducible rfl))
  simp only [Act.put, List.setIfInBounds_toArray, List.set_cons_zero, List.set_cons_succ]
  refine take_first 1 28 (v := ?ve0_2) rfl rfl (by kernel_rfl) (by kernel_rfl) (by kernel_rfl) (fun _ _ _ h => h) (by rfl) ?ye0_2 (by assumption) ?re0_2
  case ye0_2 => (intro w hSw; (try dsimp only at hSw); go_simp; (try with_reducible rfl))
  simp only [Act.put, List.setIfInBounds_toArray, List.set_cons_zero, List.set_cons_succ]
  refine wpAnyH_ready (rs := [2]) (by kernel_rfl) (by simp) ?_
  refine AllReadyH.cons (o := _) rfl (fun Ke0_3 hKe0_3 => ?ce0_3) ?me0_3
  case me0_3 => exact AllReadyH.nil
  go_simp
  refine (toLogDisk_any _ _ x (HV0.out _ HB.out) hw0).mono ?_
  rintro e w19 ⟨cs', rfl, ho, hb⟩
  obtain ⟨up19, rfl, hup19⟩ := disk_own.1 ho
  obtain ⟨Ap19, cp19, rfl, -, -⟩ := hup19.row.form
  clear hup19
  replace HB := Lib.hid (belowNext HB.out hb)
  replace HX0 := Lib.hid (HX0.out.below hb HX0.out.1)
  replace HBxW0 := Lib.hid (HBxW0.out.below hb HBxW0.out.1)
  replace HY0 := Lib.hid (HY0.out.below hb HY0.out.1)
  replace HBxG0 := Lib.hid (HBxG0.out.below hb HBxG0.out.1)
  replace HC0 := Lib.hid (own_call HC0.out hb)
  replace HOwG0 := Lib.hid (own_call HOwG0.out hb)
  replace HRlW0 := Lib.hid (rel_call HRlW0.out hb (by have z0 := HZ0.out; have z3 := HZ3.out; have z6 := HZ6.out; have z8 := HZ8.out; have z9 := HZ9.out; have z11 := HZ11.out; have z12 := HZ12.out; have z14 := HZ14.out; have z15 := HZ15.out; have z17 := HZ17.out; have z18 := HZ18.out; omega))
  have HZ20 := Lib.hid hb.size
  clear hb
  have HP := Lib.hid (diskSh.orel ho)
  clear ho
  have k21_ := (And.intro (HY0.out.of 0 _ rfl) (And.intro (HY0.out.of 1 _ rfl) (And.intro (HX0.out.of 0 _ rfl) (HX0.out.of 1 _ rfl))))
  go_wp2_with fail
  refine hKe0_3.out _ _ ?ke0_3 (fun hHelde0_3 => ?de0_3)
  case ke0_3 => (first | (dsimp only; (with_reducible exact k21_)) | (with_reducible exact k21_))
  clear hKe0_3 Ke0_3
  refine wpAnyH_ready (rs := [3]) (by kernel_rfl) (by simp) ?_
  refine AllReadyH.cons (o := _) rfl (fun Ke0_4 hKe0_4 => ?ce0_4) ?me0_4
  case me0_4 => exact AllReadyH.nil
  go_simp
  refine (eqLogDisk_same _ _ _ x (diskSh.orel HC0.out) HP.out).mono ?_
  rintro e w22 ⟨rfl, hb⟩
  clear HP
  replace HB := Lib.hid (belowNext HB.out hb)
  replace HX0 := Lib.hid (HX0.out.below hb HX0.out.1)
  replace HBxW0 := Lib.hid (HBxW0.out.below hb HBxW0.out.1)
  replace HY0 := Lib.hid (HY0.out.below hb HY0.out.1)
  replace HBxG0 := Lib.hid (HBxG0.out.below hb HBxG0.out.1)
  replace HC0 := Lib.hid (own_call HC0.out hb)
  replace HOwG0 := Lib.hid (own_call HOwG0.out hb)
  replace HRlW0 := Lib.hid (rel_call HRlW0.out hb (by have z0 := HZ0.out; have z3 := HZ3.out; have z6 := HZ6.out; have z8 := HZ8.out; have z9 := HZ9.out; have z11 := HZ11.out; have z12 := HZ12.out; have z14 := HZ14.out; have z15 := HZ15.out; have z17 := HZ17.out; have z18 := HZ18.out; have z20 := HZ20.out; omega))
  have HZ23 := Lib.hid hb.size
  clear hb
  have k24_ := (And.intro (HY0.out.of 0 _ rfl) (And.intro (HY0.out.of 1 _ rfl) (And.intro (HX0.out.of 0 _ rfl) (HX0.out.of 1 _ rfl))))
  go_wp2_with fail
  refine hKe0_4.out _ _ ?ke0_4 (fun hHelde0_4 => ?de0_4)
  case ke0_4 => (first | (dsimp only; (with_reducible exact k24_)) | (with_reducible exact k24_))
  clear hKe0_4 Ke0_4
  refine take_first 4 31 (v := ?ve0_5) rfl rfl (by kernel_rfl) (by kernel_rfl) (by kernel_rfl) (fun _ _ _ h => h) (by rfl) ?ye0_5 (by assumption) ?re0_5
  case ye0_5 => (intro w hSw; (try dsimp only at hSw); go_simp; (try with_reducible rfl))
  simp only [Act.put, List.setIfInBounds_toArray, List.set_cons_zero, List.set_cons_succ]
  refine wpAnyH_done (by kernel_rfl) ?ee0_6 _
  clear k0_ k21_ k24_
  have hcbx : dCnt x ≤ 16 * diskSh.wt x := by have h := cntL_le noteSh.cnt noteSh.wt noteSh.base (by decide) noteSh.cntLe x.notes; have e : diskSh.wt x = wtL noteSh.wt x.notes + 0 := rfl; unfold dCnt; omega
  have a0_0 := HY0.out.of 0 _ rfl
  have a0_1 := HY0.out.of 1 _ rfl
  go_wp2_with fail
  clear a0_0 a0_1
  refine (markLogDisk_r _ _ _ x HC0.out _ hw0 (by omega) (by omega)).mono ?_
  rintro e w25 ⟨y, rfl, -, -, -, ht⟩
  have HT := Lib.hid ht
  replace HB := Lib.hid (below_mark HB.out HT.out HB.out.size (fun b hb => by have z0 := HZ0.out; have z3 := HZ3.out; have z6 := HZ6.out; have z8 := HZ8.out; have z9 := HZ9.out; have z11 := HZ11.out; have z12 := HZ12.out; have z14 := HZ14.out; have z15 := HZ15.out; have z17 := HZ17.out; have z18 := HZ18.out; have z20 := HZ20.out; have z23 := HZ23.out; have h1 := hb.1; omega))
  replace HX0 := Lib.hid (HX0.out.outs HT.out (fun h => by have z0 := HZ0.out; have z3 := HZ3.out; have z6 := HZ6.out; have z8 := HZ8.out; have z9 := HZ9.out; have z11 := HZ11.out; have z12 := HZ12.out; have z14 := HZ14.out; have z15 := HZ15.out; have z17 := HZ17.out; have z18 := HZ18.out; have z20 := HZ20.out; have z23 := HZ23.out; have h1 := h.1; have h2 := h.2; omega))
  replace HBxW0 := Lib.hid (HBxW0.out.outs HT.out (fun h => by have z0 := HZ0.out; have z3 := HZ3.out; have z6 := HZ6.out; have z8 := HZ8.out; have z9 := HZ9.out; have z11 := HZ11.out; have z12 := HZ12.out; have z14 := HZ14.out; have z15 := HZ15.out; have z17 := HZ17.out; have z18 := HZ18.out; have z20 := HZ20.out; have z23 := HZ23.out; have h1 := h.1; have h2 := h.2; omega))
  replace HY0 := Lib.hid (HY0.out.outs HT.out (fun h => by have z0 := HZ0.out; have z3 := HZ3.out; have z6 := HZ6.out; have z8 := HZ8.out; have z9 := HZ9.out; have z11 := HZ11.out; have z12 := HZ12.out; have z14 := HZ14.out; have z15 := HZ15.out; have z17 := HZ17.out; have z18 := HZ18.out; have z20 := HZ20.out; have z23 := HZ23.out; have h1 := h.1; have h2 := h.2; omega))
  replace HBxG0 := Lib.hid (HBxG0.out.outs HT.out (fun h => by have z0 := HZ0.out; have z3 := HZ3.out; have z6 := HZ6.out; have z8 := HZ8.out; have z9 := HZ9.out; have z11 := HZ11.out; have z12 := HZ12.out; have z14 := HZ14.out; have z15 := HZ15.out; have z17 := HZ17.out; have z18 := HZ18.out; have z20 := HZ20.out; have z23 := HZ23.out; have h1 := h.1; have h2 := h.2; omega))
  replace HOwG0 := Lib.hid (own_mark HOwG0.out HT.out (fun b hb h => by have z0 := HZ0.out; have z3 := HZ3.out; have z6 := HZ6.out; have z8 := HZ8.out; have z9 := HZ9.out; have z11 := HZ11.out; have z12 := HZ12.out; have z14 := HZ14.out; have z15 := HZ15.out; have z17 := HZ17.out; have z18 := HZ18.out; have z20 := HZ20.out; have z23 := HZ23.out; have h1 := hb.1; have h2 := hb.2; have h3 := h.1; have h4 := h.2; omega))
  replace HRlW0 := Lib.hid (rel_mark HRlW0.out HT.out (by have z0 := HZ0.out; have z3 := HZ3.out; have z6 := HZ6.out; have z8 := HZ8.out; have z9 := HZ9.out; have z11 := HZ11.out; have z12 := HZ12.out; have z14 := HZ14.out; have z15 := HZ15.out; have z17 := HZ17.out; have z18 := HZ18.out; have z20 := HZ20.out; have z23 := HZ23.out; omega) (fun b hb => by have z0 := HZ0.out; have z3 := HZ3.out; have z6 := HZ6.out; have z8 := HZ8.out; have z9 := HZ9.out; have z11 := HZ11.out; have z12 := HZ12.out; have z14 := HZ14.out; have z15 := HZ15.out; have z17 := HZ17.out; have z18 := HZ18.out; have z20 := HZ20.out; have z23 := HZ23.out; have h1 := hb.1; omega))
  have HZ26 := Lib.hid HT.out.size
  clear ht HT
  clear HC0
  have hkn : ¬ (1 + (dCnt x : Int) < 0) := by omega
  have axG0_0 := HBxG0.out.of 0 _ rfl
  have axW0_0 := HBxW0.out.of 0 _ rfl
  go_wp2_with fail
  clear axG0_0 axW0_0
  refine (eqStoStore_alike _ _ _ R (stoSh.orel HOwG0.out) (stoSh.rmore HRlW0.out (by have z0 := HZ0.out; have z3 := HZ3.out; have z6 := HZ6.out; have z8 := HZ8.out; have z9 := HZ9.out; have z11 := HZ11.out; have z12 := HZ12.out; have z14 := HZ14.out; have z15 := HZ15.out; have z17 := HZ17.out; have z18 := HZ18.out; have z20 := HZ20.out; have z23 := HZ23.out; have z26 := HZ26.out; omega))).mono ?_
  rintro e w27 ⟨rfl, hb⟩
  replace HB := Lib.hid (belowNext HB.out hb)
  replace HX0 := Lib.hid (HX0.out.below hb HX0.out.1)
  replace HBxW0 := Lib.hid (HBxW0.out.below hb HBxW0.out.1)
  replace HY0 := Lib.hid (HY0.out.below hb HY0.out.1)
  replace HBxG0 := Lib.hid (HBxG0.out.below hb HBxG0.out.1)
  replace HOwG0 := Lib.hid (own_call HOwG0.out hb)
  replace HRlW0 := Lib.hid (rel_call HRlW0.out hb (by have z0 := HZ0.out; have z3 := HZ3.out; have z6 := HZ6.out; have z8 := HZ8.out; have z9 := HZ9.out; have z11 := HZ11.out; have z12 := HZ12.out; have z14 := HZ14.out; have z15 := HZ15.out; have z17 := HZ17.out; have z18 := HZ18.out; have z20 := HZ20.out; have z23 := HZ23.out; have z26 := HZ26.out; omega))
  have HZ28 := Lib.hid hb.size
  clear hb
  have axG0_0 := HBxG0.out.of 0 _ rfl
  go_wp2_with fail
  clear axG0_0
  refine (markStoStore_r _ _ _ R HOwG0.out 1 (by omega) (by omega) (by omega)).mono ?_
  rintro e w29 ⟨y0, rfl, hyc, hym, hyo, ht⟩
  have HT := Lib.hid ht
  replace HB := Lib.hid (below_mark HB.out HT.out HB.out.size (fun b hb => by have z0 := HZ0.out; have z3 := HZ3.out; have z6 := HZ6.out; have z8 := HZ8.out; have z9 := HZ9.out; have z11 := HZ11.out; have z12 := HZ12.out; have z14 := HZ14.out; have z15 := HZ15.out; have z17 := HZ17.out; have z18 := HZ18.out; have z20 := HZ20.out; have z23 := HZ23.out; have z26 := HZ26.out; have z28 := HZ28.out; have h1 := hb.1; omega))
  replace HX0 := Lib.hid (HX0.out.outs HT.out (fun h => by have z0 := HZ0.out; have z3 := HZ3.out; have z6 := HZ6.out; have z8 := HZ8.out; have z9 := HZ9.out; have z11 := HZ11.out; have z12 := HZ12.out; have z14 := HZ14.out; have z15 := HZ15.out; have z17 := HZ17.out; have z18 := HZ18.out; have z20 := HZ20.out; have z23 := HZ23.out; have z26 := HZ26.out; have z28 := HZ28.out; have h1 := h.1; have h2 := h.2; omega))
  replace HBxW0 := Lib.hid (HBxW0.out.outs HT.out (fun h => by have z0 := HZ0.out; have z3 := HZ3.out; have z6 := HZ6.out; have z8 := HZ8.out; have z9 := HZ9.out; have z11 := HZ11.out; have z12 := HZ12.out; have z14 := HZ14.out; have z15 := HZ15.out; have z17 := HZ17.out; have z18 := HZ18.out; have z20 := HZ20.out; have z23 := HZ23.out; have z26 := HZ26.out; have z28 := HZ28.out; have h1 := h.1; have h2 := h.2; omega))
  replace HY0 := Lib.hid (HY0.out.outs HT.out (fun h => by have z0 := HZ0.out; have z3 := HZ3.out; have z6 := HZ6.out; have z8 := HZ8.out; have z9 := HZ9.out; have z11 := HZ11.out; have z12 := HZ12.out; have z14 := HZ14.out; have z15 := HZ15.out; have z17 := HZ17.out; have z18 := HZ18.out; have z20 := HZ20.out; have z23 := HZ23.out; have z26 := HZ26.out; have z28 := HZ28.out; have h1 := h.1; have h2 := h.2; omega))
  replace HBxG0 := Lib.hid (HBxG0.out.outs HT.out (fun h => by have z0 := HZ0.out; have z3 := HZ3.out; have z6 := HZ6.out; have z8 := HZ8.out; have z9 := HZ9.out; have z11 := HZ11.out; have z12 := HZ12.out; have z14 := HZ14.out; have z15 := HZ15.out; have z17 := HZ17.out; have z18 := HZ18.out; have z20 := HZ20.out; have z23 := HZ23.out; have z26 := HZ26.out; have z28 := HZ28.out; have h1 := h.1; have h2 := h.2; omega))
  replace HRlW0 := Lib.hid (rel_mark HRlW0.out HT.out (by have z0 := HZ0.out; have z3 := HZ3.out; have z6 := HZ6.out; have z8 := HZ8.out; have z9 := HZ9.out; have z11 := HZ11.out; have z12 := HZ12.out; have z14 := HZ14.out; have z15 := HZ15.out; have z17 := HZ17.out; have z18 := HZ18.out; have z20 := HZ20.out; have z23 := HZ23.out; have z26 := HZ26.out; have z28 := HZ28.out; omega) (fun b hb => by have z0 := HZ0.out; have z3 := HZ3.out; have z6 := HZ6.out; have z8 := HZ8.out; have z9 := HZ9.out; have z11 := HZ11.out; have z12 := HZ12.out; have z14 := HZ14.out; have z15 := HZ15.out; have z17 := HZ17.out; have z18 := HZ18.out; have z20 := HZ20.out; have z23 := HZ23.out; have z26 := HZ26.out; have z28 := HZ28.out; have h1 := hb.1; omega))
  have HZ30 := Lib.hid HT.out.size
  replace HOwG0 := Lib.hid hyo
  have hyw0 : stoSh.wt y0 ≤ 1048576 := sto_marked hym (by omega) hyc (by omega)
  have HM0 := Lib.hid hym
  have HCn0 := Lib.hid hyc
  clear ht HT hyo hym hyc
  have hcn0 : ¬ (1 + (sCnt R : Int) < 0) := by omega
  have hhc0 : sCnt y0 = sCnt R := HCn0.out
  have axG0_0 := HBxG0.out.of 0 _ rfl
  go_wp2_with fail
  clear axG0_0
  refine (heldStoStore_r _ _ y0 (stoSh.orel HOwG0.out) 1 hyw0 (by omega) (by omega) HM0.out).mono ?_
  rintro e w31 ⟨rfl, hb⟩
  rw [hhc0]
  clear hhc0
  replace HB := Lib.hid (belowNext HB.out hb)
  replace HX0 := Lib.hid (HX0.out.below hb HX0.out.1)
  replace HBxW0 := Lib.hid (HBxW0.out.below hb HBxW0.out.1)
  replace HY0 := Lib.hid (HY0.out.below hb HY0.out.1)
  replace HBxG0 := Lib.hid (HBxG0.out.below hb HBxG0.out.1)
  replace HOwG0 := Lib.hid (own_call HOwG0.out hb)
  replace HRlW0 := Lib.hid (rel_call HRlW0.out hb (by have z0 := HZ0.out; have z3 := HZ3.out; have z6 := HZ6.out; have z8 := HZ8.out; have z9 := HZ9.out; have z11 := HZ11.out; have z12 := HZ12.out; have z14 := HZ14.out; have z15 := HZ15.out; have z17 := HZ17.out; have z18 := HZ18.out; have z20 := HZ20.out; have z23 := HZ23.out; have z26 := HZ26.out; have z28 := HZ28.out; have z30 := HZ30.out; omega))
  have HZ32 := Lib.hid hb.size
  clear hb
  have a0_0 := HX0.out.of 0 _ rfl
  have a0_1 := HX0.out.of 1 _ rfl
  go_wp2_with fail
  clear a0_0 a0_1
  refine (toLogDisk_any _ _ x (HV0.out _ HB.out) hw0).mono ?_
  rintro e w33 ⟨cs', rfl, ho, hb⟩
  obtain ⟨up34, rfl, hup34⟩ := disk_own.1 ho
  obtain ⟨Ap34, cp34, rfl, -, -⟩ := hup34.row.form
  clear hup34
  replace HB := Lib.hid (belowNext HB.out hb)
  replace HX0 := Lib.hid (HX0.out.below hb HX0.out.1)
  replace HBxW0 := Lib.hid (HBxW0.out.below hb HBxW0.out.1)
  replace HY0 := Lib.hid (HY0.out.below hb HY0.out.1)
  replace HBxG0 := Lib.hid (HBxG0.out.below hb HBxG0.out.1)
  replace HOwG0 := Lib.hid (own_call HOwG0.out hb)
  replace HRlW0 := Lib.hid (rel_call HRlW0.out hb (by have z0 := HZ0.out; have z3 := HZ3.out; have z6 := HZ6.out; have z8 := HZ8.out; have z9 := HZ9.out; have z11 := HZ11.out; have z12 := HZ12.out; have z14 := HZ14.out; have z15 := HZ15.out; have z17 := HZ17.out; have z18 := HZ18.out; have z20 := HZ20.out; have z23 := HZ23.out; have z26 := HZ26.out; have z28 := HZ28.out; have z30 := HZ30.out; have z32 := HZ32.out; omega))
  have HZ35 := Lib.hid hb.size
  clear hb
  have HP0 := Lib.hid (diskSh.orel ho)
  clear ho
  go_wp2_with fail
  refine (HIm.out _ _ HP0.out).mono ?_
  rintro e w36 ⟨cs', rfl, ho0, hb⟩
  clear HP0
  obtain ⟨uqh0, rfl, huqh0⟩ := sto_own.1 ho0
  obtain ⟨Aqh0, cqh0, rfl, -, -⟩ := huqh0.row.form
  clear huqh0
  replace HB := Lib.hid (belowNext HB.out hb)
  replace HX0 := Lib.hid (HX0.out.below hb HX0.out.1)
  replace HBxW0 := Lib.hid (HBxW0.out.below hb HBxW0.out.1)
  replace HY0 := Lib.hid (HY0.out.below hb HY0.out.1)
  replace HBxG0 := Lib.hid (HBxG0.out.below hb HBxG0.out.1)
  replace HOwG0 := Lib.hid (own_call HOwG0.out hb)
  replace HRlW0 := Lib.hid (rel_call HRlW0.out hb (by have z0 := HZ0.out; have z3 := HZ3.out; have z6 := HZ6.out; have z8 := HZ8.out; have z9 := HZ9.out; have z11 := HZ11.out; have z12 := HZ12.out; have z14 := HZ14.out; have z15 := HZ15.out; have z17 := HZ17.out; have z18 := HZ18.out; have z20 := HZ20.out; have z23 := HZ23.out; have z26 := HZ26.out; have z28 := HZ28.out; have z30 := HZ30.out; have z32 := HZ32.out; have z35 := HZ35.out; omega))
  have HZ37 := Lib.hid hb.size
  clear hb
  have HRlH0 := Lib.hid (stoSh.orel ho0)
  clear ho0
  have hal := belowOne w36 (.cells #[.slice Aqh0 R.items.length cqh0] 54)
  replace HB := Lib.hid (belowNext HB.out hal)
  replace HX0 := Lib.hid (HX0.out.below hal HX0.out.1)
  replace HBxW0 := Lib.hid (HBxW0.out.below hal HBxW0.out.1)
  replace HY0 := Lib.hid (HY0.out.below hal HY0.out.1)
  replace HBxG0 := Lib.hid (HBxG0.out.below hal HBxG0.out.1)
  replace HOwG0 := Lib.hid (own_call HOwG0.out hal)
  replace HRlW0 := Lib.hid (rel_call HRlW0.out hal (by have z0 := HZ0.out; have z3 := HZ3.out; have z6 := HZ6.out; have z8 := HZ8.out; have z9 := HZ9.out; have z11 := HZ11.out; have z12 := HZ12.out; have z14 := HZ14.out; have z15 := HZ15.out; have z17 := HZ17.out; have z18 := HZ18.out; have z20 := HZ20.out; have z23 := HZ23.out; have z26 := HZ26.out; have z28 := HZ28.out; have z30 := HZ30.out; have z32 := HZ32.out; have z35 := HZ35.out; have z37 := HZ37.out; omega))
  replace HRlH0 := Lib.hid (rel_call HRlH0.out hal (by have z0 := HZ0.out; have z3 := HZ3.out; have z6 := HZ6.out; have z8 := HZ8.out; have z9 := HZ9.out; have z11 := HZ11.out; have z12 := HZ12.out; have z14 := HZ14.out; have z15 := HZ15.out; have z17 := HZ17.out; have z18 := HZ18.out; have z20 := HZ20.out; have z23 := HZ23.out; have z26 := HZ26.out; have z28 := HZ28.out; have z30 := HZ30.out; have z32 := HZ32.out; have z35 := HZ35.out; have z37 := HZ37.out; omega))
  have HZ38 := Lib.hid (allocSize w36 (.cells #[.slice Aqh0 R.items.length cqh0] 54))
  clear hal
  have HBxH0 := Lib.hid (Held.new w36 #[.slice Aqh0 R.items.length cqh0] 54)
  have axH0_0 := HBxH0.out.of 0 _ rfl
  have axW0_0 := HBxW0.out.of 0 _ rfl
  go_wp2_with fail
  clear axH0_0 axW0_0
  refine (eqStoStore_alike _ _ _ R (stoSh.rmore HRlH0.out (by have z0 := HZ0.out; have z3 := HZ3.out; have z6 := HZ6.out; have z8 := HZ8.out; have z9 := HZ9.out; have z11 := HZ11.out; have z12 := HZ12.out; have z14 := HZ14.out; have z15 := HZ15.out; have z17 := HZ17.out; have z18 := HZ18.out; have z20 := HZ20.out; have z23 := HZ23.out; have z26 := HZ26.out; have z28 := HZ28.out; have z30 := HZ30.out; have z32 := HZ32.out; have z35 := HZ35.out; have z37 := HZ37.out; have z38 := HZ38.out; omega)) (stoSh.rmore HRlW0.out (by have z0 := HZ0.out; have z3 := HZ3.out; have z6 := HZ6.out; have z8 := HZ8.out; have z9 := HZ9.out; have z11 := HZ11.out; have z12 := HZ12.out; have z14 := HZ14.out; have z15 := HZ15.out; have z17 := HZ17.out; have z18 := HZ18.out; have z20 := HZ20.out; have z23 := HZ23.out; have z26 := HZ26.out; have z28 := HZ28.out; have z30 := HZ30.out; have z32 := HZ32.out; have z35 := HZ35.out; have z37 := HZ37.out; have z38 := HZ38.out; omega))).mono ?_
  rintro e w39 ⟨rfl, hb⟩
  replace HB := Lib.hid (belowNext HB.out hb)
  replace HX0 := Lib.hid (HX0.out.below hb HX0.out.1)
  replace HBxW0 := Lib.hid (HBxW0.out.below hb HBxW0.out.1)
  replace HY0 := Lib.hid (HY0.out.below hb HY0.out.1)
  replace HBxG0 := Lib.hid (HBxG0.out.below hb HBxG0.out.1)
  replace HBxH0 := Lib.hid (HBxH0.out.below hb HBxH0.out.1)
  replace HOwG0 := Lib.hid (own_call HOwG0.out hb)
  replace HRlW0 := Lib.hid (rel_call HRlW0.out hb (by have z0 := HZ0.out; have z3 := HZ3.out; have z6 := HZ6.out; have z8 := HZ8.out; have z9 := HZ9.out; have z11 := HZ11.out; have z12 := HZ12.out; have z14 := HZ14.out; have z15 := HZ15.out; have z17 := HZ17.out; have z18 := HZ18.out; have z20 := HZ20.out; have z23 := HZ23.out; have z26 := HZ26.out; have z28 := HZ28.out; have z30 := HZ30.out; have z32 := HZ32.out; have z35 := HZ35.out; have z37 := HZ37.out; have z38 := HZ38.out; omega))
  replace HRlH0 := Lib.hid (rel_call HRlH0.out hb (by have z0 := HZ0.out; have z3 := HZ3.out; have z6 := HZ6.out; have z8 := HZ8.out; have z9 := HZ9.out; have z11 := HZ11.out; have z12 := HZ12.out; have z14 := HZ14.out; have z15 := HZ15.out; have z17 := HZ17.out; have z18 := HZ18.out; have z20 := HZ20.out; have z23 := HZ23.out; have z26 := HZ26.out; have z28 := HZ28.out; have z30 := HZ30.out; have z32 := HZ32.out; have z35 := HZ35.out; have z37 := HZ37.out; have z38 := HZ38.out; omega))
  have HZ40 := Lib.hid hb.size
  clear hb
  have hhc0 : sCnt y0 = sCnt R := HCn0.out
  have axG0_0 := HBxG0.out.of 0 _ rfl
  go_wp2_with fail
  clear axG0_0
  refine (heldStoStore_r _ _ y0 (stoSh.orel HOwG0.out) 1 hyw0 (by omega) (by omega) HM0.out).mono ?_
  rintro e w41 ⟨rfl, hb⟩
  rw [hhc0]
  clear hhc0
  replace HB := Lib.hid (belowNext HB.out hb)
  replace HX0 := Lib.hid (HX0.out.below hb HX0.out.1)
  replace HBxW0 := Lib.hid (HBxW0.out.below hb HBxW0.out.1)
  replace HY0 := Lib.hid (HY0.out.below hb HY0.out.1)
  replace HBxG0 := Lib.hid (HBxG0.out.below hb HBxG0.out.1)
  replace HBxH0 := Lib.hid (HBxH0.out.below hb HBxH0.out.1)
  replace HOwG0 := Lib.hid (own_call HOwG0.out hb)
  replace HRlW0 := Lib.hid (rel_call HRlW0.out hb (by have z0 := HZ0.out; have z3 := HZ3.out; have z6 := HZ6.out; have z8 := HZ8.out; have z9 := HZ9.out; have z11 := HZ11.out; have z12 := HZ12.out; have z14 := HZ14.out; have z15 := HZ15.out; have z17 := HZ17.out; have z18 := HZ18.out; have z20 := HZ20.out; have z23 := HZ23.out; have z26 := HZ26.out; have z28 := HZ28.out; have z30 := HZ30.out; have z32 := HZ32.out; have z35 := HZ35.out; have z37 := HZ37.out; have z38 := HZ38.out; have z40 := HZ40.out; omega))
  replace HRlH0 := Lib.hid (rel_call HRlH0.out hb (by have z0 := HZ0.out; have z3 := HZ3.out; have z6 := HZ6.out; have z8 := HZ8.out; have z9 := HZ9.out; have z11 := HZ11.out; have z12 := HZ12.out; have z14 := HZ14.out; have z15 := HZ15.out; have z17 := HZ17.out; have z18 := HZ18.out; have z20 := HZ20.out; have z23 := HZ23.out; have z26 := HZ26.out; have z28 := HZ28.out; have z30 := HZ30.out; have z32 := HZ32.out; have z35 := HZ35.out; have z37 := HZ37.out; have z38 := HZ38.out; have z40 := HZ40.out; omega))
  have HZ42 := Lib.hid hb.size
  clear hb
  go_wp2
  go_ret
  exact ⟨rfl, HB.out⟩

end Go.Proofs.Ytkamlibfcakblaa

/- The walk of FnExactDiskAdd. By exmark.py. -/
import Derived.Test.YtllmmhibmgpehaaXSDisk
import Derived.Test.YtllmmhibmgpehaaXHLogDisk
import Derived.Test.YtllmmhibmgpehaaXPut
import Derived.Test.YtllmmhibmgpehaaXHLogNote
import Derived.Deep.CutRange
import Derived.Deep.DeepCutAuto
namespace Go.Proofs.Ytllmmhibmgpehaa
open Go.RowKit


set_option maxRecDepth 100000 in
set_option maxHeartbeats 8000000 in
theorem exDiskAdd_any (w : World) (cs0 : List Value) (x : Disk) (h0 : diskSh.rel w w.heap.size cs0 x) (cs1 : List Value) (n : Note) (h1 : noteSh.rel w w.heap.size cs1 n) (safe : Bool) :
    Calls Try.prog 4 #[.agg cs0.toArray, .agg cs1.toArray, .bool safe] w fun e w' => e = .returned (.bool true) ∧ Below w.heap.size w w' := by
  have HV0 := Lib.hid fun W (hb : Below w.heap.size w W) => diskSh.rmore (diskSh.rbelow h0 hb) hb.size
  obtain ⟨ua0, rfl, hua0⟩ := disk_rel.1 h0
  obtain ⟨Aa0, ca0, rfl, -, -⟩ := hua0.form
  clear hua0
  clear h0
  have HV1 := Lib.hid fun W (hb : Below w.heap.size w W) => noteSh.rmore (noteSh.rbelow h1 hb) hb.size
  obtain ⟨ua1, va1, rfl, hua1, hva1⟩ := note_rel.1 h1
  obtain ⟨Aa1, ca1, rfl, -, -⟩ := hua1.form
  obtain ⟨Ba1, da1, rfl, -, -⟩ := hva1.form
  clear hua1 hva1
  clear h1
  have HB := Lib.hid (show Below w.heap.size w ((w.alloc (.cells #[.slice Aa0 x.notes.length ca0, .int .i64 x.safe] 37)).alloc (.cells #[.int .i64 n.kind, .int .i64 n.tx, .slice Aa1 n.locks.length ca1, .slice Ba1 n.writes.length da1] 40)) from belowTwo w (.cells #[.slice Aa0 x.notes.length ca0, .int .i64 x.safe] 37) (.cells #[.int .i64 n.kind, .int .i64 n.tx, .slice Aa1 n.locks.length ca1, .slice Ba1 n.writes.length da1] 40))
  have HX0 := Lib.hid (show Held ((w.alloc (.cells #[.slice Aa0 x.notes.length ca0, .int .i64 x.safe] 37)).alloc (.cells #[.int .i64 n.kind, .int .i64 n.tx, .slice Aa1 n.locks.length ca1, .slice Ba1 n.writes.length da1] 40)) (w.heap.size) [.slice Aa0 x.notes.length ca0, .int .i64 x.safe] from (by have h := Held.new w #[.slice Aa0 x.notes.length ca0, .int .i64 x.safe] 37; exact h.after _))
  have HX1 := Lib.hid (show Held ((w.alloc (.cells #[.slice Aa0 x.notes.length ca0, .int .i64 x.safe] 37)).alloc (.cells #[.int .i64 n.kind, .int .i64 n.tx, .slice Aa1 n.locks.length ca1, .slice Ba1 n.writes.length da1] 40)) (w.heap.size + 1) [.int .i64 n.kind, .int .i64 n.tx, .slice Aa1 n.locks.length ca1, .slice Ba1 n.writes.length da1] from (by have h := Held.new (w.alloc (.cells #[.slice Aa0 x.notes.length ca0, .int .i64 x.safe] 37)) #[.int .i64 n.kind, .int .i64 n.tx, .slice Aa1 n.locks.length ca1, .slice Ba1 n.writes.length da1] 40; rw [allocSize] at h; exact h))
  have HZ0 := Lib.hid (show ((w.alloc (.cells #[.slice Aa0 x.notes.length ca0, .int .i64 x.safe] 37)).alloc (.cells #[.int .i64 n.kind, .int .i64 n.tx, .slice Aa1 n.locks.length ca1, .slice Ba1 n.writes.length da1] 40)).heap.size = w.heap.size + 1 + 1 from by simp)
  go_enter Try.func4, Try.ntmps4
  by_cases hq0 : (1048576 : Int) < (diskSh.wt x : Int)
  · have hl := less_no hq0
    go_wp2_with fail
    refine (szLogDisk_any _ _ x (HV0.out _ HB.out) _ (by omega) (by omega)).mono ?_
    rintro e w1 ⟨rfl, hb⟩
    rw [hl]
    have HB1 := Lib.hid (belowNext HB.out hb)
    clear hb
    go_wp2
    go_ret
    exact ⟨rfl, HB1.out⟩
  have hl := less_yes (show (diskSh.wt x : Int) ≤ 1048576 by omega)
  have hw0 : diskSh.wt x ≤ 1048576 := by omega
  go_wp2_with fail
  refine (szLogDisk_any _ _ x (HV0.out _ HB.out) _ (by omega) (by omega)).mono ?_
  rintro e w2 ⟨rfl, hb⟩
  rw [hl]
  replace HB := Lib.hid (belowNext HB.out hb)
  replace HX0 := Lib.hid (HX0.out.below hb HX0.out.1)
  replace HX1 := Lib.hid (HX1.out.below hb HX1.out.1)
  have HZ3 := Lib.hid hb.size
  clear hb
  obtain ⟨r0, hr0⟩ : ∃ r : Int, 1048576 - (diskSh.wt x : Int) = r := ⟨_, rfl⟩
  have hr0' : 0 ≤ r0 ∧ r0 ≤ 1048576 := by omega
  rw [hr0]
  clear hl hr0 hq0
  by_cases hq1 : r0 < (noteSh.wt n : Int)
  · have hl := less_no hq1
    have a1_0 := HX1.out.of 0 _ rfl
    have a1_1 := HX1.out.of 1 _ rfl
    have a1_2 := HX1.out.of 2 _ rfl
    have a1_3 := HX1.out.of 3 _ rfl
    go_wp2_with fail
    clear a1_0 a1_1 a1_2 a1_3
    refine (szLogNote_any _ _ n (HV1.out _ HB.out) _ (by omega) (by omega)).mono ?_
    rintro e w4 ⟨rfl, hb⟩
    rw [hl]
    have HB1 := Lib.hid (belowNext HB.out hb)
    clear hb
    go_wp2
    go_ret
    exact ⟨rfl, HB1.out⟩
  have hl := less_yes (show (noteSh.wt n : Int) ≤ r0 by omega)
  have hw1 : noteSh.wt n ≤ 1048576 := by omega
  have a1_0 := HX1.out.of 0 _ rfl
  have a1_1 := HX1.out.of 1 _ rfl
  have a1_2 := HX1.out.of 2 _ rfl
  have a1_3 := HX1.out.of 3 _ rfl
  go_wp2_with fail
  clear a1_0 a1_1 a1_2 a1_3
  refine (szLogNote_any _ _ n (HV1.out _ HB.out) _ (by omega) (by omega)).mono ?_
  rintro e w5 ⟨rfl, hb⟩
  rw [hl]
  replace HB := Lib.hid (belowNext HB.out hb)
  replace HX0 := Lib.hid (HX0.out.below hb HX0.out.1)
  replace HX1 := Lib.hid (HX1.out.below hb HX1.out.1)
  have HZ6 := Lib.hid hb.size
  clear hb
  obtain ⟨r1, hr1⟩ : ∃ r : Int, r0 - (noteSh.wt n : Int) = r := ⟨_, rfl⟩
  have hr1' : 0 ≤ r1 ∧ r1 ≤ 1048576 := by omega
  rw [hr1]
  clear hl hr1 hq1
  obtain ⟨R, hR⟩ : ∃ R, addD x n safe = R := ⟨_, rfl⟩
  obtain ⟨ok, hok⟩ : ∃ ok, addOk x n = ok := ⟨_, rfl⟩
  have hsm := disk_small (diskB_add (x := x) (n := n) (b := safe))
  rw [hR] at hsm
  obtain ⟨hRc, hRw⟩ := hsm
  have HSp := Lib.hid fun (W : World) (cs ds : List Value) (h : diskSh.rel W W.heap.size cs x) (hn : noteSh.rel W W.heap.size ds n) => (show Calls Try.prog 21 #[.agg cs.toArray, .agg ds.toArray, .bool safe] W (fun e w' => ∃ cs, e = .returned (.tuple #[.agg cs.toArray, .bool ok]) ∧ diskSh.own w' (fun b => W.heap.size ≤ b ∧ b < w'.heap.size) cs R ∧ Below W.heap.size W w') from by have hc := specDiskAdd_any W cs ds x n safe h hn; unfold AddMade at hc; rw [hR, hok] at hc; exact hc)
  have HIm := Lib.hid fun (W : World) (cs ds : List Value) (h : diskSh.rel W W.heap.size cs x) (hn : noteSh.rel W W.heap.size ds n) => (show Calls Try.prog 24 #[.agg cs.toArray, .agg ds.toArray, .bool safe] W (fun e w' => ∃ cs, e = .returned (.tuple #[.agg cs.toArray, .bool ok]) ∧ diskSh.own w' (fun b => W.heap.size ≤ b ∧ b < w'.heap.size) cs R ∧ Below W.heap.size W w') from by have hc := implDiskAdd_any W cs ds x n safe h hn; unfold AddMade at hc; rw [hR, hok] at hc; exact hc)
  clear hR hok
  go_upto_region 8 with fail
  go_cut [8, 9] from 29 to 37 (fun u0 u1 wc => ∃ qw0 Aw0 cw0, u0 = .pointer (some ⟨qw0, 0, none⟩) ∧ Held wc qw0 [.slice Aw0 R.notes.length cw0, .int .i64 R.safe] ∧ diskSh.rel wc wc.heap.size [.slice Aw0 R.notes.length cw0, .int .i64 R.safe] R ∧ w5.heap.size ≤ qw0 ∧ qw0 < wc.heap.size ∧ u1 = .bool ok ∧ Below w5.heap.size w5 wc)
  case first =>
    have HL := Lib.hid (Below.refl w5.heap.size w5)
    have k0_ : w5.drew.cell? ⟨w.heap.size, 0, none⟩ = some (.slice Aa0 x.notes.length ca0) ∧ w5.drew.cell? ⟨w.heap.size, 1, none⟩ = some (.int .i64 x.safe) ∧ w5.drew.cell? ⟨w.heap.size + 1, 0, none⟩ = some (.int .i64 n.kind) ∧ w5.drew.cell? ⟨w.heap.size + 1, 1, none⟩ = some (.int .i64 n.tx) ∧ w5.drew.cell? ⟨w.heap.size + 1, 2, none⟩ = some (.slice Aa1 n.locks.length ca1) ∧ w5.drew.cell? ⟨w.heap.size + 1, 3, none⟩ = some (.slice Ba1 n.writes.length da1) := (And.intro (HX0.out.of 0 _ rfl) (And.intro (HX0.out.of 1 _ rfl) (And.intro (HX1.out.of 0 _ rfl) (And.intro (HX1.out.of 1 _ rfl) (And.intro (HX1.out.of 2 _ rfl) (HX1.out.of 3 _ rfl))))))
    refine wp_region_held_drew (S := (fun w' => w'.cell? ⟨w.heap.size, 0, none⟩ = some (.slice Aa0 x.notes.length ca0) ∧ w'.cell? ⟨w.heap.size, 1, none⟩ = some (.int .i64 x.safe) ∧ w'.cell? ⟨w.heap.size + 1, 0, none⟩ = some (.int .i64 n.kind) ∧ w'.cell? ⟨w.heap.size + 1, 1, none⟩ = some (.int .i64 n.tx) ∧ w'.cell? ⟨w.heap.size + 1, 2, none⟩ = some (.slice Aa1 n.locks.length ca1) ∧ w'.cell? ⟨w.heap.size + 1, 3, none⟩ = some (.slice Ba1 n.writes.length da1))) (by kernel_rfl) ?hSW (fun hHeldW => ?stW)
    case hSW => (first | (dsimp only; (exact k0_)) | (exact k0_))
    replace HB := Lib.hid (show Below w.heap.size w w5.drew from HB.out.drew)
    replace HL := Lib.hid (show Below w5.heap.size w5 w5.drew from HL.out.drew)
    replace HX0 := Lib.hid (show Held w5.drew (w.heap.size) [.slice Aa0 x.notes.length ca0, .int .i64 x.safe] from HX0.out)
    replace HX1 := Lib.hid (show Held w5.drew (w.heap.size + 1) [.int .i64 n.kind, .int .i64 n.tx, .slice Aa1 n.locks.length ca1, .slice Ba1 n.writes.length da1] from HX1.out)
    have HZd := Lib.hid (show w5.drew.heap.size = w5.heap.size from rfl)
    refine take_first 0 30 (v := ?vW_1) rfl rfl (by kernel_rfl) (by kernel_rfl) (by kernel_rfl) (fun _ _ _ h => h) (by rfl) ?yW_1 (by assumption) ?rW_1
    case yW_1 => (intro w hSw; (try dsimp only at hSw); go_simp; (try with_reducible rfl))
    simp only [Act.put, List.setIfInBounds_toArray, List.set_cons_zero, List.set_cons_succ]
    refine take_first 2 32 (v := ?vW_2) rfl rfl (by kernel_rfl) (by kernel_rfl) (by kernel_rfl) (fun _ _ _ h => h) (by rfl) ?yW_2 (by assumption) ?rW_2
    case yW_2 => (intro w hSw; (try dsimp only at hSw); go_simp; (try with_reducible rfl))
    simp only [Act.put, List.setIfInBounds_toArray, List.set_cons_zero, List.set_cons_succ]
    refine take_first 4 34 (v := ?vW_3) rfl rfl (by kernel_rfl) (by kernel_rfl) (by kernel_rfl) (fun _ _ _ h => h) (by rfl) ?yW_3 (by assumption) ?rW_3
    case yW_3 => (intro w hSw; (try dsimp only at hSw); go_simp; (try with_reducible rfl))
    simp only [Act.put, List.setIfInBounds_toArray, List.set_cons_zero, List.set_cons_succ]
    refine wpAnyH_ready (rs := [1, 9]) (by kernel_rfl) (by simp) ?_
    refine AllReadyH.cons (o := _) rfl (fun KW_5 hKW_5 => ?cW_5) ?mW_5
    case cW_5 =>
      go_simp
      refine (toLogDisk_any _ _ x (HV0.out _ HB.out) hw0).mono ?_
      rintro e w7 ⟨cs', rfl, ho, hb⟩
      obtain ⟨up7, rfl, hup7⟩ := disk_own.1 ho
      obtain ⟨Ap7, cp7, rfl, -, -⟩ := hup7.row.form
      clear hup7
      replace HL := Lib.hid (HL.out.trans (hb.mono (by have z0 := HZ0.out; have z3 := HZ3.out; have z6 := HZ6.out; have zd := HZd.out; have zz := HL.out.size; omega)))
      replace HB := Lib.hid (belowNext HB.out hb)
      replace HX0 := Lib.hid (HX0.out.below hb HX0.out.1)
      replace HX1 := Lib.hid (HX1.out.below hb HX1.out.1)
      have HZ8 := Lib.hid hb.size
      clear hb
      have HP0 := Lib.hid ho
      clear ho
      have k9_ := (And.intro (HX0.out.of 0 _ rfl) (And.intro (HX0.out.of 1 _ rfl) (And.intro (HX1.out.of 0 _ rfl) (And.intro (HX1.out.of 1 _ rfl) (And.intro (HX1.out.of 2 _ rfl) (HX1.out.of 3 _ rfl))))))
      go_wp2_with fail
      refine hKW_5.out _ _ ?kW_5 (fun hHeldW_5 => ?dW_5)
      case kW_5 => (first | (dsimp only; (with_reducible exact k9_)) | (with_reducible exact k9_))
      clear hKW_5 KW_5
      refine wpAnyH_ready (rs := [3, 9]) (by kernel_rfl) (by simp) ?_
      refine AllReadyH.cons (o := _) rfl (fun KW_7 hKW_7 => ?cW_7) ?mW_7
      case cW_7 =>
        go_simp
        refine (toLogNote_any _ _ n (HV1.out _ HB.out) hw1).mono ?_
        rintro e w10 ⟨cs', rfl, ho, hb⟩
        obtain ⟨up10, vp10, Sp10, Sp10', rfl, hup10, hvp10, -, -, -⟩ := note_own.1 ho
        obtain ⟨Ap10, cp10, rfl, -, -⟩ := hup10.row.form
        obtain ⟨Bp10, dp10, rfl, -, -⟩ := hvp10.row.form
        clear hup10 hvp10
        replace HL := Lib.hid (HL.out.trans (hb.mono (by have z0 := HZ0.out; have z3 := HZ3.out; have z6 := HZ6.out; have zd := HZd.out; have z8 := HZ8.out; have zz := HL.out.size; omega)))
        replace HB := Lib.hid (belowNext HB.out hb)
        replace HX0 := Lib.hid (HX0.out.below hb HX0.out.1)
        replace HX1 := Lib.hid (HX1.out.below hb HX1.out.1)
        replace HP0 := Lib.hid (own_call HP0.out hb)
        have HZ11 := Lib.hid hb.size
        clear hb
        have HP1 := Lib.hid ho
        clear ho
        have k12_ := (And.intro (HX0.out.of 0 _ rfl) (And.intro (HX0.out.of 1 _ rfl) (And.intro (HX1.out.of 0 _ rfl) (And.intro (HX1.out.of 1 _ rfl) (And.intro (HX1.out.of 2 _ rfl) (HX1.out.of 3 _ rfl))))))
        go_wp2_with fail
        refine hKW_7.out _ _ ?kW_7 (fun hHeldW_7 => ?dW_7)
        case kW_7 => (first | (dsimp only; (with_reducible exact k12_)) | (with_reducible exact k12_))
        clear hKW_7 KW_7
        refine wpAnyH_ready (rs := [5, 9]) (by kernel_rfl) (by simp) ?_
        refine AllReadyH.cons (o := _) rfl (fun KW_9 hKW_9 => ?cW_9) ?mW_9
        case cW_9 =>
          go_simp
          refine (HSp.out _ _ _ (diskSh.orel HP0.out) (noteSh.orel HP1.out)).mono ?_
          rintro e w13 ⟨cs', rfl, ho0, hb⟩
          obtain ⟨uq13_0, rfl, huq13_0⟩ := disk_own.1 ho0
          obtain ⟨Aq13_0, cq13_0, rfl, -, -⟩ := huq13_0.row.form
          clear huq13_0
          replace HL := Lib.hid (HL.out.trans (hb.mono (by have z0 := HZ0.out; have z3 := HZ3.out; have z6 := HZ6.out; have zd := HZd.out; have z8 := HZ8.out; have z11 := HZ11.out; have zz := HL.out.size; omega)))
          replace HB := Lib.hid (belowNext HB.out hb)
          replace HX0 := Lib.hid (HX0.out.below hb HX0.out.1)
          replace HX1 := Lib.hid (HX1.out.below hb HX1.out.1)
          replace HP0 := Lib.hid (own_call HP0.out hb)
          replace HP1 := Lib.hid (own_call HP1.out hb)
          have HZ14 := Lib.hid hb.size
          clear hb
          have HO0 := Lib.hid ho0
          clear ho0
          have k15_ := (And.intro (HX0.out.of 0 _ rfl) (And.intro (HX0.out.of 1 _ rfl) (And.intro (HX1.out.of 0 _ rfl) (And.intro (HX1.out.of 1 _ rfl) (And.intro (HX1.out.of 2 _ rfl) (HX1.out.of 3 _ rfl))))))
          go_wp2_with fail
          refine hKW_9.out _ _ ?kW_9 (fun hHeldW_9 => ?dW_9)
          case kW_9 => (first | (dsimp only; (with_reducible exact k15_)) | (with_reducible exact k15_))
          clear hKW_9 KW_9
          refine take_first 6 29 (v := ?vW_10) rfl rfl (by kernel_rfl) (by kernel_rfl) (by kernel_rfl) (fun _ _ _ h => h) (by rfl) ?yW_10 (by assumption) ?rW_10
          case yW_10 => (intro w hSw; (try dsimp only at hSw); go_simp; (try with_reducible rfl))
          simp only [Act.put, List.setIfInBounds_toArray, List.set_cons_zero, List.set_cons_succ]
          refine take_first 7 36 (v := ?vW_11) rfl rfl (by kernel_rfl) (by kernel_rfl) (by kernel_rfl) (fun _ _ _ h => h) (by rfl) ?yW_11 (by assumption) ?rW_11
          case yW_11 => (intro w hSw; (try dsimp only at hSw); go_simp; (try with_reducible rfl))
          simp only [Act.put, List.setIfInBounds_toArray, List.set_cons_zero, List.set_cons_succ]
          refine take_first 8 37 (v := ?vW_12) rfl rfl (by kernel_rfl) (by kernel_rfl) (by kernel_rfl) (fun _ _ _ h => h) (by rfl) ?yW_12 (by assumption) ?rW_12
          case yW_12 => (intro w hSw; (try dsimp only at hSw); go_simp; (try with_reducible rfl))
          simp only [Act.put, List.setIfInBounds_toArray, List.set_cons_zero, List.set_cons_succ]
          refine wpAnyH_ready (rs := [9]) (by kernel_rfl) (by simp) ?_
          refine AllReadyH.cons (o := _) rfl (fun KW_13 hKW_13 => ?cW_13) ?mW_13
          case mW_13 => exact AllReadyH.nil
          go_simp
          have k16_ : (w13.alloc (.cells #[.slice none 0 0, .int .i64 0] 45)).cell? ⟨w.heap.size, 0, none⟩ = some (.slice Aa0 x.notes.length ca0) ∧ (w13.alloc (.cells #[.slice none 0 0, .int .i64 0] 45)).cell? ⟨w.heap.size, 1, none⟩ = some (.int .i64 x.safe) ∧ (w13.alloc (.cells #[.slice none 0 0, .int .i64 0] 45)).cell? ⟨w.heap.size + 1, 0, none⟩ = some (.int .i64 n.kind) ∧ (w13.alloc (.cells #[.slice none 0 0, .int .i64 0] 45)).cell? ⟨w.heap.size + 1, 1, none⟩ = some (.int .i64 n.tx) ∧ (w13.alloc (.cells #[.slice none 0 0, .int .i64 0] 45)).cell? ⟨w.heap.size + 1, 2, none⟩ = some (.slice Aa1 n.locks.length ca1) ∧ (w13.alloc (.cells #[.slice none 0 0, .int .i64 0] 45)).cell? ⟨w.heap.size + 1, 3, none⟩ = some (.slice Ba1 n.writes.length da1) := (And.intro ((HX0.out.after (.cells #[.slice none 0 0, .int .i64 0] 45)).of 0 _ rfl) (And.intro ((HX0.out.after (.cells #[.slice none 0 0, .int .i64 0] 45)).of 1 _ rfl) (And.intro ((HX1.out.after (.cells #[.slice none 0 0, .int .i64 0] 45)).of 0 _ rfl) (And.intro ((HX1.out.after (.cells #[.slice none 0 0, .int .i64 0] 45)).of 1 _ rfl) (And.intro ((HX1.out.after (.cells #[.slice none 0 0, .int .i64 0] 45)).of 2 _ rfl) ((HX1.out.after (.cells #[.slice none 0 0, .int .i64 0] 45)).of 3 _ rfl))))))
          go_wp2_with fail
          refine hKW_13.out _ _ ?kW_13 (fun hHeldW_13 => ?dW_13)
          case kW_13 => (first | (dsimp only; (with_reducible exact k16_)) | (with_reducible exact k16_))
          clear hKW_13 KW_13
          refine wpAnyH_ready (rs := [10]) (by kernel_rfl) (by simp) ?_
          refine AllReadyH.cons (o := _) rfl (fun KW_14 hKW_14 => ?cW_14) ?mW_14
          case mW_14 => exact AllReadyH.nil
          go_simp
          have hal := belowOne w13 (.cells #[.slice Aq13_0 R.notes.length cq13_0, .int .i64 R.safe] 45)
          replace HL := Lib.hid (HL.out.trans (hal.mono (by have z0 := HZ0.out; have z3 := HZ3.out; have z6 := HZ6.out; have zd := HZd.out; have z8 := HZ8.out; have z11 := HZ11.out; have z14 := HZ14.out; have zz := HL.out.size; omega)))
          replace HB := Lib.hid (belowNext HB.out hal)
          replace HX0 := Lib.hid (HX0.out.below hal HX0.out.1)
          replace HX1 := Lib.hid (HX1.out.below hal HX1.out.1)
          replace HP0 := Lib.hid (own_call HP0.out hal)
          replace HP1 := Lib.hid (own_call HP1.out hal)
          replace HO0 := Lib.hid (own_call HO0.out hal)
          have HZ17 := Lib.hid (allocSize w13 (.cells #[.slice Aq13_0 R.notes.length cq13_0, .int .i64 R.safe] 45))
          clear hal
          have HQ := Lib.hid (Held.new w13 #[.slice Aq13_0 R.notes.length cq13_0, .int .i64 R.safe] 45)
          have k18_ := (And.intro (HX0.out.of 0 _ rfl) (And.intro (HX0.out.of 1 _ rfl) (And.intro (HX1.out.of 0 _ rfl) (And.intro (HX1.out.of 1 _ rfl) (And.intro (HX1.out.of 2 _ rfl) (HX1.out.of 3 _ rfl))))))
          go_wp2_with fail
          refine hKW_14.out _ _ ?kW_14 (fun hHeldW_14 => ?dW_14)
          case kW_14 => (first | (dsimp only; (with_reducible exact k18_)) | (with_reducible exact k18_))
          clear hKW_14 KW_14
          refine take_first 11 9 (v := ?vW_15) rfl rfl (by kernel_rfl) (by kernel_rfl) (by kernel_rfl) (fun _ _ _ h => h) (by rfl) ?yW_15 (by assumption) ?rW_15
          case yW_15 => (intro w hSw; (try dsimp only at hSw); go_simp; (try with_reducible rfl))
          simp only [Act.put, List.setIfInBounds_toArray, List.set_cons_zero, List.set_cons_succ]
          refine wpAnyH_done (by kernel_rfl) ?eW_16 _
          go_wp2
          go_meet
          case rel => exact ⟨w13.heap.size, Aq13_0, cq13_0, rfl, HQ.out, diskSh.orel HO0.out, (by have z0 := HZ0.out; have z3 := HZ3.out; have z6 := HZ6.out; have zd := HZd.out; have z8 := HZ8.out; have z11 := HZ11.out; have z14 := HZ14.out; have z17 := HZ17.out; have zz := HL.out.size; omega), HQ.out.1, rfl, HL.out⟩
        refine AllReadyH.cons (o := _) rfl (fun KW_17 hKW_17 => ?cW_17) ?mW_17
        case cW_17 =>
          go_simp
          have hal := belowOne w10 (.cells #[.slice none 0 0, .int .i64 0] 45)
          replace HL := Lib.hid (HL.out.trans (hal.mono (by have z0 := HZ0.out; have z3 := HZ3.out; have z6 := HZ6.out; have zd := HZd.out; have z8 := HZ8.out; have z11 := HZ11.out; have zz := HL.out.size; omega)))
          replace HB := Lib.hid (belowNext HB.out hal)
          replace HX0 := Lib.hid (HX0.out.below hal HX0.out.1)
          replace HX1 := Lib.hid (HX1.out.below hal HX1.out.1)
          replace HP0 := Lib.hid (own_call HP0.out hal)
          replace HP1 := Lib.hid (own_call HP1.out hal)
          have HZ19 := Lib.hid (allocSize w10 (.cells #[.slice none 0 0, .int .i64 0] 45))
          clear hal
          have HQ := Lib.hid (Held.new w10 #[.slice none 0 0, .int .i64 0] 45)
          have k20_ := (And.intro (HX0.out.of 0 _ rfl) (And.intro (HX0.out.of 1 _ rfl) (And.intro (HX1.out.of 0 _ rfl) (And.intro (HX1.out.of 1 _ rfl) (And.intro (HX1.out.of 2 _ rfl) (HX1.out.of 3 _ rfl))))))
          go_wp2_with fail
          refine hKW_17.out _ _ ?kW_17 (fun hHeldW_17 => ?dW_17)
          case kW_17 => (first | (dsimp only; (with_reducible exact k20_)) | (with_reducible exact k20_))
          clear hKW_17 KW_17
          refine wpAnyH_ready (rs := [5]) (by kernel_rfl) (by simp) ?_
          refine AllReadyH.cons (o := _) rfl (fun KW_18 hKW_18 => ?cW_18) ?mW_18
          case mW_18 => exact AllReadyH.nil
          go_simp
          refine (HSp.out _ _ _ (diskSh.orel HP0.out) (noteSh.orel HP1.out)).mono ?_
          rintro e w21 ⟨cs', rfl, ho0, hb⟩
          obtain ⟨uq21_0, rfl, huq21_0⟩ := disk_own.1 ho0
          obtain ⟨Aq21_0, cq21_0, rfl, -, -⟩ := huq21_0.row.form
          clear huq21_0
          replace HL := Lib.hid (HL.out.trans (hb.mono (by have z0 := HZ0.out; have z3 := HZ3.out; have z6 := HZ6.out; have zd := HZd.out; have z8 := HZ8.out; have z11 := HZ11.out; have z19 := HZ19.out; have zz := HL.out.size; omega)))
          replace HB := Lib.hid (belowNext HB.out hb)
          replace HX0 := Lib.hid (HX0.out.below hb HX0.out.1)
          replace HX1 := Lib.hid (HX1.out.below hb HX1.out.1)
          replace HQ := Lib.hid (HQ.out.below hb HQ.out.1)
          replace HP0 := Lib.hid (own_call HP0.out hb)
          replace HP1 := Lib.hid (own_call HP1.out hb)
          have HZ22 := Lib.hid hb.size
          clear hb
          have HO0 := Lib.hid ho0
          clear ho0
          have k23_ := (And.intro (HX0.out.of 0 _ rfl) (And.intro (HX0.out.of 1 _ rfl) (And.intro (HX1.out.of 0 _ rfl) (And.intro (HX1.out.of 1 _ rfl) (And.intro (HX1.out.of 2 _ rfl) (HX1.out.of 3 _ rfl))))))
          go_wp2_with fail
          refine hKW_18.out _ _ ?kW_18 (fun hHeldW_18 => ?dW_18)
          case kW_18 => (first | (dsimp only; (with_reducible exact k23_)) | (with_reducible exact k23_))
          clear hKW_18 KW_18
          refine take_first 6 29 (v := ?vW_19) rfl rfl (by kernel_rfl) (by kernel_rfl) (by kernel_rfl) (fun _ _ _ h => h) (by rfl) ?yW_19 (by assumption) ?rW_19
          case yW_19 => (intro w hSw; (try dsimp only at hSw); go_simp; (try with_reducible rfl))
          simp only [Act.put, List.setIfInBounds_toArray, List.set_cons_zero, List.set_cons_succ]
          refine take_first 7 36 (v := ?vW_20) rfl rfl (by kernel_rfl) (by kernel_rfl) (by kernel_rfl) (fun _ _ _ h => h) (by rfl) ?yW_20 (by assumption) ?rW_20
          case yW_20 => (intro w hSw; (try dsimp only at hSw); go_simp; (try with_reducible rfl))
          simp only [Act.put, List.setIfInBounds_toArray, List.set_cons_zero, List.set_cons_succ]
          refine take_first 8 37 (v := ?vW_21) rfl rfl (by kernel_rfl) (by kernel_rfl) (by kernel_rfl) (fun _ _ _ h => h) (by rfl) ?yW_21 (by assumption) ?rW_21
          case yW_21 => (intro w hSw; (try dsimp only at hSw); go_simp; (try with_reducible rfl))
          simp only [Act.put, List.setIfInBounds_toArray, List.set_cons_zero, List.set_cons_succ]
          refine wpAnyH_ready (rs := [10]) (by kernel_rfl) (by simp) ?_
          refine AllReadyH.cons (o := _) rfl (fun KW_22 hKW_22 => ?cW_22) ?mW_22
          case mW_22 => exact AllReadyH.nil
          have s_0 := HQ.out.of 0 _ rfl
          have s_1 := HQ.out.of 1 _ rfl
          have s_f := HQ.out.2.1
          go_simp
          clear s_0 s_1 s_f
          replace HL := Lib.hid (HL.out.setCell (p := ⟨w10.heap.size, 0, none⟩) (by show w5.heap.size ≤ w10.heap.size; have z0 := HZ0.out; have z3 := HZ3.out; have z6 := HZ6.out; have zd := HZd.out; have z8 := HZ8.out; have z11 := HZ11.out; have z19 := HZ19.out; have z22 := HZ22.out; omega) (.slice Aq21_0 R.notes.length cq21_0))
          replace HX0 := Lib.hid (HX0.out.farS (p := ⟨w10.heap.size, 0, none⟩) (by show w.heap.size ≠ w10.heap.size; have z0 := HZ0.out; have z3 := HZ3.out; have z6 := HZ6.out; have zd := HZd.out; have z8 := HZ8.out; have z11 := HZ11.out; have z19 := HZ19.out; have z22 := HZ22.out; clear HQ; omega) (.slice Aq21_0 R.notes.length cq21_0))
          replace HX1 := Lib.hid (HX1.out.farS (p := ⟨w10.heap.size, 0, none⟩) (by show w.heap.size + 1 ≠ w10.heap.size; have z0 := HZ0.out; have z3 := HZ3.out; have z6 := HZ6.out; have zd := HZd.out; have z8 := HZ8.out; have z11 := HZ11.out; have z19 := HZ19.out; have z22 := HZ22.out; clear HQ; omega) (.slice Aq21_0 R.notes.length cq21_0))
          replace HQ := Lib.hid (HQ.out.set_ (i := 0) (.slice Aq21_0 R.notes.length cq21_0))
          replace HO0 := Lib.hid (diskSh.okeep HO0.out (w' := (w21.setCell ⟨w10.heap.size, 0, none⟩ (.slice Aq21_0 R.notes.length cq21_0))) fun b hb _ => Below.heap_setCell _ _ _ _ (by show b ≠ w10.heap.size; have h1 := hb.1; have h2 := hb.2; have z0 := HZ0.out; have z3 := HZ3.out; have z6 := HZ6.out; have zd := HZd.out; have z8 := HZ8.out; have z11 := HZ11.out; have z19 := HZ19.out; have z22 := HZ22.out; omega))
          replace HL := Lib.hid (HL.out.setCell (p := ⟨w10.heap.size, 1, none⟩) (by show w5.heap.size ≤ w10.heap.size; have z0 := HZ0.out; have z3 := HZ3.out; have z6 := HZ6.out; have zd := HZd.out; have z8 := HZ8.out; have z11 := HZ11.out; have z19 := HZ19.out; have z22 := HZ22.out; omega) (.int .i64 R.safe))
          replace HX0 := Lib.hid (HX0.out.farS (p := ⟨w10.heap.size, 1, none⟩) (by show w.heap.size ≠ w10.heap.size; have z0 := HZ0.out; have z3 := HZ3.out; have z6 := HZ6.out; have zd := HZd.out; have z8 := HZ8.out; have z11 := HZ11.out; have z19 := HZ19.out; have z22 := HZ22.out; clear HQ; omega) (.int .i64 R.safe))
          replace HX1 := Lib.hid (HX1.out.farS (p := ⟨w10.heap.size, 1, none⟩) (by show w.heap.size + 1 ≠ w10.heap.size; have z0 := HZ0.out; have z3 := HZ3.out; have z6 := HZ6.out; have zd := HZd.out; have z8 := HZ8.out; have z11 := HZ11.out; have z19 := HZ19.out; have z22 := HZ22.out; clear HQ; omega) (.int .i64 R.safe))
          replace HQ := Lib.hid (HQ.out.set_ (i := 1) (.int .i64 R.safe))
          replace HO0 := Lib.hid (diskSh.okeep HO0.out (w' := ((w21.setCell ⟨w10.heap.size, 0, none⟩ (.slice Aq21_0 R.notes.length cq21_0)).setCell ⟨w10.heap.size, 1, none⟩ (.int .i64 R.safe))) fun b hb _ => Below.heap_setCell _ _ _ _ (by show b ≠ w10.heap.size; have h1 := hb.1; have h2 := hb.2; have z0 := HZ0.out; have z3 := HZ3.out; have z6 := HZ6.out; have zd := HZd.out; have z8 := HZ8.out; have z11 := HZ11.out; have z19 := HZ19.out; have z22 := HZ22.out; omega))
          have HZs := Lib.hid (show ((w21.setCell ⟨w10.heap.size, 0, none⟩ (.slice Aq21_0 R.notes.length cq21_0)).setCell ⟨w10.heap.size, 1, none⟩ (.int .i64 R.safe)).heap.size = w21.heap.size from by simp [World.setCell])
          have k24_ := (And.intro (HX0.out.of 0 _ rfl) (And.intro (HX0.out.of 1 _ rfl) (And.intro (HX1.out.of 0 _ rfl) (And.intro (HX1.out.of 1 _ rfl) (And.intro (HX1.out.of 2 _ rfl) (HX1.out.of 3 _ rfl))))))
          go_wp2_with fail
          refine hKW_22.out _ _ ?kW_22 (fun hHeldW_22 => ?dW_22)
          case kW_22 => (first | (dsimp only; (with_reducible exact k24_)) | (with_reducible exact k24_))
          clear hKW_22 KW_22
          refine take_first 11 9 (v := ?vW_23) rfl rfl (by kernel_rfl) (by kernel_rfl) (by kernel_rfl) (fun _ _ _ h => h) (by rfl) ?yW_23 (by assumption) ?rW_23
          case yW_23 => (intro w hSw; (try dsimp only at hSw); go_simp; (try with_reducible rfl))
          simp only [Act.put, List.setIfInBounds_toArray, List.set_cons_zero, List.set_cons_succ]
          refine wpAnyH_done (by kernel_rfl) ?eW_24 _
          go_wp2
          go_meet
          case rel => exact ⟨w10.heap.size, Aq21_0, cq21_0, rfl, HQ.out, diskSh.orel HO0.out, (by have z0 := HZ0.out; have z3 := HZ3.out; have z6 := HZ6.out; have zd := HZd.out; have z8 := HZ8.out; have z11 := HZ11.out; have z19 := HZ19.out; have z22 := HZ22.out; have zs := HZs.out; have zz := HL.out.size; omega), HQ.out.1, rfl, HL.out⟩
        exact AllReadyH.nil
      refine AllReadyH.cons (o := _) rfl (fun KW_25 hKW_25 => ?cW_25) ?mW_25
      case cW_25 =>
        go_simp
        have hal := belowOne w7 (.cells #[.slice none 0 0, .int .i64 0] 45)
        replace HL := Lib.hid (HL.out.trans (hal.mono (by have z0 := HZ0.out; have z3 := HZ3.out; have z6 := HZ6.out; have zd := HZd.out; have z8 := HZ8.out; have zz := HL.out.size; omega)))
        replace HB := Lib.hid (belowNext HB.out hal)
        replace HX0 := Lib.hid (HX0.out.below hal HX0.out.1)
        replace HX1 := Lib.hid (HX1.out.below hal HX1.out.1)
        replace HP0 := Lib.hid (own_call HP0.out hal)
        have HZ25 := Lib.hid (allocSize w7 (.cells #[.slice none 0 0, .int .i64 0] 45))
        clear hal
        have HQ := Lib.hid (Held.new w7 #[.slice none 0 0, .int .i64 0] 45)
        have k26_ := (And.intro (HX0.out.of 0 _ rfl) (And.intro (HX0.out.of 1 _ rfl) (And.intro (HX1.out.of 0 _ rfl) (And.intro (HX1.out.of 1 _ rfl) (And.intro (HX1.out.of 2 _ rfl) (HX1.out.of 3 _ rfl))))))
        go_wp2_with fail
        refine hKW_25.out _ _ ?kW_25 (fun hHeldW_25 => ?dW_25)
        case kW_25 => (first | (dsimp only; (with_reducible exact k26_)) | (with_reducible exact k26_))
        clear hKW_25 KW_25
        refine wpAnyH_ready (rs := [3]) (by kernel_rfl) (by simp) ?_
        refine AllReadyH.cons (o := _) rfl (fun KW_26 hKW_26 => ?cW_26) ?mW_26
        case mW_26 => exact AllReadyH.nil
        go_simp
        refine (toLogNote_any _ _ n (HV1.out _ HB.out) hw1).mono ?_
        rintro e w27 ⟨cs', rfl, ho, hb⟩
        obtain ⟨up27, vp27, Sp27, Sp27', rfl, hup27, hvp27, -, -, -⟩ := note_own.1 ho
        obtain ⟨Ap27, cp27, rfl, -, -⟩ := hup27.row.form
        obtain ⟨Bp27, dp27, rfl, -, -⟩ := hvp27.row.form
        clear hup27 hvp27
        replace HL := Lib.hid (HL.out.trans (hb.mono (by have z0 := HZ0.out; have z3 := HZ3.out; have z6 := HZ6.out; have zd := HZd.out; have z8 := HZ8.out; have z25 := HZ25.out; have zz := HL.out.size; omega)))
        replace HB := Lib.hid (belowNext HB.out hb)
        replace HX0 := Lib.hid (HX0.out.below hb HX0.out.1)
        replace HX1 := Lib.hid (HX1.out.below hb HX1.out.1)
        replace HQ := Lib.hid (HQ.out.below hb HQ.out.1)
        replace HP0 := Lib.hid (own_call HP0.out hb)
        have HZ28 := Lib.hid hb.size
        clear hb
        have HP1 := Lib.hid ho
        clear ho
        have k29_ := (And.intro (HX0.out.of 0 _ rfl) (And.intro (HX0.out.of 1 _ rfl) (And.intro (HX1.out.of 0 _ rfl) (And.intro (HX1.out.of 1 _ rfl) (And.intro (HX1.out.of 2 _ rfl) (HX1.out.of 3 _ rfl))))))
        go_wp2_with fail
        refine hKW_26.out _ _ ?kW_26 (fun hHeldW_26 => ?dW_26)
        case kW_26 => (first | (dsimp only; (with_reducible exact k29_)) | (with_reducible exact k29_))
        clear hKW_26 KW_26
        refine wpAnyH_ready (rs := [5]) (by kernel_rfl) (by simp) ?_
        refine AllReadyH.cons (o := _) rfl (fun KW_27 hKW_27 => ?cW_27) ?mW_27
        case mW_27 => exact AllReadyH.nil
        go_simp
        refine (HSp.out _ _ _ (diskSh.orel HP0.out) (noteSh.orel HP1.out)).mono ?_
        rintro e w30 ⟨cs', rfl, ho0, hb⟩
        obtain ⟨uq30_0, rfl, huq30_0⟩ := disk_own.1 ho0
        obtain ⟨Aq30_0, cq30_0, rfl, -, -⟩ := huq30_0.row.form
        clear huq30_0
        replace HL := Lib.hid (HL.out.trans (hb.mono (by have z0 := HZ0.out; have z3 := HZ3.out; have z6 := HZ6.out; have zd := HZd.out; have z8 := HZ8.out; have z25 := HZ25.out; have z28 := HZ28.out; have zz := HL.out.size; omega)))
        replace HB := Lib.hid (belowNext HB.out hb)
        replace HX0 := Lib.hid (HX0.out.below hb HX0.out.1)
        replace HX1 := Lib.hid (HX1.out.below hb HX1.out.1)
        replace HQ := Lib.hid (HQ.out.below hb HQ.out.1)
        replace HP0 := Lib.hid (own_call HP0.out hb)
        replace HP1 := Lib.hid (own_call HP1.out hb)
        have HZ31 := Lib.hid hb.size
        clear hb
        have HO0 := Lib.hid ho0
        clear ho0
        have k32_ := (And.intro (HX0.out.of 0 _ rfl) (And.intro (HX0.out.of 1 _ rfl) (And.intro (HX1.out.of 0 _ rfl) (And.intro (HX1.out.of 1 _ rfl) (And.intro (HX1.out.of 2 _ rfl) (HX1.out.of 3 _ rfl))))))
        go_wp2_with fail
        refine hKW_27.out _ _ ?kW_27 (fun hHeldW_27 => ?dW_27)
        case kW_27 => (first | (dsimp only; (with_reducible exact k32_)) | (with_reducible exact k32_))
        clear hKW_27 KW_27
        refine take_first 6 29 (v := ?vW_28) rfl rfl (by kernel_rfl) (by kernel_rfl) (by kernel_rfl) (fun _ _ _ h => h) (by rfl) ?yW_28 (by assumption) ?rW_28
        case yW_28 => (intro w hSw; (try dsimp only at hSw); go_simp; (try with_reducible rfl))
        simp only [Act.put, List.setIfInBounds_toArray, List.set_cons_zero, List.set_cons_succ]
        refine take_first 7 36 (v := ?vW_29) rfl rfl (by kernel_rfl) (by kernel_rfl) (by kernel_rfl) (fun _ _ _ h => h) (by rfl) ?yW_29 (by assumption) ?rW_29
        case yW_29 => (intro w hSw; (try dsimp only at hSw); go_simp; (try with_reducible rfl))
        simp only [Act.put, List.setIfInBounds_toArray, List.set_cons_zero, List.set_cons_succ]
        refine take_first 8 37 (v := ?vW_30) rfl rfl (by kernel_rfl) (by kernel_rfl) (by kernel_rfl) (fun _ _ _ h => h) (by rfl) ?yW_30 (by assumption) ?rW_30
        case yW_30 => (intro w hSw; (try dsimp only at hSw); go_simp; (try with_reducible rfl))
        simp only [Act.put, List.setIfInBounds_toArray, List.set_cons_zero, List.set_cons_succ]
        refine wpAnyH_ready (rs := [10]) (by kernel_rfl) (by simp) ?_
        refine AllReadyH.cons (o := _) rfl (fun KW_31 hKW_31 => ?cW_31) ?mW_31
        case mW_31 => exact AllReadyH.nil
        have s_0 := HQ.out.of 0 _ rfl
        have s_1 := HQ.out.of 1 _ rfl
        have s_f := HQ.out.2.1
        go_simp
        clear s_0 s_1 s_f
        replace HL := Lib.hid (HL.out.setCell (p := ⟨w7.heap.size, 0, none⟩) (by show w5.heap.size ≤ w7.heap.size; have z0 := HZ0.out; have z3 := HZ3.out; have z6 := HZ6.out; have zd := HZd.out; have z8 := HZ8.out; have z25 := HZ25.out; have z28 := HZ28.out; have z31 := HZ31.out; omega) (.slice Aq30_0 R.notes.length cq30_0))
        replace HX0 := Lib.hid (HX0.out.farS (p := ⟨w7.heap.size, 0, none⟩) (by show w.heap.size ≠ w7.heap.size; have z0 := HZ0.out; have z3 := HZ3.out; have z6 := HZ6.out; have zd := HZd.out; have z8 := HZ8.out; have z25 := HZ25.out; have z28 := HZ28.out; have z31 := HZ31.out; clear HQ; omega) (.slice Aq30_0 R.notes.length cq30_0))
        replace HX1 := Lib.hid (HX1.out.farS (p := ⟨w7.heap.size, 0, none⟩) (by show w.heap.size + 1 ≠ w7.heap.size; have z0 := HZ0.out; have z3 := HZ3.out; have z6 := HZ6.out; have zd := HZd.out; have z8 := HZ8.out; have z25 := HZ25.out; have z28 := HZ28.out; have z31 := HZ31.out; clear HQ; omega) (.slice Aq30_0 R.notes.length cq30_0))
        replace HQ := Lib.hid (HQ.out.set_ (i := 0) (.slice Aq30_0 R.notes.length cq30_0))
        replace HO0 := Lib.hid (diskSh.okeep HO0.out (w' := (w30.setCell ⟨w7.heap.size, 0, none⟩ (.slice Aq30_0 R.notes.length cq30_0))) fun b hb _ => Below.heap_setCell _ _ _ _ (by show b ≠ w7.heap.size; have h1 := hb.1; have h2 := hb.2; have z0 := HZ0.out; have z3 := HZ3.out; have z6 := HZ6.out; have zd := HZd.out; have z8 := HZ8.out; have z25 := HZ25.out; have z28 := HZ28.out; have z31 := HZ31.out; omega))
        replace HL := Lib.hid (HL.out.setCell (p := ⟨w7.heap.size, 1, none⟩) (by show w5.heap.size ≤ w7.heap.size; have z0 := HZ0.out; have z3 := HZ3.out; have z6 := HZ6.out; have zd := HZd.out; have z8 := HZ8.out; have z25 := HZ25.out; have z28 := HZ28.out; have z31 := HZ31.out; omega) (.int .i64 R.safe))
        replace HX0 := Lib.hid (HX0.out.farS (p := ⟨w7.heap.size, 1, none⟩) (by show w.heap.size ≠ w7.heap.size; have z0 := HZ0.out; have z3 := HZ3.out; have z6 := HZ6.out; have zd := HZd.out; have z8 := HZ8.out; have z25 := HZ25.out; have z28 := HZ28.out; have z31 := HZ31.out; clear HQ; omega) (.int .i64 R.safe))
        replace HX1 := Lib.hid (HX1.out.farS (p := ⟨w7.heap.size, 1, none⟩) (by show w.heap.size + 1 ≠ w7.heap.size; have z0 := HZ0.out; have z3 := HZ3.out; have z6 := HZ6.out; have zd := HZd.out; have z8 := HZ8.out; have z25 := HZ25.out; have z28 := HZ28.out; have z31 := HZ31.out; clear HQ; omega) (.int .i64 R.safe))
        replace HQ := Lib.hid (HQ.out.set_ (i := 1) (.int .i64 R.safe))
        replace HO0 := Lib.hid (diskSh.okeep HO0.out (w' := ((w30.setCell ⟨w7.heap.size, 0, none⟩ (.slice Aq30_0 R.notes.length cq30_0)).setCell ⟨w7.heap.size, 1, none⟩ (.int .i64 R.safe))) fun b hb _ => Below.heap_setCell _ _ _ _ (by show b ≠ w7.heap.size; have h1 := hb.1; have h2 := hb.2; have z0 := HZ0.out; have z3 := HZ3.out; have z6 := HZ6.out; have zd := HZd.out; have z8 := HZ8.out; have z25 := HZ25.out; have z28 := HZ28.out; have z31 := HZ31.out; omega))
        have HZs := Lib.hid (show ((w30.setCell ⟨w7.heap.size, 0, none⟩ (.slice Aq30_0 R.notes.length cq30_0)).setCell ⟨w7.heap.size, 1, none⟩ (.int .i64 R.safe)).heap.size = w30.heap.size from by simp [World.setCell])
        have k33_ := (And.intro (HX0.out.of 0 _ rfl) (And.intro (HX0.out.of 1 _ rfl) (And.intro (HX1.out.of 0 _ rfl) (And.intro (HX1.out.of 1 _ rfl) (And.intro (HX1.out.of 2 _ rfl) (HX1.out.of 3 _ rfl))))))
        go_wp2_with fail
        refine hKW_31.out _ _ ?kW_31 (fun hHeldW_31 => ?dW_31)
        case kW_31 => (first | (dsimp only; (with_reducible exact k33_)) | (with_reducible exact k33_))
        clear hKW_31 KW_31
        refine take_first 11 9 (v := ?vW_32) rfl rfl (by kernel_rfl) (by kernel_rfl) (by kernel_rfl) (fun _ _ _ h => h) (by rfl) ?yW_32 (by assumption) ?rW_32
        case yW_32 => (intro w hSw; (try dsimp only at hSw); go_simp; (try with_reducible rfl))
        simp only [Act.put, List.setIfInBounds_toArray, List.set_cons_zero, List.set_cons_succ]
        refine wpAnyH_done (by kernel_rfl) ?eW_33 _
        go_wp2
        go_meet
        case rel => exact ⟨w7.heap.size, Aq30_0, cq30_0, rfl, HQ.out, diskSh.orel HO0.out, (by have z0 := HZ0.out; have z3 := HZ3.out; have z6 := HZ6.out; have zd := HZd.out; have z8 := HZ8.out; have z25 := HZ25.out; have z28 := HZ28.out; have z31 := HZ31.out; have zs := HZs.out; have zz := HL.out.size; omega), HQ.out.1, rfl, HL.out⟩
      exact AllReadyH.nil
    refine AllReadyH.cons (o := _) rfl (fun KW_34 hKW_34 => ?cW_34) ?mW_34
    case cW_34 =>
      go_simp
      have hal := (show Below w5.drew.heap.size w5.drew (w5.alloc (.cells #[.slice none 0 0, .int .i64 0] 45)).drew from belowOne w5.drew (.cells #[.slice none 0 0, .int .i64 0] 45))
      replace HL := Lib.hid (HL.out.trans (hal.mono (by have z0 := HZ0.out; have z3 := HZ3.out; have z6 := HZ6.out; have zd := HZd.out; have zz := HL.out.size; omega)))
      replace HB := Lib.hid (belowNext HB.out hal)
      replace HX0 := Lib.hid (HX0.out.below hal HX0.out.1)
      replace HX1 := Lib.hid (HX1.out.below hal HX1.out.1)
      have HZ34 := Lib.hid (show (w5.alloc (.cells #[.slice none 0 0, .int .i64 0] 45)).drew.heap.size = w5.heap.size + 1 from allocSize w5 (.cells #[.slice none 0 0, .int .i64 0] 45))
      clear hal
      have HQ := Lib.hid (show Held (w5.alloc (.cells #[.slice none 0 0, .int .i64 0] 45)).drew w5.heap.size [.slice none 0 0, .int .i64 0] from Held.new w5.drew #[.slice none 0 0, .int .i64 0] 45)
      have k35_ := (And.intro (HX0.out.of 0 _ rfl) (And.intro (HX0.out.of 1 _ rfl) (And.intro (HX1.out.of 0 _ rfl) (And.intro (HX1.out.of 1 _ rfl) (And.intro (HX1.out.of 2 _ rfl) (HX1.out.of 3 _ rfl))))))
      go_wp2_with fail
      refine hKW_34.out _ _ ?kW_34 (fun hHeldW_34 => ?dW_34)
      case kW_34 => (first | (dsimp only; (with_reducible exact k35_)) | (with_reducible exact k35_))
      clear hKW_34 KW_34
      refine wpAnyH_ready (rs := [1]) (by kernel_rfl) (by simp) ?_
      refine AllReadyH.cons (o := _) rfl (fun KW_35 hKW_35 => ?cW_35) ?mW_35
      case mW_35 => exact AllReadyH.nil
      go_simp
      refine (toLogDisk_any _ _ x (HV0.out _ HB.out) hw0).mono ?_
      rintro e w36 ⟨cs', rfl, ho, hb⟩
      obtain ⟨up36, rfl, hup36⟩ := disk_own.1 ho
      obtain ⟨Ap36, cp36, rfl, -, -⟩ := hup36.row.form
      clear hup36
      replace HL := Lib.hid (HL.out.trans (hb.mono (by have z0 := HZ0.out; have z3 := HZ3.out; have z6 := HZ6.out; have zd := HZd.out; have z34 := HZ34.out; have zz := HL.out.size; omega)))
      replace HB := Lib.hid (belowNext HB.out hb)
      replace HX0 := Lib.hid (HX0.out.below hb HX0.out.1)
      replace HX1 := Lib.hid (HX1.out.below hb HX1.out.1)
      replace HQ := Lib.hid (HQ.out.below hb HQ.out.1)
      have HZ37 := Lib.hid hb.size
      clear hb
      have HP0 := Lib.hid ho
      clear ho
      have k38_ := (And.intro (HX0.out.of 0 _ rfl) (And.intro (HX0.out.of 1 _ rfl) (And.intro (HX1.out.of 0 _ rfl) (And.intro (HX1.out.of 1 _ rfl) (And.intro (HX1.out.of 2 _ rfl) (HX1.out.of 3 _ rfl))))))
      go_wp2_with fail
      refine hKW_35.out _ _ ?kW_35 (fun hHeldW_35 => ?dW_35)
      case kW_35 => (first | (dsimp only; (with_reducible exact k38_)) | (with_reducible exact k38_))
      clear hKW_35 KW_35
      refine wpAnyH_ready (rs := [3]) (by kernel_rfl) (by simp) ?_
      refine AllReadyH.cons (o := _) rfl (fun KW_36 hKW_36 => ?cW_36) ?mW_36
      case mW_36 => exact AllReadyH.nil
      go_simp
      refine (toLogNote_any _ _ n (HV1.out _ HB.out) hw1).mono ?_
      rintro e w39 ⟨cs', rfl, ho, hb⟩
      obtain ⟨up39, vp39, Sp39, Sp39', rfl, hup39, hvp39, -, -, -⟩ := note_own.1 ho
      obtain ⟨Ap39, cp39, rfl, -, -⟩ := hup39.row.form
      obtain ⟨Bp39, dp39, rfl, -, -⟩ := hvp39.row.form
      clear hup39 hvp39
      replace HL := Lib.hid (HL.out.trans (hb.mono (by have z0 := HZ0.out; have z3 := HZ3.out; have z6 := HZ6.out; have zd := HZd.out; have z34 := HZ34.out; have z37 := HZ37.out; have zz := HL.out.size; omega)))
      replace HB := Lib.hid (belowNext HB.out hb)
      replace HX0 := Lib.hid (HX0.out.below hb HX0.out.1)
      replace HX1 := Lib.hid (HX1.out.below hb HX1.out.1)
      replace HQ := Lib.hid (HQ.out.below hb HQ.out.1)
      replace HP0 := Lib.hid (own_call HP0.out hb)
      have HZ40 := Lib.hid hb.size
      clear hb
      have HP1 := Lib.hid ho
      clear ho
      have k41_ := (And.intro (HX0.out.of 0 _ rfl) (And.intro (HX0.out.of 1 _ rfl) (And.intro (HX1.out.of 0 _ rfl) (And.intro (HX1.out.of 1 _ rfl) (And.intro (HX1.out.of 2 _ rfl) (HX1.out.of 3 _ rfl))))))
      go_wp2_with fail
      refine hKW_36.out _ _ ?kW_36 (fun hHeldW_36 => ?dW_36)
      case kW_36 => (first | (dsimp only; (with_reducible exact k41_)) | (with_reducible exact k41_))
      clear hKW_36 KW_36
      refine wpAnyH_ready (rs := [5]) (by kernel_rfl) (by simp) ?_
      refine AllReadyH.cons (o := _) rfl (fun KW_37 hKW_37 => ?cW_37) ?mW_37
      case mW_37 => exact AllReadyH.nil
      go_simp
      refine (HSp.out _ _ _ (diskSh.orel HP0.out) (noteSh.orel HP1.out)).mono ?_
      rintro e w42 ⟨cs', rfl, ho0, hb⟩
      obtain ⟨uq42_0, rfl, huq42_0⟩ := disk_own.1 ho0
      obtain ⟨Aq42_0, cq42_0, rfl, -, -⟩ := huq42_0.row.form
      clear huq42_0
      replace HL := Lib.hid (HL.out.trans (hb.mono (by have z0 := HZ0.out; have z3 := HZ3.out; have z6 := HZ6.out; have zd := HZd.out; have z34 := HZ34.out; have z37 := HZ37.out; have z40 := HZ40.out; have zz := HL.out.size; omega)))
      replace HB := Lib.hid (belowNext HB.out hb)
      replace HX0 := Lib.hid (HX0.out.below hb HX0.out.1)
      replace HX1 := Lib.hid (HX1.out.below hb HX1.out.1)
      replace HQ := Lib.hid (HQ.out.below hb HQ.out.1)
      replace HP0 := Lib.hid (own_call HP0.out hb)
      replace HP1 := Lib.hid (own_call HP1.out hb)
      have HZ43 := Lib.hid hb.size
      clear hb
      have HO0 := Lib.hid ho0
      clear ho0
      have k44_ := (And.intro (HX0.out.of 0 _ rfl) (And.intro (HX0.out.of 1 _ rfl) (And.intro (HX1.out.of 0 _ rfl) (And.intro (HX1.out.of 1 _ rfl) (And.intro (HX1.out.of 2 _ rfl) (HX1.out.of 3 _ rfl))))))
      go_wp2_with fail
      refine hKW_37.out _ _ ?kW_37 (fun hHeldW_37 => ?dW_37)
      case kW_37 => (first | (dsimp only; (with_reducible exact k44_)) | (with_reducible exact k44_))
      clear hKW_37 KW_37
      refine take_first 6 29 (v := ?vW_38) rfl rfl (by kernel_rfl) (by kernel_rfl) (by kernel_rfl) (fun _ _ _ h => h) (by rfl) ?yW_38 (by assumption) ?rW_38
      case yW_38 => (intro w hSw; (try dsimp only at hSw); go_simp; (try with_reducible rfl))
      simp only [Act.put, List.setIfInBounds_toArray, List.set_cons_zero, List.set_cons_succ]
      refine take_first 7 36 (v := ?vW_39) rfl rfl (by kernel_rfl) (by kernel_rfl) (by kernel_rfl) (fun _ _ _ h => h) (by rfl) ?yW_39 (by assumption) ?rW_39
      case yW_39 => (intro w hSw; (try dsimp only at hSw); go_simp; (try with_reducible rfl))
      simp only [Act.put, List.setIfInBounds_toArray, List.set_cons_zero, List.set_cons_succ]
      refine take_first 8 37 (v := ?vW_40) rfl rfl (by kernel_rfl) (by kernel_rfl) (by kernel_rfl) (fun _ _ _ h => h) (by rfl) ?yW_40 (by assumption) ?rW_40
      case yW_40 => (intro w hSw; (try dsimp only at hSw); go_simp; (try with_reducible rfl))
      simp only [Act.put, List.setIfInBounds_toArray, List.set_cons_zero, List.set_cons_succ]
      refine wpAnyH_ready (rs := [10]) (by kernel_rfl) (by simp) ?_
      refine AllReadyH.cons (o := _) rfl (fun KW_41 hKW_41 => ?cW_41) ?mW_41
      case mW_41 => exact AllReadyH.nil
      have s_0 := HQ.out.of 0 _ rfl
      have s_1 := HQ.out.of 1 _ rfl
      have s_f := HQ.out.2.1
      go_simp
      clear s_0 s_1 s_f
      replace HL := Lib.hid (HL.out.setCell (p := ⟨w5.heap.size, 0, none⟩) (by show w5.heap.size ≤ w5.heap.size; have z0 := HZ0.out; have z3 := HZ3.out; have z6 := HZ6.out; have zd := HZd.out; have z34 := HZ34.out; have z37 := HZ37.out; have z40 := HZ40.out; have z43 := HZ43.out; omega) (.slice Aq42_0 R.notes.length cq42_0))
      replace HX0 := Lib.hid (HX0.out.farS (p := ⟨w5.heap.size, 0, none⟩) (by show w.heap.size ≠ w5.heap.size; have z0 := HZ0.out; have z3 := HZ3.out; have z6 := HZ6.out; have zd := HZd.out; have z34 := HZ34.out; have z37 := HZ37.out; have z40 := HZ40.out; have z43 := HZ43.out; clear HQ; omega) (.slice Aq42_0 R.notes.length cq42_0))
      replace HX1 := Lib.hid (HX1.out.farS (p := ⟨w5.heap.size, 0, none⟩) (by show w.heap.size + 1 ≠ w5.heap.size; have z0 := HZ0.out; have z3 := HZ3.out; have z6 := HZ6.out; have zd := HZd.out; have z34 := HZ34.out; have z37 := HZ37.out; have z40 := HZ40.out; have z43 := HZ43.out; clear HQ; omega) (.slice Aq42_0 R.notes.length cq42_0))
      replace HQ := Lib.hid (HQ.out.set_ (i := 0) (.slice Aq42_0 R.notes.length cq42_0))
      replace HO0 := Lib.hid (diskSh.okeep HO0.out (w' := (w42.setCell ⟨w5.heap.size, 0, none⟩ (.slice Aq42_0 R.notes.length cq42_0))) fun b hb _ => Below.heap_setCell _ _ _ _ (by show b ≠ w5.heap.size; have h1 := hb.1; have h2 := hb.2; have z0 := HZ0.out; have z3 := HZ3.out; have z6 := HZ6.out; have zd := HZd.out; have z34 := HZ34.out; have z37 := HZ37.out; have z40 := HZ40.out; have z43 := HZ43.out; omega))
      replace HL := Lib.hid (HL.out.setCell (p := ⟨w5.heap.size, 1, none⟩) (by show w5.heap.size ≤ w5.heap.size; have z0 := HZ0.out; have z3 := HZ3.out; have z6 := HZ6.out; have zd := HZd.out; have z34 := HZ34.out; have z37 := HZ37.out; have z40 := HZ40.out; have z43 := HZ43.out; omega) (.int .i64 R.safe))
      replace HX0 := Lib.hid (HX0.out.farS (p := ⟨w5.heap.size, 1, none⟩) (by show w.heap.size ≠ w5.heap.size; have z0 := HZ0.out; have z3 := HZ3.out; have z6 := HZ6.out; have zd := HZd.out; have z34 := HZ34.out; have z37 := HZ37.out; have z40 := HZ40.out; have z43 := HZ43.out; clear HQ; omega) (.int .i64 R.safe))
      replace HX1 := Lib.hid (HX1.out.farS (p := ⟨w5.heap.size, 1, none⟩) (by show w.heap.size + 1 ≠ w5.heap.size; have z0 := HZ0.out; have z3 := HZ3.out; have z6 := HZ6.out; have zd := HZd.out; have z34 := HZ34.out; have z37 := HZ37.out; have z40 := HZ40.out; have z43 := HZ43.out; clear HQ; omega) (.int .i64 R.safe))
      replace HQ := Lib.hid (HQ.out.set_ (i := 1) (.int .i64 R.safe))
      replace HO0 := Lib.hid (diskSh.okeep HO0.out (w' := ((w42.setCell ⟨w5.heap.size, 0, none⟩ (.slice Aq42_0 R.notes.length cq42_0)).setCell ⟨w5.heap.size, 1, none⟩ (.int .i64 R.safe))) fun b hb _ => Below.heap_setCell _ _ _ _ (by show b ≠ w5.heap.size; have h1 := hb.1; have h2 := hb.2; have z0 := HZ0.out; have z3 := HZ3.out; have z6 := HZ6.out; have zd := HZd.out; have z34 := HZ34.out; have z37 := HZ37.out; have z40 := HZ40.out; have z43 := HZ43.out; omega))
      have HZs := Lib.hid (show ((w42.setCell ⟨w5.heap.size, 0, none⟩ (.slice Aq42_0 R.notes.length cq42_0)).setCell ⟨w5.heap.size, 1, none⟩ (.int .i64 R.safe)).heap.size = w42.heap.size from by simp [World.setCell])
      have k45_ := (And.intro (HX0.out.of 0 _ rfl) (And.intro (HX0.out.of 1 _ rfl) (And.intro (HX1.out.of 0 _ rfl) (And.intro (HX1.out.of 1 _ rfl) (And.intro (HX1.out.of 2 _ rfl) (HX1.out.of 3 _ rfl))))))
      go_wp2_with fail
      refine hKW_41.out _ _ ?kW_41 (fun hHeldW_41 => ?dW_41)
      case kW_41 => (first | (dsimp only; (with_reducible exact k45_)) | (with_reducible exact k45_))
      clear hKW_41 KW_41
      refine take_first 11 9 (v := ?vW_42) rfl rfl (by kernel_rfl) (by kernel_rfl) (by kernel_rfl) (fun _ _ _ h => h) (by rfl) ?yW_42 (by assumption) ?rW_42
      case yW_42 => (intro w hSw; (try dsimp only at hSw); go_simp; (try with_reducible rfl))
      simp only [Act.put, List.setIfInBounds_toArray, List.set_cons_zero, List.set_cons_succ]
      refine wpAnyH_done (by kernel_rfl) ?eW_43 _
      go_wp2
      go_meet
      case rel => exact ⟨w5.heap.size, Aq42_0, cq42_0, rfl, HQ.out, diskSh.orel HO0.out, (by have z0 := HZ0.out; have z3 := HZ3.out; have z6 := HZ6.out; have zd := HZd.out; have z34 := HZ34.out; have z37 := HZ37.out; have z40 := HZ40.out; have z43 := HZ43.out; have zs := HZs.out; have zz := HL.out.size; omega), HQ.out.1, rfl, HL.out⟩
    exact AllReadyH.nil
  case rest =>
    obtain ⟨qw0, Aw0, cw0, rfl, hH0, hr0, hqa0, hqb0, rfl, hb⟩ := hcut
    replace HB := Lib.hid (belowNext HB.out hb)
    replace HX0 := Lib.hid (HX0.out.below hb HX0.out.1)
    replace HX1 := Lib.hid (HX1.out.below hb HX1.out.1)
    have HZ47 := Lib.hid hb.size
    clear hb
    have HBxW0 := Lib.hid hH0
    have HRlW0 := Lib.hid hr0
    have HZqW0 := Lib.hid hqa0
    have HZpW0 := Lib.hid hqb0
    clear hH0 hr0 hqa0 hqb0
    have a0_0 := HX0.out.of 0 _ rfl
    have a0_1 := HX0.out.of 1 _ rfl
    go_wp2_with fail
    clear a0_0 a0_1
    refine (toLogDisk_any _ _ x (HV0.out _ HB.out) hw0).mono ?_
    rintro e w48 ⟨cs', rfl, ho, hb⟩
    obtain ⟨ux0, rfl, hux0⟩ := disk_own.1 ho
    obtain ⟨Ax0, cx0, rfl, -, -⟩ := hux0.row.form
    clear hux0
    replace HB := Lib.hid (belowNext HB.out hb)
    replace HX0 := Lib.hid (HX0.out.below hb HX0.out.1)
    replace HX1 := Lib.hid (HX1.out.below hb HX1.out.1)
    replace HBxW0 := Lib.hid (HBxW0.out.below hb HBxW0.out.1)
    replace HRlW0 := Lib.hid (rel_call HRlW0.out hb (by have z0 := HZ0.out; have z3 := HZ3.out; have z6 := HZ6.out; have z47 := HZ47.out; have zqW0 := HZqW0.out; have zpW0 := HZpW0.out; omega))
    have HZ49 := Lib.hid hb.size
    clear hb
    have HC0 := Lib.hid ho
    clear ho
    have hal := belowOne w48 (.cells #[.slice Ax0 x.notes.length cx0, .int .i64 x.safe] 45)
    replace HB := Lib.hid (belowNext HB.out hal)
    replace HX0 := Lib.hid (HX0.out.below hal HX0.out.1)
    replace HX1 := Lib.hid (HX1.out.below hal HX1.out.1)
    replace HBxW0 := Lib.hid (HBxW0.out.below hal HBxW0.out.1)
    replace HC0 := Lib.hid (own_call HC0.out hal)
    replace HRlW0 := Lib.hid (rel_call HRlW0.out hal (by have z0 := HZ0.out; have z3 := HZ3.out; have z6 := HZ6.out; have z47 := HZ47.out; have zqW0 := HZqW0.out; have zpW0 := HZpW0.out; have z49 := HZ49.out; omega))
    have HZ50 := Lib.hid (allocSize w48 (.cells #[.slice Ax0 x.notes.length cx0, .int .i64 x.safe] 45))
    clear hal
    have HY0 := Lib.hid (Held.new w48 #[.slice Ax0 x.notes.length cx0, .int .i64 x.safe] 45)
    have a1_0 := HX1.out.of 0 _ rfl
    have a1_1 := HX1.out.of 1 _ rfl
    have a1_2 := HX1.out.of 2 _ rfl
    have a1_3 := HX1.out.of 3 _ rfl
    go_wp2_with fail
    clear a1_0 a1_1 a1_2 a1_3
    refine (toLogNote_any _ _ n (HV1.out _ HB.out) hw1).mono ?_
    rintro e w51 ⟨cs', rfl, ho, hb⟩
    obtain ⟨ux1, vx1, Sx1, Sx1', rfl, hux1, hvx1, -, -, -⟩ := note_own.1 ho
    obtain ⟨Ax1, cx1, rfl, -, -⟩ := hux1.row.form
    obtain ⟨Bx1, dx1, rfl, -, -⟩ := hvx1.row.form
    clear hux1 hvx1
    replace HB := Lib.hid (belowNext HB.out hb)
    replace HX0 := Lib.hid (HX0.out.below hb HX0.out.1)
    replace HX1 := Lib.hid (HX1.out.below hb HX1.out.1)
    replace HBxW0 := Lib.hid (HBxW0.out.below hb HBxW0.out.1)
    replace HY0 := Lib.hid (HY0.out.below hb HY0.out.1)
    replace HC0 := Lib.hid (own_call HC0.out hb)
    replace HRlW0 := Lib.hid (rel_call HRlW0.out hb (by have z0 := HZ0.out; have z3 := HZ3.out; have z6 := HZ6.out; have z47 := HZ47.out; have zqW0 := HZqW0.out; have zpW0 := HZpW0.out; have z49 := HZ49.out; have z50 := HZ50.out; omega))
    have HZ52 := Lib.hid hb.size
    clear hb
    have HC1 := Lib.hid ho
    clear ho
    have hal := belowOne w51 (.cells #[.int .i64 n.kind, .int .i64 n.tx, .slice Ax1 n.locks.length cx1, .slice Bx1 n.writes.length dx1] 26)
    replace HB := Lib.hid (belowNext HB.out hal)
    replace HX0 := Lib.hid (HX0.out.below hal HX0.out.1)
    replace HX1 := Lib.hid (HX1.out.below hal HX1.out.1)
    replace HBxW0 := Lib.hid (HBxW0.out.below hal HBxW0.out.1)
    replace HY0 := Lib.hid (HY0.out.below hal HY0.out.1)
    replace HC0 := Lib.hid (own_call HC0.out hal)
    replace HC1 := Lib.hid (own_call HC1.out hal)
    replace HRlW0 := Lib.hid (rel_call HRlW0.out hal (by have z0 := HZ0.out; have z3 := HZ3.out; have z6 := HZ6.out; have z47 := HZ47.out; have zqW0 := HZqW0.out; have zpW0 := HZpW0.out; have z49 := HZ49.out; have z50 := HZ50.out; have z52 := HZ52.out; omega))
    have HZ53 := Lib.hid (allocSize w51 (.cells #[.int .i64 n.kind, .int .i64 n.tx, .slice Ax1 n.locks.length cx1, .slice Bx1 n.writes.length dx1] 26))
    clear hal
    have HY1 := Lib.hid (Held.new w51 #[.int .i64 n.kind, .int .i64 n.tx, .slice Ax1 n.locks.length cx1, .slice Bx1 n.writes.length dx1] 26)
    have a0_0 := HY0.out.of 0 _ rfl
    have a0_1 := HY0.out.of 1 _ rfl
    have a1_0 := HY1.out.of 0 _ rfl
    have a1_1 := HY1.out.of 1 _ rfl
    have a1_2 := HY1.out.of 2 _ rfl
    have a1_3 := HY1.out.of 3 _ rfl
    go_wp2_with fail
    clear a0_0 a0_1 a1_0 a1_1 a1_2 a1_3
    refine (HIm.out _ _ _ (diskSh.orel HC0.out) (noteSh.orel HC1.out)).mono ?_
    rintro e w54 ⟨cs', rfl, ho0, hb⟩
    obtain ⟨uqg0, rfl, huqg0⟩ := disk_own.1 ho0
    obtain ⟨Aqg0, cqg0, rfl, -, -⟩ := huqg0.row.form
    clear huqg0
    replace HB := Lib.hid (belowNext HB.out hb)
    replace HX0 := Lib.hid (HX0.out.below hb HX0.out.1)
    replace HX1 := Lib.hid (HX1.out.below hb HX1.out.1)
    replace HBxW0 := Lib.hid (HBxW0.out.below hb HBxW0.out.1)
    replace HY0 := Lib.hid (HY0.out.below hb HY0.out.1)
    replace HY1 := Lib.hid (HY1.out.below hb HY1.out.1)
    replace HC0 := Lib.hid (own_call HC0.out hb)
    replace HC1 := Lib.hid (own_call HC1.out hb)
    replace HRlW0 := Lib.hid (rel_call HRlW0.out hb (by have z0 := HZ0.out; have z3 := HZ3.out; have z6 := HZ6.out; have z47 := HZ47.out; have zqW0 := HZqW0.out; have zpW0 := HZpW0.out; have z49 := HZ49.out; have z50 := HZ50.out; have z52 := HZ52.out; have z53 := HZ53.out; omega))
    have HZ55 := Lib.hid hb.size
    clear hb
    have HOwG0 := Lib.hid ho0
    clear ho0
    have hal := belowOne w54 (.cells #[.slice Aqg0 R.notes.length cqg0, .int .i64 R.safe] 45)
    replace HB := Lib.hid (belowNext HB.out hal)
    replace HX0 := Lib.hid (HX0.out.below hal HX0.out.1)
    replace HX1 := Lib.hid (HX1.out.below hal HX1.out.1)
    replace HBxW0 := Lib.hid (HBxW0.out.below hal HBxW0.out.1)
    replace HY0 := Lib.hid (HY0.out.below hal HY0.out.1)
    replace HY1 := Lib.hid (HY1.out.below hal HY1.out.1)
    replace HC0 := Lib.hid (own_call HC0.out hal)
    replace HC1 := Lib.hid (own_call HC1.out hal)
    replace HOwG0 := Lib.hid (own_call HOwG0.out hal)
    replace HRlW0 := Lib.hid (rel_call HRlW0.out hal (by have z0 := HZ0.out; have z3 := HZ3.out; have z6 := HZ6.out; have z47 := HZ47.out; have zqW0 := HZqW0.out; have zpW0 := HZpW0.out; have z49 := HZ49.out; have z50 := HZ50.out; have z52 := HZ52.out; have z53 := HZ53.out; have z55 := HZ55.out; omega))
    have HZ56 := Lib.hid (allocSize w54 (.cells #[.slice Aqg0 R.notes.length cqg0, .int .i64 R.safe] 45))
    clear hal
    have HBxG0 := Lib.hid (Held.new w54 #[.slice Aqg0 R.notes.length cqg0, .int .i64 R.safe] 45)
    have hne1 : (ok != ok) = false := by simp
    have axG0_0 := HBxG0.out.of 0 _ rfl
    have axG0_1 := HBxG0.out.of 1 _ rfl
    have axW0_0 := HBxW0.out.of 0 _ rfl
    have axW0_1 := HBxW0.out.of 1 _ rfl
    go_wp2_with fail
    clear axG0_0 axG0_1 axW0_0 axW0_1
    refine (eqLogDisk_same _ _ _ R (diskSh.orel HOwG0.out) (diskSh.rmore HRlW0.out (by have z0 := HZ0.out; have z3 := HZ3.out; have z6 := HZ6.out; have z47 := HZ47.out; have zqW0 := HZqW0.out; have zpW0 := HZpW0.out; have z49 := HZ49.out; have z50 := HZ50.out; have z52 := HZ52.out; have z53 := HZ53.out; have z55 := HZ55.out; have z56 := HZ56.out; omega))).mono ?_
    rintro e w57 ⟨rfl, hb⟩
    replace HB := Lib.hid (belowNext HB.out hb)
    replace HX0 := Lib.hid (HX0.out.below hb HX0.out.1)
    replace HX1 := Lib.hid (HX1.out.below hb HX1.out.1)
    replace HBxW0 := Lib.hid (HBxW0.out.below hb HBxW0.out.1)
    replace HY0 := Lib.hid (HY0.out.below hb HY0.out.1)
    replace HY1 := Lib.hid (HY1.out.below hb HY1.out.1)
    replace HBxG0 := Lib.hid (HBxG0.out.below hb HBxG0.out.1)
    replace HC0 := Lib.hid (own_call HC0.out hb)
    replace HC1 := Lib.hid (own_call HC1.out hb)
    replace HOwG0 := Lib.hid (own_call HOwG0.out hb)
    replace HRlW0 := Lib.hid (rel_call HRlW0.out hb (by have z0 := HZ0.out; have z3 := HZ3.out; have z6 := HZ6.out; have z47 := HZ47.out; have zqW0 := HZqW0.out; have zpW0 := HZpW0.out; have z49 := HZ49.out; have z50 := HZ50.out; have z52 := HZ52.out; have z53 := HZ53.out; have z55 := HZ55.out; have z56 := HZ56.out; omega))
    have HZ58 := Lib.hid hb.size
    clear hb
    go_wp2
    have k0_ : w57.drew.cell? ⟨w48.heap.size, 0, none⟩ = some (.slice Ax0 x.notes.length cx0) ∧ w57.drew.cell? ⟨w48.heap.size, 1, none⟩ = some (.int .i64 x.safe) ∧ w57.drew.cell? ⟨w.heap.size, 0, none⟩ = some (.slice Aa0 x.notes.length ca0) ∧ w57.drew.cell? ⟨w.heap.size, 1, none⟩ = some (.int .i64 x.safe) := (And.intro (HY0.out.of 0 _ rfl) (And.intro (HY0.out.of 1 _ rfl) (And.intro (HX0.out.of 0 _ rfl) (HX0.out.of 1 _ rfl))))
    refine wp_region_held_drew (S := (fun w' => w'.cell? ⟨w48.heap.size, 0, none⟩ = some (.slice Ax0 x.notes.length cx0) ∧ w'.cell? ⟨w48.heap.size, 1, none⟩ = some (.int .i64 x.safe) ∧ w'.cell? ⟨w.heap.size, 0, none⟩ = some (.slice Aa0 x.notes.length ca0) ∧ w'.cell? ⟨w.heap.size, 1, none⟩ = some (.int .i64 x.safe))) (by kernel_rfl) ?hSe0 (fun hHelde0 => ?ste0)
    case hSe0 => (first | (dsimp only; (exact k0_)) | (exact k0_))
    have hdr := (Below.refl w57.heap.size w57).drew
    replace HB := Lib.hid (belowNext HB.out hdr)
    replace HX0 := Lib.hid (HX0.out.below hdr HX0.out.1)
    replace HX1 := Lib.hid (HX1.out.below hdr HX1.out.1)
    replace HBxW0 := Lib.hid (HBxW0.out.below hdr HBxW0.out.1)
    replace HY0 := Lib.hid (HY0.out.below hdr HY0.out.1)
    replace HY1 := Lib.hid (HY1.out.below hdr HY1.out.1)
    replace HBxG0 := Lib.hid (HBxG0.out.below hdr HBxG0.out.1)
    replace HC0 := Lib.hid (own_call HC0.out hdr)
    replace HC1 := Lib.hid (own_call HC1.out hdr)
    replace HOwG0 := Lib.hid (own_call HOwG0.out hdr)
    replace HRlW0 := Lib.hid (rel_call HRlW0.out hdr (by have z0 := HZ0.out; have z3 := HZ3.out; have z6 := HZ6.out; have z47 := HZ47.out; have zqW0 := HZqW0.out; have zpW0 := HZpW0.out; have z49 := HZ49.out; have z50 := HZ50.out; have z52 := HZ52.out; have z53 := HZ53.out; have z55 := HZ55.out; have z56 := HZ56.out; have z58 := HZ58.out; omega))
    have HZ59 := Lib.hid hdr.size
    clear hdr
    refine take_first 0 58 (v := ?ve0_1) rfl rfl (by kernel_rfl) (by kernel_rfl) (by kernel_rfl) (fun _ _ _ h => h) (by rfl) ?ye0_1 (by assumption) ?re0_1
    case ye0_1 => (intro w hSw; (try dsimp only at hSw); go_simp; (try with_reducible rfl))
    simp only [Act.put, List.setIfInBounds_toArray, List.set_cons_zero, List.set_cons_succ]
    refine take_first 1 59 (v := ?ve0_2) rfl rfl (by kernel_rfl) (by kernel_rfl) (by kernel_rfl) (fun _ _ _ h => h) (by rfl) ?ye0_2 (by assumption) ?re0_2
    case ye0_2 => (intro w hSw; (try dsimp only at hSw); go_simp; (try with_reducible rfl))
    simp only [Act.put, List.setIfInBounds_toArray, List.set_cons_zero, List.set_cons_succ]
    refine wpAnyH_ready (rs := [2]) (by kernel_rfl) (by simp) ?_
    refine AllReadyH.cons (o := _) rfl (fun Ke0_3 hKe0_3 => ?ce0_3) ?me0_3
    case me0_3 => exact AllReadyH.nil
    go_simp
    refine (toLogDisk_any _ _ x (HV0.out _ HB.out) hw0).mono ?_
    rintro e w60 ⟨cs', rfl, ho, hb⟩
    obtain ⟨up60, rfl, hup60⟩ := disk_own.1 ho
    obtain ⟨Ap60, cp60, rfl, -, -⟩ := hup60.row.form
    clear hup60
    replace HB := Lib.hid (belowNext HB.out hb)
    replace HX0 := Lib.hid (HX0.out.below hb HX0.out.1)
    replace HX1 := Lib.hid (HX1.out.below hb HX1.out.1)
    replace HBxW0 := Lib.hid (HBxW0.out.below hb HBxW0.out.1)
    replace HY0 := Lib.hid (HY0.out.below hb HY0.out.1)
    replace HY1 := Lib.hid (HY1.out.below hb HY1.out.1)
    replace HBxG0 := Lib.hid (HBxG0.out.below hb HBxG0.out.1)
    replace HC0 := Lib.hid (own_call HC0.out hb)
    replace HC1 := Lib.hid (own_call HC1.out hb)
    replace HOwG0 := Lib.hid (own_call HOwG0.out hb)
    replace HRlW0 := Lib.hid (rel_call HRlW0.out hb (by have z0 := HZ0.out; have z3 := HZ3.out; have z6 := HZ6.out; have z47 := HZ47.out; have zqW0 := HZqW0.out; have zpW0 := HZpW0.out; have z49 := HZ49.out; have z50 := HZ50.out; have z52 := HZ52.out; have z53 := HZ53.out; have z55 := HZ55.out; have z56 := HZ56.out; have z58 := HZ58.out; have z59 := HZ59.out; omega))
    have HZ61 := Lib.hid hb.size
    clear hb
    have HP := Lib.hid (diskSh.orel ho)
    clear ho
    have k62_ := (And.intro (HY0.out.of 0 _ rfl) (And.intro (HY0.out.of 1 _ rfl) (And.intro (HX0.out.of 0 _ rfl) (HX0.out.of 1 _ rfl))))
    go_wp2_with fail
    refine hKe0_3.out _ _ ?ke0_3 (fun hHelde0_3 => ?de0_3)
    case ke0_3 => (first | (dsimp only; (with_reducible exact k62_)) | (with_reducible exact k62_))
    clear hKe0_3 Ke0_3
    refine wpAnyH_ready (rs := [3]) (by kernel_rfl) (by simp) ?_
    refine AllReadyH.cons (o := _) rfl (fun Ke0_4 hKe0_4 => ?ce0_4) ?me0_4
    case me0_4 => exact AllReadyH.nil
    go_simp
    refine (eqLogDisk_same _ _ _ x (diskSh.orel HC0.out) HP.out).mono ?_
    rintro e w63 ⟨rfl, hb⟩
    clear HP
    replace HB := Lib.hid (belowNext HB.out hb)
    replace HX0 := Lib.hid (HX0.out.below hb HX0.out.1)
    replace HX1 := Lib.hid (HX1.out.below hb HX1.out.1)
    replace HBxW0 := Lib.hid (HBxW0.out.below hb HBxW0.out.1)
    replace HY0 := Lib.hid (HY0.out.below hb HY0.out.1)
    replace HY1 := Lib.hid (HY1.out.below hb HY1.out.1)
    replace HBxG0 := Lib.hid (HBxG0.out.below hb HBxG0.out.1)
    replace HC0 := Lib.hid (own_call HC0.out hb)
    replace HC1 := Lib.hid (own_call HC1.out hb)
    replace HOwG0 := Lib.hid (own_call HOwG0.out hb)
    replace HRlW0 := Lib.hid (rel_call HRlW0.out hb (by have z0 := HZ0.out; have z3 := HZ3.out; have z6 := HZ6.out; have z47 := HZ47.out; have zqW0 := HZqW0.out; have zpW0 := HZpW0.out; have z49 := HZ49.out; have z50 := HZ50.out; have z52 := HZ52.out; have z53 := HZ53.out; have z55 := HZ55.out; have z56 := HZ56.out; have z58 := HZ58.out; have z59 := HZ59.out; have z61 := HZ61.out; omega))
    have HZ64 := Lib.hid hb.size
    clear hb
    have k65_ := (And.intro (HY0.out.of 0 _ rfl) (And.intro (HY0.out.of 1 _ rfl) (And.intro (HX0.out.of 0 _ rfl) (HX0.out.of 1 _ rfl))))
    go_wp2_with fail
    refine hKe0_4.out _ _ ?ke0_4 (fun hHelde0_4 => ?de0_4)
    case ke0_4 => (first | (dsimp only; (with_reducible exact k65_)) | (with_reducible exact k65_))
    clear hKe0_4 Ke0_4
    refine take_first 4 62 (v := ?ve0_5) rfl rfl (by kernel_rfl) (by kernel_rfl) (by kernel_rfl) (fun _ _ _ h => h) (by rfl) ?ye0_5 (by assumption) ?re0_5
    case ye0_5 => (intro w hSw; (try dsimp only at hSw); go_simp; (try with_reducible rfl))
    simp only [Act.put, List.setIfInBounds_toArray, List.set_cons_zero, List.set_cons_succ]
    refine wpAnyH_done (by kernel_rfl) ?ee0_6 _
    clear k0_ k62_ k65_
    go_wp2
    have k0_ : w63.drew.cell? ⟨w51.heap.size, 0, none⟩ = some (.int .i64 n.kind) ∧ w63.drew.cell? ⟨w51.heap.size, 1, none⟩ = some (.int .i64 n.tx) ∧ w63.drew.cell? ⟨w51.heap.size, 2, none⟩ = some (.slice Ax1 n.locks.length cx1) ∧ w63.drew.cell? ⟨w51.heap.size, 3, none⟩ = some (.slice Bx1 n.writes.length dx1) ∧ w63.drew.cell? ⟨w.heap.size + 1, 0, none⟩ = some (.int .i64 n.kind) ∧ w63.drew.cell? ⟨w.heap.size + 1, 1, none⟩ = some (.int .i64 n.tx) ∧ w63.drew.cell? ⟨w.heap.size + 1, 2, none⟩ = some (.slice Aa1 n.locks.length ca1) ∧ w63.drew.cell? ⟨w.heap.size + 1, 3, none⟩ = some (.slice Ba1 n.writes.length da1) := (And.intro (HY1.out.of 0 _ rfl) (And.intro (HY1.out.of 1 _ rfl) (And.intro (HY1.out.of 2 _ rfl) (And.intro (HY1.out.of 3 _ rfl) (And.intro (HX1.out.of 0 _ rfl) (And.intro (HX1.out.of 1 _ rfl) (And.intro (HX1.out.of 2 _ rfl) (HX1.out.of 3 _ rfl))))))))
    refine wp_region_held_drew (S := (fun w' => w'.cell? ⟨w51.heap.size, 0, none⟩ = some (.int .i64 n.kind) ∧ w'.cell? ⟨w51.heap.size, 1, none⟩ = some (.int .i64 n.tx) ∧ w'.cell? ⟨w51.heap.size, 2, none⟩ = some (.slice Ax1 n.locks.length cx1) ∧ w'.cell? ⟨w51.heap.size, 3, none⟩ = some (.slice Bx1 n.writes.length dx1) ∧ w'.cell? ⟨w.heap.size + 1, 0, none⟩ = some (.int .i64 n.kind) ∧ w'.cell? ⟨w.heap.size + 1, 1, none⟩ = some (.int .i64 n.tx) ∧ w'.cell? ⟨w.heap.size + 1, 2, none⟩ = some (.slice Aa1 n.locks.length ca1) ∧ w'.cell? ⟨w.heap.size + 1, 3, none⟩ = some (.slice Ba1 n.writes.length da1))) (by kernel_rfl) ?hSe1 (fun hHelde1 => ?ste1)
    case hSe1 => (first | (dsimp only; (exact k0_)) | (exact k0_))
    have hdr := (Below.refl w63.heap.size w63).drew
    replace HB := Lib.hid (belowNext HB.out hdr)
    replace HX0 := Lib.hid (HX0.out.below hdr HX0.out.1)
    replace HX1 := Lib.hid (HX1.out.below hdr HX1.out.1)
    replace HBxW0 := Lib.hid (HBxW0.out.below hdr HBxW0.out.1)
    replace HY0 := Lib.hid (HY0.out.below hdr HY0.out.1)
    replace HY1 := Lib.hid (HY1.out.below hdr HY1.out.1)
    replace HBxG0 := Lib.hid (HBxG0.out.below hdr HBxG0.out.1)
    replace HC0 := Lib.hid (own_call HC0.out hdr)
    replace HC1 := Lib.hid (own_call HC1.out hdr)
    replace HOwG0 := Lib.hid (own_call HOwG0.out hdr)
    replace HRlW0 := Lib.hid (rel_call HRlW0.out hdr (by have z0 := HZ0.out; have z3 := HZ3.out; have z6 := HZ6.out; have z47 := HZ47.out; have zqW0 := HZqW0.out; have zpW0 := HZpW0.out; have z49 := HZ49.out; have z50 := HZ50.out; have z52 := HZ52.out; have z53 := HZ53.out; have z55 := HZ55.out; have z56 := HZ56.out; have z58 := HZ58.out; have z59 := HZ59.out; have z61 := HZ61.out; have z64 := HZ64.out; omega))
    have HZ66 := Lib.hid hdr.size
    clear hdr
    refine take_first 0 63 (v := ?ve1_1) rfl rfl (by kernel_rfl) (by kernel_rfl) (by kernel_rfl) (fun _ _ _ h => h) (by rfl) ?ye1_1 (by assumption) ?re1_1
    case ye1_1 => (intro w hSw; (try dsimp only at hSw); go_simp; (try with_reducible rfl))
    simp only [Act.put, List.setIfInBounds_toArray, List.set_cons_zero, List.set_cons_succ]
    refine take_first 1 64 (v := ?ve1_2) rfl rfl (by kernel_rfl) (by kernel_rfl) (by kernel_rfl) (fun _ _ _ h => h) (by rfl) ?ye1_2 (by assumption) ?re1_2
    case ye1_2 => (intro w hSw; (try dsimp only at hSw); go_simp; (try with_reducible rfl))
    simp only [Act.put, List.setIfInBounds_toArray, List.set_cons_zero, List.set_cons_succ]
    refine wpAnyH_ready (rs := [2]) (by kernel_rfl) (by simp) ?_
    refine AllReadyH.cons (o := _) rfl (fun Ke1_3 hKe1_3 => ?ce1_3) ?me1_3
    case me1_3 => exact AllReadyH.nil
    go_simp
    refine (toLogNote_any _ _ n (HV1.out _ HB.out) hw1).mono ?_
    rintro e w67 ⟨cs', rfl, ho, hb⟩
    obtain ⟨up67, vp67, Sp67, Sp67', rfl, hup67, hvp67, -, -, -⟩ := note_own.1 ho
    obtain ⟨Ap67, cp67, rfl, -, -⟩ := hup67.row.form
    obtain ⟨Bp67, dp67, rfl, -, -⟩ := hvp67.row.form
    clear hup67 hvp67
    replace HB := Lib.hid (belowNext HB.out hb)
    replace HX0 := Lib.hid (HX0.out.below hb HX0.out.1)
    replace HX1 := Lib.hid (HX1.out.below hb HX1.out.1)
    replace HBxW0 := Lib.hid (HBxW0.out.below hb HBxW0.out.1)
    replace HY0 := Lib.hid (HY0.out.below hb HY0.out.1)
    replace HY1 := Lib.hid (HY1.out.below hb HY1.out.1)
    replace HBxG0 := Lib.hid (HBxG0.out.below hb HBxG0.out.1)
    replace HC0 := Lib.hid (own_call HC0.out hb)
    replace HC1 := Lib.hid (own_call HC1.out hb)
    replace HOwG0 := Lib.hid (own_call HOwG0.out hb)
    replace HRlW0 := Lib.hid (rel_call HRlW0.out hb (by have z0 := HZ0.out; have z3 := HZ3.out; have z6 := HZ6.out; have z47 := HZ47.out; have zqW0 := HZqW0.out; have zpW0 := HZpW0.out; have z49 := HZ49.out; have z50 := HZ50.out; have z52 := HZ52.out; have z53 := HZ53.out; have z55 := HZ55.out; have z56 := HZ56.out; have z58 := HZ58.out; have z59 := HZ59.out; have z61 := HZ61.out; have z64 := HZ64.out; have z66 := HZ66.out; omega))
    have HZ68 := Lib.hid hb.size
    clear hb
    have HP := Lib.hid (noteSh.orel ho)
    clear ho
    have k69_ := (And.intro (HY1.out.of 0 _ rfl) (And.intro (HY1.out.of 1 _ rfl) (And.intro (HY1.out.of 2 _ rfl) (And.intro (HY1.out.of 3 _ rfl) (And.intro (HX1.out.of 0 _ rfl) (And.intro (HX1.out.of 1 _ rfl) (And.intro (HX1.out.of 2 _ rfl) (HX1.out.of 3 _ rfl))))))))
    go_wp2_with fail
    refine hKe1_3.out _ _ ?ke1_3 (fun hHelde1_3 => ?de1_3)
    case ke1_3 => (first | (dsimp only; (with_reducible exact k69_)) | (with_reducible exact k69_))
    clear hKe1_3 Ke1_3
    refine wpAnyH_ready (rs := [3]) (by kernel_rfl) (by simp) ?_
    refine AllReadyH.cons (o := _) rfl (fun Ke1_4 hKe1_4 => ?ce1_4) ?me1_4
    case me1_4 => exact AllReadyH.nil
    go_simp
    refine (eqLogNote_same _ _ _ n (noteSh.orel HC1.out) HP.out).mono ?_
    rintro e w70 ⟨rfl, hb⟩
    clear HP
    replace HB := Lib.hid (belowNext HB.out hb)
    replace HX0 := Lib.hid (HX0.out.below hb HX0.out.1)
    replace HX1 := Lib.hid (HX1.out.below hb HX1.out.1)
    replace HBxW0 := Lib.hid (HBxW0.out.below hb HBxW0.out.1)
    replace HY0 := Lib.hid (HY0.out.below hb HY0.out.1)
    replace HY1 := Lib.hid (HY1.out.below hb HY1.out.1)
    replace HBxG0 := Lib.hid (HBxG0.out.below hb HBxG0.out.1)
    replace HC0 := Lib.hid (own_call HC0.out hb)
    replace HC1 := Lib.hid (own_call HC1.out hb)
    replace HOwG0 := Lib.hid (own_call HOwG0.out hb)
    replace HRlW0 := Lib.hid (rel_call HRlW0.out hb (by have z0 := HZ0.out; have z3 := HZ3.out; have z6 := HZ6.out; have z47 := HZ47.out; have zqW0 := HZqW0.out; have zpW0 := HZpW0.out; have z49 := HZ49.out; have z50 := HZ50.out; have z52 := HZ52.out; have z53 := HZ53.out; have z55 := HZ55.out; have z56 := HZ56.out; have z58 := HZ58.out; have z59 := HZ59.out; have z61 := HZ61.out; have z64 := HZ64.out; have z66 := HZ66.out; have z68 := HZ68.out; omega))
    have HZ71 := Lib.hid hb.size
    clear hb
    have k72_ := (And.intro (HY1.out.of 0 _ rfl) (And.intro (HY1.out.of 1 _ rfl) (And.intro (HY1.out.of 2 _ rfl) (And.intro (HY1.out.of 3 _ rfl) (And.intro (HX1.out.of 0 _ rfl) (And.intro (HX1.out.of 1 _ rfl) (And.intro (HX1.out.of 2 _ rfl) (HX1.out.of 3 _ rfl))))))))
    go_wp2_with fail
    refine hKe1_4.out _ _ ?ke1_4 (fun hHelde1_4 => ?de1_4)
    case ke1_4 => (first | (dsimp only; (with_reducible exact k72_)) | (with_reducible exact k72_))
    clear hKe1_4 Ke1_4
    refine take_first 4 67 (v := ?ve1_5) rfl rfl (by kernel_rfl) (by kernel_rfl) (by kernel_rfl) (fun _ _ _ h => h) (by rfl) ?ye1_5 (by assumption) ?re1_5
    case ye1_5 => (intro w hSw; (try dsimp only at hSw); go_simp; (try with_reducible rfl))
    simp only [Act.put, List.setIfInBounds_toArray, List.set_cons_zero, List.set_cons_succ]
    refine wpAnyH_done (by kernel_rfl) ?ee1_6 _
    clear k0_ k69_ k72_
    have hcbx : dCnt x ≤ 16 * diskSh.wt x := by have h := cntL_le noteSh.cnt noteSh.wt noteSh.base (by decide) noteSh.cntLe x.notes; have e : diskSh.wt x = wtL noteSh.wt x.notes + 0 := rfl; unfold dCnt; omega
    have a0_0 := HY0.out.of 0 _ rfl
    have a0_1 := HY0.out.of 1 _ rfl
    go_wp2_with fail
    clear a0_0 a0_1
    refine (markLogDisk_r _ _ _ x HC0.out _ hw0 (by omega) (by omega)).mono ?_
    rintro e w73 ⟨y, rfl, -, -, -, ht⟩
    have HT := Lib.hid ht
    replace HB := Lib.hid (below_mark HB.out HT.out HB.out.size (fun b hb => by have z0 := HZ0.out; have z3 := HZ3.out; have z6 := HZ6.out; have z47 := HZ47.out; have zqW0 := HZqW0.out; have zpW0 := HZpW0.out; have z49 := HZ49.out; have z50 := HZ50.out; have z52 := HZ52.out; have z53 := HZ53.out; have z55 := HZ55.out; have z56 := HZ56.out; have z58 := HZ58.out; have z59 := HZ59.out; have z61 := HZ61.out; have z64 := HZ64.out; have z66 := HZ66.out; have z68 := HZ68.out; have z71 := HZ71.out; have h1 := hb.1; omega))
    replace HX0 := Lib.hid (HX0.out.outs HT.out (fun h => by have z0 := HZ0.out; have z3 := HZ3.out; have z6 := HZ6.out; have z47 := HZ47.out; have zqW0 := HZqW0.out; have zpW0 := HZpW0.out; have z49 := HZ49.out; have z50 := HZ50.out; have z52 := HZ52.out; have z53 := HZ53.out; have z55 := HZ55.out; have z56 := HZ56.out; have z58 := HZ58.out; have z59 := HZ59.out; have z61 := HZ61.out; have z64 := HZ64.out; have z66 := HZ66.out; have z68 := HZ68.out; have z71 := HZ71.out; have h1 := h.1; have h2 := h.2; omega))
    replace HX1 := Lib.hid (HX1.out.outs HT.out (fun h => by have z0 := HZ0.out; have z3 := HZ3.out; have z6 := HZ6.out; have z47 := HZ47.out; have zqW0 := HZqW0.out; have zpW0 := HZpW0.out; have z49 := HZ49.out; have z50 := HZ50.out; have z52 := HZ52.out; have z53 := HZ53.out; have z55 := HZ55.out; have z56 := HZ56.out; have z58 := HZ58.out; have z59 := HZ59.out; have z61 := HZ61.out; have z64 := HZ64.out; have z66 := HZ66.out; have z68 := HZ68.out; have z71 := HZ71.out; have h1 := h.1; have h2 := h.2; omega))
    replace HBxW0 := Lib.hid (HBxW0.out.outs HT.out (fun h => by have z0 := HZ0.out; have z3 := HZ3.out; have z6 := HZ6.out; have z47 := HZ47.out; have zqW0 := HZqW0.out; have zpW0 := HZpW0.out; have z49 := HZ49.out; have z50 := HZ50.out; have z52 := HZ52.out; have z53 := HZ53.out; have z55 := HZ55.out; have z56 := HZ56.out; have z58 := HZ58.out; have z59 := HZ59.out; have z61 := HZ61.out; have z64 := HZ64.out; have z66 := HZ66.out; have z68 := HZ68.out; have z71 := HZ71.out; have h1 := h.1; have h2 := h.2; omega))
    replace HY0 := Lib.hid (HY0.out.outs HT.out (fun h => by have z0 := HZ0.out; have z3 := HZ3.out; have z6 := HZ6.out; have z47 := HZ47.out; have zqW0 := HZqW0.out; have zpW0 := HZpW0.out; have z49 := HZ49.out; have z50 := HZ50.out; have z52 := HZ52.out; have z53 := HZ53.out; have z55 := HZ55.out; have z56 := HZ56.out; have z58 := HZ58.out; have z59 := HZ59.out; have z61 := HZ61.out; have z64 := HZ64.out; have z66 := HZ66.out; have z68 := HZ68.out; have z71 := HZ71.out; have h1 := h.1; have h2 := h.2; omega))
    replace HY1 := Lib.hid (HY1.out.outs HT.out (fun h => by have z0 := HZ0.out; have z3 := HZ3.out; have z6 := HZ6.out; have z47 := HZ47.out; have zqW0 := HZqW0.out; have zpW0 := HZpW0.out; have z49 := HZ49.out; have z50 := HZ50.out; have z52 := HZ52.out; have z53 := HZ53.out; have z55 := HZ55.out; have z56 := HZ56.out; have z58 := HZ58.out; have z59 := HZ59.out; have z61 := HZ61.out; have z64 := HZ64.out; have z66 := HZ66.out; have z68 := HZ68.out; have z71 := HZ71.out; have h1 := h.1; have h2 := h.2; omega))
    replace HBxG0 := Lib.hid (HBxG0.out.outs HT.out (fun h => by have z0 := HZ0.out; have z3 := HZ3.out; have z6 := HZ6.out; have z47 := HZ47.out; have zqW0 := HZqW0.out; have zpW0 := HZpW0.out; have z49 := HZ49.out; have z50 := HZ50.out; have z52 := HZ52.out; have z53 := HZ53.out; have z55 := HZ55.out; have z56 := HZ56.out; have z58 := HZ58.out; have z59 := HZ59.out; have z61 := HZ61.out; have z64 := HZ64.out; have z66 := HZ66.out; have z68 := HZ68.out; have z71 := HZ71.out; have h1 := h.1; have h2 := h.2; omega))
    replace HC1 := Lib.hid (own_mark HC1.out HT.out (fun b hb h => by have z0 := HZ0.out; have z3 := HZ3.out; have z6 := HZ6.out; have z47 := HZ47.out; have zqW0 := HZqW0.out; have zpW0 := HZpW0.out; have z49 := HZ49.out; have z50 := HZ50.out; have z52 := HZ52.out; have z53 := HZ53.out; have z55 := HZ55.out; have z56 := HZ56.out; have z58 := HZ58.out; have z59 := HZ59.out; have z61 := HZ61.out; have z64 := HZ64.out; have z66 := HZ66.out; have z68 := HZ68.out; have z71 := HZ71.out; have h1 := hb.1; have h2 := hb.2; have h3 := h.1; have h4 := h.2; omega))
    replace HOwG0 := Lib.hid (own_mark HOwG0.out HT.out (fun b hb h => by have z0 := HZ0.out; have z3 := HZ3.out; have z6 := HZ6.out; have z47 := HZ47.out; have zqW0 := HZqW0.out; have zpW0 := HZpW0.out; have z49 := HZ49.out; have z50 := HZ50.out; have z52 := HZ52.out; have z53 := HZ53.out; have z55 := HZ55.out; have z56 := HZ56.out; have z58 := HZ58.out; have z59 := HZ59.out; have z61 := HZ61.out; have z64 := HZ64.out; have z66 := HZ66.out; have z68 := HZ68.out; have z71 := HZ71.out; have h1 := hb.1; have h2 := hb.2; have h3 := h.1; have h4 := h.2; omega))
    replace HRlW0 := Lib.hid (rel_mark HRlW0.out HT.out (by have z0 := HZ0.out; have z3 := HZ3.out; have z6 := HZ6.out; have z47 := HZ47.out; have zqW0 := HZqW0.out; have zpW0 := HZpW0.out; have z49 := HZ49.out; have z50 := HZ50.out; have z52 := HZ52.out; have z53 := HZ53.out; have z55 := HZ55.out; have z56 := HZ56.out; have z58 := HZ58.out; have z59 := HZ59.out; have z61 := HZ61.out; have z64 := HZ64.out; have z66 := HZ66.out; have z68 := HZ68.out; have z71 := HZ71.out; omega) (fun b hb => by have z0 := HZ0.out; have z3 := HZ3.out; have z6 := HZ6.out; have z47 := HZ47.out; have zqW0 := HZqW0.out; have zpW0 := HZpW0.out; have z49 := HZ49.out; have z50 := HZ50.out; have z52 := HZ52.out; have z53 := HZ53.out; have z55 := HZ55.out; have z56 := HZ56.out; have z58 := HZ58.out; have z59 := HZ59.out; have z61 := HZ61.out; have z64 := HZ64.out; have z66 := HZ66.out; have z68 := HZ68.out; have z71 := HZ71.out; have h1 := hb.1; omega))
    have HZ74 := Lib.hid HT.out.size
    clear ht HT
    clear HC0
    have hcbn : nCnt n ≤ 32 * noteSh.wt n := by have h1 := cntL_le strSh.cnt strSh.wt strSh.base (by decide) strSh.cntLe n.locks; have h2 := cntL_le wrSh.cnt wrSh.wt wrSh.base (by decide) wrSh.cntLe n.writes; have e : noteSh.wt n = 0 + (0 + (wtL strSh.wt n.locks + wtL wrSh.wt n.writes)) := rfl; unfold nCnt; omega
    have a1_0 := HY1.out.of 0 _ rfl
    have a1_1 := HY1.out.of 1 _ rfl
    have a1_2 := HY1.out.of 2 _ rfl
    have a1_3 := HY1.out.of 3 _ rfl
    go_wp2_with fail
    clear a1_0 a1_1 a1_2 a1_3
    refine (markLogNote_r _ _ _ n HC1.out _ hw1 (by omega) (by omega)).mono ?_
    rintro e w75 ⟨y, rfl, -, -, -, ht⟩
    have HT := Lib.hid ht
    replace HB := Lib.hid (below_mark HB.out HT.out HB.out.size (fun b hb => by have z0 := HZ0.out; have z3 := HZ3.out; have z6 := HZ6.out; have z47 := HZ47.out; have zqW0 := HZqW0.out; have zpW0 := HZpW0.out; have z49 := HZ49.out; have z50 := HZ50.out; have z52 := HZ52.out; have z53 := HZ53.out; have z55 := HZ55.out; have z56 := HZ56.out; have z58 := HZ58.out; have z59 := HZ59.out; have z61 := HZ61.out; have z64 := HZ64.out; have z66 := HZ66.out; have z68 := HZ68.out; have z71 := HZ71.out; have z74 := HZ74.out; have h1 := hb.1; omega))
    replace HX0 := Lib.hid (HX0.out.outs HT.out (fun h => by have z0 := HZ0.out; have z3 := HZ3.out; have z6 := HZ6.out; have z47 := HZ47.out; have zqW0 := HZqW0.out; have zpW0 := HZpW0.out; have z49 := HZ49.out; have z50 := HZ50.out; have z52 := HZ52.out; have z53 := HZ53.out; have z55 := HZ55.out; have z56 := HZ56.out; have z58 := HZ58.out; have z59 := HZ59.out; have z61 := HZ61.out; have z64 := HZ64.out; have z66 := HZ66.out; have z68 := HZ68.out; have z71 := HZ71.out; have z74 := HZ74.out; have h1 := h.1; have h2 := h.2; omega))
    replace HX1 := Lib.hid (HX1.out.outs HT.out (fun h => by have z0 := HZ0.out; have z3 := HZ3.out; have z6 := HZ6.out; have z47 := HZ47.out; have zqW0 := HZqW0.out; have zpW0 := HZpW0.out; have z49 := HZ49.out; have z50 := HZ50.out; have z52 := HZ52.out; have z53 := HZ53.out; have z55 := HZ55.out; have z56 := HZ56.out; have z58 := HZ58.out; have z59 := HZ59.out; have z61 := HZ61.out; have z64 := HZ64.out; have z66 := HZ66.out; have z68 := HZ68.out; have z71 := HZ71.out; have z74 := HZ74.out; have h1 := h.1; have h2 := h.2; omega))
    replace HBxW0 := Lib.hid (HBxW0.out.outs HT.out (fun h => by have z0 := HZ0.out; have z3 := HZ3.out; have z6 := HZ6.out; have z47 := HZ47.out; have zqW0 := HZqW0.out; have zpW0 := HZpW0.out; have z49 := HZ49.out; have z50 := HZ50.out; have z52 := HZ52.out; have z53 := HZ53.out; have z55 := HZ55.out; have z56 := HZ56.out; have z58 := HZ58.out; have z59 := HZ59.out; have z61 := HZ61.out; have z64 := HZ64.out; have z66 := HZ66.out; have z68 := HZ68.out; have z71 := HZ71.out; have z74 := HZ74.out; have h1 := h.1; have h2 := h.2; omega))
    replace HY0 := Lib.hid (HY0.out.outs HT.out (fun h => by have z0 := HZ0.out; have z3 := HZ3.out; have z6 := HZ6.out; have z47 := HZ47.out; have zqW0 := HZqW0.out; have zpW0 := HZpW0.out; have z49 := HZ49.out; have z50 := HZ50.out; have z52 := HZ52.out; have z53 := HZ53.out; have z55 := HZ55.out; have z56 := HZ56.out; have z58 := HZ58.out; have z59 := HZ59.out; have z61 := HZ61.out; have z64 := HZ64.out; have z66 := HZ66.out; have z68 := HZ68.out; have z71 := HZ71.out; have z74 := HZ74.out; have h1 := h.1; have h2 := h.2; omega))
    replace HY1 := Lib.hid (HY1.out.outs HT.out (fun h => by have z0 := HZ0.out; have z3 := HZ3.out; have z6 := HZ6.out; have z47 := HZ47.out; have zqW0 := HZqW0.out; have zpW0 := HZpW0.out; have z49 := HZ49.out; have z50 := HZ50.out; have z52 := HZ52.out; have z53 := HZ53.out; have z55 := HZ55.out; have z56 := HZ56.out; have z58 := HZ58.out; have z59 := HZ59.out; have z61 := HZ61.out; have z64 := HZ64.out; have z66 := HZ66.out; have z68 := HZ68.out; have z71 := HZ71.out; have z74 := HZ74.out; have h1 := h.1; have h2 := h.2; omega))
    replace HBxG0 := Lib.hid (HBxG0.out.outs HT.out (fun h => by have z0 := HZ0.out; have z3 := HZ3.out; have z6 := HZ6.out; have z47 := HZ47.out; have zqW0 := HZqW0.out; have zpW0 := HZpW0.out; have z49 := HZ49.out; have z50 := HZ50.out; have z52 := HZ52.out; have z53 := HZ53.out; have z55 := HZ55.out; have z56 := HZ56.out; have z58 := HZ58.out; have z59 := HZ59.out; have z61 := HZ61.out; have z64 := HZ64.out; have z66 := HZ66.out; have z68 := HZ68.out; have z71 := HZ71.out; have z74 := HZ74.out; have h1 := h.1; have h2 := h.2; omega))
    replace HOwG0 := Lib.hid (own_mark HOwG0.out HT.out (fun b hb h => by have z0 := HZ0.out; have z3 := HZ3.out; have z6 := HZ6.out; have z47 := HZ47.out; have zqW0 := HZqW0.out; have zpW0 := HZpW0.out; have z49 := HZ49.out; have z50 := HZ50.out; have z52 := HZ52.out; have z53 := HZ53.out; have z55 := HZ55.out; have z56 := HZ56.out; have z58 := HZ58.out; have z59 := HZ59.out; have z61 := HZ61.out; have z64 := HZ64.out; have z66 := HZ66.out; have z68 := HZ68.out; have z71 := HZ71.out; have z74 := HZ74.out; have h1 := hb.1; have h2 := hb.2; have h3 := h.1; have h4 := h.2; omega))
    replace HRlW0 := Lib.hid (rel_mark HRlW0.out HT.out (by have z0 := HZ0.out; have z3 := HZ3.out; have z6 := HZ6.out; have z47 := HZ47.out; have zqW0 := HZqW0.out; have zpW0 := HZpW0.out; have z49 := HZ49.out; have z50 := HZ50.out; have z52 := HZ52.out; have z53 := HZ53.out; have z55 := HZ55.out; have z56 := HZ56.out; have z58 := HZ58.out; have z59 := HZ59.out; have z61 := HZ61.out; have z64 := HZ64.out; have z66 := HZ66.out; have z68 := HZ68.out; have z71 := HZ71.out; have z74 := HZ74.out; omega) (fun b hb => by have z0 := HZ0.out; have z3 := HZ3.out; have z6 := HZ6.out; have z47 := HZ47.out; have zqW0 := HZqW0.out; have zpW0 := HZpW0.out; have z49 := HZ49.out; have z50 := HZ50.out; have z52 := HZ52.out; have z53 := HZ53.out; have z55 := HZ55.out; have z56 := HZ56.out; have z58 := HZ58.out; have z59 := HZ59.out; have z61 := HZ61.out; have z64 := HZ64.out; have z66 := HZ66.out; have z68 := HZ68.out; have z71 := HZ71.out; have z74 := HZ74.out; have h1 := hb.1; omega))
    have HZ76 := Lib.hid HT.out.size
    clear ht HT
    clear HC1
    have hkn : ¬ (1 + (dCnt x : Int) + (nCnt n : Int) < 0) := by omega
    have axG0_0 := HBxG0.out.of 0 _ rfl
    have axG0_1 := HBxG0.out.of 1 _ rfl
    have axW0_0 := HBxW0.out.of 0 _ rfl
    have axW0_1 := HBxW0.out.of 1 _ rfl
    go_wp2_with fail
    clear axG0_0 axG0_1 axW0_0 axW0_1
    refine (eqLogDisk_same _ _ _ R (diskSh.orel HOwG0.out) (diskSh.rmore HRlW0.out (by have z0 := HZ0.out; have z3 := HZ3.out; have z6 := HZ6.out; have z47 := HZ47.out; have zqW0 := HZqW0.out; have zpW0 := HZpW0.out; have z49 := HZ49.out; have z50 := HZ50.out; have z52 := HZ52.out; have z53 := HZ53.out; have z55 := HZ55.out; have z56 := HZ56.out; have z58 := HZ58.out; have z59 := HZ59.out; have z61 := HZ61.out; have z64 := HZ64.out; have z66 := HZ66.out; have z68 := HZ68.out; have z71 := HZ71.out; have z74 := HZ74.out; have z76 := HZ76.out; omega))).mono ?_
    rintro e w77 ⟨rfl, hb⟩
    replace HB := Lib.hid (belowNext HB.out hb)
    replace HX0 := Lib.hid (HX0.out.below hb HX0.out.1)
    replace HX1 := Lib.hid (HX1.out.below hb HX1.out.1)
    replace HBxW0 := Lib.hid (HBxW0.out.below hb HBxW0.out.1)
    replace HY0 := Lib.hid (HY0.out.below hb HY0.out.1)
    replace HY1 := Lib.hid (HY1.out.below hb HY1.out.1)
    replace HBxG0 := Lib.hid (HBxG0.out.below hb HBxG0.out.1)
    replace HOwG0 := Lib.hid (own_call HOwG0.out hb)
    replace HRlW0 := Lib.hid (rel_call HRlW0.out hb (by have z0 := HZ0.out; have z3 := HZ3.out; have z6 := HZ6.out; have z47 := HZ47.out; have zqW0 := HZqW0.out; have zpW0 := HZpW0.out; have z49 := HZ49.out; have z50 := HZ50.out; have z52 := HZ52.out; have z53 := HZ53.out; have z55 := HZ55.out; have z56 := HZ56.out; have z58 := HZ58.out; have z59 := HZ59.out; have z61 := HZ61.out; have z64 := HZ64.out; have z66 := HZ66.out; have z68 := HZ68.out; have z71 := HZ71.out; have z74 := HZ74.out; have z76 := HZ76.out; omega))
    have HZ78 := Lib.hid hb.size
    clear hb
    have axG0_0 := HBxG0.out.of 0 _ rfl
    have axG0_1 := HBxG0.out.of 1 _ rfl
    go_wp2_with fail
    clear axG0_0 axG0_1
    refine (markLogDisk_r _ _ _ R HOwG0.out 1 (by omega) (by omega) (by omega)).mono ?_
    rintro e w79 ⟨y0, rfl, hyc, hym, hyo, ht⟩
    have HT := Lib.hid ht
    replace HB := Lib.hid (below_mark HB.out HT.out HB.out.size (fun b hb => by have z0 := HZ0.out; have z3 := HZ3.out; have z6 := HZ6.out; have z47 := HZ47.out; have zqW0 := HZqW0.out; have zpW0 := HZpW0.out; have z49 := HZ49.out; have z50 := HZ50.out; have z52 := HZ52.out; have z53 := HZ53.out; have z55 := HZ55.out; have z56 := HZ56.out; have z58 := HZ58.out; have z59 := HZ59.out; have z61 := HZ61.out; have z64 := HZ64.out; have z66 := HZ66.out; have z68 := HZ68.out; have z71 := HZ71.out; have z74 := HZ74.out; have z76 := HZ76.out; have z78 := HZ78.out; have h1 := hb.1; omega))
    replace HX0 := Lib.hid (HX0.out.outs HT.out (fun h => by have z0 := HZ0.out; have z3 := HZ3.out; have z6 := HZ6.out; have z47 := HZ47.out; have zqW0 := HZqW0.out; have zpW0 := HZpW0.out; have z49 := HZ49.out; have z50 := HZ50.out; have z52 := HZ52.out; have z53 := HZ53.out; have z55 := HZ55.out; have z56 := HZ56.out; have z58 := HZ58.out; have z59 := HZ59.out; have z61 := HZ61.out; have z64 := HZ64.out; have z66 := HZ66.out; have z68 := HZ68.out; have z71 := HZ71.out; have z74 := HZ74.out; have z76 := HZ76.out; have z78 := HZ78.out; have h1 := h.1; have h2 := h.2; omega))
    replace HX1 := Lib.hid (HX1.out.outs HT.out (fun h => by have z0 := HZ0.out; have z3 := HZ3.out; have z6 := HZ6.out; have z47 := HZ47.out; have zqW0 := HZqW0.out; have zpW0 := HZpW0.out; have z49 := HZ49.out; have z50 := HZ50.out; have z52 := HZ52.out; have z53 := HZ53.out; have z55 := HZ55.out; have z56 := HZ56.out; have z58 := HZ58.out; have z59 := HZ59.out; have z61 := HZ61.out; have z64 := HZ64.out; have z66 := HZ66.out; have z68 := HZ68.out; have z71 := HZ71.out; have z74 := HZ74.out; have z76 := HZ76.out; have z78 := HZ78.out; have h1 := h.1; have h2 := h.2; omega))
    replace HBxW0 := Lib.hid (HBxW0.out.outs HT.out (fun h => by have z0 := HZ0.out; have z3 := HZ3.out; have z6 := HZ6.out; have z47 := HZ47.out; have zqW0 := HZqW0.out; have zpW0 := HZpW0.out; have z49 := HZ49.out; have z50 := HZ50.out; have z52 := HZ52.out; have z53 := HZ53.out; have z55 := HZ55.out; have z56 := HZ56.out; have z58 := HZ58.out; have z59 := HZ59.out; have z61 := HZ61.out; have z64 := HZ64.out; have z66 := HZ66.out; have z68 := HZ68.out; have z71 := HZ71.out; have z74 := HZ74.out; have z76 := HZ76.out; have z78 := HZ78.out; have h1 := h.1; have h2 := h.2; omega))
    replace HY0 := Lib.hid (HY0.out.outs HT.out (fun h => by have z0 := HZ0.out; have z3 := HZ3.out; have z6 := HZ6.out; have z47 := HZ47.out; have zqW0 := HZqW0.out; have zpW0 := HZpW0.out; have z49 := HZ49.out; have z50 := HZ50.out; have z52 := HZ52.out; have z53 := HZ53.out; have z55 := HZ55.out; have z56 := HZ56.out; have z58 := HZ58.out; have z59 := HZ59.out; have z61 := HZ61.out; have z64 := HZ64.out; have z66 := HZ66.out; have z68 := HZ68.out; have z71 := HZ71.out; have z74 := HZ74.out; have z76 := HZ76.out; have z78 := HZ78.out; have h1 := h.1; have h2 := h.2; omega))
    replace HY1 := Lib.hid (HY1.out.outs HT.out (fun h => by have z0 := HZ0.out; have z3 := HZ3.out; have z6 := HZ6.out; have z47 := HZ47.out; have zqW0 := HZqW0.out; have zpW0 := HZpW0.out; have z49 := HZ49.out; have z50 := HZ50.out; have z52 := HZ52.out; have z53 := HZ53.out; have z55 := HZ55.out; have z56 := HZ56.out; have z58 := HZ58.out; have z59 := HZ59.out; have z61 := HZ61.out; have z64 := HZ64.out; have z66 := HZ66.out; have z68 := HZ68.out; have z71 := HZ71.out; have z74 := HZ74.out; have z76 := HZ76.out; have z78 := HZ78.out; have h1 := h.1; have h2 := h.2; omega))
    replace HBxG0 := Lib.hid (HBxG0.out.outs HT.out (fun h => by have z0 := HZ0.out; have z3 := HZ3.out; have z6 := HZ6.out; have z47 := HZ47.out; have zqW0 := HZqW0.out; have zpW0 := HZpW0.out; have z49 := HZ49.out; have z50 := HZ50.out; have z52 := HZ52.out; have z53 := HZ53.out; have z55 := HZ55.out; have z56 := HZ56.out; have z58 := HZ58.out; have z59 := HZ59.out; have z61 := HZ61.out; have z64 := HZ64.out; have z66 := HZ66.out; have z68 := HZ68.out; have z71 := HZ71.out; have z74 := HZ74.out; have z76 := HZ76.out; have z78 := HZ78.out; have h1 := h.1; have h2 := h.2; omega))
    replace HRlW0 := Lib.hid (rel_mark HRlW0.out HT.out (by have z0 := HZ0.out; have z3 := HZ3.out; have z6 := HZ6.out; have z47 := HZ47.out; have zqW0 := HZqW0.out; have zpW0 := HZpW0.out; have z49 := HZ49.out; have z50 := HZ50.out; have z52 := HZ52.out; have z53 := HZ53.out; have z55 := HZ55.out; have z56 := HZ56.out; have z58 := HZ58.out; have z59 := HZ59.out; have z61 := HZ61.out; have z64 := HZ64.out; have z66 := HZ66.out; have z68 := HZ68.out; have z71 := HZ71.out; have z74 := HZ74.out; have z76 := HZ76.out; have z78 := HZ78.out; omega) (fun b hb => by have z0 := HZ0.out; have z3 := HZ3.out; have z6 := HZ6.out; have z47 := HZ47.out; have zqW0 := HZqW0.out; have zpW0 := HZpW0.out; have z49 := HZ49.out; have z50 := HZ50.out; have z52 := HZ52.out; have z53 := HZ53.out; have z55 := HZ55.out; have z56 := HZ56.out; have z58 := HZ58.out; have z59 := HZ59.out; have z61 := HZ61.out; have z64 := HZ64.out; have z66 := HZ66.out; have z68 := HZ68.out; have z71 := HZ71.out; have z74 := HZ74.out; have z76 := HZ76.out; have z78 := HZ78.out; have h1 := hb.1; omega))
    have HZ80 := Lib.hid HT.out.size
    replace HOwG0 := Lib.hid hyo
    have hyw0 : diskSh.wt y0 ≤ 1048576 := disk_marked hym (by omega) hyc (by omega)
    have HM0 := Lib.hid hym
    have HCn0 := Lib.hid hyc
    clear ht HT hyo hym hyc
    have hcn0 : ¬ (1 + (dCnt R : Int) < 0) := by omega
    have hhc0 : dCnt y0 = dCnt R := HCn0.out
    have axG0_0 := HBxG0.out.of 0 _ rfl
    have axG0_1 := HBxG0.out.of 1 _ rfl
    go_wp2_with fail
    clear axG0_0 axG0_1
    refine (heldLogDisk_r _ _ y0 (diskSh.orel HOwG0.out) 1 hyw0 (by omega) (by omega) HM0.out).mono ?_
    rintro e w81 ⟨rfl, hb⟩
    rw [hhc0]
    clear hhc0
    replace HB := Lib.hid (belowNext HB.out hb)
    replace HX0 := Lib.hid (HX0.out.below hb HX0.out.1)
    replace HX1 := Lib.hid (HX1.out.below hb HX1.out.1)
    replace HBxW0 := Lib.hid (HBxW0.out.below hb HBxW0.out.1)
    replace HY0 := Lib.hid (HY0.out.below hb HY0.out.1)
    replace HY1 := Lib.hid (HY1.out.below hb HY1.out.1)
    replace HBxG0 := Lib.hid (HBxG0.out.below hb HBxG0.out.1)
    replace HOwG0 := Lib.hid (own_call HOwG0.out hb)
    replace HRlW0 := Lib.hid (rel_call HRlW0.out hb (by have z0 := HZ0.out; have z3 := HZ3.out; have z6 := HZ6.out; have z47 := HZ47.out; have zqW0 := HZqW0.out; have zpW0 := HZpW0.out; have z49 := HZ49.out; have z50 := HZ50.out; have z52 := HZ52.out; have z53 := HZ53.out; have z55 := HZ55.out; have z56 := HZ56.out; have z58 := HZ58.out; have z59 := HZ59.out; have z61 := HZ61.out; have z64 := HZ64.out; have z66 := HZ66.out; have z68 := HZ68.out; have z71 := HZ71.out; have z74 := HZ74.out; have z76 := HZ76.out; have z78 := HZ78.out; have z80 := HZ80.out; omega))
    have HZ82 := Lib.hid hb.size
    clear hb
    go_upto_region 31 with fail
    go_cut [17, 18] from 98 to 106 (fun u0 u1 wc => ∃ qh0 Ah0 ch0, u0 = .pointer (some ⟨qh0, 0, none⟩) ∧ Held wc qh0 [.slice Ah0 R.notes.length ch0, .int .i64 R.safe] ∧ diskSh.rel wc wc.heap.size [.slice Ah0 R.notes.length ch0, .int .i64 R.safe] R ∧ w81.heap.size ≤ qh0 ∧ qh0 < wc.heap.size ∧ u1 = .bool ok ∧ Below w81.heap.size w81 wc)
    case first =>
      have HL := Lib.hid (Below.refl w81.heap.size w81)
      have k0_ : w81.drew.cell? ⟨w.heap.size, 0, none⟩ = some (.slice Aa0 x.notes.length ca0) ∧ w81.drew.cell? ⟨w.heap.size, 1, none⟩ = some (.int .i64 x.safe) ∧ w81.drew.cell? ⟨w.heap.size + 1, 0, none⟩ = some (.int .i64 n.kind) ∧ w81.drew.cell? ⟨w.heap.size + 1, 1, none⟩ = some (.int .i64 n.tx) ∧ w81.drew.cell? ⟨w.heap.size + 1, 2, none⟩ = some (.slice Aa1 n.locks.length ca1) ∧ w81.drew.cell? ⟨w.heap.size + 1, 3, none⟩ = some (.slice Ba1 n.writes.length da1) := (And.intro (HX0.out.of 0 _ rfl) (And.intro (HX0.out.of 1 _ rfl) (And.intro (HX1.out.of 0 _ rfl) (And.intro (HX1.out.of 1 _ rfl) (And.intro (HX1.out.of 2 _ rfl) (HX1.out.of 3 _ rfl))))))
      refine wp_region_held_drew (S := (fun w' => w'.cell? ⟨w.heap.size, 0, none⟩ = some (.slice Aa0 x.notes.length ca0) ∧ w'.cell? ⟨w.heap.size, 1, none⟩ = some (.int .i64 x.safe) ∧ w'.cell? ⟨w.heap.size + 1, 0, none⟩ = some (.int .i64 n.kind) ∧ w'.cell? ⟨w.heap.size + 1, 1, none⟩ = some (.int .i64 n.tx) ∧ w'.cell? ⟨w.heap.size + 1, 2, none⟩ = some (.slice Aa1 n.locks.length ca1) ∧ w'.cell? ⟨w.heap.size + 1, 3, none⟩ = some (.slice Ba1 n.writes.length da1))) (by kernel_rfl) ?hSH (fun hHeldH => ?stH)
      case hSH => (first | (dsimp only; (exact k0_)) | (exact k0_))
      replace HB := Lib.hid (show Below w.heap.size w w81.drew from HB.out.drew)
      replace HL := Lib.hid (show Below w81.heap.size w81 w81.drew from HL.out.drew)
      replace HX0 := Lib.hid (show Held w81.drew (w.heap.size) [.slice Aa0 x.notes.length ca0, .int .i64 x.safe] from HX0.out)
      replace HX1 := Lib.hid (show Held w81.drew (w.heap.size + 1) [.int .i64 n.kind, .int .i64 n.tx, .slice Aa1 n.locks.length ca1, .slice Ba1 n.writes.length da1] from HX1.out)
      have HZd := Lib.hid (show w81.drew.heap.size = w81.heap.size from rfl)
      refine take_first 0 99 (v := ?vH_1) rfl rfl (by kernel_rfl) (by kernel_rfl) (by kernel_rfl) (fun _ _ _ h => h) (by rfl) ?yH_1 (by assumption) ?rH_1
      case yH_1 => (intro w hSw; (try dsimp only at hSw); go_simp; (try with_reducible rfl))
      simp only [Act.put, List.setIfInBounds_toArray, List.set_cons_zero, List.set_cons_succ]
      refine take_first 2 101 (v := ?vH_2) rfl rfl (by kernel_rfl) (by kernel_rfl) (by kernel_rfl) (fun _ _ _ h => h) (by rfl) ?yH_2 (by assumption) ?rH_2
      case yH_2 => (intro w hSw; (try dsimp only at hSw); go_simp; (try with_reducible rfl))
      simp only [Act.put, List.setIfInBounds_toArray, List.set_cons_zero, List.set_cons_succ]
      refine take_first 4 103 (v := ?vH_3) rfl rfl (by kernel_rfl) (by kernel_rfl) (by kernel_rfl) (fun _ _ _ h => h) (by rfl) ?yH_3 (by assumption) ?rH_3
      case yH_3 => (intro w hSw; (try dsimp only at hSw); go_simp; (try with_reducible rfl))
      simp only [Act.put, List.setIfInBounds_toArray, List.set_cons_zero, List.set_cons_succ]
      refine wpAnyH_ready (rs := [1, 9]) (by kernel_rfl) (by simp) ?_
      refine AllReadyH.cons (o := _) rfl (fun KH_5 hKH_5 => ?cH_5) ?mH_5
      case cH_5 =>
        go_simp
        refine (toLogDisk_any _ _ x (HV0.out _ HB.out) hw0).mono ?_
        rintro e w83 ⟨cs', rfl, ho, hb⟩
        obtain ⟨up83, rfl, hup83⟩ := disk_own.1 ho
        obtain ⟨Ap83, cp83, rfl, -, -⟩ := hup83.row.form
        clear hup83
        replace HL := Lib.hid (HL.out.trans (hb.mono (by have z0 := HZ0.out; have z3 := HZ3.out; have z6 := HZ6.out; have z47 := HZ47.out; have zqW0 := HZqW0.out; have zpW0 := HZpW0.out; have z49 := HZ49.out; have z50 := HZ50.out; have z52 := HZ52.out; have z53 := HZ53.out; have z55 := HZ55.out; have z56 := HZ56.out; have z58 := HZ58.out; have z59 := HZ59.out; have z61 := HZ61.out; have z64 := HZ64.out; have z66 := HZ66.out; have z68 := HZ68.out; have z71 := HZ71.out; have z74 := HZ74.out; have z76 := HZ76.out; have z78 := HZ78.out; have z80 := HZ80.out; have z82 := HZ82.out; have zd := HZd.out; have zz := HL.out.size; omega)))
        replace HB := Lib.hid (belowNext HB.out hb)
        replace HX0 := Lib.hid (HX0.out.below hb HX0.out.1)
        replace HX1 := Lib.hid (HX1.out.below hb HX1.out.1)
        have HZ84 := Lib.hid hb.size
        clear hb
        have HP0 := Lib.hid ho
        clear ho
        have k85_ := (And.intro (HX0.out.of 0 _ rfl) (And.intro (HX0.out.of 1 _ rfl) (And.intro (HX1.out.of 0 _ rfl) (And.intro (HX1.out.of 1 _ rfl) (And.intro (HX1.out.of 2 _ rfl) (HX1.out.of 3 _ rfl))))))
        go_wp2_with fail
        refine hKH_5.out _ _ ?kH_5 (fun hHeldH_5 => ?dH_5)
        case kH_5 => (first | (dsimp only; (with_reducible exact k85_)) | (with_reducible exact k85_))
        clear hKH_5 KH_5
        refine wpAnyH_ready (rs := [3, 9]) (by kernel_rfl) (by simp) ?_
        refine AllReadyH.cons (o := _) rfl (fun KH_7 hKH_7 => ?cH_7) ?mH_7
        case cH_7 =>
          go_simp
          refine (toLogNote_any _ _ n (HV1.out _ HB.out) hw1).mono ?_
          rintro e w86 ⟨cs', rfl, ho, hb⟩
          obtain ⟨up86, vp86, Sp86, Sp86', rfl, hup86, hvp86, -, -, -⟩ := note_own.1 ho
          obtain ⟨Ap86, cp86, rfl, -, -⟩ := hup86.row.form
          obtain ⟨Bp86, dp86, rfl, -, -⟩ := hvp86.row.form
          clear hup86 hvp86
          replace HL := Lib.hid (HL.out.trans (hb.mono (by have z0 := HZ0.out; have z3 := HZ3.out; have z6 := HZ6.out; have z47 := HZ47.out; have zqW0 := HZqW0.out; have zpW0 := HZpW0.out; have z49 := HZ49.out; have z50 := HZ50.out; have z52 := HZ52.out; have z53 := HZ53.out; have z55 := HZ55.out; have z56 := HZ56.out; have z58 := HZ58.out; have z59 := HZ59.out; have z61 := HZ61.out; have z64 := HZ64.out; have z66 := HZ66.out; have z68 := HZ68.out; have z71 := HZ71.out; have z74 := HZ74.out; have z76 := HZ76.out; have z78 := HZ78.out; have z80 := HZ80.out; have z82 := HZ82.out; have zd := HZd.out; have z84 := HZ84.out; have zz := HL.out.size; omega)))
          replace HB := Lib.hid (belowNext HB.out hb)
          replace HX0 := Lib.hid (HX0.out.below hb HX0.out.1)
          replace HX1 := Lib.hid (HX1.out.below hb HX1.out.1)
          replace HP0 := Lib.hid (own_call HP0.out hb)
          have HZ87 := Lib.hid hb.size
          clear hb
          have HP1 := Lib.hid ho
          clear ho
          have k88_ := (And.intro (HX0.out.of 0 _ rfl) (And.intro (HX0.out.of 1 _ rfl) (And.intro (HX1.out.of 0 _ rfl) (And.intro (HX1.out.of 1 _ rfl) (And.intro (HX1.out.of 2 _ rfl) (HX1.out.of 3 _ rfl))))))
          go_wp2_with fail
          refine hKH_7.out _ _ ?kH_7 (fun hHeldH_7 => ?dH_7)
          case kH_7 => (first | (dsimp only; (with_reducible exact k88_)) | (with_reducible exact k88_))
          clear hKH_7 KH_7
          refine wpAnyH_ready (rs := [5, 9]) (by kernel_rfl) (by simp) ?_
          refine AllReadyH.cons (o := _) rfl (fun KH_9 hKH_9 => ?cH_9) ?mH_9
          case cH_9 =>
            go_simp
            refine (HIm.out _ _ _ (diskSh.orel HP0.out) (noteSh.orel HP1.out)).mono ?_
            rintro e w89 ⟨cs', rfl, ho0, hb⟩
            obtain ⟨uq89_0, rfl, huq89_0⟩ := disk_own.1 ho0
            obtain ⟨Aq89_0, cq89_0, rfl, -, -⟩ := huq89_0.row.form
            clear huq89_0
            replace HL := Lib.hid (HL.out.trans (hb.mono (by have z0 := HZ0.out; have z3 := HZ3.out; have z6 := HZ6.out; have z47 := HZ47.out; have zqW0 := HZqW0.out; have zpW0 := HZpW0.out; have z49 := HZ49.out; have z50 := HZ50.out; have z52 := HZ52.out; have z53 := HZ53.out; have z55 := HZ55.out; have z56 := HZ56.out; have z58 := HZ58.out; have z59 := HZ59.out; have z61 := HZ61.out; have z64 := HZ64.out; have z66 := HZ66.out; have z68 := HZ68.out; have z71 := HZ71.out; have z74 := HZ74.out; have z76 := HZ76.out; have z78 := HZ78.out; have z80 := HZ80.out; have z82 := HZ82.out; have zd := HZd.out; have z84 := HZ84.out; have z87 := HZ87.out; have zz := HL.out.size; omega)))
            replace HB := Lib.hid (belowNext HB.out hb)
            replace HX0 := Lib.hid (HX0.out.below hb HX0.out.1)
            replace HX1 := Lib.hid (HX1.out.below hb HX1.out.1)
            replace HP0 := Lib.hid (own_call HP0.out hb)
            replace HP1 := Lib.hid (own_call HP1.out hb)
            have HZ90 := Lib.hid hb.size
            clear hb
            have HO0 := Lib.hid ho0
            clear ho0
            have k91_ := (And.intro (HX0.out.of 0 _ rfl) (And.intro (HX0.out.of 1 _ rfl) (And.intro (HX1.out.of 0 _ rfl) (And.intro (HX1.out.of 1 _ rfl) (And.intro (HX1.out.of 2 _ rfl) (HX1.out.of 3 _ rfl))))))
            go_wp2_with fail
            refine hKH_9.out _ _ ?kH_9 (fun hHeldH_9 => ?dH_9)
            case kH_9 => (first | (dsimp only; (with_reducible exact k91_)) | (with_reducible exact k91_))
            clear hKH_9 KH_9
            refine take_first 6 98 (v := ?vH_10) rfl rfl (by kernel_rfl) (by kernel_rfl) (by kernel_rfl) (fun _ _ _ h => h) (by rfl) ?yH_10 (by assumption) ?rH_10
            case yH_10 => (intro w hSw; (try dsimp only at hSw); go_simp; (try with_reducible rfl))
            simp only [Act.put, List.setIfInBounds_toArray, List.set_cons_zero, List.set_cons_succ]
            refine take_first 7 105 (v := ?vH_11) rfl rfl (by kernel_rfl) (by kernel_rfl) (by kernel_rfl) (fun _ _ _ h => h) (by rfl) ?yH_11 (by assumption) ?rH_11
            case yH_11 => (intro w hSw; (try dsimp only at hSw); go_simp; (try with_reducible rfl))
            simp only [Act.put, List.setIfInBounds_toArray, List.set_cons_zero, List.set_cons_succ]
            refine take_first 8 106 (v := ?vH_12) rfl rfl (by kernel_rfl) (by kernel_rfl) (by kernel_rfl) (fun _ _ _ h => h) (by rfl) ?yH_12 (by assumption) ?rH_12
            case yH_12 => (intro w hSw; (try dsimp only at hSw); go_simp; (try with_reducible rfl))
            simp only [Act.put, List.setIfInBounds_toArray, List.set_cons_zero, List.set_cons_succ]
            refine wpAnyH_ready (rs := [9]) (by kernel_rfl) (by simp) ?_
            refine AllReadyH.cons (o := _) rfl (fun KH_13 hKH_13 => ?cH_13) ?mH_13
            case mH_13 => exact AllReadyH.nil
            go_simp
            have k92_ : (w89.alloc (.cells #[.slice none 0 0, .int .i64 0] 45)).cell? ⟨w.heap.size, 0, none⟩ = some (.slice Aa0 x.notes.length ca0) ∧ (w89.alloc (.cells #[.slice none 0 0, .int .i64 0] 45)).cell? ⟨w.heap.size, 1, none⟩ = some (.int .i64 x.safe) ∧ (w89.alloc (.cells #[.slice none 0 0, .int .i64 0] 45)).cell? ⟨w.heap.size + 1, 0, none⟩ = some (.int .i64 n.kind) ∧ (w89.alloc (.cells #[.slice none 0 0, .int .i64 0] 45)).cell? ⟨w.heap.size + 1, 1, none⟩ = some (.int .i64 n.tx) ∧ (w89.alloc (.cells #[.slice none 0 0, .int .i64 0] 45)).cell? ⟨w.heap.size + 1, 2, none⟩ = some (.slice Aa1 n.locks.length ca1) ∧ (w89.alloc (.cells #[.slice none 0 0, .int .i64 0] 45)).cell? ⟨w.heap.size + 1, 3, none⟩ = some (.slice Ba1 n.writes.length da1) := (And.intro ((HX0.out.after (.cells #[.slice none 0 0, .int .i64 0] 45)).of 0 _ rfl) (And.intro ((HX0.out.after (.cells #[.slice none 0 0, .int .i64 0] 45)).of 1 _ rfl) (And.intro ((HX1.out.after (.cells #[.slice none 0 0, .int .i64 0] 45)).of 0 _ rfl) (And.intro ((HX1.out.after (.cells #[.slice none 0 0, .int .i64 0] 45)).of 1 _ rfl) (And.intro ((HX1.out.after (.cells #[.slice none 0 0, .int .i64 0] 45)).of 2 _ rfl) ((HX1.out.after (.cells #[.slice none 0 0, .int .i64 0] 45)).of 3 _ rfl))))))
            go_wp2_with fail
            refine hKH_13.out _ _ ?kH_13 (fun hHeldH_13 => ?dH_13)
            case kH_13 => (first | (dsimp only; (with_reducible exact k92_)) | (with_reducible exact k92_))
            clear hKH_13 KH_13
            refine wpAnyH_ready (rs := [10]) (by kernel_rfl) (by simp) ?_
            refine AllReadyH.cons (o := _) rfl (fun KH_14 hKH_14 => ?cH_14) ?mH_14
            case mH_14 => exact AllReadyH.nil
            go_simp
            have hal := belowOne w89 (.cells #[.slice Aq89_0 R.notes.length cq89_0, .int .i64 R.safe] 45)
            replace HL := Lib.hid (HL.out.trans (hal.mono (by have z0 := HZ0.out; have z3 := HZ3.out; have z6 := HZ6.out; have z47 := HZ47.out; have zqW0 := HZqW0.out; have zpW0 := HZpW0.out; have z49 := HZ49.out; have z50 := HZ50.out; have z52 := HZ52.out; have z53 := HZ53.out; have z55 := HZ55.out; have z56 := HZ56.out; have z58 := HZ58.out; have z59 := HZ59.out; have z61 := HZ61.out; have z64 := HZ64.out; have z66 := HZ66.out; have z68 := HZ68.out; have z71 := HZ71.out; have z74 := HZ74.out; have z76 := HZ76.out; have z78 := HZ78.out; have z80 := HZ80.out; have z82 := HZ82.out; have zd := HZd.out; have z84 := HZ84.out; have z87 := HZ87.out; have z90 := HZ90.out; have zz := HL.out.size; omega)))
            replace HB := Lib.hid (belowNext HB.out hal)
            replace HX0 := Lib.hid (HX0.out.below hal HX0.out.1)
            replace HX1 := Lib.hid (HX1.out.below hal HX1.out.1)
            replace HP0 := Lib.hid (own_call HP0.out hal)
            replace HP1 := Lib.hid (own_call HP1.out hal)
            replace HO0 := Lib.hid (own_call HO0.out hal)
            have HZ93 := Lib.hid (allocSize w89 (.cells #[.slice Aq89_0 R.notes.length cq89_0, .int .i64 R.safe] 45))
            clear hal
            have HQ := Lib.hid (Held.new w89 #[.slice Aq89_0 R.notes.length cq89_0, .int .i64 R.safe] 45)
            have k94_ := (And.intro (HX0.out.of 0 _ rfl) (And.intro (HX0.out.of 1 _ rfl) (And.intro (HX1.out.of 0 _ rfl) (And.intro (HX1.out.of 1 _ rfl) (And.intro (HX1.out.of 2 _ rfl) (HX1.out.of 3 _ rfl))))))
            go_wp2_with fail
            refine hKH_14.out _ _ ?kH_14 (fun hHeldH_14 => ?dH_14)
            case kH_14 => (first | (dsimp only; (with_reducible exact k94_)) | (with_reducible exact k94_))
            clear hKH_14 KH_14
            refine take_first 11 18 (v := ?vH_15) rfl rfl (by kernel_rfl) (by kernel_rfl) (by kernel_rfl) (fun _ _ _ h => h) (by rfl) ?yH_15 (by assumption) ?rH_15
            case yH_15 => (intro w hSw; (try dsimp only at hSw); go_simp; (try with_reducible rfl))
            simp only [Act.put, List.setIfInBounds_toArray, List.set_cons_zero, List.set_cons_succ]
            refine wpAnyH_done (by kernel_rfl) ?eH_16 _
            go_wp2
            go_meet
            case rel => exact ⟨w89.heap.size, Aq89_0, cq89_0, rfl, HQ.out, diskSh.orel HO0.out, (by have z0 := HZ0.out; have z3 := HZ3.out; have z6 := HZ6.out; have z47 := HZ47.out; have zqW0 := HZqW0.out; have zpW0 := HZpW0.out; have z49 := HZ49.out; have z50 := HZ50.out; have z52 := HZ52.out; have z53 := HZ53.out; have z55 := HZ55.out; have z56 := HZ56.out; have z58 := HZ58.out; have z59 := HZ59.out; have z61 := HZ61.out; have z64 := HZ64.out; have z66 := HZ66.out; have z68 := HZ68.out; have z71 := HZ71.out; have z74 := HZ74.out; have z76 := HZ76.out; have z78 := HZ78.out; have z80 := HZ80.out; have z82 := HZ82.out; have zd := HZd.out; have z84 := HZ84.out; have z87 := HZ87.out; have z90 := HZ90.out; have z93 := HZ93.out; have zz := HL.out.size; omega), HQ.out.1, rfl, HL.out⟩
          refine AllReadyH.cons (o := _) rfl (fun KH_17 hKH_17 => ?cH_17) ?mH_17
          case cH_17 =>
            go_simp
            have hal := belowOne w86 (.cells #[.slice none 0 0, .int .i64 0] 45)
            replace HL := Lib.hid (HL.out.trans (hal.mono (by have z0 := HZ0.out; have z3 := HZ3.out; have z6 := HZ6.out; have z47 := HZ47.out; have zqW0 := HZqW0.out; have zpW0 := HZpW0.out; have z49 := HZ49.out; have z50 := HZ50.out; have z52 := HZ52.out; have z53 := HZ53.out; have z55 := HZ55.out; have z56 := HZ56.out; have z58 := HZ58.out; have z59 := HZ59.out; have z61 := HZ61.out; have z64 := HZ64.out; have z66 := HZ66.out; have z68 := HZ68.out; have z71 := HZ71.out; have z74 := HZ74.out; have z76 := HZ76.out; have z78 := HZ78.out; have z80 := HZ80.out; have z82 := HZ82.out; have zd := HZd.out; have z84 := HZ84.out; have z87 := HZ87.out; have zz := HL.out.size; omega)))
            replace HB := Lib.hid (belowNext HB.out hal)
            replace HX0 := Lib.hid (HX0.out.below hal HX0.out.1)
            replace HX1 := Lib.hid (HX1.out.below hal HX1.out.1)
            replace HP0 := Lib.hid (own_call HP0.out hal)
            replace HP1 := Lib.hid (own_call HP1.out hal)
            have HZ95 := Lib.hid (allocSize w86 (.cells #[.slice none 0 0, .int .i64 0] 45))
            clear hal
            have HQ := Lib.hid (Held.new w86 #[.slice none 0 0, .int .i64 0] 45)
            have k96_ := (And.intro (HX0.out.of 0 _ rfl) (And.intro (HX0.out.of 1 _ rfl) (And.intro (HX1.out.of 0 _ rfl) (And.intro (HX1.out.of 1 _ rfl) (And.intro (HX1.out.of 2 _ rfl) (HX1.out.of 3 _ rfl))))))
            go_wp2_with fail
            refine hKH_17.out _ _ ?kH_17 (fun hHeldH_17 => ?dH_17)
            case kH_17 => (first | (dsimp only; (with_reducible exact k96_)) | (with_reducible exact k96_))
            clear hKH_17 KH_17
            refine wpAnyH_ready (rs := [5]) (by kernel_rfl) (by simp) ?_
            refine AllReadyH.cons (o := _) rfl (fun KH_18 hKH_18 => ?cH_18) ?mH_18
            case mH_18 => exact AllReadyH.nil
            go_simp
            refine (HIm.out _ _ _ (diskSh.orel HP0.out) (noteSh.orel HP1.out)).mono ?_
            rintro e w97 ⟨cs', rfl, ho0, hb⟩
            obtain ⟨uq97_0, rfl, huq97_0⟩ := disk_own.1 ho0
            obtain ⟨Aq97_0, cq97_0, rfl, -, -⟩ := huq97_0.row.form
            clear huq97_0
            replace HL := Lib.hid (HL.out.trans (hb.mono (by have z0 := HZ0.out; have z3 := HZ3.out; have z6 := HZ6.out; have z47 := HZ47.out; have zqW0 := HZqW0.out; have zpW0 := HZpW0.out; have z49 := HZ49.out; have z50 := HZ50.out; have z52 := HZ52.out; have z53 := HZ53.out; have z55 := HZ55.out; have z56 := HZ56.out; have z58 := HZ58.out; have z59 := HZ59.out; have z61 := HZ61.out; have z64 := HZ64.out; have z66 := HZ66.out; have z68 := HZ68.out; have z71 := HZ71.out; have z74 := HZ74.out; have z76 := HZ76.out; have z78 := HZ78.out; have z80 := HZ80.out; have z82 := HZ82.out; have zd := HZd.out; have z84 := HZ84.out; have z87 := HZ87.out; have z95 := HZ95.out; have zz := HL.out.size; omega)))
            replace HB := Lib.hid (belowNext HB.out hb)
            replace HX0 := Lib.hid (HX0.out.below hb HX0.out.1)
            replace HX1 := Lib.hid (HX1.out.below hb HX1.out.1)
            replace HQ := Lib.hid (HQ.out.below hb HQ.out.1)
            replace HP0 := Lib.hid (own_call HP0.out hb)
            replace HP1 := Lib.hid (own_call HP1.out hb)
            have HZ98 := Lib.hid hb.size
            clear hb
            have HO0 := Lib.hid ho0
            clear ho0
            have k99_ := (And.intro (HX0.out.of 0 _ rfl) (And.intro (HX0.out.of 1 _ rfl) (And.intro (HX1.out.of 0 _ rfl) (And.intro (HX1.out.of 1 _ rfl) (And.intro (HX1.out.of 2 _ rfl) (HX1.out.of 3 _ rfl))))))
            go_wp2_with fail
            refine hKH_18.out _ _ ?kH_18 (fun hHeldH_18 => ?dH_18)
            case kH_18 => (first | (dsimp only; (with_reducible exact k99_)) | (with_reducible exact k99_))
            clear hKH_18 KH_18
            refine take_first 6 98 (v := ?vH_19) rfl rfl (by kernel_rfl) (by kernel_rfl) (by kernel_rfl) (fun _ _ _ h => h) (by rfl) ?yH_19 (by assumption) ?rH_19
            case yH_19 => (intro w hSw; (try dsimp only at hSw); go_simp; (try with_reducible rfl))
            simp only [Act.put, List.setIfInBounds_toArray, List.set_cons_zero, List.set_cons_succ]
            refine take_first 7 105 (v := ?vH_20) rfl rfl (by kernel_rfl) (by kernel_rfl) (by kernel_rfl) (fun _ _ _ h => h) (by rfl) ?yH_20 (by assumption) ?rH_20
            case yH_20 => (intro w hSw; (try dsimp only at hSw); go_simp; (try with_reducible rfl))
            simp only [Act.put, List.setIfInBounds_toArray, List.set_cons_zero, List.set_cons_succ]
            refine take_first 8 106 (v := ?vH_21) rfl rfl (by kernel_rfl) (by kernel_rfl) (by kernel_rfl) (fun _ _ _ h => h) (by rfl) ?yH_21 (by assumption) ?rH_21
            case yH_21 => (intro w hSw; (try dsimp only at hSw); go_simp; (try with_reducible rfl))
            simp only [Act.put, List.setIfInBounds_toArray, List.set_cons_zero, List.set_cons_succ]
            refine wpAnyH_ready (rs := [10]) (by kernel_rfl) (by simp) ?_
            refine AllReadyH.cons (o := _) rfl (fun KH_22 hKH_22 => ?cH_22) ?mH_22
            case mH_22 => exact AllReadyH.nil
            have s_0 := HQ.out.of 0 _ rfl
            have s_1 := HQ.out.of 1 _ rfl
            have s_f := HQ.out.2.1
            go_simp
            clear s_0 s_1 s_f
            replace HL := Lib.hid (HL.out.setCell (p := ⟨w86.heap.size, 0, none⟩) (by show w81.heap.size ≤ w86.heap.size; have z0 := HZ0.out; have z3 := HZ3.out; have z6 := HZ6.out; have z47 := HZ47.out; have zqW0 := HZqW0.out; have zpW0 := HZpW0.out; have z49 := HZ49.out; have z50 := HZ50.out; have z52 := HZ52.out; have z53 := HZ53.out; have z55 := HZ55.out; have z56 := HZ56.out; have z58 := HZ58.out; have z59 := HZ59.out; have z61 := HZ61.out; have z64 := HZ64.out; have z66 := HZ66.out; have z68 := HZ68.out; have z71 := HZ71.out; have z74 := HZ74.out; have z76 := HZ76.out; have z78 := HZ78.out; have z80 := HZ80.out; have z82 := HZ82.out; have zd := HZd.out; have z84 := HZ84.out; have z87 := HZ87.out; have z95 := HZ95.out; have z98 := HZ98.out; omega) (.slice Aq97_0 R.notes.length cq97_0))
            replace HX0 := Lib.hid (HX0.out.farS (p := ⟨w86.heap.size, 0, none⟩) (by show w.heap.size ≠ w86.heap.size; have z0 := HZ0.out; have z3 := HZ3.out; have z6 := HZ6.out; have z47 := HZ47.out; have zqW0 := HZqW0.out; have zpW0 := HZpW0.out; have z49 := HZ49.out; have z50 := HZ50.out; have z52 := HZ52.out; have z53 := HZ53.out; have z55 := HZ55.out; have z56 := HZ56.out; have z58 := HZ58.out; have z59 := HZ59.out; have z61 := HZ61.out; have z64 := HZ64.out; have z66 := HZ66.out; have z68 := HZ68.out; have z71 := HZ71.out; have z74 := HZ74.out; have z76 := HZ76.out; have z78 := HZ78.out; have z80 := HZ80.out; have z82 := HZ82.out; have zd := HZd.out; have z84 := HZ84.out; have z87 := HZ87.out; have z95 := HZ95.out; have z98 := HZ98.out; clear HQ; omega) (.slice Aq97_0 R.notes.length cq97_0))
            replace HX1 := Lib.hid (HX1.out.farS (p := ⟨w86.heap.size, 0, none⟩) (by show w.heap.size + 1 ≠ w86.heap.size; have z0 := HZ0.out; have z3 := HZ3.out; have z6 := HZ6.out; have z47 := HZ47.out; have zqW0 := HZqW0.out; have zpW0 := HZpW0.out; have z49 := HZ49.out; have z50 := HZ50.out; have z52 := HZ52.out; have z53 := HZ53.out; have z55 := HZ55.out; have z56 := HZ56.out; have z58 := HZ58.out; have z59 := HZ59.out; have z61 := HZ61.out; have z64 := HZ64.out; have z66 := HZ66.out; have z68 := HZ68.out; have z71 := HZ71.out; have z74 := HZ74.out; have z76 := HZ76.out; have z78 := HZ78.out; have z80 := HZ80.out; have z82 := HZ82.out; have zd := HZd.out; have z84 := HZ84.out; have z87 := HZ87.out; have z95 := HZ95.out; have z98 := HZ98.out; clear HQ; omega) (.slice Aq97_0 R.notes.length cq97_0))
            replace HQ := Lib.hid (HQ.out.set_ (i := 0) (.slice Aq97_0 R.notes.length cq97_0))
            replace HO0 := Lib.hid (diskSh.okeep HO0.out (w' := (w97.setCell ⟨w86.heap.size, 0, none⟩ (.slice Aq97_0 R.notes.length cq97_0))) fun b hb _ => Below.heap_setCell _ _ _ _ (by show b ≠ w86.heap.size; have h1 := hb.1; have h2 := hb.2; have z0 := HZ0.out; have z3 := HZ3.out; have z6 := HZ6.out; have z47 := HZ47.out; have zqW0 := HZqW0.out; have zpW0 := HZpW0.out; have z49 := HZ49.out; have z50 := HZ50.out; have z52 := HZ52.out; have z53 := HZ53.out; have z55 := HZ55.out; have z56 := HZ56.out; have z58 := HZ58.out; have z59 := HZ59.out; have z61 := HZ61.out; have z64 := HZ64.out; have z66 := HZ66.out; have z68 := HZ68.out; have z71 := HZ71.out; have z74 := HZ74.out; have z76 := HZ76.out; have z78 := HZ78.out; have z80 := HZ80.out; have z82 := HZ82.out; have zd := HZd.out; have z84 := HZ84.out; have z87 := HZ87.out; have z95 := HZ95.out; have z98 := HZ98.out; omega))
            replace HL := Lib.hid (HL.out.setCell (p := ⟨w86.heap.size, 1, none⟩) (by show w81.heap.size ≤ w86.heap.size; have z0 := HZ0.out; have z3 := HZ3.out; have z6 := HZ6.out; have z47 := HZ47.out; have zqW0 := HZqW0.out; have zpW0 := HZpW0.out; have z49 := HZ49.out; have z50 := HZ50.out; have z52 := HZ52.out; have z53 := HZ53.out; have z55 := HZ55.out; have z56 := HZ56.out; have z58 := HZ58.out; have z59 := HZ59.out; have z61 := HZ61.out; have z64 := HZ64.out; have z66 := HZ66.out; have z68 := HZ68.out; have z71 := HZ71.out; have z74 := HZ74.out; have z76 := HZ76.out; have z78 := HZ78.out; have z80 := HZ80.out; have z82 := HZ82.out; have zd := HZd.out; have z84 := HZ84.out; have z87 := HZ87.out; have z95 := HZ95.out; have z98 := HZ98.out; omega) (.int .i64 R.safe))
            replace HX0 := Lib.hid (HX0.out.farS (p := ⟨w86.heap.size, 1, none⟩) (by show w.heap.size ≠ w86.heap.size; have z0 := HZ0.out; have z3 := HZ3.out; have z6 := HZ6.out; have z47 := HZ47.out; have zqW0 := HZqW0.out; have zpW0 := HZpW0.out; have z49 := HZ49.out; have z50 := HZ50.out; have z52 := HZ52.out; have z53 := HZ53.out; have z55 := HZ55.out; have z56 := HZ56.out; have z58 := HZ58.out; have z59 := HZ59.out; have z61 := HZ61.out; have z64 := HZ64.out; have z66 := HZ66.out; have z68 := HZ68.out; have z71 := HZ71.out; have z74 := HZ74.out; have z76 := HZ76.out; have z78 := HZ78.out; have z80 := HZ80.out; have z82 := HZ82.out; have zd := HZd.out; have z84 := HZ84.out; have z87 := HZ87.out; have z95 := HZ95.out; have z98 := HZ98.out; clear HQ; omega) (.int .i64 R.safe))
            replace HX1 := Lib.hid (HX1.out.farS (p := ⟨w86.heap.size, 1, none⟩) (by show w.heap.size + 1 ≠ w86.heap.size; have z0 := HZ0.out; have z3 := HZ3.out; have z6 := HZ6.out; have z47 := HZ47.out; have zqW0 := HZqW0.out; have zpW0 := HZpW0.out; have z49 := HZ49.out; have z50 := HZ50.out; have z52 := HZ52.out; have z53 := HZ53.out; have z55 := HZ55.out; have z56 := HZ56.out; have z58 := HZ58.out; have z59 := HZ59.out; have z61 := HZ61.out; have z64 := HZ64.out; have z66 := HZ66.out; have z68 := HZ68.out; have z71 := HZ71.out; have z74 := HZ74.out; have z76 := HZ76.out; have z78 := HZ78.out; have z80 := HZ80.out; have z82 := HZ82.out; have zd := HZd.out; have z84 := HZ84.out; have z87 := HZ87.out; have z95 := HZ95.out; have z98 := HZ98.out; clear HQ; omega) (.int .i64 R.safe))
            replace HQ := Lib.hid (HQ.out.set_ (i := 1) (.int .i64 R.safe))
            replace HO0 := Lib.hid (diskSh.okeep HO0.out (w' := ((w97.setCell ⟨w86.heap.size, 0, none⟩ (.slice Aq97_0 R.notes.length cq97_0)).setCell ⟨w86.heap.size, 1, none⟩ (.int .i64 R.safe))) fun b hb _ => Below.heap_setCell _ _ _ _ (by show b ≠ w86.heap.size; have h1 := hb.1; have h2 := hb.2; have z0 := HZ0.out; have z3 := HZ3.out; have z6 := HZ6.out; have z47 := HZ47.out; have zqW0 := HZqW0.out; have zpW0 := HZpW0.out; have z49 := HZ49.out; have z50 := HZ50.out; have z52 := HZ52.out; have z53 := HZ53.out; have z55 := HZ55.out; have z56 := HZ56.out; have z58 := HZ58.out; have z59 := HZ59.out; have z61 := HZ61.out; have z64 := HZ64.out; have z66 := HZ66.out; have z68 := HZ68.out; have z71 := HZ71.out; have z74 := HZ74.out; have z76 := HZ76.out; have z78 := HZ78.out; have z80 := HZ80.out; have z82 := HZ82.out; have zd := HZd.out; have z84 := HZ84.out; have z87 := HZ87.out; have z95 := HZ95.out; have z98 := HZ98.out; omega))
            have HZs := Lib.hid (show ((w97.setCell ⟨w86.heap.size, 0, none⟩ (.slice Aq97_0 R.notes.length cq97_0)).setCell ⟨w86.heap.size, 1, none⟩ (.int .i64 R.safe)).heap.size = w97.heap.size from by simp [World.setCell])
            have k100_ := (And.intro (HX0.out.of 0 _ rfl) (And.intro (HX0.out.of 1 _ rfl) (And.intro (HX1.out.of 0 _ rfl) (And.intro (HX1.out.of 1 _ rfl) (And.intro (HX1.out.of 2 _ rfl) (HX1.out.of 3 _ rfl))))))
            go_wp2_with fail
            refine hKH_22.out _ _ ?kH_22 (fun hHeldH_22 => ?dH_22)
            case kH_22 => (first | (dsimp only; (with_reducible exact k100_)) | (with_reducible exact k100_))
            clear hKH_22 KH_22
            refine take_first 11 18 (v := ?vH_23) rfl rfl (by kernel_rfl) (by kernel_rfl) (by kernel_rfl) (fun _ _ _ h => h) (by rfl) ?yH_23 (by assumption) ?rH_23
            case yH_23 => (intro w hSw; (try dsimp only at hSw); go_simp; (try with_reducible rfl))
            simp only [Act.put, List.setIfInBounds_toArray, List.set_cons_zero, List.set_cons_succ]
            refine wpAnyH_done (by kernel_rfl) ?eH_24 _
            go_wp2
            go_meet
            case rel => exact ⟨w86.heap.size, Aq97_0, cq97_0, rfl, HQ.out, diskSh.orel HO0.out, (by have z0 := HZ0.out; have z3 := HZ3.out; have z6 := HZ6.out; have z47 := HZ47.out; have zqW0 := HZqW0.out; have zpW0 := HZpW0.out; have z49 := HZ49.out; have z50 := HZ50.out; have z52 := HZ52.out; have z53 := HZ53.out; have z55 := HZ55.out; have z56 := HZ56.out; have z58 := HZ58.out; have z59 := HZ59.out; have z61 := HZ61.out; have z64 := HZ64.out; have z66 := HZ66.out; have z68 := HZ68.out; have z71 := HZ71.out; have z74 := HZ74.out; have z76 := HZ76.out; have z78 := HZ78.out; have z80 := HZ80.out; have z82 := HZ82.out; have zd := HZd.out; have z84 := HZ84.out; have z87 := HZ87.out; have z95 := HZ95.out; have z98 := HZ98.out; have zs := HZs.out; have zz := HL.out.size; omega), HQ.out.1, rfl, HL.out⟩
          exact AllReadyH.nil
        refine AllReadyH.cons (o := _) rfl (fun KH_25 hKH_25 => ?cH_25) ?mH_25
        case cH_25 =>
          go_simp
          have hal := belowOne w83 (.cells #[.slice none 0 0, .int .i64 0] 45)
          replace HL := Lib.hid (HL.out.trans (hal.mono (by have z0 := HZ0.out; have z3 := HZ3.out; have z6 := HZ6.out; have z47 := HZ47.out; have zqW0 := HZqW0.out; have zpW0 := HZpW0.out; have z49 := HZ49.out; have z50 := HZ50.out; have z52 := HZ52.out; have z53 := HZ53.out; have z55 := HZ55.out; have z56 := HZ56.out; have z58 := HZ58.out; have z59 := HZ59.out; have z61 := HZ61.out; have z64 := HZ64.out; have z66 := HZ66.out; have z68 := HZ68.out; have z71 := HZ71.out; have z74 := HZ74.out; have z76 := HZ76.out; have z78 := HZ78.out; have z80 := HZ80.out; have z82 := HZ82.out; have zd := HZd.out; have z84 := HZ84.out; have zz := HL.out.size; omega)))
          replace HB := Lib.hid (belowNext HB.out hal)
          replace HX0 := Lib.hid (HX0.out.below hal HX0.out.1)
          replace HX1 := Lib.hid (HX1.out.below hal HX1.out.1)
          replace HP0 := Lib.hid (own_call HP0.out hal)
          have HZ101 := Lib.hid (allocSize w83 (.cells #[.slice none 0 0, .int .i64 0] 45))
          clear hal
          have HQ := Lib.hid (Held.new w83 #[.slice none 0 0, .int .i64 0] 45)
          have k102_ := (And.intro (HX0.out.of 0 _ rfl) (And.intro (HX0.out.of 1 _ rfl) (And.intro (HX1.out.of 0 _ rfl) (And.intro (HX1.out.of 1 _ rfl) (And.intro (HX1.out.of 2 _ rfl) (HX1.out.of 3 _ rfl))))))
          go_wp2_with fail
          refine hKH_25.out _ _ ?kH_25 (fun hHeldH_25 => ?dH_25)
          case kH_25 => (first | (dsimp only; (with_reducible exact k102_)) | (with_reducible exact k102_))
          clear hKH_25 KH_25
          refine wpAnyH_ready (rs := [3]) (by kernel_rfl) (by simp) ?_
          refine AllReadyH.cons (o := _) rfl (fun KH_26 hKH_26 => ?cH_26) ?mH_26
          case mH_26 => exact AllReadyH.nil
          go_simp
          refine (toLogNote_any _ _ n (HV1.out _ HB.out) hw1).mono ?_
          rintro e w103 ⟨cs', rfl, ho, hb⟩
          obtain ⟨up103, vp103, Sp103, Sp103', rfl, hup103, hvp103, -, -, -⟩ := note_own.1 ho
          obtain ⟨Ap103, cp103, rfl, -, -⟩ := hup103.row.form
          obtain ⟨Bp103, dp103, rfl, -, -⟩ := hvp103.row.form
          clear hup103 hvp103
          replace HL := Lib.hid (HL.out.trans (hb.mono (by have z0 := HZ0.out; have z3 := HZ3.out; have z6 := HZ6.out; have z47 := HZ47.out; have zqW0 := HZqW0.out; have zpW0 := HZpW0.out; have z49 := HZ49.out; have z50 := HZ50.out; have z52 := HZ52.out; have z53 := HZ53.out; have z55 := HZ55.out; have z56 := HZ56.out; have z58 := HZ58.out; have z59 := HZ59.out; have z61 := HZ61.out; have z64 := HZ64.out; have z66 := HZ66.out; have z68 := HZ68.out; have z71 := HZ71.out; have z74 := HZ74.out; have z76 := HZ76.out; have z78 := HZ78.out; have z80 := HZ80.out; have z82 := HZ82.out; have zd := HZd.out; have z84 := HZ84.out; have z101 := HZ101.out; have zz := HL.out.size; omega)))
          replace HB := Lib.hid (belowNext HB.out hb)
          replace HX0 := Lib.hid (HX0.out.below hb HX0.out.1)
          replace HX1 := Lib.hid (HX1.out.below hb HX1.out.1)
          replace HQ := Lib.hid (HQ.out.below hb HQ.out.1)
          replace HP0 := Lib.hid (own_call HP0.out hb)
          have HZ104 := Lib.hid hb.size
          clear hb
          have HP1 := Lib.hid ho
          clear ho
          have k105_ := (And.intro (HX0.out.of 0 _ rfl) (And.intro (HX0.out.of 1 _ rfl) (And.intro (HX1.out.of 0 _ rfl) (And.intro (HX1.out.of 1 _ rfl) (And.intro (HX1.out.of 2 _ rfl) (HX1.out.of 3 _ rfl))))))
          go_wp2_with fail
          refine hKH_26.out _ _ ?kH_26 (fun hHeldH_26 => ?dH_26)
          case kH_26 => (first | (dsimp only; (with_reducible exact k105_)) | (with_reducible exact k105_))
          clear hKH_26 KH_26
          refine wpAnyH_ready (rs := [5]) (by kernel_rfl) (by simp) ?_
          refine AllReadyH.cons (o := _) rfl (fun KH_27 hKH_27 => ?cH_27) ?mH_27
          case mH_27 => exact AllReadyH.nil
          go_simp
          refine (HIm.out _ _ _ (diskSh.orel HP0.out) (noteSh.orel HP1.out)).mono ?_
          rintro e w106 ⟨cs', rfl, ho0, hb⟩
          obtain ⟨uq106_0, rfl, huq106_0⟩ := disk_own.1 ho0
          obtain ⟨Aq106_0, cq106_0, rfl, -, -⟩ := huq106_0.row.form
          clear huq106_0
          replace HL := Lib.hid (HL.out.trans (hb.mono (by have z0 := HZ0.out; have z3 := HZ3.out; have z6 := HZ6.out; have z47 := HZ47.out; have zqW0 := HZqW0.out; have zpW0 := HZpW0.out; have z49 := HZ49.out; have z50 := HZ50.out; have z52 := HZ52.out; have z53 := HZ53.out; have z55 := HZ55.out; have z56 := HZ56.out; have z58 := HZ58.out; have z59 := HZ59.out; have z61 := HZ61.out; have z64 := HZ64.out; have z66 := HZ66.out; have z68 := HZ68.out; have z71 := HZ71.out; have z74 := HZ74.out; have z76 := HZ76.out; have z78 := HZ78.out; have z80 := HZ80.out; have z82 := HZ82.out; have zd := HZd.out; have z84 := HZ84.out; have z101 := HZ101.out; have z104 := HZ104.out; have zz := HL.out.size; omega)))
          replace HB := Lib.hid (belowNext HB.out hb)
          replace HX0 := Lib.hid (HX0.out.below hb HX0.out.1)
          replace HX1 := Lib.hid (HX1.out.below hb HX1.out.1)
          replace HQ := Lib.hid (HQ.out.below hb HQ.out.1)
          replace HP0 := Lib.hid (own_call HP0.out hb)
          replace HP1 := Lib.hid (own_call HP1.out hb)
          have HZ107 := Lib.hid hb.size
          clear hb
          have HO0 := Lib.hid ho0
          clear ho0
          have k108_ := (And.intro (HX0.out.of 0 _ rfl) (And.intro (HX0.out.of 1 _ rfl) (And.intro (HX1.out.of 0 _ rfl) (And.intro (HX1.out.of 1 _ rfl) (And.intro (HX1.out.of 2 _ rfl) (HX1.out.of 3 _ rfl))))))
          go_wp2_with fail
          refine hKH_27.out _ _ ?kH_27 (fun hHeldH_27 => ?dH_27)
          case kH_27 => (first | (dsimp only; (with_reducible exact k108_)) | (with_reducible exact k108_))
          clear hKH_27 KH_27
          refine take_first 6 98 (v := ?vH_28) rfl rfl (by kernel_rfl) (by kernel_rfl) (by kernel_rfl) (fun _ _ _ h => h) (by rfl) ?yH_28 (by assumption) ?rH_28
          case yH_28 => (intro w hSw; (try dsimp only at hSw); go_simp; (try with_reducible rfl))
          simp only [Act.put, List.setIfInBounds_toArray, List.set_cons_zero, List.set_cons_succ]
          refine take_first 7 105 (v := ?vH_29) rfl rfl (by kernel_rfl) (by kernel_rfl) (by kernel_rfl) (fun _ _ _ h => h) (by rfl) ?yH_29 (by assumption) ?rH_29
          case yH_29 => (intro w hSw; (try dsimp only at hSw); go_simp; (try with_reducible rfl))
          simp only [Act.put, List.setIfInBounds_toArray, List.set_cons_zero, List.set_cons_succ]
          refine take_first 8 106 (v := ?vH_30) rfl rfl (by kernel_rfl) (by kernel_rfl) (by kernel_rfl) (fun _ _ _ h => h) (by rfl) ?yH_30 (by assumption) ?rH_30
          case yH_30 => (intro w hSw; (try dsimp only at hSw); go_simp; (try with_reducible rfl))
          simp only [Act.put, List.setIfInBounds_toArray, List.set_cons_zero, List.set_cons_succ]
          refine wpAnyH_ready (rs := [10]) (by kernel_rfl) (by simp) ?_
          refine AllReadyH.cons (o := _) rfl (fun KH_31 hKH_31 => ?cH_31) ?mH_31
          case mH_31 => exact AllReadyH.nil
          have s_0 := HQ.out.of 0 _ rfl
          have s_1 := HQ.out.of 1 _ rfl
          have s_f := HQ.out.2.1
          go_simp
          clear s_0 s_1 s_f
          replace HL := Lib.hid (HL.out.setCell (p := ⟨w83.heap.size, 0, none⟩) (by show w81.heap.size ≤ w83.heap.size; have z0 := HZ0.out; have z3 := HZ3.out; have z6 := HZ6.out; have z47 := HZ47.out; have zqW0 := HZqW0.out; have zpW0 := HZpW0.out; have z49 := HZ49.out; have z50 := HZ50.out; have z52 := HZ52.out; have z53 := HZ53.out; have z55 := HZ55.out; have z56 := HZ56.out; have z58 := HZ58.out; have z59 := HZ59.out; have z61 := HZ61.out; have z64 := HZ64.out; have z66 := HZ66.out; have z68 := HZ68.out; have z71 := HZ71.out; have z74 := HZ74.out; have z76 := HZ76.out; have z78 := HZ78.out; have z80 := HZ80.out; have z82 := HZ82.out; have zd := HZd.out; have z84 := HZ84.out; have z101 := HZ101.out; have z104 := HZ104.out; have z107 := HZ107.out; omega) (.slice Aq106_0 R.notes.length cq106_0))
          replace HX0 := Lib.hid (HX0.out.farS (p := ⟨w83.heap.size, 0, none⟩) (by show w.heap.size ≠ w83.heap.size; have z0 := HZ0.out; have z3 := HZ3.out; have z6 := HZ6.out; have z47 := HZ47.out; have zqW0 := HZqW0.out; have zpW0 := HZpW0.out; have z49 := HZ49.out; have z50 := HZ50.out; have z52 := HZ52.out; have z53 := HZ53.out; have z55 := HZ55.out; have z56 := HZ56.out; have z58 := HZ58.out; have z59 := HZ59.out; have z61 := HZ61.out; have z64 := HZ64.out; have z66 := HZ66.out; have z68 := HZ68.out; have z71 := HZ71.out; have z74 := HZ74.out; have z76 := HZ76.out; have z78 := HZ78.out; have z80 := HZ80.out; have z82 := HZ82.out; have zd := HZd.out; have z84 := HZ84.out; have z101 := HZ101.out; have z104 := HZ104.out; have z107 := HZ107.out; clear HQ; omega) (.slice Aq106_0 R.notes.length cq106_0))
          replace HX1 := Lib.hid (HX1.out.farS (p := ⟨w83.heap.size, 0, none⟩) (by show w.heap.size + 1 ≠ w83.heap.size; have z0 := HZ0.out; have z3 := HZ3.out; have z6 := HZ6.out; have z47 := HZ47.out; have zqW0 := HZqW0.out; have zpW0 := HZpW0.out; have z49 := HZ49.out; have z50 := HZ50.out; have z52 := HZ52.out; have z53 := HZ53.out; have z55 := HZ55.out; have z56 := HZ56.out; have z58 := HZ58.out; have z59 := HZ59.out; have z61 := HZ61.out; have z64 := HZ64.out; have z66 := HZ66.out; have z68 := HZ68.out; have z71 := HZ71.out; have z74 := HZ74.out; have z76 := HZ76.out; have z78 := HZ78.out; have z80 := HZ80.out; have z82 := HZ82.out; have zd := HZd.out; have z84 := HZ84.out; have z101 := HZ101.out; have z104 := HZ104.out; have z107 := HZ107.out; clear HQ; omega) (.slice Aq106_0 R.notes.length cq106_0))
          replace HQ := Lib.hid (HQ.out.set_ (i := 0) (.slice Aq106_0 R.notes.length cq106_0))
          replace HO0 := Lib.hid (diskSh.okeep HO0.out (w' := (w106.setCell ⟨w83.heap.size, 0, none⟩ (.slice Aq106_0 R.notes.length cq106_0))) fun b hb _ => Below.heap_setCell _ _ _ _ (by show b ≠ w83.heap.size; have h1 := hb.1; have h2 := hb.2; have z0 := HZ0.out; have z3 := HZ3.out; have z6 := HZ6.out; have z47 := HZ47.out; have zqW0 := HZqW0.out; have zpW0 := HZpW0.out; have z49 := HZ49.out; have z50 := HZ50.out; have z52 := HZ52.out; have z53 := HZ53.out; have z55 := HZ55.out; have z56 := HZ56.out; have z58 := HZ58.out; have z59 := HZ59.out; have z61 := HZ61.out; have z64 := HZ64.out; have z66 := HZ66.out; have z68 := HZ68.out; have z71 := HZ71.out; have z74 := HZ74.out; have z76 := HZ76.out; have z78 := HZ78.out; have z80 := HZ80.out; have z82 := HZ82.out; have zd := HZd.out; have z84 := HZ84.out; have z101 := HZ101.out; have z104 := HZ104.out; have z107 := HZ107.out; omega))
          replace HL := Lib.hid (HL.out.setCell (p := ⟨w83.heap.size, 1, none⟩) (by show w81.heap.size ≤ w83.heap.size; have z0 := HZ0.out; have z3 := HZ3.out; have z6 := HZ6.out; have z47 := HZ47.out; have zqW0 := HZqW0.out; have zpW0 := HZpW0.out; have z49 := HZ49.out; have z50 := HZ50.out; have z52 := HZ52.out; have z53 := HZ53.out; have z55 := HZ55.out; have z56 := HZ56.out; have z58 := HZ58.out; have z59 := HZ59.out; have z61 := HZ61.out; have z64 := HZ64.out; have z66 := HZ66.out; have z68 := HZ68.out; have z71 := HZ71.out; have z74 := HZ74.out; have z76 := HZ76.out; have z78 := HZ78.out; have z80 := HZ80.out; have z82 := HZ82.out; have zd := HZd.out; have z84 := HZ84.out; have z101 := HZ101.out; have z104 := HZ104.out; have z107 := HZ107.out; omega) (.int .i64 R.safe))
          replace HX0 := Lib.hid (HX0.out.farS (p := ⟨w83.heap.size, 1, none⟩) (by show w.heap.size ≠ w83.heap.size; have z0 := HZ0.out; have z3 := HZ3.out; have z6 := HZ6.out; have z47 := HZ47.out; have zqW0 := HZqW0.out; have zpW0 := HZpW0.out; have z49 := HZ49.out; have z50 := HZ50.out; have z52 := HZ52.out; have z53 := HZ53.out; have z55 := HZ55.out; have z56 := HZ56.out; have z58 := HZ58.out; have z59 := HZ59.out; have z61 := HZ61.out; have z64 := HZ64.out; have z66 := HZ66.out; have z68 := HZ68.out; have z71 := HZ71.out; have z74 := HZ74.out; have z76 := HZ76.out; have z78 := HZ78.out; have z80 := HZ80.out; have z82 := HZ82.out; have zd := HZd.out; have z84 := HZ84.out; have z101 := HZ101.out; have z104 := HZ104.out; have z107 := HZ107.out; clear HQ; omega) (.int .i64 R.safe))
          replace HX1 := Lib.hid (HX1.out.farS (p := ⟨w83.heap.size, 1, none⟩) (by show w.heap.size + 1 ≠ w83.heap.size; have z0 := HZ0.out; have z3 := HZ3.out; have z6 := HZ6.out; have z47 := HZ47.out; have zqW0 := HZqW0.out; have zpW0 := HZpW0.out; have z49 := HZ49.out; have z50 := HZ50.out; have z52 := HZ52.out; have z53 := HZ53.out; have z55 := HZ55.out; have z56 := HZ56.out; have z58 := HZ58.out; have z59 := HZ59.out; have z61 := HZ61.out; have z64 := HZ64.out; have z66 := HZ66.out; have z68 := HZ68.out; have z71 := HZ71.out; have z74 := HZ74.out; have z76 := HZ76.out; have z78 := HZ78.out; have z80 := HZ80.out; have z82 := HZ82.out; have zd := HZd.out; have z84 := HZ84.out; have z101 := HZ101.out; have z104 := HZ104.out; have z107 := HZ107.out; clear HQ; omega) (.int .i64 R.safe))
          replace HQ := Lib.hid (HQ.out.set_ (i := 1) (.int .i64 R.safe))
          replace HO0 := Lib.hid (diskSh.okeep HO0.out (w' := ((w106.setCell ⟨w83.heap.size, 0, none⟩ (.slice Aq106_0 R.notes.length cq106_0)).setCell ⟨w83.heap.size, 1, none⟩ (.int .i64 R.safe))) fun b hb _ => Below.heap_setCell _ _ _ _ (by show b ≠ w83.heap.size; have h1 := hb.1; have h2 := hb.2; have z0 := HZ0.out; have z3 := HZ3.out; have z6 := HZ6.out; have z47 := HZ47.out; have zqW0 := HZqW0.out; have zpW0 := HZpW0.out; have z49 := HZ49.out; have z50 := HZ50.out; have z52 := HZ52.out; have z53 := HZ53.out; have z55 := HZ55.out; have z56 := HZ56.out; have z58 := HZ58.out; have z59 := HZ59.out; have z61 := HZ61.out; have z64 := HZ64.out; have z66 := HZ66.out; have z68 := HZ68.out; have z71 := HZ71.out; have z74 := HZ74.out; have z76 := HZ76.out; have z78 := HZ78.out; have z80 := HZ80.out; have z82 := HZ82.out; have zd := HZd.out; have z84 := HZ84.out; have z101 := HZ101.out; have z104 := HZ104.out; have z107 := HZ107.out; omega))
          have HZs := Lib.hid (show ((w106.setCell ⟨w83.heap.size, 0, none⟩ (.slice Aq106_0 R.notes.length cq106_0)).setCell ⟨w83.heap.size, 1, none⟩ (.int .i64 R.safe)).heap.size = w106.heap.size from by simp [World.setCell])
          have k109_ := (And.intro (HX0.out.of 0 _ rfl) (And.intro (HX0.out.of 1 _ rfl) (And.intro (HX1.out.of 0 _ rfl) (And.intro (HX1.out.of 1 _ rfl) (And.intro (HX1.out.of 2 _ rfl) (HX1.out.of 3 _ rfl))))))
          go_wp2_with fail
          refine hKH_31.out _ _ ?kH_31 (fun hHeldH_31 => ?dH_31)
          case kH_31 => (first | (dsimp only; (with_reducible exact k109_)) | (with_reducible exact k109_))
          clear hKH_31 KH_31
          refine take_first 11 18 (v := ?vH_32) rfl rfl (by kernel_rfl) (by kernel_rfl) (by kernel_rfl) (fun _ _ _ h => h) (by rfl) ?yH_32 (by assumption) ?rH_32
          case yH_32 => (intro w hSw; (try dsimp only at hSw); go_simp; (try with_reducible rfl))
          simp only [Act.put, List.setIfInBounds_toArray, List.set_cons_zero, List.set_cons_succ]
          refine wpAnyH_done (by kernel_rfl) ?eH_33 _
          go_wp2
          go_meet
          case rel => exact ⟨w83.heap.size, Aq106_0, cq106_0, rfl, HQ.out, diskSh.orel HO0.out, (by have z0 := HZ0.out; have z3 := HZ3.out; have z6 := HZ6.out; have z47 := HZ47.out; have zqW0 := HZqW0.out; have zpW0 := HZpW0.out; have z49 := HZ49.out; have z50 := HZ50.out; have z52 := HZ52.out; have z53 := HZ53.out; have z55 := HZ55.out; have z56 := HZ56.out; have z58 := HZ58.out; have z59 := HZ59.out; have z61 := HZ61.out; have z64 := HZ64.out; have z66 := HZ66.out; have z68 := HZ68.out; have z71 := HZ71.out; have z74 := HZ74.out; have z76 := HZ76.out; have z78 := HZ78.out; have z80 := HZ80.out; have z82 := HZ82.out; have zd := HZd.out; have z84 := HZ84.out; have z101 := HZ101.out; have z104 := HZ104.out; have z107 := HZ107.out; have zs := HZs.out; have zz := HL.out.size; omega), HQ.out.1, rfl, HL.out⟩
        exact AllReadyH.nil
      refine AllReadyH.cons (o := _) rfl (fun KH_34 hKH_34 => ?cH_34) ?mH_34
      case cH_34 =>
        go_simp
        have hal := (show Below w81.drew.heap.size w81.drew (w81.alloc (.cells #[.slice none 0 0, .int .i64 0] 45)).drew from belowOne w81.drew (.cells #[.slice none 0 0, .int .i64 0] 45))
        replace HL := Lib.hid (HL.out.trans (hal.mono (by have z0 := HZ0.out; have z3 := HZ3.out; have z6 := HZ6.out; have z47 := HZ47.out; have zqW0 := HZqW0.out; have zpW0 := HZpW0.out; have z49 := HZ49.out; have z50 := HZ50.out; have z52 := HZ52.out; have z53 := HZ53.out; have z55 := HZ55.out; have z56 := HZ56.out; have z58 := HZ58.out; have z59 := HZ59.out; have z61 := HZ61.out; have z64 := HZ64.out; have z66 := HZ66.out; have z68 := HZ68.out; have z71 := HZ71.out; have z74 := HZ74.out; have z76 := HZ76.out; have z78 := HZ78.out; have z80 := HZ80.out; have z82 := HZ82.out; have zd := HZd.out; have zz := HL.out.size; omega)))
        replace HB := Lib.hid (belowNext HB.out hal)
        replace HX0 := Lib.hid (HX0.out.below hal HX0.out.1)
        replace HX1 := Lib.hid (HX1.out.below hal HX1.out.1)
        have HZ110 := Lib.hid (show (w81.alloc (.cells #[.slice none 0 0, .int .i64 0] 45)).drew.heap.size = w81.heap.size + 1 from allocSize w81 (.cells #[.slice none 0 0, .int .i64 0] 45))
        clear hal
        have HQ := Lib.hid (show Held (w81.alloc (.cells #[.slice none 0 0, .int .i64 0] 45)).drew w81.heap.size [.slice none 0 0, .int .i64 0] from Held.new w81.drew #[.slice none 0 0, .int .i64 0] 45)
        have k111_ := (And.intro (HX0.out.of 0 _ rfl) (And.intro (HX0.out.of 1 _ rfl) (And.intro (HX1.out.of 0 _ rfl) (And.intro (HX1.out.of 1 _ rfl) (And.intro (HX1.out.of 2 _ rfl) (HX1.out.of 3 _ rfl))))))
        go_wp2_with fail
        refine hKH_34.out _ _ ?kH_34 (fun hHeldH_34 => ?dH_34)
        case kH_34 => (first | (dsimp only; (with_reducible exact k111_)) | (with_reducible exact k111_))
        clear hKH_34 KH_34
        refine wpAnyH_ready (rs := [1]) (by kernel_rfl) (by simp) ?_
        refine AllReadyH.cons (o := _) rfl (fun KH_35 hKH_35 => ?cH_35) ?mH_35
        case mH_35 => exact AllReadyH.nil
        go_simp
        refine (toLogDisk_any _ _ x (HV0.out _ HB.out) hw0).mono ?_
        rintro e w112 ⟨cs', rfl, ho, hb⟩
        obtain ⟨up112, rfl, hup112⟩ := disk_own.1 ho
        obtain ⟨Ap112, cp112, rfl, -, -⟩ := hup112.row.form
        clear hup112
        replace HL := Lib.hid (HL.out.trans (hb.mono (by have z0 := HZ0.out; have z3 := HZ3.out; have z6 := HZ6.out; have z47 := HZ47.out; have zqW0 := HZqW0.out; have zpW0 := HZpW0.out; have z49 := HZ49.out; have z50 := HZ50.out; have z52 := HZ52.out; have z53 := HZ53.out; have z55 := HZ55.out; have z56 := HZ56.out; have z58 := HZ58.out; have z59 := HZ59.out; have z61 := HZ61.out; have z64 := HZ64.out; have z66 := HZ66.out; have z68 := HZ68.out; have z71 := HZ71.out; have z74 := HZ74.out; have z76 := HZ76.out; have z78 := HZ78.out; have z80 := HZ80.out; have z82 := HZ82.out; have zd := HZd.out; have z110 := HZ110.out; have zz := HL.out.size; omega)))
        replace HB := Lib.hid (belowNext HB.out hb)
        replace HX0 := Lib.hid (HX0.out.below hb HX0.out.1)
        replace HX1 := Lib.hid (HX1.out.below hb HX1.out.1)
        replace HQ := Lib.hid (HQ.out.below hb HQ.out.1)
        have HZ113 := Lib.hid hb.size
        clear hb
        have HP0 := Lib.hid ho
        clear ho
        have k114_ := (And.intro (HX0.out.of 0 _ rfl) (And.intro (HX0.out.of 1 _ rfl) (And.intro (HX1.out.of 0 _ rfl) (And.intro (HX1.out.of 1 _ rfl) (And.intro (HX1.out.of 2 _ rfl) (HX1.out.of 3 _ rfl))))))
        go_wp2_with fail
        refine hKH_35.out _ _ ?kH_35 (fun hHeldH_35 => ?dH_35)
        case kH_35 => (first | (dsimp only; (with_reducible exact k114_)) | (with_reducible exact k114_))
        clear hKH_35 KH_35
        refine wpAnyH_ready (rs := [3]) (by kernel_rfl) (by simp) ?_
        refine AllReadyH.cons (o := _) rfl (fun KH_36 hKH_36 => ?cH_36) ?mH_36
        case mH_36 => exact AllReadyH.nil
        go_simp
        refine (toLogNote_any _ _ n (HV1.out _ HB.out) hw1).mono ?_
        rintro e w115 ⟨cs', rfl, ho, hb⟩
        obtain ⟨up115, vp115, Sp115, Sp115', rfl, hup115, hvp115, -, -, -⟩ := note_own.1 ho
        obtain ⟨Ap115, cp115, rfl, -, -⟩ := hup115.row.form
        obtain ⟨Bp115, dp115, rfl, -, -⟩ := hvp115.row.form
        clear hup115 hvp115
        replace HL := Lib.hid (HL.out.trans (hb.mono (by have z0 := HZ0.out; have z3 := HZ3.out; have z6 := HZ6.out; have z47 := HZ47.out; have zqW0 := HZqW0.out; have zpW0 := HZpW0.out; have z49 := HZ49.out; have z50 := HZ50.out; have z52 := HZ52.out; have z53 := HZ53.out; have z55 := HZ55.out; have z56 := HZ56.out; have z58 := HZ58.out; have z59 := HZ59.out; have z61 := HZ61.out; have z64 := HZ64.out; have z66 := HZ66.out; have z68 := HZ68.out; have z71 := HZ71.out; have z74 := HZ74.out; have z76 := HZ76.out; have z78 := HZ78.out; have z80 := HZ80.out; have z82 := HZ82.out; have zd := HZd.out; have z110 := HZ110.out; have z113 := HZ113.out; have zz := HL.out.size; omega)))
        replace HB := Lib.hid (belowNext HB.out hb)
        replace HX0 := Lib.hid (HX0.out.below hb HX0.out.1)
        replace HX1 := Lib.hid (HX1.out.below hb HX1.out.1)
        replace HQ := Lib.hid (HQ.out.below hb HQ.out.1)
        replace HP0 := Lib.hid (own_call HP0.out hb)
        have HZ116 := Lib.hid hb.size
        clear hb
        have HP1 := Lib.hid ho
        clear ho
        have k117_ := (And.intro (HX0.out.of 0 _ rfl) (And.intro (HX0.out.of 1 _ rfl) (And.intro (HX1.out.of 0 _ rfl) (And.intro (HX1.out.of 1 _ rfl) (And.intro (HX1.out.of 2 _ rfl) (HX1.out.of 3 _ rfl))))))
        go_wp2_with fail
        refine hKH_36.out _ _ ?kH_36 (fun hHeldH_36 => ?dH_36)
        case kH_36 => (first | (dsimp only; (with_reducible exact k117_)) | (with_reducible exact k117_))
        clear hKH_36 KH_36
        refine wpAnyH_ready (rs := [5]) (by kernel_rfl) (by simp) ?_
        refine AllReadyH.cons (o := _) rfl (fun KH_37 hKH_37 => ?cH_37) ?mH_37
        case mH_37 => exact AllReadyH.nil
        go_simp
        refine (HIm.out _ _ _ (diskSh.orel HP0.out) (noteSh.orel HP1.out)).mono ?_
        rintro e w118 ⟨cs', rfl, ho0, hb⟩
        obtain ⟨uq118_0, rfl, huq118_0⟩ := disk_own.1 ho0
        obtain ⟨Aq118_0, cq118_0, rfl, -, -⟩ := huq118_0.row.form
        clear huq118_0
        replace HL := Lib.hid (HL.out.trans (hb.mono (by have z0 := HZ0.out; have z3 := HZ3.out; have z6 := HZ6.out; have z47 := HZ47.out; have zqW0 := HZqW0.out; have zpW0 := HZpW0.out; have z49 := HZ49.out; have z50 := HZ50.out; have z52 := HZ52.out; have z53 := HZ53.out; have z55 := HZ55.out; have z56 := HZ56.out; have z58 := HZ58.out; have z59 := HZ59.out; have z61 := HZ61.out; have z64 := HZ64.out; have z66 := HZ66.out; have z68 := HZ68.out; have z71 := HZ71.out; have z74 := HZ74.out; have z76 := HZ76.out; have z78 := HZ78.out; have z80 := HZ80.out; have z82 := HZ82.out; have zd := HZd.out; have z110 := HZ110.out; have z113 := HZ113.out; have z116 := HZ116.out; have zz := HL.out.size; omega)))
        replace HB := Lib.hid (belowNext HB.out hb)
        replace HX0 := Lib.hid (HX0.out.below hb HX0.out.1)
        replace HX1 := Lib.hid (HX1.out.below hb HX1.out.1)
        replace HQ := Lib.hid (HQ.out.below hb HQ.out.1)
        replace HP0 := Lib.hid (own_call HP0.out hb)
        replace HP1 := Lib.hid (own_call HP1.out hb)
        have HZ119 := Lib.hid hb.size
        clear hb
        have HO0 := Lib.hid ho0
        clear ho0
        have k120_ := (And.intro (HX0.out.of 0 _ rfl) (And.intro (HX0.out.of 1 _ rfl) (And.intro (HX1.out.of 0 _ rfl) (And.intro (HX1.out.of 1 _ rfl) (And.intro (HX1.out.of 2 _ rfl) (HX1.out.of 3 _ rfl))))))
        go_wp2_with fail
        refine hKH_37.out _ _ ?kH_37 (fun hHeldH_37 => ?dH_37)
        case kH_37 => (first | (dsimp only; (with_reducible exact k120_)) | (with_reducible exact k120_))
        clear hKH_37 KH_37
        refine take_first 6 98 (v := ?vH_38) rfl rfl (by kernel_rfl) (by kernel_rfl) (by kernel_rfl) (fun _ _ _ h => h) (by rfl) ?yH_38 (by assumption) ?rH_38
        case yH_38 => (intro w hSw; (try dsimp only at hSw); go_simp; (try with_reducible rfl))
        simp only [Act.put, List.setIfInBounds_toArray, List.set_cons_zero, List.set_cons_succ]
        refine take_first 7 105 (v := ?vH_39) rfl rfl (by kernel_rfl) (by kernel_rfl) (by kernel_rfl) (fun _ _ _ h => h) (by rfl) ?yH_39 (by assumption) ?rH_39
        case yH_39 => (intro w hSw; (try dsimp only at hSw); go_simp; (try with_reducible rfl))
        simp only [Act.put, List.setIfInBounds_toArray, List.set_cons_zero, List.set_cons_succ]
        refine take_first 8 106 (v := ?vH_40) rfl rfl (by kernel_rfl) (by kernel_rfl) (by kernel_rfl) (fun _ _ _ h => h) (by rfl) ?yH_40 (by assumption) ?rH_40
        case yH_40 => (intro w hSw; (try dsimp only at hSw); go_simp; (try with_reducible rfl))
        simp only [Act.put, List.setIfInBounds_toArray, List.set_cons_zero, List.set_cons_succ]
        refine wpAnyH_ready (rs := [10]) (by kernel_rfl) (by simp) ?_
        refine AllReadyH.cons (o := _) rfl (fun KH_41 hKH_41 => ?cH_41) ?mH_41
        case mH_41 => exact AllReadyH.nil
        have s_0 := HQ.out.of 0 _ rfl
        have s_1 := HQ.out.of 1 _ rfl
        have s_f := HQ.out.2.1
        go_simp
        clear s_0 s_1 s_f
        replace HL := Lib.hid (HL.out.setCell (p := ⟨w81.heap.size, 0, none⟩) (by show w81.heap.size ≤ w81.heap.size; have z0 := HZ0.out; have z3 := HZ3.out; have z6 := HZ6.out; have z47 := HZ47.out; have zqW0 := HZqW0.out; have zpW0 := HZpW0.out; have z49 := HZ49.out; have z50 := HZ50.out; have z52 := HZ52.out; have z53 := HZ53.out; have z55 := HZ55.out; have z56 := HZ56.out; have z58 := HZ58.out; have z59 := HZ59.out; have z61 := HZ61.out; have z64 := HZ64.out; have z66 := HZ66.out; have z68 := HZ68.out; have z71 := HZ71.out; have z74 := HZ74.out; have z76 := HZ76.out; have z78 := HZ78.out; have z80 := HZ80.out; have z82 := HZ82.out; have zd := HZd.out; have z110 := HZ110.out; have z113 := HZ113.out; have z116 := HZ116.out; have z119 := HZ119.out; omega) (.slice Aq118_0 R.notes.length cq118_0))
        replace HX0 := Lib.hid (HX0.out.farS (p := ⟨w81.heap.size, 0, none⟩) (by show w.heap.size ≠ w81.heap.size; have z0 := HZ0.out; have z3 := HZ3.out; have z6 := HZ6.out; have z47 := HZ47.out; have zqW0 := HZqW0.out; have zpW0 := HZpW0.out; have z49 := HZ49.out; have z50 := HZ50.out; have z52 := HZ52.out; have z53 := HZ53.out; have z55 := HZ55.out; have z56 := HZ56.out; have z58 := HZ58.out; have z59 := HZ59.out; have z61 := HZ61.out; have z64 := HZ64.out; have z66 := HZ66.out; have z68 := HZ68.out; have z71 := HZ71.out; have z74 := HZ74.out; have z76 := HZ76.out; have z78 := HZ78.out; have z80 := HZ80.out; have z82 := HZ82.out; have zd := HZd.out; have z110 := HZ110.out; have z113 := HZ113.out; have z116 := HZ116.out; have z119 := HZ119.out; clear HQ; omega) (.slice Aq118_0 R.notes.length cq118_0))
        replace HX1 := Lib.hid (HX1.out.farS (p := ⟨w81.heap.size, 0, none⟩) (by show w.heap.size + 1 ≠ w81.heap.size; have z0 := HZ0.out; have z3 := HZ3.out; have z6 := HZ6.out; have z47 := HZ47.out; have zqW0 := HZqW0.out; have zpW0 := HZpW0.out; have z49 := HZ49.out; have z50 := HZ50.out; have z52 := HZ52.out; have z53 := HZ53.out; have z55 := HZ55.out; have z56 := HZ56.out; have z58 := HZ58.out; have z59 := HZ59.out; have z61 := HZ61.out; have z64 := HZ64.out; have z66 := HZ66.out; have z68 := HZ68.out; have z71 := HZ71.out; have z74 := HZ74.out; have z76 := HZ76.out; have z78 := HZ78.out; have z80 := HZ80.out; have z82 := HZ82.out; have zd := HZd.out; have z110 := HZ110.out; have z113 := HZ113.out; have z116 := HZ116.out; have z119 := HZ119.out; clear HQ; omega) (.slice Aq118_0 R.notes.length cq118_0))
        replace HQ := Lib.hid (HQ.out.set_ (i := 0) (.slice Aq118_0 R.notes.length cq118_0))
        replace HO0 := Lib.hid (diskSh.okeep HO0.out (w' := (w118.setCell ⟨w81.heap.size, 0, none⟩ (.slice Aq118_0 R.notes.length cq118_0))) fun b hb _ => Below.heap_setCell _ _ _ _ (by show b ≠ w81.heap.size; have h1 := hb.1; have h2 := hb.2; have z0 := HZ0.out; have z3 := HZ3.out; have z6 := HZ6.out; have z47 := HZ47.out; have zqW0 := HZqW0.out; have zpW0 := HZpW0.out; have z49 := HZ49.out; have z50 := HZ50.out; have z52 := HZ52.out; have z53 := HZ53.out; have z55 := HZ55.out; have z56 := HZ56.out; have z58 := HZ58.out; have z59 := HZ59.out; have z61 := HZ61.out; have z64 := HZ64.out; have z66 := HZ66.out; have z68 := HZ68.out; have z71 := HZ71.out; have z74 := HZ74.out; have z76 := HZ76.out; have z78 := HZ78.out; have z80 := HZ80.out; have z82 := HZ82.out; have zd := HZd.out; have z110 := HZ110.out; have z113 := HZ113.out; have z116 := HZ116.out; have z119 := HZ119.out; omega))
        replace HL := Lib.hid (HL.out.setCell (p := ⟨w81.heap.size, 1, none⟩) (by show w81.heap.size ≤ w81.heap.size; have z0 := HZ0.out; have z3 := HZ3.out; have z6 := HZ6.out; have z47 := HZ47.out; have zqW0 := HZqW0.out; have zpW0 := HZpW0.out; have z49 := HZ49.out; have z50 := HZ50.out; have z52 := HZ52.out; have z53 := HZ53.out; have z55 := HZ55.out; have z56 := HZ56.out; have z58 := HZ58.out; have z59 := HZ59.out; have z61 := HZ61.out; have z64 := HZ64.out; have z66 := HZ66.out; have z68 := HZ68.out; have z71 := HZ71.out; have z74 := HZ74.out; have z76 := HZ76.out; have z78 := HZ78.out; have z80 := HZ80.out; have z82 := HZ82.out; have zd := HZd.out; have z110 := HZ110.out; have z113 := HZ113.out; have z116 := HZ116.out; have z119 := HZ119.out; omega) (.int .i64 R.safe))
        replace HX0 := Lib.hid (HX0.out.farS (p := ⟨w81.heap.size, 1, none⟩) (by show w.heap.size ≠ w81.heap.size; have z0 := HZ0.out; have z3 := HZ3.out; have z6 := HZ6.out; have z47 := HZ47.out; have zqW0 := HZqW0.out; have zpW0 := HZpW0.out; have z49 := HZ49.out; have z50 := HZ50.out; have z52 := HZ52.out; have z53 := HZ53.out; have z55 := HZ55.out; have z56 := HZ56.out; have z58 := HZ58.out; have z59 := HZ59.out; have z61 := HZ61.out; have z64 := HZ64.out; have z66 := HZ66.out; have z68 := HZ68.out; have z71 := HZ71.out; have z74 := HZ74.out; have z76 := HZ76.out; have z78 := HZ78.out; have z80 := HZ80.out; have z82 := HZ82.out; have zd := HZd.out; have z110 := HZ110.out; have z113 := HZ113.out; have z116 := HZ116.out; have z119 := HZ119.out; clear HQ; omega) (.int .i64 R.safe))
        replace HX1 := Lib.hid (HX1.out.farS (p := ⟨w81.heap.size, 1, none⟩) (by show w.heap.size + 1 ≠ w81.heap.size; have z0 := HZ0.out; have z3 := HZ3.out; have z6 := HZ6.out; have z47 := HZ47.out; have zqW0 := HZqW0.out; have zpW0 := HZpW0.out; have z49 := HZ49.out; have z50 := HZ50.out; have z52 := HZ52.out; have z53 := HZ53.out; have z55 := HZ55.out; have z56 := HZ56.out; have z58 := HZ58.out; have z59 := HZ59.out; have z61 := HZ61.out; have z64 := HZ64.out; have z66 := HZ66.out; have z68 := HZ68.out; have z71 := HZ71.out; have z74 := HZ74.out; have z76 := HZ76.out; have z78 := HZ78.out; have z80 := HZ80.out; have z82 := HZ82.out; have zd := HZd.out; have z110 := HZ110.out; have z113 := HZ113.out; have z116 := HZ116.out; have z119 := HZ119.out; clear HQ; omega) (.int .i64 R.safe))
        replace HQ := Lib.hid (HQ.out.set_ (i := 1) (.int .i64 R.safe))
        replace HO0 := Lib.hid (diskSh.okeep HO0.out (w' := ((w118.setCell ⟨w81.heap.size, 0, none⟩ (.slice Aq118_0 R.notes.length cq118_0)).setCell ⟨w81.heap.size, 1, none⟩ (.int .i64 R.safe))) fun b hb _ => Below.heap_setCell _ _ _ _ (by show b ≠ w81.heap.size; have h1 := hb.1; have h2 := hb.2; have z0 := HZ0.out; have z3 := HZ3.out; have z6 := HZ6.out; have z47 := HZ47.out; have zqW0 := HZqW0.out; have zpW0 := HZpW0.out; have z49 := HZ49.out; have z50 := HZ50.out; have z52 := HZ52.out; have z53 := HZ53.out; have z55 := HZ55.out; have z56 := HZ56.out; have z58 := HZ58.out; have z59 := HZ59.out; have z61 := HZ61.out; have z64 := HZ64.out; have z66 := HZ66.out; have z68 := HZ68.out; have z71 := HZ71.out; have z74 := HZ74.out; have z76 := HZ76.out; have z78 := HZ78.out; have z80 := HZ80.out; have z82 := HZ82.out; have zd := HZd.out; have z110 := HZ110.out; have z113 := HZ113.out; have z116 := HZ116.out; have z119 := HZ119.out; omega))
        have HZs := Lib.hid (show ((w118.setCell ⟨w81.heap.size, 0, none⟩ (.slice Aq118_0 R.notes.length cq118_0)).setCell ⟨w81.heap.size, 1, none⟩ (.int .i64 R.safe)).heap.size = w118.heap.size from by simp [World.setCell])
        have k121_ := (And.intro (HX0.out.of 0 _ rfl) (And.intro (HX0.out.of 1 _ rfl) (And.intro (HX1.out.of 0 _ rfl) (And.intro (HX1.out.of 1 _ rfl) (And.intro (HX1.out.of 2 _ rfl) (HX1.out.of 3 _ rfl))))))
        go_wp2_with fail
        refine hKH_41.out _ _ ?kH_41 (fun hHeldH_41 => ?dH_41)
        case kH_41 => (first | (dsimp only; (with_reducible exact k121_)) | (with_reducible exact k121_))
        clear hKH_41 KH_41
        refine take_first 11 18 (v := ?vH_42) rfl rfl (by kernel_rfl) (by kernel_rfl) (by kernel_rfl) (fun _ _ _ h => h) (by rfl) ?yH_42 (by assumption) ?rH_42
        case yH_42 => (intro w hSw; (try dsimp only at hSw); go_simp; (try with_reducible rfl))
        simp only [Act.put, List.setIfInBounds_toArray, List.set_cons_zero, List.set_cons_succ]
        refine wpAnyH_done (by kernel_rfl) ?eH_43 _
        go_wp2
        go_meet
        case rel => exact ⟨w81.heap.size, Aq118_0, cq118_0, rfl, HQ.out, diskSh.orel HO0.out, (by have z0 := HZ0.out; have z3 := HZ3.out; have z6 := HZ6.out; have z47 := HZ47.out; have zqW0 := HZqW0.out; have zpW0 := HZpW0.out; have z49 := HZ49.out; have z50 := HZ50.out; have z52 := HZ52.out; have z53 := HZ53.out; have z55 := HZ55.out; have z56 := HZ56.out; have z58 := HZ58.out; have z59 := HZ59.out; have z61 := HZ61.out; have z64 := HZ64.out; have z66 := HZ66.out; have z68 := HZ68.out; have z71 := HZ71.out; have z74 := HZ74.out; have z76 := HZ76.out; have z78 := HZ78.out; have z80 := HZ80.out; have z82 := HZ82.out; have zd := HZd.out; have z110 := HZ110.out; have z113 := HZ113.out; have z116 := HZ116.out; have z119 := HZ119.out; have zs := HZs.out; have zz := HL.out.size; omega), HQ.out.1, rfl, HL.out⟩
      exact AllReadyH.nil
    case rest =>
      obtain ⟨qh0, Ah0, ch0, rfl, hH0, hr0, hqa0, hqb0, rfl, hb⟩ := hcut
      replace HB := Lib.hid (belowNext HB.out hb)
      replace HX0 := Lib.hid (HX0.out.below hb HX0.out.1)
      replace HX1 := Lib.hid (HX1.out.below hb HX1.out.1)
      replace HBxW0 := Lib.hid (HBxW0.out.below hb HBxW0.out.1)
      replace HY0 := Lib.hid (HY0.out.below hb HY0.out.1)
      replace HY1 := Lib.hid (HY1.out.below hb HY1.out.1)
      replace HBxG0 := Lib.hid (HBxG0.out.below hb HBxG0.out.1)
      replace HOwG0 := Lib.hid (own_call HOwG0.out hb)
      replace HRlW0 := Lib.hid (rel_call HRlW0.out hb (by have z0 := HZ0.out; have z3 := HZ3.out; have z6 := HZ6.out; have z47 := HZ47.out; have zqW0 := HZqW0.out; have zpW0 := HZpW0.out; have z49 := HZ49.out; have z50 := HZ50.out; have z52 := HZ52.out; have z53 := HZ53.out; have z55 := HZ55.out; have z56 := HZ56.out; have z58 := HZ58.out; have z59 := HZ59.out; have z61 := HZ61.out; have z64 := HZ64.out; have z66 := HZ66.out; have z68 := HZ68.out; have z71 := HZ71.out; have z74 := HZ74.out; have z76 := HZ76.out; have z78 := HZ78.out; have z80 := HZ80.out; have z82 := HZ82.out; omega))
      have HZ123 := Lib.hid hb.size
      clear hb
      have HBxH0 := Lib.hid hH0
      have HRlH0 := Lib.hid hr0
      have HZqH0 := Lib.hid hqa0
      have HZpH0 := Lib.hid hqb0
      clear hH0 hr0 hqa0 hqb0
      have axH0_0 := HBxH0.out.of 0 _ rfl
      have axH0_1 := HBxH0.out.of 1 _ rfl
      have axW0_0 := HBxW0.out.of 0 _ rfl
      have axW0_1 := HBxW0.out.of 1 _ rfl
      go_wp2_with fail
      clear axH0_0 axH0_1 axW0_0 axW0_1
      refine (eqLogDisk_same _ _ _ R (diskSh.rmore HRlH0.out (by have z0 := HZ0.out; have z3 := HZ3.out; have z6 := HZ6.out; have z47 := HZ47.out; have zqW0 := HZqW0.out; have zpW0 := HZpW0.out; have z49 := HZ49.out; have z50 := HZ50.out; have z52 := HZ52.out; have z53 := HZ53.out; have z55 := HZ55.out; have z56 := HZ56.out; have z58 := HZ58.out; have z59 := HZ59.out; have z61 := HZ61.out; have z64 := HZ64.out; have z66 := HZ66.out; have z68 := HZ68.out; have z71 := HZ71.out; have z74 := HZ74.out; have z76 := HZ76.out; have z78 := HZ78.out; have z80 := HZ80.out; have z82 := HZ82.out; have z123 := HZ123.out; have zqH0 := HZqH0.out; have zpH0 := HZpH0.out; omega)) (diskSh.rmore HRlW0.out (by have z0 := HZ0.out; have z3 := HZ3.out; have z6 := HZ6.out; have z47 := HZ47.out; have zqW0 := HZqW0.out; have zpW0 := HZpW0.out; have z49 := HZ49.out; have z50 := HZ50.out; have z52 := HZ52.out; have z53 := HZ53.out; have z55 := HZ55.out; have z56 := HZ56.out; have z58 := HZ58.out; have z59 := HZ59.out; have z61 := HZ61.out; have z64 := HZ64.out; have z66 := HZ66.out; have z68 := HZ68.out; have z71 := HZ71.out; have z74 := HZ74.out; have z76 := HZ76.out; have z78 := HZ78.out; have z80 := HZ80.out; have z82 := HZ82.out; have z123 := HZ123.out; have zqH0 := HZqH0.out; have zpH0 := HZpH0.out; omega))).mono ?_
      rintro e w124 ⟨rfl, hb⟩
      replace HB := Lib.hid (belowNext HB.out hb)
      replace HX0 := Lib.hid (HX0.out.below hb HX0.out.1)
      replace HX1 := Lib.hid (HX1.out.below hb HX1.out.1)
      replace HBxW0 := Lib.hid (HBxW0.out.below hb HBxW0.out.1)
      replace HY0 := Lib.hid (HY0.out.below hb HY0.out.1)
      replace HY1 := Lib.hid (HY1.out.below hb HY1.out.1)
      replace HBxG0 := Lib.hid (HBxG0.out.below hb HBxG0.out.1)
      replace HBxH0 := Lib.hid (HBxH0.out.below hb HBxH0.out.1)
      replace HOwG0 := Lib.hid (own_call HOwG0.out hb)
      replace HRlW0 := Lib.hid (rel_call HRlW0.out hb (by have z0 := HZ0.out; have z3 := HZ3.out; have z6 := HZ6.out; have z47 := HZ47.out; have zqW0 := HZqW0.out; have zpW0 := HZpW0.out; have z49 := HZ49.out; have z50 := HZ50.out; have z52 := HZ52.out; have z53 := HZ53.out; have z55 := HZ55.out; have z56 := HZ56.out; have z58 := HZ58.out; have z59 := HZ59.out; have z61 := HZ61.out; have z64 := HZ64.out; have z66 := HZ66.out; have z68 := HZ68.out; have z71 := HZ71.out; have z74 := HZ74.out; have z76 := HZ76.out; have z78 := HZ78.out; have z80 := HZ80.out; have z82 := HZ82.out; have z123 := HZ123.out; have zqH0 := HZqH0.out; have zpH0 := HZpH0.out; omega))
      replace HRlH0 := Lib.hid (rel_call HRlH0.out hb (by have z0 := HZ0.out; have z3 := HZ3.out; have z6 := HZ6.out; have z47 := HZ47.out; have zqW0 := HZqW0.out; have zpW0 := HZpW0.out; have z49 := HZ49.out; have z50 := HZ50.out; have z52 := HZ52.out; have z53 := HZ53.out; have z55 := HZ55.out; have z56 := HZ56.out; have z58 := HZ58.out; have z59 := HZ59.out; have z61 := HZ61.out; have z64 := HZ64.out; have z66 := HZ66.out; have z68 := HZ68.out; have z71 := HZ71.out; have z74 := HZ74.out; have z76 := HZ76.out; have z78 := HZ78.out; have z80 := HZ80.out; have z82 := HZ82.out; have z123 := HZ123.out; have zqH0 := HZqH0.out; have zpH0 := HZpH0.out; omega))
      have HZ125 := Lib.hid hb.size
      clear hb
      have hhc0 : dCnt y0 = dCnt R := HCn0.out
      have axG0_0 := HBxG0.out.of 0 _ rfl
      have axG0_1 := HBxG0.out.of 1 _ rfl
      go_wp2_with fail
      clear axG0_0 axG0_1
      refine (heldLogDisk_r _ _ y0 (diskSh.orel HOwG0.out) 1 hyw0 (by omega) (by omega) HM0.out).mono ?_
      rintro e w126 ⟨rfl, hb⟩
      rw [hhc0]
      clear hhc0
      replace HB := Lib.hid (belowNext HB.out hb)
      replace HX0 := Lib.hid (HX0.out.below hb HX0.out.1)
      replace HX1 := Lib.hid (HX1.out.below hb HX1.out.1)
      replace HBxW0 := Lib.hid (HBxW0.out.below hb HBxW0.out.1)
      replace HY0 := Lib.hid (HY0.out.below hb HY0.out.1)
      replace HY1 := Lib.hid (HY1.out.below hb HY1.out.1)
      replace HBxG0 := Lib.hid (HBxG0.out.below hb HBxG0.out.1)
      replace HBxH0 := Lib.hid (HBxH0.out.below hb HBxH0.out.1)
      replace HOwG0 := Lib.hid (own_call HOwG0.out hb)
      replace HRlW0 := Lib.hid (rel_call HRlW0.out hb (by have z0 := HZ0.out; have z3 := HZ3.out; have z6 := HZ6.out; have z47 := HZ47.out; have zqW0 := HZqW0.out; have zpW0 := HZpW0.out; have z49 := HZ49.out; have z50 := HZ50.out; have z52 := HZ52.out; have z53 := HZ53.out; have z55 := HZ55.out; have z56 := HZ56.out; have z58 := HZ58.out; have z59 := HZ59.out; have z61 := HZ61.out; have z64 := HZ64.out; have z66 := HZ66.out; have z68 := HZ68.out; have z71 := HZ71.out; have z74 := HZ74.out; have z76 := HZ76.out; have z78 := HZ78.out; have z80 := HZ80.out; have z82 := HZ82.out; have z123 := HZ123.out; have zqH0 := HZqH0.out; have zpH0 := HZpH0.out; have z125 := HZ125.out; omega))
      replace HRlH0 := Lib.hid (rel_call HRlH0.out hb (by have z0 := HZ0.out; have z3 := HZ3.out; have z6 := HZ6.out; have z47 := HZ47.out; have zqW0 := HZqW0.out; have zpW0 := HZpW0.out; have z49 := HZ49.out; have z50 := HZ50.out; have z52 := HZ52.out; have z53 := HZ53.out; have z55 := HZ55.out; have z56 := HZ56.out; have z58 := HZ58.out; have z59 := HZ59.out; have z61 := HZ61.out; have z64 := HZ64.out; have z66 := HZ66.out; have z68 := HZ68.out; have z71 := HZ71.out; have z74 := HZ74.out; have z76 := HZ76.out; have z78 := HZ78.out; have z80 := HZ80.out; have z82 := HZ82.out; have z123 := HZ123.out; have zqH0 := HZqH0.out; have zpH0 := HZpH0.out; have z125 := HZ125.out; omega))
      have HZ127 := Lib.hid hb.size
      clear hb
      go_wp2
      go_ret
      exact ⟨rfl, HB.out⟩

end Go.Proofs.Ytllmmhibmgpehaa

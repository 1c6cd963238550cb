/- The walk of FnDiskFold. By ldiskfoldgen.py. -/
import Derived.Test.YtkamlibfcakblaaXDrawOpen
import Derived.Test.YtkamlibfcakblaaXIFold
import Derived.Test.YtkamlibfcakblaaXNoteOkS
import Derived.Test.YtkamlibfcakblaaXJaPlan
import Derived.Test.YtkamlibfcakblaaXNoteOk
import Derived.Deep.CutRange
import Derived.Deep.DeepCutAuto
namespace Go.Proofs.Ytkamlibfcakblaa
open Go.RowKit

theorem sliceRw {w : World} {B : Nat} {A : Option Addr} {c : Nat} {x : Disk} (h : diskSh.rel w B [.slice A x.notes.length c, .int .i64 x.safe] x) : noteSh.Row w B (.slice A x.notes.length c) x.notes := by
  obtain ⟨u, e, hu⟩ := disk_rel.1 h
  cases e
  exact hu
theorem diskRel {w : World} {B : Nat} {A : Option Addr} {c : Nat} {ns : List Note} (h : noteSh.Row w B (.slice A ns.length c) ns) : diskSh.rel w B [.slice A (Disk.mk ns 0).notes.length c, .int .i64 (Disk.mk ns 0).safe] ⟨ns, 0⟩ := disk_rel.2 ⟨_, rfl, h⟩

set_option maxRecDepth 100000 in
set_option maxHeartbeats 8000000 in
theorem lawDiskFold_any (w : World) (v : Value) (m : Nat) (hv : Code8 w v m) :
    Calls Try.prog 6 #[v] w fun e w' => e = .returned (.bool true) ∧ Below w.heap.size w w' := by
  have HV := Lib.hid hv
  obtain ⟨A, c, f, rfl, h1, h2, -, -⟩ := hv
  unfold maxLen at h2
  by_cases hn : 1048576 < m
  · clear HV
    go_enter Try.func6, Try.ntmps6
    go_wp2
    go_ret
    exact ⟨rfl, Below.refl _ _⟩
  have hn' : m ≤ 1048576 := by omega
  clear hn
  go_enter Try.func6, Try.ntmps6
  go_wp2_with fail
  refine (drawDiskFold_any _ _ _ HV.out).mono ?_
  rintro e w1 ⟨cs, x, rfl, hfd, hox, hb1⟩
  obtain ⟨u1, rfl, hu1⟩ := disk_own.1 hox
  obtain ⟨A1, c1, rfl, -, -⟩ := hu1.row.form
  clear hu1
  have HRx := Lib.hid (diskSh.orel hox)
  have HB := Lib.hid hb1
  have HZ0 := Lib.hid hb1.size
  have hxl := hfd.1
  clear hox hb1 HV hfd
  have hal := belowOne w1 (.cells #[.slice A1 x.notes.length c1, .int .i64 x.safe] 25)
  replace HB := Lib.hid (belowNext HB.out hal)
  replace HRx := Lib.hid (rel_call HRx.out hal (by have z0 := HZ0.out; omega))
  have HZ1 := Lib.hid (allocSize w1 (.cells #[.slice A1 x.notes.length c1, .int .i64 x.safe] 25))
  clear hal
  have HXx := Lib.hid (Held.new w1 #[.slice A1 x.notes.length c1, .int .i64 x.safe] 25)
  obtain ⟨R, hR⟩ : ∃ R : Sto, foldD x = R.items := ⟨⟨foldD x⟩, rfl⟩
  have HRR := Lib.hid hR
  have HSt := Lib.hid (show stoB R.items = true from hR ▸ foldD_sto x)
  clear hR
  have ax_0 := HXx.out.of 0 _ rfl
  have ax_1 := HXx.out.of 1 _ rfl
  go_wp2_with fail
  clear ax_0 ax_1
  refine (implFold_got _ _ x (diskSh.rmore HRx.out (by have z0 := HZ0.out; have z1 := HZ1.out; omega)) HRR.out).mono ?_
  rintro e w2 ⟨As, cs0, rfl, ho, hb⟩
  replace HB := Lib.hid (belowNext HB.out hb)
  replace HXx := Lib.hid (HXx.out.below hb HXx.out.1)
  replace HRx := Lib.hid (rel_call HRx.out hb (by have z0 := HZ0.out; have z1 := HZ1.out; omega))
  have HZ3 := Lib.hid hb.size
  clear hb
  have HRs := Lib.hid ho
  clear ho
  have hal := belowOne w2 (.cells #[.slice As R.items.length cs0] 54)
  replace HB := Lib.hid (belowNext HB.out hal)
  replace HXx := Lib.hid (HXx.out.below hal HXx.out.1)
  replace HRx := Lib.hid (rel_call HRx.out hal (by have z0 := HZ0.out; have z1 := HZ1.out; have z3 := HZ3.out; omega))
  replace HRs := Lib.hid (rel_call HRs.out hal (by have z0 := HZ0.out; have z1 := HZ1.out; have z3 := HZ3.out; omega))
  have HZ4 := Lib.hid (allocSize w2 (.cells #[.slice As R.items.length cs0] 54))
  clear hal
  have HSs := Lib.hid (Held.new w2 #[.slice As R.items.length cs0] 54)
  have kpx_0 : (w2.alloc (.cells #[.slice As R.items.length cs0] 54)).drew.cell? ⟨w2.heap.size, 0, none⟩ = some (.slice As R.items.length cs0) ∧ (w2.alloc (.cells #[.slice As R.items.length cs0] 54)).drew.cell? ⟨w1.heap.size, 0, none⟩ = some (.slice A1 x.notes.length c1) ∧ (w2.alloc (.cells #[.slice As R.items.length cs0] 54)).drew.cell? ⟨w1.heap.size, 1, none⟩ = some (.int .i64 x.safe) := (And.intro (HSs.out.of 0 _ rfl) (And.intro (HXx.out.of 0 _ rfl) (HXx.out.of 1 _ rfl)))
  go_wp2
  have hdr := (Below.refl (w2.alloc (.cells #[.slice As R.items.length cs0] 54)).heap.size (w2.alloc (.cells #[.slice As R.items.length cs0] 54))).drew
  replace HB := Lib.hid (belowNext HB.out hdr)
  replace HXx := Lib.hid (HXx.out.below hdr HXx.out.1)
  replace HSs := Lib.hid (HSs.out.below hdr HSs.out.1)
  replace HRx := Lib.hid (rel_call HRx.out hdr (by have z0 := HZ0.out; have z1 := HZ1.out; have z3 := HZ3.out; have z4 := HZ4.out; omega))
  replace HRs := Lib.hid (rel_call HRs.out hdr (by have z0 := HZ0.out; have z1 := HZ1.out; have z3 := HZ3.out; have z4 := HZ4.out; omega))
  have HZ5 := Lib.hid hdr.size
  clear hdr
  refine wp_region_held_drew (S := (fun w' => w'.cell? ⟨w2.heap.size, 0, none⟩ = some (.slice As R.items.length cs0) ∧ w'.cell? ⟨w1.heap.size, 0, none⟩ = some (.slice A1 x.notes.length c1) ∧ w'.cell? ⟨w1.heap.size, 1, none⟩ = some (.int .i64 x.safe))) (by kernel_rfl) ?hSpx (fun hHeldpx => ?stpx)
  case hSpx => (first | (dsimp only; (first | with_reducible exact kpx_2 | with_reducible exact kpx_1 | exact kpx_0)) | (first | with_reducible exact kpx_2 | with_reducible exact kpx_1 | exact kpx_0))
  refine take_first 0 16 (v := ?vpx_1) rfl rfl (by kernel_rfl) (by kernel_rfl) (by kernel_rfl) (fun _ _ _ h => h) (by rfl) ?ypx_1 (by assumption) ?rpx_1
  case ypx_1 => (intro w hSw; (try dsimp only at hSw); go_simp; (try with_reducible rfl))
  simp only [Act.put, List.setIfInBounds_toArray, List.set_cons_zero, List.set_cons_succ]
  refine take_first 1 17 (v := ?vpx_2) rfl rfl (by kernel_rfl) (by kernel_rfl) (by kernel_rfl) (fun _ _ _ h => h) (by rfl) ?ypx_2 (by assumption) ?rpx_2
  case ypx_2 => (intro w hSw; (try dsimp only at hSw); go_simp; (try with_reducible rfl))
  simp only [Act.put, List.setIfInBounds_toArray, List.set_cons_zero, List.set_cons_succ]
  refine wpAnyH_ready (rs := [2]) (by kernel_rfl) (by simp) ?_
  refine AllReadyH.cons (o := _) rfl (fun Kpx_3 hKpx_3 => ?cpx_3) ?mpx_3
  case mpx_3 => exact AllReadyH.nil
  go_simp
  refine (specFold_got _ _ x (diskSh.rmore HRx.out (by have z0 := HZ0.out; have z1 := HZ1.out; have z3 := HZ3.out; have z4 := HZ4.out; have z5 := HZ5.out; omega)) HRR.out).mono ?_; rintro e ws2 ⟨At, ct, rfl, ho, hb⟩; replace HB := Lib.hid (belowNext HB.out hb); replace HXx := Lib.hid (HXx.out.below hb HXx.out.1); replace HSs := Lib.hid (HSs.out.below hb HSs.out.1); replace HRx := Lib.hid (rel_call HRx.out hb (by have z0 := HZ0.out; have z1 := HZ1.out; have z3 := HZ3.out; have z4 := HZ4.out; have z5 := HZ5.out; omega)); replace HRs := Lib.hid (rel_call HRs.out hb (by have z0 := HZ0.out; have z1 := HZ1.out; have z3 := HZ3.out; have z4 := HZ4.out; have z5 := HZ5.out; omega)); have HZ6 := Lib.hid hb.size; clear hb; have HRt := Lib.hid ho; clear ho; have kpx_1 := (And.intro (HSs.out.of 0 _ rfl) (And.intro (HXx.out.of 0 _ rfl) (HXx.out.of 1 _ rfl)))
  go_wp2_with fail
  refine hKpx_3.out _ _ ?kpx_3 (fun hHeldpx_3 => ?dpx_3)
  case kpx_3 => (first | (dsimp only; (first | with_reducible exact kpx_2 | with_reducible exact kpx_1 | exact kpx_0)) | (first | with_reducible exact kpx_2 | with_reducible exact kpx_1 | exact kpx_0))
  clear hKpx_3 Kpx_3
  refine wpAnyH_ready (rs := [3]) (by kernel_rfl) (by simp) ?_
  refine AllReadyH.cons (o := _) rfl (fun Kpx_4 hKpx_4 => ?cpx_4) ?mpx_4
  case mpx_4 => exact AllReadyH.nil
  go_simp
  refine (jaSto_got _ _ _ _ _ R (stoSh.rmore HRs.out (by have z0 := HZ0.out; have z1 := HZ1.out; have z3 := HZ3.out; have z4 := HZ4.out; have z5 := HZ5.out; have z6 := HZ6.out; omega)) (stoSh.rmore HRt.out (by have z0 := HZ0.out; have z1 := HZ1.out; have z3 := HZ3.out; have z4 := HZ4.out; have z5 := HZ5.out; have z6 := HZ6.out; omega))).mono ?_; rintro e ws3 ⟨rfl, hb⟩; replace HB := Lib.hid (belowNext HB.out hb); replace HXx := Lib.hid (HXx.out.below hb HXx.out.1); replace HSs := Lib.hid (HSs.out.below hb HSs.out.1); replace HRx := Lib.hid (rel_call HRx.out hb (by have z0 := HZ0.out; have z1 := HZ1.out; have z3 := HZ3.out; have z4 := HZ4.out; have z5 := HZ5.out; have z6 := HZ6.out; omega)); replace HRs := Lib.hid (rel_call HRs.out hb (by have z0 := HZ0.out; have z1 := HZ1.out; have z3 := HZ3.out; have z4 := HZ4.out; have z5 := HZ5.out; have z6 := HZ6.out; omega)); replace HRt := Lib.hid (rel_call HRt.out hb (by have z0 := HZ0.out; have z1 := HZ1.out; have z3 := HZ3.out; have z4 := HZ4.out; have z5 := HZ5.out; have z6 := HZ6.out; omega)); have HZ7 := Lib.hid hb.size; clear hb; have kpx_2 := (And.intro (HSs.out.of 0 _ rfl) (And.intro (HXx.out.of 0 _ rfl) (HXx.out.of 1 _ rfl)))
  go_wp2_with fail
  refine hKpx_4.out _ _ ?kpx_4 (fun hHeldpx_4 => ?dpx_4)
  case kpx_4 => (first | (dsimp only; (first | with_reducible exact kpx_2 | with_reducible exact kpx_1 | exact kpx_0)) | (first | with_reducible exact kpx_2 | with_reducible exact kpx_1 | exact kpx_0))
  clear hKpx_4 Kpx_4
  refine take_first 4 20 (v := ?vpx_5) rfl rfl (by kernel_rfl) (by kernel_rfl) (by kernel_rfl) (fun _ _ _ h => h) (by rfl) ?ypx_5 (by assumption) ?rpx_5
  case ypx_5 => (intro w hSw; (try dsimp only at hSw); go_simp; (try with_reducible rfl))
  simp only [Act.put, List.setIfInBounds_toArray, List.set_cons_zero, List.set_cons_succ]
  refine wpAnyH_done (by kernel_rfl) ?epx _
  clear HRt
  clear kpx_0 kpx_1 kpx_2
  have ax_0 := HXx.out.of 0 _ rfl
  have ax_1 := HXx.out.of 1 _ rfl
  go_wp2_with fail
  clear ax_0 ax_1
  refine (specDiskOk_any _ _ x (diskSh.rmore HRx.out (by have z0 := HZ0.out; have z1 := HZ1.out; have z3 := HZ3.out; have z4 := HZ4.out; have z5 := HZ5.out; have z6 := HZ6.out; have z7 := HZ7.out; omega))).mono ?_
  rintro e w8 ⟨rfl, hb⟩
  replace HB := Lib.hid (belowNext HB.out hb)
  replace HXx := Lib.hid (HXx.out.below hb HXx.out.1)
  replace HSs := Lib.hid (HSs.out.below hb HSs.out.1)
  replace HRx := Lib.hid (rel_call HRx.out hb (by have z0 := HZ0.out; have z1 := HZ1.out; have z3 := HZ3.out; have z4 := HZ4.out; have z5 := HZ5.out; have z6 := HZ6.out; have z7 := HZ7.out; omega))
  replace HRs := Lib.hid (rel_call HRs.out hb (by have z0 := HZ0.out; have z1 := HZ1.out; have z3 := HZ3.out; have z4 := HZ4.out; have z5 := HZ5.out; have z6 := HZ6.out; have z7 := HZ7.out; omega))
  have HZ9 := Lib.hid hb.size
  clear hb
  cases hdx : diskB x with
  | false =>
    have hl0 : R.items.length = 0 := by rw [← HRR.out, foldD_no hdx]; rfl
    have hl1 : ((R.items.length : Int) == 0) = true := by simp [hl0]
    clear hl0
    have ax_0 := HXx.out.of 0 _ rfl
    have ax_1 := HXx.out.of 1 _ rfl
    have as_0 := HSs.out.of 0 _ rfl
    go_wp2_with fail
    clear ax_0 ax_1 as_0
    refine (jaOk_any _).mono ?_
    rintro e w10 ⟨rfl, hb⟩
    replace HB := Lib.hid (belowNext HB.out hb)
    replace HXx := Lib.hid (HXx.out.below hb HXx.out.1)
    replace HSs := Lib.hid (HSs.out.below hb HSs.out.1)
    replace HRx := Lib.hid (rel_call HRx.out hb (by have z0 := HZ0.out; have z1 := HZ1.out; have z3 := HZ3.out; have z4 := HZ4.out; have z5 := HZ5.out; have z6 := HZ6.out; have z7 := HZ7.out; have z9 := HZ9.out; omega))
    replace HRs := Lib.hid (rel_call HRs.out hb (by have z0 := HZ0.out; have z1 := HZ1.out; have z3 := HZ3.out; have z4 := HZ4.out; have z5 := HZ5.out; have z6 := HZ6.out; have z7 := HZ7.out; have z9 := HZ9.out; omega))
    have HZ11 := Lib.hid hb.size
    clear hb
    go_wp2
    go_ret
    exact ⟨rfl, HB.out⟩
  | true =>
    have hn120 : x.notes.length ≤ 120 := (diskB_small hdx).1
    have HFl := Lib.hid (FlW.start (W0 := w8))
    have HLr := Lib.hid (sliceRw (B := w8.heap.size) (diskSh.rmore HRx.out (by have z0 := HZ0.out; have z1 := HZ1.out; have z3 := HZ3.out; have z4 := HZ4.out; have z5 := HZ5.out; have z6 := HZ6.out; have z7 := HZ7.out; have z9 := HZ9.out; omega)))
    have ax0 := (HXx.out.after (.cells #[.slice none 0 0, .int .i64 0] 25)).of 0 _ rfl
    go_wp2
    clear ax0
    go_loopw [6] (fun i wr => ∃ (k : Nat) (Ay : Option Addr) (cy : Nat), k ≤ x.notes.length ∧ i = .int .i64 k ∧ FlW w8 w8.heap.size ((x.notes.take k).filter countsB) Ay cy wr) (fun i _ => x.notes.length - (intOf i).toNat)
    case atStart => exact ⟨0, none, 0, Nat.zero_le _, rfl, HFl.out⟩
    case round =>
      clear HFl
      obtain ⟨k, Ay, cy, hk, rfl, hF⟩ := hrel
      have HF := Lib.hid hF
      clear hF
      have HLw := Lib.hid (HLr.out.below HF.out.bel)
      replace HXx := Lib.hid (HXx.out.below HF.out.bel HXx.out.1)
      replace HSs := Lib.hid (HSs.out.below HF.out.bel HSs.out.1)
      replace HRx := Lib.hid (relUnder HRx.out HF.out.bel (by have z0 := HZ0.out; have z1 := HZ1.out; have z3 := HZ3.out; have z4 := HZ4.out; have z5 := HZ5.out; have z6 := HZ6.out; have z7 := HZ7.out; have z9 := HZ9.out; omega))
      replace HRs := Lib.hid (relUnder HRs.out HF.out.bel (by have z0 := HZ0.out; have z1 := HZ1.out; have z3 := HZ3.out; have z4 := HZ4.out; have z5 := HZ5.out; have z6 := HZ6.out; have z7 := HZ7.out; have z9 := HZ9.out; omega))
      replace HB := Lib.hid (HB.out.trans (HF.out.bel.mono HB.out.size))
      have HZl := Lib.hid HF.out.size
      by_cases hlt : k < x.notes.length
      · obtain ⟨b, off, d, y, B1, e1, B2, e2, ea, hy, hbB, d0, d1, d2, d3, hyr⟩ := notes_at2 HLw.out hlt
        injection ea with ea1 ea2 ea3
        subst ea1
        clear ea2 ea3
        have HYy := Lib.hid hy
        have HRy := Lib.hid hyr
        clear hy hyr
        have hfl : ((x.notes.take k).filter countsB).length ≤ 120 := Nat.le_trans (List.length_filter_le _ _) (by rw [List.length_take]; omega)
        have ax_0 := HXx.out.of 0 _ rfl
        by_cases hco : y.kind = 1 ∨ y.kind = 2
        · have hcy : countsB y = true := by unfold countsB; rcases hco with h | h <;> simp [h]
          have HFy := Lib.hid (filter_yes HYy.out hcy)
          obtain ⟨ys, hys⟩ : ∃ ys, (x.notes.take k).filter countsB = ys := ⟨_, rfl⟩
          rw [hys] at HF HFy hfl
          clear hys
          have yx_0 := HF.out.box.of 0 _ rfl
          have LIT := Lib.hid (Held.new wr.drew #[.int .i64 y.kind, .int .i64 y.tx, .slice B1 y.locks.length e1, .slice B2 y.writes.length e2] 36)
          have hfs : ∀ j, wr.drew.frozen? ⟨w8.heap.size, j, none⟩ = false := HF.out.box.2.1
          have k14_0 : wr.drew.cell? ⟨w8.heap.size, 0, none⟩ = some (.slice Ay ys.length cy) ∧ wr.drew.cell? ⟨w1.heap.size, 0, none⟩ = some (.slice (some ⟨b, off, none⟩) x.notes.length c1) ∧ wr.drew.cell? ⟨b, off + k * 4, none⟩ = some (.int .i64 y.kind) ∧ wr.drew.cell? ⟨b, off + k * 4 + 1, none⟩ = some (.int .i64 y.tx) ∧ wr.drew.cell? ⟨b, off + k * 4 + 2, none⟩ = some (.slice B1 y.locks.length e1) ∧ wr.drew.cell? ⟨b, off + k * 4 + 3, none⟩ = some (.slice B2 y.writes.length e2) := ⟨yx_0, ax_0, d0, d1, d2, d3⟩
          have f0 : (0 : Int) ≤ (k : Int) := by omega
          have f1 : (k : Int) < (x.notes.length : Int) := by omega
          rcases hco with hk1 | hk2
          · have ek : (y.kind == 1) = true := by simp [hk1]
            clear hk1
            go_wp2
            clear yx_0 ax_0 d0 d1 d2 d3
            have k14_1 : (wr.alloc (.cells #[.int .i64 y.kind, .int .i64 y.tx, .slice B1 y.locks.length e1, .slice B2 y.writes.length e2] 36)).drew.cell? ⟨w8.heap.size, 0, none⟩ = some (.slice Ay ys.length cy) ∧ (wr.alloc (.cells #[.int .i64 y.kind, .int .i64 y.tx, .slice B1 y.locks.length e1, .slice B2 y.writes.length e2] 36)).drew.cell? ⟨w1.heap.size, 0, none⟩ = some (.slice (some ⟨b, off, none⟩) x.notes.length c1) ∧ (wr.alloc (.cells #[.int .i64 y.kind, .int .i64 y.tx, .slice B1 y.locks.length e1, .slice B2 y.writes.length e2] 36)).drew.cell? ⟨b, off + k * 4, none⟩ = some (.int .i64 y.kind) ∧ (wr.alloc (.cells #[.int .i64 y.kind, .int .i64 y.tx, .slice B1 y.locks.length e1, .slice B2 y.writes.length e2] 36)).drew.cell? ⟨b, off + k * 4 + 1, none⟩ = some (.int .i64 y.tx) ∧ (wr.alloc (.cells #[.int .i64 y.kind, .int .i64 y.tx, .slice B1 y.locks.length e1, .slice B2 y.writes.length e2] 36)).drew.cell? ⟨b, off + k * 4 + 2, none⟩ = some (.slice B1 y.locks.length e1) ∧ (wr.alloc (.cells #[.int .i64 y.kind, .int .i64 y.tx, .slice B1 y.locks.length e1, .slice B2 y.writes.length e2] 36)).drew.cell? ⟨b, off + k * 4 + 3, none⟩ = some (.slice B2 y.writes.length e2) := by
              have hb := (show Below wr.drew.heap.size wr.drew (wr.alloc (.cells #[.int .i64 y.kind, .int .i64 y.tx, .slice B1 y.locks.length e1, .slice B2 y.writes.length e2] 36)).drew from belowOne wr.drew (.cells #[.int .i64 y.kind, .int .i64 y.tx, .slice B1 y.locks.length e1, .slice B2 y.writes.length e2] 36))
              exact ⟨cellUnder hb k14_0.1, cellUnder hb k14_0.2.1, cellUnder hb k14_0.2.2.1, cellUnder hb k14_0.2.2.2.1, cellUnder hb k14_0.2.2.2.2.1, cellUnder hb k14_0.2.2.2.2.2⟩
            have HBl := Lib.hid (show Below wr.heap.size wr (wr.alloc (.cells #[.int .i64 y.kind, .int .i64 y.tx, .slice B1 y.locks.length e1, .slice B2 y.writes.length e2] 36)).drew from ((Below.refl _ wr).drew).trans (show Below wr.heap.size wr.drew (wr.alloc (.cells #[.int .i64 y.kind, .int .i64 y.tx, .slice B1 y.locks.length e1, .slice B2 y.writes.length e2] 36)).drew from belowOne wr.drew (.cells #[.int .i64 y.kind, .int .i64 y.tx, .slice B1 y.locks.length e1, .slice B2 y.writes.length e2] 36)))
            have HSl := Lib.hid (show noteSh.Shal 36 (wr.alloc (.cells #[.int .i64 y.kind, .int .i64 y.tx, .slice B1 y.locks.length e1, .slice B2 y.writes.length e2] 36)).drew w8.heap.size (.slice Ay ys.length cy) ys from HF.out.row.below HBl.out (by have := HF.out.size; omega))
            have HRz := Lib.hid (show noteSh.rel (wr.alloc (.cells #[.int .i64 y.kind, .int .i64 y.tx, .slice B1 y.locks.length e1, .slice B2 y.writes.length e2] 36)).drew w8.heap.size [.int .i64 y.kind, .int .i64 y.tx, .slice B1 y.locks.length e1, .slice B2 y.writes.length e2] y from noteSh.rbelow HRy.out (HBl.out.mono (by have := HF.out.size; omega)))
            have HLt := Lib.hid (show Held (wr.alloc (.cells #[.int .i64 y.kind, .int .i64 y.tx, .slice B1 y.locks.length e1, .slice B2 y.writes.length e2] 36)).drew wr.heap.size [.int .i64 y.kind, .int .i64 y.tx, .slice B1 y.locks.length e1, .slice B2 y.writes.length e2] from LIT.out)
            have hzz : w8.heap.size < wr.heap.size := HF.out.size
            have hw1q : w1.heap.size < w8.heap.size := by have z0 := HZ0.out; have z1 := HZ1.out; have z3 := HZ3.out; have z4 := HZ4.out; have z5 := HZ5.out; have z6 := HZ6.out; have z7 := HZ7.out; have z9 := HZ9.out; have zl := HZl.out; omega
            refine region_l (S := (fun w' => w'.cell? ⟨w8.heap.size, 0, none⟩ = some (.slice Ay ys.length cy) ∧ w'.cell? ⟨w1.heap.size, 0, none⟩ = some (.slice (some ⟨b, off, none⟩) x.notes.length c1) ∧ w'.cell? ⟨b, off + k * 4, none⟩ = some (.int .i64 y.kind) ∧ w'.cell? ⟨b, off + k * 4 + 1, none⟩ = some (.int .i64 y.tx) ∧ w'.cell? ⟨b, off + k * 4 + 2, none⟩ = some (.slice B1 y.locks.length e1) ∧ w'.cell? ⟨b, off + k * 4 + 3, none⟩ = some (.slice B2 y.writes.length e2))) 10 (by kernel_rfl) ?hSax (fun hHeldax => ?stax)
            case hSax => (first | (dsimp only; (first | with_reducible exact k14_2 | with_reducible exact k14_1 | exact k14_0)) | (first | with_reducible exact k14_2 | with_reducible exact k14_1 | exact k14_0))
            refine take_l 0 55 (v := ?vax_1) rfl rfl (by kernel_rfl) (by kernel_rfl) (by kernel_rfl) (by kernel_rfl) (fun _ _ _ h => h) (by rfl) ?yax_1 (by assumption) ?rax_1
            case yax_1 => (intro w hSw; (try dsimp only at hSw); go_simp; (try with_reducible rfl))
            simp only [Act.put, List.setIfInBounds_toArray, List.set_cons_zero, List.set_cons_succ]
            refine take_l 1 56 (v := ?vax_2) rfl rfl (by kernel_rfl) (by kernel_rfl) (by kernel_rfl) (by kernel_rfl) (fun _ _ _ h => h) (by rfl) ?yax_2 (by assumption) ?rax_2
            case yax_2 => (intro w hSw; (try dsimp only at hSw); go_simp; (try with_reducible rfl))
            simp only [Act.put, List.setIfInBounds_toArray, List.set_cons_zero, List.set_cons_succ]
            refine take_l 2 57 (v := ?vax_3) rfl rfl (by kernel_rfl) (by kernel_rfl) (by kernel_rfl) (by kernel_rfl) (fun _ _ _ h => h) (by rfl) ?yax_3 (by assumption) ?rax_3
            case yax_3 => (intro w hSw; (try dsimp only at hSw); go_simp; (try with_reducible rfl))
            simp only [Act.put, List.setIfInBounds_toArray, List.set_cons_zero, List.set_cons_succ]
            refine take_l 3 58 (v := ?vax_4) rfl rfl (by kernel_rfl) (by kernel_rfl) (by kernel_rfl) (by kernel_rfl) (fun _ _ _ h => h) (by rfl) ?yax_4 (by assumption) ?rax_4
            case yax_4 => (intro w hSw; (try dsimp only at hSw); go_simp; (try with_reducible rfl))
            simp only [Act.put, List.setIfInBounds_toArray, List.set_cons_zero, List.set_cons_succ]
            refine take_l 4 59 (v := ?vax_5) rfl rfl (by kernel_rfl) (by kernel_rfl) (by kernel_rfl) (by kernel_rfl) (fun _ _ _ h => h) (by rfl) ?yax_5 (by assumption) ?rax_5
            case yax_5 => (intro w hSw; (try dsimp only at hSw); go_simp; (try with_reducible rfl))
            simp only [Act.put, List.setIfInBounds_toArray, List.set_cons_zero, List.set_cons_succ]
            refine take_l 5 60 (v := ?vax_6) rfl rfl (by kernel_rfl) (by kernel_rfl) (by kernel_rfl) (by kernel_rfl) (fun _ _ _ h => h) (by rfl) ?yax_6 (by assumption) ?rax_6
            case yax_6 => (intro w hSw; (try dsimp only at hSw); go_simp; (try with_reducible rfl))
            simp only [Act.put, List.setIfInBounds_toArray, List.set_cons_zero, List.set_cons_succ]
            refine take_l 6 61 (v := ?vax_7) rfl rfl (by kernel_rfl) (by kernel_rfl) (by kernel_rfl) (by kernel_rfl) (fun _ _ _ h => h) (by rfl) ?yax_7 (by assumption) ?rax_7
            case yax_7 => (intro w hSw; (try dsimp only at hSw); go_simp; (try with_reducible rfl))
            simp only [Act.put, List.setIfInBounds_toArray, List.set_cons_zero, List.set_cons_succ]
            refine one_l 7 rfl (by kernel_rfl) (fun Kax_8 hKax_8 => ?cax_8)
            go_simp
            skip
            go_wp2_with fail
            refine hKax_8.out _ _ ?kax_8 (fun hHoldax_8 => ?dax_8)
            case kax_8 => (intro _; (first | (dsimp only; (first | with_reducible exact k14_2 | with_reducible exact k14_1 | exact k14_0)) | (first | with_reducible exact k14_2 | with_reducible exact k14_1 | exact k14_0)))
            clear hKax_8 Kax_8
            have hHeldax_8 := hHoldax_8 (by decide)
            clear hHoldax_8
            refine one_l 8 rfl (by kernel_rfl) (fun Kax_9 hKax_9 => ?cax_9)
            rw [if_pos (by rfl)]
            refine shal1_at noteSh 23 36 _ 64 Try.underlying23 infoNoteA rfl (by decide) (by omega) (.tmp 56) (.tmp 62) rfl w8.heap.size (.slice Ay ys.length cy) ys rfl HSl.out (by show _ ≤ (wr.alloc (.cells #[.int .i64 y.kind, .int .i64 y.tx, .slice B1 y.locks.length e1, .slice B2 y.writes.length e2] 36)).drew.heap.size; have e : (wr.alloc (.cells #[.int .i64 y.kind, .int .i64 y.tx, .slice B1 y.locks.length e1, .slice B2 y.writes.length e2] 36)).drew.heap.size = wr.heap.size + 1 := allocSize _ _; omega) wr.heap.size 1 rfl y _ HRz.out (fun j u hu => HLt.out.of j u hu) (by omega) ?_; intro v3 w3 hs3 hg3 ho3; obtain ⟨A3, c3, hf3⟩ := shalForm hs3; subst hf3; have hput := HF.out.put HBl.out hs3 hg3 ho3; have HP := Lib.hid hput; have hbq := HP.out.2.1; have k14_2 := And.intro (HP.out.1.of 0 _ rfl) (And.intro ((hbq.cell (p := ⟨w1.heap.size, 0, none⟩) hw1q).trans k14_0.2.1) (And.intro ((hbq.cell (p := ⟨b, off + k * 4, none⟩) hbB).trans k14_0.2.2.1) (And.intro ((hbq.cell (p := ⟨b, off + k * 4 + 1, none⟩) hbB).trans k14_0.2.2.2.1) (And.intro ((hbq.cell (p := ⟨b, off + k * 4 + 2, none⟩) hbB).trans k14_0.2.2.2.2.1) ((hbq.cell (p := ⟨b, off + k * 4 + 3, none⟩) hbB).trans k14_0.2.2.2.2.2))))); have pf := HP.out.1.2.1 0; clear hs3 hg3 ho3 hput
            refine hKax_9.out _ _ ?kax_9 (fun hHoldax_9 => ?dax_9)
            case kax_9 => (intro _; (first | (dsimp only; (first | with_reducible exact k14_2 | with_reducible exact k14_1 | exact k14_0)) | (first | with_reducible exact k14_2 | with_reducible exact k14_1 | exact k14_0)))
            clear hKax_9 Kax_9
            have hHeldax_9 := hHoldax_9 (by decide)
            clear hHoldax_9
            refine take_l 9 64 (v := ?vax_10) rfl rfl (by kernel_rfl) (by kernel_rfl) (by kernel_rfl) (by kernel_rfl) (fun _ _ _ h => h) (by rfl) ?yax_10 (by assumption) ?rax_10
            case yax_10 => (intro w hSw; (try dsimp only at hSw); go_simp; (try with_reducible rfl))
            simp only [Act.put, List.setIfInBounds_toArray]
            refine one_l 10 rfl (by kernel_rfl) (fun Kax_11 hKax_11 => ?cax_11)
            go_simp
            skip
            go_wp2_with fail
            refine hKax_11.out _ _ ?kax_11 (fun hHoldax_11 => ?dax_11)
            case kax_11 => exact fun h => absurd rfl h
            clear hKax_11 Kax_11
            clear hHoldax_11
            refine done_l (by kernel_rfl) ?eax _
            go_wp2
            go_roundw
            case rel => exact ⟨k + 1, A3, c3, by omega, by go_num, by rw [HFy.out]; have h9 := HP.out.2.2; rw [List.length_append, List.length_singleton] at h9; exact h9⟩
            case measure => simp [intOf]; omega
          · have ek : (y.kind == 1) = false := by simp [hk2]
            have ek2 : (y.kind == 2) = true := by simp [hk2]
            clear hk2
            go_wp2
            clear yx_0 ax_0 d0 d1 d2 d3
            have k14_1 : (wr.alloc (.cells #[.int .i64 y.kind, .int .i64 y.tx, .slice B1 y.locks.length e1, .slice B2 y.writes.length e2] 36)).drew.cell? ⟨w8.heap.size, 0, none⟩ = some (.slice Ay ys.length cy) ∧ (wr.alloc (.cells #[.int .i64 y.kind, .int .i64 y.tx, .slice B1 y.locks.length e1, .slice B2 y.writes.length e2] 36)).drew.cell? ⟨w1.heap.size, 0, none⟩ = some (.slice (some ⟨b, off, none⟩) x.notes.length c1) ∧ (wr.alloc (.cells #[.int .i64 y.kind, .int .i64 y.tx, .slice B1 y.locks.length e1, .slice B2 y.writes.length e2] 36)).drew.cell? ⟨b, off + k * 4, none⟩ = some (.int .i64 y.kind) ∧ (wr.alloc (.cells #[.int .i64 y.kind, .int .i64 y.tx, .slice B1 y.locks.length e1, .slice B2 y.writes.length e2] 36)).drew.cell? ⟨b, off + k * 4 + 1, none⟩ = some (.int .i64 y.tx) ∧ (wr.alloc (.cells #[.int .i64 y.kind, .int .i64 y.tx, .slice B1 y.locks.length e1, .slice B2 y.writes.length e2] 36)).drew.cell? ⟨b, off + k * 4 + 2, none⟩ = some (.slice B1 y.locks.length e1) ∧ (wr.alloc (.cells #[.int .i64 y.kind, .int .i64 y.tx, .slice B1 y.locks.length e1, .slice B2 y.writes.length e2] 36)).drew.cell? ⟨b, off + k * 4 + 3, none⟩ = some (.slice B2 y.writes.length e2) := by
              have hb := (show Below wr.drew.heap.size wr.drew (wr.alloc (.cells #[.int .i64 y.kind, .int .i64 y.tx, .slice B1 y.locks.length e1, .slice B2 y.writes.length e2] 36)).drew from belowOne wr.drew (.cells #[.int .i64 y.kind, .int .i64 y.tx, .slice B1 y.locks.length e1, .slice B2 y.writes.length e2] 36))
              exact ⟨cellUnder hb k14_0.1, cellUnder hb k14_0.2.1, cellUnder hb k14_0.2.2.1, cellUnder hb k14_0.2.2.2.1, cellUnder hb k14_0.2.2.2.2.1, cellUnder hb k14_0.2.2.2.2.2⟩
            have HBl := Lib.hid (show Below wr.heap.size wr (wr.alloc (.cells #[.int .i64 y.kind, .int .i64 y.tx, .slice B1 y.locks.length e1, .slice B2 y.writes.length e2] 36)).drew from ((Below.refl _ wr).drew).trans (show Below wr.heap.size wr.drew (wr.alloc (.cells #[.int .i64 y.kind, .int .i64 y.tx, .slice B1 y.locks.length e1, .slice B2 y.writes.length e2] 36)).drew from belowOne wr.drew (.cells #[.int .i64 y.kind, .int .i64 y.tx, .slice B1 y.locks.length e1, .slice B2 y.writes.length e2] 36)))
            have HSl := Lib.hid (show noteSh.Shal 36 (wr.alloc (.cells #[.int .i64 y.kind, .int .i64 y.tx, .slice B1 y.locks.length e1, .slice B2 y.writes.length e2] 36)).drew w8.heap.size (.slice Ay ys.length cy) ys from HF.out.row.below HBl.out (by have := HF.out.size; omega))
            have HRz := Lib.hid (show noteSh.rel (wr.alloc (.cells #[.int .i64 y.kind, .int .i64 y.tx, .slice B1 y.locks.length e1, .slice B2 y.writes.length e2] 36)).drew w8.heap.size [.int .i64 y.kind, .int .i64 y.tx, .slice B1 y.locks.length e1, .slice B2 y.writes.length e2] y from noteSh.rbelow HRy.out (HBl.out.mono (by have := HF.out.size; omega)))
            have HLt := Lib.hid (show Held (wr.alloc (.cells #[.int .i64 y.kind, .int .i64 y.tx, .slice B1 y.locks.length e1, .slice B2 y.writes.length e2] 36)).drew wr.heap.size [.int .i64 y.kind, .int .i64 y.tx, .slice B1 y.locks.length e1, .slice B2 y.writes.length e2] from LIT.out)
            have hzz : w8.heap.size < wr.heap.size := HF.out.size
            have hw1q : w1.heap.size < w8.heap.size := by have z0 := HZ0.out; have z1 := HZ1.out; have z3 := HZ3.out; have z4 := HZ4.out; have z5 := HZ5.out; have z6 := HZ6.out; have z7 := HZ7.out; have z9 := HZ9.out; have zl := HZl.out; omega
            refine region_l (S := (fun w' => w'.cell? ⟨w8.heap.size, 0, none⟩ = some (.slice Ay ys.length cy) ∧ w'.cell? ⟨w1.heap.size, 0, none⟩ = some (.slice (some ⟨b, off, none⟩) x.notes.length c1) ∧ w'.cell? ⟨b, off + k * 4, none⟩ = some (.int .i64 y.kind) ∧ w'.cell? ⟨b, off + k * 4 + 1, none⟩ = some (.int .i64 y.tx) ∧ w'.cell? ⟨b, off + k * 4 + 2, none⟩ = some (.slice B1 y.locks.length e1) ∧ w'.cell? ⟨b, off + k * 4 + 3, none⟩ = some (.slice B2 y.writes.length e2))) 10 (by kernel_rfl) ?hSbx (fun hHeldbx => ?stbx)
            case hSbx => (first | (dsimp only; (first | with_reducible exact k14_2 | with_reducible exact k14_1 | exact k14_0)) | (first | with_reducible exact k14_2 | with_reducible exact k14_1 | exact k14_0))
            refine take_l 0 55 (v := ?vbx_1) rfl rfl (by kernel_rfl) (by kernel_rfl) (by kernel_rfl) (by kernel_rfl) (fun _ _ _ h => h) (by rfl) ?ybx_1 (by assumption) ?rbx_1
            case ybx_1 => (intro w hSw; (try dsimp only at hSw); go_simp; (try with_reducible rfl))
            simp only [Act.put, List.setIfInBounds_toArray, List.set_cons_zero, List.set_cons_succ]
            refine take_l 1 56 (v := ?vbx_2) rfl rfl (by kernel_rfl) (by kernel_rfl) (by kernel_rfl) (by kernel_rfl) (fun _ _ _ h => h) (by rfl) ?ybx_2 (by assumption) ?rbx_2
            case ybx_2 => (intro w hSw; (try dsimp only at hSw); go_simp; (try with_reducible rfl))
            simp only [Act.put, List.setIfInBounds_toArray, List.set_cons_zero, List.set_cons_succ]
            refine take_l 2 57 (v := ?vbx_3) rfl rfl (by kernel_rfl) (by kernel_rfl) (by kernel_rfl) (by kernel_rfl) (fun _ _ _ h => h) (by rfl) ?ybx_3 (by assumption) ?rbx_3
            case ybx_3 => (intro w hSw; (try dsimp only at hSw); go_simp; (try with_reducible rfl))
            simp only [Act.put, List.setIfInBounds_toArray, List.set_cons_zero, List.set_cons_succ]
            refine take_l 3 58 (v := ?vbx_4) rfl rfl (by kernel_rfl) (by kernel_rfl) (by kernel_rfl) (by kernel_rfl) (fun _ _ _ h => h) (by rfl) ?ybx_4 (by assumption) ?rbx_4
            case ybx_4 => (intro w hSw; (try dsimp only at hSw); go_simp; (try with_reducible rfl))
            simp only [Act.put, List.setIfInBounds_toArray, List.set_cons_zero, List.set_cons_succ]
            refine take_l 4 59 (v := ?vbx_5) rfl rfl (by kernel_rfl) (by kernel_rfl) (by kernel_rfl) (by kernel_rfl) (fun _ _ _ h => h) (by rfl) ?ybx_5 (by assumption) ?rbx_5
            case ybx_5 => (intro w hSw; (try dsimp only at hSw); go_simp; (try with_reducible rfl))
            simp only [Act.put, List.setIfInBounds_toArray, List.set_cons_zero, List.set_cons_succ]
            refine take_l 5 60 (v := ?vbx_6) rfl rfl (by kernel_rfl) (by kernel_rfl) (by kernel_rfl) (by kernel_rfl) (fun _ _ _ h => h) (by rfl) ?ybx_6 (by assumption) ?rbx_6
            case ybx_6 => (intro w hSw; (try dsimp only at hSw); go_simp; (try with_reducible rfl))
            simp only [Act.put, List.setIfInBounds_toArray, List.set_cons_zero, List.set_cons_succ]
            refine take_l 6 61 (v := ?vbx_7) rfl rfl (by kernel_rfl) (by kernel_rfl) (by kernel_rfl) (by kernel_rfl) (fun _ _ _ h => h) (by rfl) ?ybx_7 (by assumption) ?rbx_7
            case ybx_7 => (intro w hSw; (try dsimp only at hSw); go_simp; (try with_reducible rfl))
            simp only [Act.put, List.setIfInBounds_toArray, List.set_cons_zero, List.set_cons_succ]
            refine one_l 7 rfl (by kernel_rfl) (fun Kbx_8 hKbx_8 => ?cbx_8)
            go_simp
            skip
            go_wp2_with fail
            refine hKbx_8.out _ _ ?kbx_8 (fun hHoldbx_8 => ?dbx_8)
            case kbx_8 => (intro _; (first | (dsimp only; (first | with_reducible exact k14_2 | with_reducible exact k14_1 | exact k14_0)) | (first | with_reducible exact k14_2 | with_reducible exact k14_1 | exact k14_0)))
            clear hKbx_8 Kbx_8
            have hHeldbx_8 := hHoldbx_8 (by decide)
            clear hHoldbx_8
            refine one_l 8 rfl (by kernel_rfl) (fun Kbx_9 hKbx_9 => ?cbx_9)
            rw [if_pos (by rfl)]
            refine shal1_at noteSh 23 36 _ 64 Try.underlying23 infoNoteA rfl (by decide) (by omega) (.tmp 56) (.tmp 62) rfl w8.heap.size (.slice Ay ys.length cy) ys rfl HSl.out (by show _ ≤ (wr.alloc (.cells #[.int .i64 y.kind, .int .i64 y.tx, .slice B1 y.locks.length e1, .slice B2 y.writes.length e2] 36)).drew.heap.size; have e : (wr.alloc (.cells #[.int .i64 y.kind, .int .i64 y.tx, .slice B1 y.locks.length e1, .slice B2 y.writes.length e2] 36)).drew.heap.size = wr.heap.size + 1 := allocSize _ _; omega) wr.heap.size 1 rfl y _ HRz.out (fun j u hu => HLt.out.of j u hu) (by omega) ?_; intro v3 w3 hs3 hg3 ho3; obtain ⟨A3, c3, hf3⟩ := shalForm hs3; subst hf3; have hput := HF.out.put HBl.out hs3 hg3 ho3; have HP := Lib.hid hput; have hbq := HP.out.2.1; have k14_2 := And.intro (HP.out.1.of 0 _ rfl) (And.intro ((hbq.cell (p := ⟨w1.heap.size, 0, none⟩) hw1q).trans k14_0.2.1) (And.intro ((hbq.cell (p := ⟨b, off + k * 4, none⟩) hbB).trans k14_0.2.2.1) (And.intro ((hbq.cell (p := ⟨b, off + k * 4 + 1, none⟩) hbB).trans k14_0.2.2.2.1) (And.intro ((hbq.cell (p := ⟨b, off + k * 4 + 2, none⟩) hbB).trans k14_0.2.2.2.2.1) ((hbq.cell (p := ⟨b, off + k * 4 + 3, none⟩) hbB).trans k14_0.2.2.2.2.2))))); have pf := HP.out.1.2.1 0; clear hs3 hg3 ho3 hput
            refine hKbx_9.out _ _ ?kbx_9 (fun hHoldbx_9 => ?dbx_9)
            case kbx_9 => (intro _; (first | (dsimp only; (first | with_reducible exact k14_2 | with_reducible exact k14_1 | exact k14_0)) | (first | with_reducible exact k14_2 | with_reducible exact k14_1 | exact k14_0)))
            clear hKbx_9 Kbx_9
            have hHeldbx_9 := hHoldbx_9 (by decide)
            clear hHoldbx_9
            refine take_l 9 64 (v := ?vbx_10) rfl rfl (by kernel_rfl) (by kernel_rfl) (by kernel_rfl) (by kernel_rfl) (fun _ _ _ h => h) (by rfl) ?ybx_10 (by assumption) ?rbx_10
            case ybx_10 => (intro w hSw; (try dsimp only at hSw); go_simp; (try with_reducible rfl))
            simp only [Act.put, List.setIfInBounds_toArray]
            refine one_l 10 rfl (by kernel_rfl) (fun Kbx_11 hKbx_11 => ?cbx_11)
            go_simp
            skip
            go_wp2_with fail
            refine hKbx_11.out _ _ ?kbx_11 (fun hHoldbx_11 => ?dbx_11)
            case kbx_11 => exact fun h => absurd rfl h
            clear hKbx_11 Kbx_11
            clear hHoldbx_11
            refine done_l (by kernel_rfl) ?ebx _
            go_wp2
            go_roundw
            case rel => exact ⟨k + 1, A3, c3, by omega, by go_num, by rw [HFy.out]; have h9 := HP.out.2.2; rw [List.length_append, List.length_singleton] at h9; exact h9⟩
            case measure => simp [intOf]; omega
        · have hcy : countsB y = false := by unfold countsB; simp; omega
          have HFy := Lib.hid (filter_no HYy.out hcy)
          have ek : (y.kind == 1) = false := by simp; omega
          have ek2 : (y.kind == 2) = false := by simp; omega
          clear hco
          go_wp2
          go_roundw
          case rel => exact ⟨k + 1, Ay, cy, by omega, by go_num, by rw [HFy.out]; exact HF.out⟩
          case measure => simp [intOf]; omega
      have hks : k = x.notes.length := by omega
      subst hks
      rw [List.take_length] at HF
      have HRy := Lib.hid (diskRel (HF.out.row.row (by have := HF.out.size; omega)))
      have HYy := Lib.hid HF.out.box
      have HDy := Lib.hid (show foldD ⟨x.notes.filter countsB, 0⟩ = R.items from (foldD_counts hdx).trans HRR.out)
      obtain ⟨Aq, cq, eq1, hq2, hq1⟩ := HLw.out.form
      injection eq1 with eqA eqB eqC
      subst eqC
      unfold maxLen at hq2
      obtain ⟨hh, hhe⟩ : ∃ hh : Nat, x.notes.length / 2 = hh := ⟨_, rfl⟩
      have hhi : (x.notes.length : Int) / 2 = (hh : Int) := by omega
      have hhl : hh ≤ x.notes.length := by omega
      have f0 : (0 : Int) ≤ (hh : Int) := by omega
      have f1 : (hh : Int) ≤ (c1 : Int) := by omega
      clear hhe eqA eqB hk hlt
      have axt := HXx.out.of 0 _ rfl
      go_wp2
      clear axt
      have HYb := HYy
      have HRf := Lib.hid (show diskSh.rel wr wr.heap.size [.slice Ay (x.notes.filter countsB).length cy, .int .i64 0] ⟨x.notes.filter countsB, 0⟩ from disk_rel.2 ⟨_, rfl, HF.out.row.row (by have := HF.out.size; omega)⟩)
      have HRh := Lib.hid (show diskSh.rel wr w8.heap.size [.slice A1 hh c1, .int .i64 0] ⟨x.notes.take hh, 0⟩ from disk_rel.2 ⟨_, rfl, Sh.Row.take HLw.out rfl hhl⟩)
      obtain ⟨T, hT⟩ : ∃ T : Sto, foldD ⟨x.notes.take hh, 0⟩ = T.items := ⟨⟨_⟩, rfl⟩
      have HTT := Lib.hid hT
      have HTs := Lib.hid (show stoB T.items = true from hT ▸ foldD_sto _)
      clear hT HF HRy HYy HLw
      have hal := belowOne wr (.cells #[.slice A1 hh c1, .int .i64 0] 25)
      replace HB := Lib.hid (belowNext HB.out hal)
      replace HXx := Lib.hid (HXx.out.below hal HXx.out.1)
      replace HSs := Lib.hid (HSs.out.below hal HSs.out.1)
      replace HYb := Lib.hid (HYb.out.below hal HYb.out.1)
      replace HRx := Lib.hid (rel_call HRx.out hal (by have z0 := HZ0.out; have z1 := HZ1.out; have z3 := HZ3.out; have z4 := HZ4.out; have z5 := HZ5.out; have z6 := HZ6.out; have z7 := HZ7.out; have z9 := HZ9.out; have zl := HZl.out; omega))
      replace HRs := Lib.hid (rel_call HRs.out hal (by have z0 := HZ0.out; have z1 := HZ1.out; have z3 := HZ3.out; have z4 := HZ4.out; have z5 := HZ5.out; have z6 := HZ6.out; have z7 := HZ7.out; have z9 := HZ9.out; have zl := HZl.out; omega))
      replace HRf := Lib.hid (rel_call HRf.out hal (by have z0 := HZ0.out; have z1 := HZ1.out; have z3 := HZ3.out; have z4 := HZ4.out; have z5 := HZ5.out; have z6 := HZ6.out; have z7 := HZ7.out; have z9 := HZ9.out; have zl := HZl.out; omega))
      replace HRh := Lib.hid (rel_call HRh.out hal (by have z0 := HZ0.out; have z1 := HZ1.out; have z3 := HZ3.out; have z4 := HZ4.out; have z5 := HZ5.out; have z6 := HZ6.out; have z7 := HZ7.out; have z9 := HZ9.out; have zl := HZl.out; omega))
      have HZ12 := Lib.hid (allocSize wr (.cells #[.slice A1 hh c1, .int .i64 0] 25))
      clear hal
      have HHh := Lib.hid (Held.new wr #[.slice A1 hh c1, .int .i64 0] 25)
      have kqx_0 : (wr.alloc (.cells #[.slice A1 hh c1, .int .i64 0] 25)).drew.cell? ⟨w8.heap.size, 0, none⟩ = some (.slice Ay (x.notes.filter countsB).length cy) ∧ (wr.alloc (.cells #[.slice A1 hh c1, .int .i64 0] 25)).drew.cell? ⟨w8.heap.size, 1, none⟩ = some (.int .i64 0) ∧ (wr.alloc (.cells #[.slice A1 hh c1, .int .i64 0] 25)).drew.cell? ⟨w2.heap.size, 0, none⟩ = some (.slice As R.items.length cs0) ∧ (wr.alloc (.cells #[.slice A1 hh c1, .int .i64 0] 25)).drew.cell? ⟨wr.heap.size, 0, none⟩ = some (.slice A1 hh c1) ∧ (wr.alloc (.cells #[.slice A1 hh c1, .int .i64 0] 25)).drew.cell? ⟨wr.heap.size, 1, none⟩ = some (.int .i64 0) := (And.intro (HYb.out.of 0 _ rfl) (And.intro (HYb.out.of 1 _ rfl) (And.intro (HSs.out.of 0 _ rfl) (And.intro (HHh.out.of 0 _ rfl) (HHh.out.of 1 _ rfl)))))
      go_wp2
      have hdr := (Below.refl (wr.alloc (.cells #[.slice A1 hh c1, .int .i64 0] 25)).heap.size (wr.alloc (.cells #[.slice A1 hh c1, .int .i64 0] 25))).drew
      replace HB := Lib.hid (belowNext HB.out hdr)
      replace HXx := Lib.hid (HXx.out.below hdr HXx.out.1)
      replace HSs := Lib.hid (HSs.out.below hdr HSs.out.1)
      replace HYb := Lib.hid (HYb.out.below hdr HYb.out.1)
      replace HHh := Lib.hid (HHh.out.below hdr HHh.out.1)
      replace HRx := Lib.hid (rel_call HRx.out hdr (by have z0 := HZ0.out; have z1 := HZ1.out; have z3 := HZ3.out; have z4 := HZ4.out; have z5 := HZ5.out; have z6 := HZ6.out; have z7 := HZ7.out; have z9 := HZ9.out; have zl := HZl.out; have z12 := HZ12.out; omega))
      replace HRs := Lib.hid (rel_call HRs.out hdr (by have z0 := HZ0.out; have z1 := HZ1.out; have z3 := HZ3.out; have z4 := HZ4.out; have z5 := HZ5.out; have z6 := HZ6.out; have z7 := HZ7.out; have z9 := HZ9.out; have zl := HZl.out; have z12 := HZ12.out; omega))
      replace HRf := Lib.hid (rel_call HRf.out hdr (by have z0 := HZ0.out; have z1 := HZ1.out; have z3 := HZ3.out; have z4 := HZ4.out; have z5 := HZ5.out; have z6 := HZ6.out; have z7 := HZ7.out; have z9 := HZ9.out; have zl := HZl.out; have z12 := HZ12.out; omega))
      replace HRh := Lib.hid (rel_call HRh.out hdr (by have z0 := HZ0.out; have z1 := HZ1.out; have z3 := HZ3.out; have z4 := HZ4.out; have z5 := HZ5.out; have z6 := HZ6.out; have z7 := HZ7.out; have z9 := HZ9.out; have zl := HZl.out; have z12 := HZ12.out; omega))
      have HZ13 := Lib.hid hdr.size
      clear hdr
      refine wp_region_held_drew (S := (fun w' => w'.cell? ⟨w8.heap.size, 0, none⟩ = some (.slice Ay (x.notes.filter countsB).length cy) ∧ w'.cell? ⟨w8.heap.size, 1, none⟩ = some (.int .i64 0) ∧ w'.cell? ⟨w2.heap.size, 0, none⟩ = some (.slice As R.items.length cs0) ∧ w'.cell? ⟨wr.heap.size, 0, none⟩ = some (.slice A1 hh c1) ∧ w'.cell? ⟨wr.heap.size, 1, none⟩ = some (.int .i64 0))) (by kernel_rfl) ?hSqx (fun hHeldqx => ?stqx)
      case hSqx => (first | (dsimp only; (first | with_reducible exact kqx_6 | with_reducible exact kqx_5 | with_reducible exact kqx_4 | with_reducible exact kqx_3 | with_reducible exact kqx_2 | with_reducible exact kqx_1 | exact kqx_0)) | (first | with_reducible exact kqx_6 | with_reducible exact kqx_5 | with_reducible exact kqx_4 | with_reducible exact kqx_3 | with_reducible exact kqx_2 | with_reducible exact kqx_1 | exact kqx_0))
      refine take_first 0 74 (v := ?vqx_1) rfl rfl (by kernel_rfl) (by kernel_rfl) (by kernel_rfl) (fun _ _ _ h => h) (by rfl) ?yqx_1 (by assumption) ?rqx_1
      case yqx_1 => (intro w hSw; (try dsimp only at hSw); go_simp; (try with_reducible rfl))
      simp only [Act.put, List.setIfInBounds_toArray, List.set_cons_zero, List.set_cons_succ]
      refine take_first 2 76 (v := ?vqx_2) rfl rfl (by kernel_rfl) (by kernel_rfl) (by kernel_rfl) (fun _ _ _ h => h) (by rfl) ?yqx_2 (by assumption) ?rqx_2
      case yqx_2 => (intro w hSw; (try dsimp only at hSw); go_simp; (try with_reducible rfl))
      simp only [Act.put, List.setIfInBounds_toArray, List.set_cons_zero, List.set_cons_succ]
      refine wpAnyH_ready (rs := [1]) (by kernel_rfl) (by simp) ?_
      refine AllReadyH.cons (o := _) rfl (fun Kqx_3 hKqx_3 => ?cqx_3) ?mqx_3
      case mqx_3 => exact AllReadyH.nil
      go_simp
      refine (implFold_got _ _ ⟨x.notes.filter countsB, 0⟩ (diskSh.rmore HRf.out (by have z0 := HZ0.out; have z1 := HZ1.out; have z3 := HZ3.out; have z4 := HZ4.out; have z5 := HZ5.out; have z6 := HZ6.out; have z7 := HZ7.out; have z9 := HZ9.out; have zl := HZl.out; have z12 := HZ12.out; have z13 := HZ13.out; omega)) HDy.out).mono ?_; rintro e wrfa ⟨Afa, cfa, rfl, ho, hb⟩; replace HB := Lib.hid (belowNext HB.out hb); replace HXx := Lib.hid (HXx.out.below hb HXx.out.1); replace HSs := Lib.hid (HSs.out.below hb HSs.out.1); replace HYb := Lib.hid (HYb.out.below hb HYb.out.1); replace HHh := Lib.hid (HHh.out.below hb HHh.out.1); replace HRx := Lib.hid (rel_call HRx.out hb (by have z0 := HZ0.out; have z1 := HZ1.out; have z3 := HZ3.out; have z4 := HZ4.out; have z5 := HZ5.out; have z6 := HZ6.out; have z7 := HZ7.out; have z9 := HZ9.out; have zl := HZl.out; have z12 := HZ12.out; have z13 := HZ13.out; omega)); replace HRs := Lib.hid (rel_call HRs.out hb (by have z0 := HZ0.out; have z1 := HZ1.out; have z3 := HZ3.out; have z4 := HZ4.out; have z5 := HZ5.out; have z6 := HZ6.out; have z7 := HZ7.out; have z9 := HZ9.out; have zl := HZl.out; have z12 := HZ12.out; have z13 := HZ13.out; omega)); replace HRf := Lib.hid (rel_call HRf.out hb (by have z0 := HZ0.out; have z1 := HZ1.out; have z3 := HZ3.out; have z4 := HZ4.out; have z5 := HZ5.out; have z6 := HZ6.out; have z7 := HZ7.out; have z9 := HZ9.out; have zl := HZl.out; have z12 := HZ12.out; have z13 := HZ13.out; omega)); replace HRh := Lib.hid (rel_call HRh.out hb (by have z0 := HZ0.out; have z1 := HZ1.out; have z3 := HZ3.out; have z4 := HZ4.out; have z5 := HZ5.out; have z6 := HZ6.out; have z7 := HZ7.out; have z9 := HZ9.out; have zl := HZl.out; have z12 := HZ12.out; have z13 := HZ13.out; omega)); have HZ14 := Lib.hid hb.size; clear hb; have HFfa := Lib.hid ho; clear ho; have kqx_1 := (And.intro (HYb.out.of 0 _ rfl) (And.intro (HYb.out.of 1 _ rfl) (And.intro (HSs.out.of 0 _ rfl) (And.intro (HHh.out.of 0 _ rfl) (HHh.out.of 1 _ rfl)))))
      go_wp2_with fail
      refine hKqx_3.out _ _ ?kqx_3 (fun hHeldqx_3 => ?dqx_3)
      case kqx_3 => (first | (dsimp only; (first | with_reducible exact kqx_6 | with_reducible exact kqx_5 | with_reducible exact kqx_4 | with_reducible exact kqx_3 | with_reducible exact kqx_2 | with_reducible exact kqx_1 | exact kqx_0)) | (first | with_reducible exact kqx_6 | with_reducible exact kqx_5 | with_reducible exact kqx_4 | with_reducible exact kqx_3 | with_reducible exact kqx_2 | with_reducible exact kqx_1 | exact kqx_0))
      clear hKqx_3 Kqx_3
      refine wpAnyH_ready (rs := [3]) (by kernel_rfl) (by simp) ?_
      refine AllReadyH.cons (o := _) rfl (fun Kqx_4 hKqx_4 => ?cqx_4) ?mqx_4
      case mqx_4 => exact AllReadyH.nil
      go_simp
      refine (jaSto_got _ _ _ _ _ R (stoSh.rmore HFfa.out (by have z0 := HZ0.out; have z1 := HZ1.out; have z3 := HZ3.out; have z4 := HZ4.out; have z5 := HZ5.out; have z6 := HZ6.out; have z7 := HZ7.out; have z9 := HZ9.out; have zl := HZl.out; have z12 := HZ12.out; have z13 := HZ13.out; have z14 := HZ14.out; omega)) (stoSh.rmore HRs.out (by have z0 := HZ0.out; have z1 := HZ1.out; have z3 := HZ3.out; have z4 := HZ4.out; have z5 := HZ5.out; have z6 := HZ6.out; have z7 := HZ7.out; have z9 := HZ9.out; have zl := HZl.out; have z12 := HZ12.out; have z13 := HZ13.out; have z14 := HZ14.out; omega))).mono ?_; rintro e wja ⟨rfl, hb⟩; replace HB := Lib.hid (belowNext HB.out hb); replace HXx := Lib.hid (HXx.out.below hb HXx.out.1); replace HSs := Lib.hid (HSs.out.below hb HSs.out.1); replace HYb := Lib.hid (HYb.out.below hb HYb.out.1); replace HHh := Lib.hid (HHh.out.below hb HHh.out.1); replace HRx := Lib.hid (rel_call HRx.out hb (by have z0 := HZ0.out; have z1 := HZ1.out; have z3 := HZ3.out; have z4 := HZ4.out; have z5 := HZ5.out; have z6 := HZ6.out; have z7 := HZ7.out; have z9 := HZ9.out; have zl := HZl.out; have z12 := HZ12.out; have z13 := HZ13.out; have z14 := HZ14.out; omega)); replace HRs := Lib.hid (rel_call HRs.out hb (by have z0 := HZ0.out; have z1 := HZ1.out; have z3 := HZ3.out; have z4 := HZ4.out; have z5 := HZ5.out; have z6 := HZ6.out; have z7 := HZ7.out; have z9 := HZ9.out; have zl := HZl.out; have z12 := HZ12.out; have z13 := HZ13.out; have z14 := HZ14.out; omega)); replace HRf := Lib.hid (rel_call HRf.out hb (by have z0 := HZ0.out; have z1 := HZ1.out; have z3 := HZ3.out; have z4 := HZ4.out; have z5 := HZ5.out; have z6 := HZ6.out; have z7 := HZ7.out; have z9 := HZ9.out; have zl := HZl.out; have z12 := HZ12.out; have z13 := HZ13.out; have z14 := HZ14.out; omega)); replace HRh := Lib.hid (rel_call HRh.out hb (by have z0 := HZ0.out; have z1 := HZ1.out; have z3 := HZ3.out; have z4 := HZ4.out; have z5 := HZ5.out; have z6 := HZ6.out; have z7 := HZ7.out; have z9 := HZ9.out; have zl := HZl.out; have z12 := HZ12.out; have z13 := HZ13.out; have z14 := HZ14.out; omega)); replace HFfa := Lib.hid (rel_call HFfa.out hb (by have z0 := HZ0.out; have z1 := HZ1.out; have z3 := HZ3.out; have z4 := HZ4.out; have z5 := HZ5.out; have z6 := HZ6.out; have z7 := HZ7.out; have z9 := HZ9.out; have zl := HZl.out; have z12 := HZ12.out; have z13 := HZ13.out; have z14 := HZ14.out; omega)); have HZ15 := Lib.hid hb.size; clear hb; have kqx_2 := (And.intro (HYb.out.of 0 _ rfl) (And.intro (HYb.out.of 1 _ rfl) (And.intro (HSs.out.of 0 _ rfl) (And.intro (HHh.out.of 0 _ rfl) (HHh.out.of 1 _ rfl)))))
      go_wp2_with fail
      refine hKqx_4.out _ _ ?kqx_4 (fun hHeldqx_4 => ?dqx_4)
      case kqx_4 => (first | (dsimp only; (first | with_reducible exact kqx_6 | with_reducible exact kqx_5 | with_reducible exact kqx_4 | with_reducible exact kqx_3 | with_reducible exact kqx_2 | with_reducible exact kqx_1 | exact kqx_0)) | (first | with_reducible exact kqx_6 | with_reducible exact kqx_5 | with_reducible exact kqx_4 | with_reducible exact kqx_3 | with_reducible exact kqx_2 | with_reducible exact kqx_1 | exact kqx_0))
      clear hKqx_4 Kqx_4
      refine take_first 4 78 (v := ?vqx_5) rfl rfl (by kernel_rfl) (by kernel_rfl) (by kernel_rfl) (fun _ _ _ h => h) (by rfl) ?yqx_5 (by assumption) ?rqx_5
      case yqx_5 => (intro w hSw; (try dsimp only at hSw); go_simp; (try with_reducible rfl))
      simp only [Act.put, List.setIfInBounds_toArray, List.set_cons_zero, List.set_cons_succ]
      refine take_first 5 79 (v := ?vqx_6) rfl rfl (by kernel_rfl) (by kernel_rfl) (by kernel_rfl) (fun _ _ _ h => h) (by rfl) ?yqx_6 (by assumption) ?rqx_6
      case yqx_6 => (intro w hSw; (try dsimp only at hSw); go_simp; (try with_reducible rfl))
      simp only [Act.put, List.setIfInBounds_toArray, List.set_cons_zero, List.set_cons_succ]
      refine wpAnyH_ready (rs := [6]) (by kernel_rfl) (by simp) ?_
      refine AllReadyH.cons (o := _) rfl (fun Kqx_7 hKqx_7 => ?cqx_7) ?mqx_7
      case mqx_7 => exact AllReadyH.nil
      go_simp
      refine (stoOk_got _ _ _ R (stoSh.rmore HRs.out (by have z0 := HZ0.out; have z1 := HZ1.out; have z3 := HZ3.out; have z4 := HZ4.out; have z5 := HZ5.out; have z6 := HZ6.out; have z7 := HZ7.out; have z9 := HZ9.out; have zl := HZl.out; have z12 := HZ12.out; have z13 := HZ13.out; have z14 := HZ14.out; have z15 := HZ15.out; omega))).mono ?_; rintro e woa ⟨rfl, hb⟩; rw [HSt.out]; replace HB := Lib.hid (belowNext HB.out hb); replace HXx := Lib.hid (HXx.out.below hb HXx.out.1); replace HSs := Lib.hid (HSs.out.below hb HSs.out.1); replace HYb := Lib.hid (HYb.out.below hb HYb.out.1); replace HHh := Lib.hid (HHh.out.below hb HHh.out.1); replace HRx := Lib.hid (rel_call HRx.out hb (by have z0 := HZ0.out; have z1 := HZ1.out; have z3 := HZ3.out; have z4 := HZ4.out; have z5 := HZ5.out; have z6 := HZ6.out; have z7 := HZ7.out; have z9 := HZ9.out; have zl := HZl.out; have z12 := HZ12.out; have z13 := HZ13.out; have z14 := HZ14.out; have z15 := HZ15.out; omega)); replace HRs := Lib.hid (rel_call HRs.out hb (by have z0 := HZ0.out; have z1 := HZ1.out; have z3 := HZ3.out; have z4 := HZ4.out; have z5 := HZ5.out; have z6 := HZ6.out; have z7 := HZ7.out; have z9 := HZ9.out; have zl := HZl.out; have z12 := HZ12.out; have z13 := HZ13.out; have z14 := HZ14.out; have z15 := HZ15.out; omega)); replace HRf := Lib.hid (rel_call HRf.out hb (by have z0 := HZ0.out; have z1 := HZ1.out; have z3 := HZ3.out; have z4 := HZ4.out; have z5 := HZ5.out; have z6 := HZ6.out; have z7 := HZ7.out; have z9 := HZ9.out; have zl := HZl.out; have z12 := HZ12.out; have z13 := HZ13.out; have z14 := HZ14.out; have z15 := HZ15.out; omega)); replace HRh := Lib.hid (rel_call HRh.out hb (by have z0 := HZ0.out; have z1 := HZ1.out; have z3 := HZ3.out; have z4 := HZ4.out; have z5 := HZ5.out; have z6 := HZ6.out; have z7 := HZ7.out; have z9 := HZ9.out; have zl := HZl.out; have z12 := HZ12.out; have z13 := HZ13.out; have z14 := HZ14.out; have z15 := HZ15.out; omega)); replace HFfa := Lib.hid (rel_call HFfa.out hb (by have z0 := HZ0.out; have z1 := HZ1.out; have z3 := HZ3.out; have z4 := HZ4.out; have z5 := HZ5.out; have z6 := HZ6.out; have z7 := HZ7.out; have z9 := HZ9.out; have zl := HZl.out; have z12 := HZ12.out; have z13 := HZ13.out; have z14 := HZ14.out; have z15 := HZ15.out; omega)); have HZ16 := Lib.hid hb.size; clear hb; have kqx_3 := (And.intro (HYb.out.of 0 _ rfl) (And.intro (HYb.out.of 1 _ rfl) (And.intro (HSs.out.of 0 _ rfl) (And.intro (HHh.out.of 0 _ rfl) (HHh.out.of 1 _ rfl)))))
      go_wp2_with fail
      refine hKqx_7.out _ _ ?kqx_7 (fun hHeldqx_7 => ?dqx_7)
      case kqx_7 => (first | (dsimp only; (first | with_reducible exact kqx_6 | with_reducible exact kqx_5 | with_reducible exact kqx_4 | with_reducible exact kqx_3 | with_reducible exact kqx_2 | with_reducible exact kqx_1 | exact kqx_0)) | (first | with_reducible exact kqx_6 | with_reducible exact kqx_5 | with_reducible exact kqx_4 | with_reducible exact kqx_3 | with_reducible exact kqx_2 | with_reducible exact kqx_1 | exact kqx_0))
      clear hKqx_7 Kqx_7
      refine take_first 7 81 (v := ?vqx_8) rfl rfl (by kernel_rfl) (by kernel_rfl) (by kernel_rfl) (fun _ _ _ h => h) (by rfl) ?yqx_8 (by assumption) ?rqx_8
      case yqx_8 => (intro w hSw; (try dsimp only at hSw); go_simp; (try with_reducible rfl))
      simp only [Act.put, List.setIfInBounds_toArray, List.set_cons_zero, List.set_cons_succ]
      refine take_first 8 82 (v := ?vqx_9) rfl rfl (by kernel_rfl) (by kernel_rfl) (by kernel_rfl) (fun _ _ _ h => h) (by rfl) ?yqx_9 (by assumption) ?rqx_9
      case yqx_9 => (intro w hSw; (try dsimp only at hSw); go_simp; (try with_reducible rfl))
      simp only [Act.put, List.setIfInBounds_toArray, List.set_cons_zero, List.set_cons_succ]
      refine take_first 9 83 (v := ?vqx_10) rfl rfl (by kernel_rfl) (by kernel_rfl) (by kernel_rfl) (fun _ _ _ h => h) (by rfl) ?yqx_10 (by assumption) ?rqx_10
      case yqx_10 => (intro w hSw; (try dsimp only at hSw); go_simp; (try with_reducible rfl))
      simp only [Act.put, List.setIfInBounds_toArray, List.set_cons_zero, List.set_cons_succ]
      refine wpAnyH_ready (rs := [10]) (by kernel_rfl) (by simp) ?_
      refine AllReadyH.cons (o := _) rfl (fun Kqx_11 hKqx_11 => ?cqx_11) ?mqx_11
      case mqx_11 => exact AllReadyH.nil
      go_simp
      refine (implFold_got _ _ ⟨x.notes.take hh, 0⟩ (diskSh.rmore HRh.out (by have z0 := HZ0.out; have z1 := HZ1.out; have z3 := HZ3.out; have z4 := HZ4.out; have z5 := HZ5.out; have z6 := HZ6.out; have z7 := HZ7.out; have z9 := HZ9.out; have zl := HZl.out; have z12 := HZ12.out; have z13 := HZ13.out; have z14 := HZ14.out; have z15 := HZ15.out; have z16 := HZ16.out; omega)) HTT.out).mono ?_; rintro e wrfb ⟨Afb, cfb, rfl, ho, hb⟩; replace HB := Lib.hid (belowNext HB.out hb); replace HXx := Lib.hid (HXx.out.below hb HXx.out.1); replace HSs := Lib.hid (HSs.out.below hb HSs.out.1); replace HYb := Lib.hid (HYb.out.below hb HYb.out.1); replace HHh := Lib.hid (HHh.out.below hb HHh.out.1); replace HRx := Lib.hid (rel_call HRx.out hb (by have z0 := HZ0.out; have z1 := HZ1.out; have z3 := HZ3.out; have z4 := HZ4.out; have z5 := HZ5.out; have z6 := HZ6.out; have z7 := HZ7.out; have z9 := HZ9.out; have zl := HZl.out; have z12 := HZ12.out; have z13 := HZ13.out; have z14 := HZ14.out; have z15 := HZ15.out; have z16 := HZ16.out; omega)); replace HRs := Lib.hid (rel_call HRs.out hb (by have z0 := HZ0.out; have z1 := HZ1.out; have z3 := HZ3.out; have z4 := HZ4.out; have z5 := HZ5.out; have z6 := HZ6.out; have z7 := HZ7.out; have z9 := HZ9.out; have zl := HZl.out; have z12 := HZ12.out; have z13 := HZ13.out; have z14 := HZ14.out; have z15 := HZ15.out; have z16 := HZ16.out; omega)); replace HRf := Lib.hid (rel_call HRf.out hb (by have z0 := HZ0.out; have z1 := HZ1.out; have z3 := HZ3.out; have z4 := HZ4.out; have z5 := HZ5.out; have z6 := HZ6.out; have z7 := HZ7.out; have z9 := HZ9.out; have zl := HZl.out; have z12 := HZ12.out; have z13 := HZ13.out; have z14 := HZ14.out; have z15 := HZ15.out; have z16 := HZ16.out; omega)); replace HRh := Lib.hid (rel_call HRh.out hb (by have z0 := HZ0.out; have z1 := HZ1.out; have z3 := HZ3.out; have z4 := HZ4.out; have z5 := HZ5.out; have z6 := HZ6.out; have z7 := HZ7.out; have z9 := HZ9.out; have zl := HZl.out; have z12 := HZ12.out; have z13 := HZ13.out; have z14 := HZ14.out; have z15 := HZ15.out; have z16 := HZ16.out; omega)); replace HFfa := Lib.hid (rel_call HFfa.out hb (by have z0 := HZ0.out; have z1 := HZ1.out; have z3 := HZ3.out; have z4 := HZ4.out; have z5 := HZ5.out; have z6 := HZ6.out; have z7 := HZ7.out; have z9 := HZ9.out; have zl := HZl.out; have z12 := HZ12.out; have z13 := HZ13.out; have z14 := HZ14.out; have z15 := HZ15.out; have z16 := HZ16.out; omega)); have HZ17 := Lib.hid hb.size; clear hb; have HFfb := Lib.hid ho; clear ho; have kqx_4 := (And.intro (HYb.out.of 0 _ rfl) (And.intro (HYb.out.of 1 _ rfl) (And.intro (HSs.out.of 0 _ rfl) (And.intro (HHh.out.of 0 _ rfl) (HHh.out.of 1 _ rfl)))))
      go_wp2_with fail
      refine hKqx_11.out _ _ ?kqx_11 (fun hHeldqx_11 => ?dqx_11)
      case kqx_11 => (first | (dsimp only; (first | with_reducible exact kqx_6 | with_reducible exact kqx_5 | with_reducible exact kqx_4 | with_reducible exact kqx_3 | with_reducible exact kqx_2 | with_reducible exact kqx_1 | exact kqx_0)) | (first | with_reducible exact kqx_6 | with_reducible exact kqx_5 | with_reducible exact kqx_4 | with_reducible exact kqx_3 | with_reducible exact kqx_2 | with_reducible exact kqx_1 | exact kqx_0))
      clear hKqx_11 Kqx_11
      refine wpAnyH_ready (rs := [11]) (by kernel_rfl) (by simp) ?_
      refine AllReadyH.cons (o := _) rfl (fun Kqx_12 hKqx_12 => ?cqx_12) ?mqx_12
      case mqx_12 => exact AllReadyH.nil
      go_simp
      refine (stoOk_got _ _ _ T (stoSh.rmore HFfb.out (by have z0 := HZ0.out; have z1 := HZ1.out; have z3 := HZ3.out; have z4 := HZ4.out; have z5 := HZ5.out; have z6 := HZ6.out; have z7 := HZ7.out; have z9 := HZ9.out; have zl := HZl.out; have z12 := HZ12.out; have z13 := HZ13.out; have z14 := HZ14.out; have z15 := HZ15.out; have z16 := HZ16.out; have z17 := HZ17.out; omega))).mono ?_; rintro e wob ⟨rfl, hb⟩; rw [HTs.out]; replace HB := Lib.hid (belowNext HB.out hb); replace HXx := Lib.hid (HXx.out.below hb HXx.out.1); replace HSs := Lib.hid (HSs.out.below hb HSs.out.1); replace HYb := Lib.hid (HYb.out.below hb HYb.out.1); replace HHh := Lib.hid (HHh.out.below hb HHh.out.1); replace HRx := Lib.hid (rel_call HRx.out hb (by have z0 := HZ0.out; have z1 := HZ1.out; have z3 := HZ3.out; have z4 := HZ4.out; have z5 := HZ5.out; have z6 := HZ6.out; have z7 := HZ7.out; have z9 := HZ9.out; have zl := HZl.out; have z12 := HZ12.out; have z13 := HZ13.out; have z14 := HZ14.out; have z15 := HZ15.out; have z16 := HZ16.out; have z17 := HZ17.out; omega)); replace HRs := Lib.hid (rel_call HRs.out hb (by have z0 := HZ0.out; have z1 := HZ1.out; have z3 := HZ3.out; have z4 := HZ4.out; have z5 := HZ5.out; have z6 := HZ6.out; have z7 := HZ7.out; have z9 := HZ9.out; have zl := HZl.out; have z12 := HZ12.out; have z13 := HZ13.out; have z14 := HZ14.out; have z15 := HZ15.out; have z16 := HZ16.out; have z17 := HZ17.out; omega)); replace HRf := Lib.hid (rel_call HRf.out hb (by have z0 := HZ0.out; have z1 := HZ1.out; have z3 := HZ3.out; have z4 := HZ4.out; have z5 := HZ5.out; have z6 := HZ6.out; have z7 := HZ7.out; have z9 := HZ9.out; have zl := HZl.out; have z12 := HZ12.out; have z13 := HZ13.out; have z14 := HZ14.out; have z15 := HZ15.out; have z16 := HZ16.out; have z17 := HZ17.out; omega)); replace HRh := Lib.hid (rel_call HRh.out hb (by have z0 := HZ0.out; have z1 := HZ1.out; have z3 := HZ3.out; have z4 := HZ4.out; have z5 := HZ5.out; have z6 := HZ6.out; have z7 := HZ7.out; have z9 := HZ9.out; have zl := HZl.out; have z12 := HZ12.out; have z13 := HZ13.out; have z14 := HZ14.out; have z15 := HZ15.out; have z16 := HZ16.out; have z17 := HZ17.out; omega)); replace HFfa := Lib.hid (rel_call HFfa.out hb (by have z0 := HZ0.out; have z1 := HZ1.out; have z3 := HZ3.out; have z4 := HZ4.out; have z5 := HZ5.out; have z6 := HZ6.out; have z7 := HZ7.out; have z9 := HZ9.out; have zl := HZl.out; have z12 := HZ12.out; have z13 := HZ13.out; have z14 := HZ14.out; have z15 := HZ15.out; have z16 := HZ16.out; have z17 := HZ17.out; omega)); replace HFfb := Lib.hid (rel_call HFfb.out hb (by have z0 := HZ0.out; have z1 := HZ1.out; have z3 := HZ3.out; have z4 := HZ4.out; have z5 := HZ5.out; have z6 := HZ6.out; have z7 := HZ7.out; have z9 := HZ9.out; have zl := HZl.out; have z12 := HZ12.out; have z13 := HZ13.out; have z14 := HZ14.out; have z15 := HZ15.out; have z16 := HZ16.out; have z17 := HZ17.out; omega)); have HZ18 := Lib.hid hb.size; clear hb; have kqx_5 := (And.intro (HYb.out.of 0 _ rfl) (And.intro (HYb.out.of 1 _ rfl) (And.intro (HSs.out.of 0 _ rfl) (And.intro (HHh.out.of 0 _ rfl) (HHh.out.of 1 _ rfl)))))
      go_wp2_with fail
      refine hKqx_12.out _ _ ?kqx_12 (fun hHeldqx_12 => ?dqx_12)
      case kqx_12 => (first | (dsimp only; (first | with_reducible exact kqx_6 | with_reducible exact kqx_5 | with_reducible exact kqx_4 | with_reducible exact kqx_3 | with_reducible exact kqx_2 | with_reducible exact kqx_1 | exact kqx_0)) | (first | with_reducible exact kqx_6 | with_reducible exact kqx_5 | with_reducible exact kqx_4 | with_reducible exact kqx_3 | with_reducible exact kqx_2 | with_reducible exact kqx_1 | exact kqx_0))
      clear hKqx_12 Kqx_12
      refine take_first 12 86 (v := ?vqx_13) rfl rfl (by kernel_rfl) (by kernel_rfl) (by kernel_rfl) (fun _ _ _ h => h) (by rfl) ?yqx_13 (by assumption) ?rqx_13
      case yqx_13 => (intro w hSw; (try dsimp only at hSw); go_simp; (try with_reducible rfl))
      simp only [Act.put, List.setIfInBounds_toArray, List.set_cons_zero, List.set_cons_succ]
      refine take_first 13 87 (v := ?vqx_14) rfl rfl (by kernel_rfl) (by kernel_rfl) (by kernel_rfl) (fun _ _ _ h => h) (by rfl) ?yqx_14 (by assumption) ?rqx_14
      case yqx_14 => (intro w hSw; (try dsimp only at hSw); go_simp; (try with_reducible rfl))
      simp only [Act.put, List.setIfInBounds_toArray, List.set_cons_zero, List.set_cons_succ]
      refine wpAnyH_ready (rs := [14]) (by kernel_rfl) (by simp) ?_
      refine AllReadyH.cons (o := _) rfl (fun Kqx_15 hKqx_15 => ?cqx_15) ?mqx_15
      case mqx_15 => exact AllReadyH.nil
      go_simp
      refine (jaOk_any _).mono ?_; rintro e wz ⟨rfl, hb⟩; replace HB := Lib.hid (belowNext HB.out hb); replace HXx := Lib.hid (HXx.out.below hb HXx.out.1); replace HSs := Lib.hid (HSs.out.below hb HSs.out.1); replace HYb := Lib.hid (HYb.out.below hb HYb.out.1); replace HHh := Lib.hid (HHh.out.below hb HHh.out.1); replace HRx := Lib.hid (rel_call HRx.out hb (by have z0 := HZ0.out; have z1 := HZ1.out; have z3 := HZ3.out; have z4 := HZ4.out; have z5 := HZ5.out; have z6 := HZ6.out; have z7 := HZ7.out; have z9 := HZ9.out; have zl := HZl.out; have z12 := HZ12.out; have z13 := HZ13.out; have z14 := HZ14.out; have z15 := HZ15.out; have z16 := HZ16.out; have z17 := HZ17.out; have z18 := HZ18.out; omega)); replace HRs := Lib.hid (rel_call HRs.out hb (by have z0 := HZ0.out; have z1 := HZ1.out; have z3 := HZ3.out; have z4 := HZ4.out; have z5 := HZ5.out; have z6 := HZ6.out; have z7 := HZ7.out; have z9 := HZ9.out; have zl := HZl.out; have z12 := HZ12.out; have z13 := HZ13.out; have z14 := HZ14.out; have z15 := HZ15.out; have z16 := HZ16.out; have z17 := HZ17.out; have z18 := HZ18.out; omega)); replace HRf := Lib.hid (rel_call HRf.out hb (by have z0 := HZ0.out; have z1 := HZ1.out; have z3 := HZ3.out; have z4 := HZ4.out; have z5 := HZ5.out; have z6 := HZ6.out; have z7 := HZ7.out; have z9 := HZ9.out; have zl := HZl.out; have z12 := HZ12.out; have z13 := HZ13.out; have z14 := HZ14.out; have z15 := HZ15.out; have z16 := HZ16.out; have z17 := HZ17.out; have z18 := HZ18.out; omega)); replace HRh := Lib.hid (rel_call HRh.out hb (by have z0 := HZ0.out; have z1 := HZ1.out; have z3 := HZ3.out; have z4 := HZ4.out; have z5 := HZ5.out; have z6 := HZ6.out; have z7 := HZ7.out; have z9 := HZ9.out; have zl := HZl.out; have z12 := HZ12.out; have z13 := HZ13.out; have z14 := HZ14.out; have z15 := HZ15.out; have z16 := HZ16.out; have z17 := HZ17.out; have z18 := HZ18.out; omega)); replace HFfa := Lib.hid (rel_call HFfa.out hb (by have z0 := HZ0.out; have z1 := HZ1.out; have z3 := HZ3.out; have z4 := HZ4.out; have z5 := HZ5.out; have z6 := HZ6.out; have z7 := HZ7.out; have z9 := HZ9.out; have zl := HZl.out; have z12 := HZ12.out; have z13 := HZ13.out; have z14 := HZ14.out; have z15 := HZ15.out; have z16 := HZ16.out; have z17 := HZ17.out; have z18 := HZ18.out; omega)); replace HFfb := Lib.hid (rel_call HFfb.out hb (by have z0 := HZ0.out; have z1 := HZ1.out; have z3 := HZ3.out; have z4 := HZ4.out; have z5 := HZ5.out; have z6 := HZ6.out; have z7 := HZ7.out; have z9 := HZ9.out; have zl := HZl.out; have z12 := HZ12.out; have z13 := HZ13.out; have z14 := HZ14.out; have z15 := HZ15.out; have z16 := HZ16.out; have z17 := HZ17.out; have z18 := HZ18.out; omega)); have HZ19 := Lib.hid hb.size; clear hb; have kqx_6 := (And.intro (HYb.out.of 0 _ rfl) (And.intro (HYb.out.of 1 _ rfl) (And.intro (HSs.out.of 0 _ rfl) (And.intro (HHh.out.of 0 _ rfl) (HHh.out.of 1 _ rfl)))))
      go_wp2_with fail
      refine hKqx_15.out _ _ ?kqx_15 (fun hHeldqx_15 => ?dqx_15)
      case kqx_15 => (first | (dsimp only; (first | with_reducible exact kqx_6 | with_reducible exact kqx_5 | with_reducible exact kqx_4 | with_reducible exact kqx_3 | with_reducible exact kqx_2 | with_reducible exact kqx_1 | exact kqx_0)) | (first | with_reducible exact kqx_6 | with_reducible exact kqx_5 | with_reducible exact kqx_4 | with_reducible exact kqx_3 | with_reducible exact kqx_2 | with_reducible exact kqx_1 | exact kqx_0))
      clear hKqx_15 Kqx_15
      refine take_first 15 89 (v := ?vqx_16) rfl rfl (by kernel_rfl) (by kernel_rfl) (by kernel_rfl) (fun _ _ _ h => h) (by rfl) ?yqx_16 (by assumption) ?rqx_16
      case yqx_16 => (intro w hSw; (try dsimp only at hSw); go_simp; (try with_reducible rfl))
      simp only [Act.put, List.setIfInBounds_toArray, List.set_cons_zero, List.set_cons_succ]
      refine take_first 16 2 (v := ?vqx_17) rfl rfl (by kernel_rfl) (by kernel_rfl) (by kernel_rfl) (fun _ _ _ h => h) (by rfl) ?yqx_17 (by assumption) ?rqx_17
      case yqx_17 => (intro w hSw; (try dsimp only at hSw); go_simp; (try with_reducible rfl))
      simp only [Act.put, List.setIfInBounds_toArray, List.set_cons_zero, List.set_cons_succ]
      refine wpAnyH_done (by kernel_rfl) ?eqx _
      go_wp2
      go_ret
      exact ⟨rfl, HB.out⟩

end Go.Proofs.Ytkamlibfcakblaa

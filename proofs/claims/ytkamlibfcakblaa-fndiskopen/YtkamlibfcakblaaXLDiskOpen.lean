/- The walk of FnDiskOpen. By ldiskopengen.py. -/
import Derived.Test.YtkamlibfcakblaaXDrawOpen
import Derived.Test.YtkamlibfcakblaaXJaPlan
import Derived.Test.YtkamlibfcakblaaXNoteOkS
import Derived.Deep.CutRange
import Derived.Deep.DeepCutAuto
namespace Go.Proofs.Ytkamlibfcakblaa
open Go.RowKit

theorem noteRow {w : World} {B : Nat} {A : Option Addr} {c : Nat} {x : Disk} (h : diskSh.rel w B [.slice A x.notes.length c, .int .i64 x.safe] x) : noteSh.Row w B (.slice A x.notes.length c) x.notes := by
  obtain ⟨u, e, hu⟩ := disk_rel.1 h
  cases e
  exact hu

set_option maxRecDepth 100000 in
set_option maxHeartbeats 16000000 in
theorem lawDiskOpen_any (w : World) (v : Value) (m : Nat) (hv : Code8 w v m) (v' : Value) (m' : Nat) (hv' : Code8 w v' m') :
    Calls Try.prog 4 #[v, v'] w fun e w' => e = .returned (.bool true) ∧ Below w.heap.size w w' := by
  have HV := Lib.hid hv
  have HV' := Lib.hid hv'
  obtain ⟨A, c, f, rfl, h1, h2, -, -⟩ := hv
  obtain ⟨A', c', f', rfl, h1', h2', -, -⟩ := hv'
  unfold maxLen at h2 h2'
  by_cases hn : 1048576 < m
  · clear HV HV'
    go_enter Try.func4, Try.ntmps4
    go_wp2
    go_ret
    exact ⟨rfl, Below.refl _ _⟩
  have hn' : m ≤ 1048576 := by omega
  clear hn
  by_cases hm : 1048576 < m'
  · clear HV HV'
    go_enter Try.func4, Try.ntmps4
    go_wp2
    go_ret
    exact ⟨rfl, Below.refl _ _⟩
  have hm' : m' ≤ 1048576 := by omega
  clear hm
  go_enter Try.func4, Try.ntmps4
  go_wp2_with fail
  refine (drawDiskOpen_any _ _ _ HV.out).mono ?_
  rintro e w1 ⟨cs, x, rfl, hfd, hox, hb1⟩
  obtain ⟨u1, rfl, hu1⟩ := disk_own.1 hox
  obtain ⟨A1, c1, rfl, -, -⟩ := hu1.row.form
  clear hu1
  have HRx := Lib.hid (diskSh.orel hox)
  have HB := Lib.hid hb1
  have HZ0 := Lib.hid hb1.size
  have HC := Lib.hid (HV'.out.below hb1)
  clear hox hb1 HV HV' hfd
  replace HC := Lib.hid (HC.out.below (belowOne w1 (.cells #[.slice A1 x.notes.length c1, .int .i64 x.safe] 25)))
  have hal := belowOne w1 (.cells #[.slice A1 x.notes.length c1, .int .i64 x.safe] 25)
  replace HB := Lib.hid (belowNext HB.out hal)
  replace HRx := Lib.hid (rel_call HRx.out hal (by have z0 := HZ0.out; omega))
  have HZ1 := Lib.hid (allocSize w1 (.cells #[.slice A1 x.notes.length c1, .int .i64 x.safe] 25))
  clear hal
  have HXx := Lib.hid (Held.new w1 #[.slice A1 x.notes.length c1, .int .i64 x.safe] 25)
  go_wp2_with fail
  refine (drawDiskLocks_any _ _ _ HC.out).mono ?_
  rintro e w2 ⟨cs, z, rfl, hfd, hoz, hb⟩
  clear HC hfd
  obtain ⟨u2, rfl, hu2⟩ := disk_own.1 hoz
  obtain ⟨A2, c2, rfl, -, -⟩ := hu2.row.form
  clear hu2
  replace HB := Lib.hid (belowNext HB.out hb)
  replace HXx := Lib.hid (HXx.out.below hb HXx.out.1)
  replace HRx := Lib.hid (rel_call HRx.out hb (by have z0 := HZ0.out; have z1 := HZ1.out; omega))
  have HZ3 := Lib.hid hb.size
  clear hb
  have HRz := Lib.hid (diskSh.orel hoz)
  clear hoz
  have hal := belowOne w2 (.cells #[.slice A2 z.notes.length c2, .int .i64 z.safe] 25)
  replace HB := Lib.hid (belowNext HB.out hal)
  replace HXx := Lib.hid (HXx.out.below hal HXx.out.1)
  replace HRx := Lib.hid (rel_call HRx.out hal (by have z0 := HZ0.out; have z1 := HZ1.out; have z3 := HZ3.out; omega))
  replace HRz := Lib.hid (rel_call HRz.out hal (by have z0 := HZ0.out; have z1 := HZ1.out; have z3 := HZ3.out; omega))
  have HZ4 := Lib.hid (allocSize w2 (.cells #[.slice A2 z.notes.length c2, .int .i64 z.safe] 25))
  clear hal
  have HZz := Lib.hid (Held.new w2 #[.slice A2 z.notes.length c2, .int .i64 z.safe] 25)
  obtain ⟨O, hO⟩ : ∃ O, openD x = O := ⟨_, rfl⟩
  obtain ⟨L, hL⟩ : ∃ L, locksD x = L := ⟨_, rfl⟩
  obtain ⟨M, hM⟩ : ∃ M, locksD z = M := ⟨_, rfl⟩
  have HO := Lib.hid hO
  have HL := Lib.hid hL
  have HM := Lib.hid hM
  clear hO hL hM
  have ax_0 := HXx.out.of 0 _ rfl
  have ax_1 := HXx.out.of 1 _ rfl
  go_wp2_with fail
  clear ax_0 ax_1
  refine (implOpen_got _ _ x (diskSh.rmore HRx.out (by have z0 := HZ0.out; have z1 := HZ1.out; have z3 := HZ3.out; have z4 := HZ4.out; omega)) HO.out).mono ?_
  rintro e w5 ⟨Ao, co, rfl, ho, hb⟩
  replace HB := Lib.hid (belowNext HB.out hb)
  replace HXx := Lib.hid (HXx.out.below hb HXx.out.1)
  replace HZz := Lib.hid (HZz.out.below hb HZz.out.1)
  replace HRx := Lib.hid (rel_call HRx.out hb (by have z0 := HZ0.out; have z1 := HZ1.out; have z3 := HZ3.out; have z4 := HZ4.out; omega))
  replace HRz := Lib.hid (rel_call HRz.out hb (by have z0 := HZ0.out; have z1 := HZ1.out; have z3 := HZ3.out; have z4 := HZ4.out; omega))
  have HZ6 := Lib.hid hb.size
  clear hb
  have HRo := Lib.hid ho
  clear ho
  have ax_0 := HXx.out.of 0 _ rfl
  have ax_1 := HXx.out.of 1 _ rfl
  go_wp2_with fail
  clear ax_0 ax_1
  refine (implLocks_got _ _ x (diskSh.rmore HRx.out (by have z0 := HZ0.out; have z1 := HZ1.out; have z3 := HZ3.out; have z4 := HZ4.out; have z6 := HZ6.out; omega)) HL.out).mono ?_
  rintro e w7 ⟨Al, cl, rfl, ho, hb⟩
  replace HB := Lib.hid (belowNext HB.out hb)
  replace HXx := Lib.hid (HXx.out.below hb HXx.out.1)
  replace HZz := Lib.hid (HZz.out.below hb HZz.out.1)
  replace HRx := Lib.hid (rel_call HRx.out hb (by have z0 := HZ0.out; have z1 := HZ1.out; have z3 := HZ3.out; have z4 := HZ4.out; have z6 := HZ6.out; omega))
  replace HRz := Lib.hid (rel_call HRz.out hb (by have z0 := HZ0.out; have z1 := HZ1.out; have z3 := HZ3.out; have z4 := HZ4.out; have z6 := HZ6.out; omega))
  replace HRo := Lib.hid (row_call HRo.out hb (by have z0 := HZ0.out; have z1 := HZ1.out; have z3 := HZ3.out; have z4 := HZ4.out; have z6 := HZ6.out; omega))
  have HZ8 := Lib.hid hb.size
  clear hb
  have HRl := Lib.hid ho
  clear ho
  have kpx_0 : w7.drew.cell? ⟨w1.heap.size, 0, none⟩ = some (.slice A1 x.notes.length c1) ∧ w7.drew.cell? ⟨w1.heap.size, 1, none⟩ = some (.int .i64 x.safe) ∧ w7.drew.cell? ⟨w2.heap.size, 0, none⟩ = some (.slice A2 z.notes.length c2) ∧ w7.drew.cell? ⟨w2.heap.size, 1, none⟩ = some (.int .i64 z.safe) := (And.intro (HXx.out.of 0 _ rfl) (And.intro (HXx.out.of 1 _ rfl) (And.intro (HZz.out.of 0 _ rfl) (HZz.out.of 1 _ rfl))))
  go_wp2
  have hdr := (Below.refl w7.heap.size w7).drew
  replace HB := Lib.hid (belowNext HB.out hdr)
  replace HXx := Lib.hid (HXx.out.below hdr HXx.out.1)
  replace HZz := Lib.hid (HZz.out.below hdr HZz.out.1)
  replace HRx := Lib.hid (rel_call HRx.out hdr (by have z0 := HZ0.out; have z1 := HZ1.out; have z3 := HZ3.out; have z4 := HZ4.out; have z6 := HZ6.out; have z8 := HZ8.out; omega))
  replace HRz := Lib.hid (rel_call HRz.out hdr (by have z0 := HZ0.out; have z1 := HZ1.out; have z3 := HZ3.out; have z4 := HZ4.out; have z6 := HZ6.out; have z8 := HZ8.out; omega))
  replace HRo := Lib.hid (row_call HRo.out hdr (by have z0 := HZ0.out; have z1 := HZ1.out; have z3 := HZ3.out; have z4 := HZ4.out; have z6 := HZ6.out; have z8 := HZ8.out; omega))
  replace HRl := Lib.hid (row_call HRl.out hdr (by have z0 := HZ0.out; have z1 := HZ1.out; have z3 := HZ3.out; have z4 := HZ4.out; have z6 := HZ6.out; have z8 := HZ8.out; omega))
  have HZ9 := Lib.hid hdr.size
  clear hdr
  refine wp_region_held_drew (S := (fun w' => w'.cell? ⟨w1.heap.size, 0, none⟩ = some (.slice A1 x.notes.length c1) ∧ w'.cell? ⟨w1.heap.size, 1, none⟩ = some (.int .i64 x.safe) ∧ w'.cell? ⟨w2.heap.size, 0, none⟩ = some (.slice A2 z.notes.length c2) ∧ w'.cell? ⟨w2.heap.size, 1, none⟩ = some (.int .i64 z.safe))) (by kernel_rfl) ?hSpx (fun hHeldpx => ?stpx)
  case hSpx => (first | (dsimp only; (first | with_reducible exact kpx_7 | with_reducible exact kpx_6 | with_reducible exact kpx_5 | with_reducible exact kpx_4 | with_reducible exact kpx_3 | with_reducible exact kpx_2 | with_reducible exact kpx_1 | exact kpx_0)) | (first | with_reducible exact kpx_7 | with_reducible exact kpx_6 | with_reducible exact kpx_5 | with_reducible exact kpx_4 | with_reducible exact kpx_3 | with_reducible exact kpx_2 | with_reducible exact kpx_1 | exact kpx_0))
  refine take_first 0 29 (v := ?vpx_1) rfl rfl (by kernel_rfl) (by kernel_rfl) (by kernel_rfl) (fun _ _ _ h => h) (by rfl) ?ypx_1 (by assumption) ?rpx_1
  case ypx_1 => (intro w hSw; (try dsimp only at hSw); go_simp; (try with_reducible rfl))
  simp only [Act.put, List.setIfInBounds_toArray, List.set_cons_zero, List.set_cons_succ]
  refine take_first 1 30 (v := ?vpx_2) rfl rfl (by kernel_rfl) (by kernel_rfl) (by kernel_rfl) (fun _ _ _ h => h) (by rfl) ?ypx_2 (by assumption) ?rpx_2
  case ypx_2 => (intro w hSw; (try dsimp only at hSw); go_simp; (try with_reducible rfl))
  simp only [Act.put, List.setIfInBounds_toArray, List.set_cons_zero, List.set_cons_succ]
  refine wpAnyH_ready (rs := [2]) (by kernel_rfl) (by simp) ?_
  refine AllReadyH.cons (o := _) rfl (fun Kpx_3 hKpx_3 => ?cpx_3) ?mpx_3
  case mpx_3 => exact AllReadyH.nil
  go_simp
  refine (specOpen_got _ _ x (diskSh.rmore HRx.out (by have z0 := HZ0.out; have z1 := HZ1.out; have z3 := HZ3.out; have z4 := HZ4.out; have z6 := HZ6.out; have z8 := HZ8.out; have z9 := HZ9.out; omega)) HO.out).mono ?_; rintro e wga ⟨Aa, ca, rfl, ho, hb⟩; replace HB := Lib.hid (belowNext HB.out hb); replace HXx := Lib.hid (HXx.out.below hb HXx.out.1); replace HZz := Lib.hid (HZz.out.below hb HZz.out.1); replace HRx := Lib.hid (rel_call HRx.out hb (by have z0 := HZ0.out; have z1 := HZ1.out; have z3 := HZ3.out; have z4 := HZ4.out; have z6 := HZ6.out; have z8 := HZ8.out; have z9 := HZ9.out; omega)); replace HRz := Lib.hid (rel_call HRz.out hb (by have z0 := HZ0.out; have z1 := HZ1.out; have z3 := HZ3.out; have z4 := HZ4.out; have z6 := HZ6.out; have z8 := HZ8.out; have z9 := HZ9.out; omega)); replace HRo := Lib.hid (row_call HRo.out hb (by have z0 := HZ0.out; have z1 := HZ1.out; have z3 := HZ3.out; have z4 := HZ4.out; have z6 := HZ6.out; have z8 := HZ8.out; have z9 := HZ9.out; omega)); replace HRl := Lib.hid (row_call HRl.out hb (by have z0 := HZ0.out; have z1 := HZ1.out; have z3 := HZ3.out; have z4 := HZ4.out; have z6 := HZ6.out; have z8 := HZ8.out; have z9 := HZ9.out; omega)); have HZ10 := Lib.hid hb.size; clear hb; have HGa := Lib.hid ho; clear ho; have kpx_1 := (And.intro (HXx.out.of 0 _ rfl) (And.intro (HXx.out.of 1 _ rfl) (And.intro (HZz.out.of 0 _ rfl) (HZz.out.of 1 _ rfl))))
  go_wp2_with fail
  refine hKpx_3.out _ _ ?kpx_3 (fun hHeldpx_3 => ?dpx_3)
  case kpx_3 => (first | (dsimp only; (first | with_reducible exact kpx_7 | with_reducible exact kpx_6 | with_reducible exact kpx_5 | with_reducible exact kpx_4 | with_reducible exact kpx_3 | with_reducible exact kpx_2 | with_reducible exact kpx_1 | exact kpx_0)) | (first | with_reducible exact kpx_7 | with_reducible exact kpx_6 | with_reducible exact kpx_5 | with_reducible exact kpx_4 | with_reducible exact kpx_3 | with_reducible exact kpx_2 | with_reducible exact kpx_1 | exact kpx_0))
  clear hKpx_3 Kpx_3
  refine wpAnyH_ready (rs := [3]) (by kernel_rfl) (by simp) ?_
  refine AllReadyH.cons (o := _) rfl (fun Kpx_4 hKpx_4 => ?cpx_4) ?mpx_4
  case mpx_4 => exact AllReadyH.nil
  go_simp
  refine (jaInts_got _ _ _ O (HRo.out.more (by have z0 := HZ0.out; have z1 := HZ1.out; have z3 := HZ3.out; have z4 := HZ4.out; have z6 := HZ6.out; have z8 := HZ8.out; have z9 := HZ9.out; have z10 := HZ10.out; omega)) (HGa.out.more (by have z0 := HZ0.out; have z1 := HZ1.out; have z3 := HZ3.out; have z4 := HZ4.out; have z6 := HZ6.out; have z8 := HZ8.out; have z9 := HZ9.out; have z10 := HZ10.out; omega))).mono ?_; rintro e wja ⟨rfl, hb⟩; replace HB := Lib.hid (belowNext HB.out hb); replace HXx := Lib.hid (HXx.out.below hb HXx.out.1); replace HZz := Lib.hid (HZz.out.below hb HZz.out.1); replace HRx := Lib.hid (rel_call HRx.out hb (by have z0 := HZ0.out; have z1 := HZ1.out; have z3 := HZ3.out; have z4 := HZ4.out; have z6 := HZ6.out; have z8 := HZ8.out; have z9 := HZ9.out; have z10 := HZ10.out; omega)); replace HRz := Lib.hid (rel_call HRz.out hb (by have z0 := HZ0.out; have z1 := HZ1.out; have z3 := HZ3.out; have z4 := HZ4.out; have z6 := HZ6.out; have z8 := HZ8.out; have z9 := HZ9.out; have z10 := HZ10.out; omega)); replace HRo := Lib.hid (row_call HRo.out hb (by have z0 := HZ0.out; have z1 := HZ1.out; have z3 := HZ3.out; have z4 := HZ4.out; have z6 := HZ6.out; have z8 := HZ8.out; have z9 := HZ9.out; have z10 := HZ10.out; omega)); replace HRl := Lib.hid (row_call HRl.out hb (by have z0 := HZ0.out; have z1 := HZ1.out; have z3 := HZ3.out; have z4 := HZ4.out; have z6 := HZ6.out; have z8 := HZ8.out; have z9 := HZ9.out; have z10 := HZ10.out; omega)); replace HGa := Lib.hid (row_call HGa.out hb (by have z0 := HZ0.out; have z1 := HZ1.out; have z3 := HZ3.out; have z4 := HZ4.out; have z6 := HZ6.out; have z8 := HZ8.out; have z9 := HZ9.out; have z10 := HZ10.out; omega)); have HZ11 := Lib.hid hb.size; clear hb; have kpx_2 := (And.intro (HXx.out.of 0 _ rfl) (And.intro (HXx.out.of 1 _ rfl) (And.intro (HZz.out.of 0 _ rfl) (HZz.out.of 1 _ rfl))))
  go_wp2_with fail
  refine hKpx_4.out _ _ ?kpx_4 (fun hHeldpx_4 => ?dpx_4)
  case kpx_4 => (first | (dsimp only; (first | with_reducible exact kpx_7 | with_reducible exact kpx_6 | with_reducible exact kpx_5 | with_reducible exact kpx_4 | with_reducible exact kpx_3 | with_reducible exact kpx_2 | with_reducible exact kpx_1 | exact kpx_0)) | (first | with_reducible exact kpx_7 | with_reducible exact kpx_6 | with_reducible exact kpx_5 | with_reducible exact kpx_4 | with_reducible exact kpx_3 | with_reducible exact kpx_2 | with_reducible exact kpx_1 | exact kpx_0))
  clear hKpx_4 Kpx_4
  refine take_first 4 33 (v := ?vpx_5) rfl rfl (by kernel_rfl) (by kernel_rfl) (by kernel_rfl) (fun _ _ _ h => h) (by rfl) ?ypx_5 (by assumption) ?rpx_5
  case ypx_5 => (intro w hSw; (try dsimp only at hSw); go_simp; (try with_reducible rfl))
  simp only [Act.put, List.setIfInBounds_toArray, List.set_cons_zero, List.set_cons_succ]
  refine take_first 5 34 (v := ?vpx_6) rfl rfl (by kernel_rfl) (by kernel_rfl) (by kernel_rfl) (fun _ _ _ h => h) (by rfl) ?ypx_6 (by assumption) ?rpx_6
  case ypx_6 => (intro w hSw; (try dsimp only at hSw); go_simp; (try with_reducible rfl))
  simp only [Act.put, List.setIfInBounds_toArray, List.set_cons_zero, List.set_cons_succ]
  refine take_first 6 35 (v := ?vpx_7) rfl rfl (by kernel_rfl) (by kernel_rfl) (by kernel_rfl) (fun _ _ _ h => h) (by rfl) ?ypx_7 (by assumption) ?rpx_7
  case ypx_7 => (intro w hSw; (try dsimp only at hSw); go_simp; (try with_reducible rfl))
  simp only [Act.put, List.setIfInBounds_toArray, List.set_cons_zero, List.set_cons_succ]
  refine take_first 7 36 (v := ?vpx_8) rfl rfl (by kernel_rfl) (by kernel_rfl) (by kernel_rfl) (fun _ _ _ h => h) (by rfl) ?ypx_8 (by assumption) ?rpx_8
  case ypx_8 => (intro w hSw; (try dsimp only at hSw); go_simp; (try with_reducible rfl))
  simp only [Act.put, List.setIfInBounds_toArray, List.set_cons_zero, List.set_cons_succ]
  refine wpAnyH_ready (rs := [8]) (by kernel_rfl) (by simp) ?_
  refine AllReadyH.cons (o := _) rfl (fun Kpx_9 hKpx_9 => ?cpx_9) ?mpx_9
  case mpx_9 => exact AllReadyH.nil
  go_simp
  refine (specLocks_got _ _ x (diskSh.rmore HRx.out (by have z0 := HZ0.out; have z1 := HZ1.out; have z3 := HZ3.out; have z4 := HZ4.out; have z6 := HZ6.out; have z8 := HZ8.out; have z9 := HZ9.out; have z10 := HZ10.out; have z11 := HZ11.out; omega)) HL.out).mono ?_; rintro e wgb ⟨Ab, cb, rfl, ho, hb⟩; replace HB := Lib.hid (belowNext HB.out hb); replace HXx := Lib.hid (HXx.out.below hb HXx.out.1); replace HZz := Lib.hid (HZz.out.below hb HZz.out.1); replace HRx := Lib.hid (rel_call HRx.out hb (by have z0 := HZ0.out; have z1 := HZ1.out; have z3 := HZ3.out; have z4 := HZ4.out; have z6 := HZ6.out; have z8 := HZ8.out; have z9 := HZ9.out; have z10 := HZ10.out; have z11 := HZ11.out; omega)); replace HRz := Lib.hid (rel_call HRz.out hb (by have z0 := HZ0.out; have z1 := HZ1.out; have z3 := HZ3.out; have z4 := HZ4.out; have z6 := HZ6.out; have z8 := HZ8.out; have z9 := HZ9.out; have z10 := HZ10.out; have z11 := HZ11.out; omega)); replace HRo := Lib.hid (row_call HRo.out hb (by have z0 := HZ0.out; have z1 := HZ1.out; have z3 := HZ3.out; have z4 := HZ4.out; have z6 := HZ6.out; have z8 := HZ8.out; have z9 := HZ9.out; have z10 := HZ10.out; have z11 := HZ11.out; omega)); replace HRl := Lib.hid (row_call HRl.out hb (by have z0 := HZ0.out; have z1 := HZ1.out; have z3 := HZ3.out; have z4 := HZ4.out; have z6 := HZ6.out; have z8 := HZ8.out; have z9 := HZ9.out; have z10 := HZ10.out; have z11 := HZ11.out; omega)); replace HGa := Lib.hid (row_call HGa.out hb (by have z0 := HZ0.out; have z1 := HZ1.out; have z3 := HZ3.out; have z4 := HZ4.out; have z6 := HZ6.out; have z8 := HZ8.out; have z9 := HZ9.out; have z10 := HZ10.out; have z11 := HZ11.out; omega)); have HZ12 := Lib.hid hb.size; clear hb; have HGb := Lib.hid ho; clear ho; have kpx_3 := (And.intro (HXx.out.of 0 _ rfl) (And.intro (HXx.out.of 1 _ rfl) (And.intro (HZz.out.of 0 _ rfl) (HZz.out.of 1 _ rfl))))
  go_wp2_with fail
  refine hKpx_9.out _ _ ?kpx_9 (fun hHeldpx_9 => ?dpx_9)
  case kpx_9 => (first | (dsimp only; (first | with_reducible exact kpx_7 | with_reducible exact kpx_6 | with_reducible exact kpx_5 | with_reducible exact kpx_4 | with_reducible exact kpx_3 | with_reducible exact kpx_2 | with_reducible exact kpx_1 | exact kpx_0)) | (first | with_reducible exact kpx_7 | with_reducible exact kpx_6 | with_reducible exact kpx_5 | with_reducible exact kpx_4 | with_reducible exact kpx_3 | with_reducible exact kpx_2 | with_reducible exact kpx_1 | exact kpx_0))
  clear hKpx_9 Kpx_9
  refine wpAnyH_ready (rs := [9]) (by kernel_rfl) (by simp) ?_
  refine AllReadyH.cons (o := _) rfl (fun Kpx_10 hKpx_10 => ?cpx_10) ?mpx_10
  case mpx_10 => exact AllReadyH.nil
  go_simp
  refine (jaTexts_got _ _ _ L (HRl.out.more (by have z0 := HZ0.out; have z1 := HZ1.out; have z3 := HZ3.out; have z4 := HZ4.out; have z6 := HZ6.out; have z8 := HZ8.out; have z9 := HZ9.out; have z10 := HZ10.out; have z11 := HZ11.out; have z12 := HZ12.out; omega)) (HGb.out.more (by have z0 := HZ0.out; have z1 := HZ1.out; have z3 := HZ3.out; have z4 := HZ4.out; have z6 := HZ6.out; have z8 := HZ8.out; have z9 := HZ9.out; have z10 := HZ10.out; have z11 := HZ11.out; have z12 := HZ12.out; omega))).mono ?_; rintro e wjb ⟨rfl, hb⟩; replace HB := Lib.hid (belowNext HB.out hb); replace HXx := Lib.hid (HXx.out.below hb HXx.out.1); replace HZz := Lib.hid (HZz.out.below hb HZz.out.1); replace HRx := Lib.hid (rel_call HRx.out hb (by have z0 := HZ0.out; have z1 := HZ1.out; have z3 := HZ3.out; have z4 := HZ4.out; have z6 := HZ6.out; have z8 := HZ8.out; have z9 := HZ9.out; have z10 := HZ10.out; have z11 := HZ11.out; have z12 := HZ12.out; omega)); replace HRz := Lib.hid (rel_call HRz.out hb (by have z0 := HZ0.out; have z1 := HZ1.out; have z3 := HZ3.out; have z4 := HZ4.out; have z6 := HZ6.out; have z8 := HZ8.out; have z9 := HZ9.out; have z10 := HZ10.out; have z11 := HZ11.out; have z12 := HZ12.out; omega)); replace HRo := Lib.hid (row_call HRo.out hb (by have z0 := HZ0.out; have z1 := HZ1.out; have z3 := HZ3.out; have z4 := HZ4.out; have z6 := HZ6.out; have z8 := HZ8.out; have z9 := HZ9.out; have z10 := HZ10.out; have z11 := HZ11.out; have z12 := HZ12.out; omega)); replace HRl := Lib.hid (row_call HRl.out hb (by have z0 := HZ0.out; have z1 := HZ1.out; have z3 := HZ3.out; have z4 := HZ4.out; have z6 := HZ6.out; have z8 := HZ8.out; have z9 := HZ9.out; have z10 := HZ10.out; have z11 := HZ11.out; have z12 := HZ12.out; omega)); replace HGa := Lib.hid (row_call HGa.out hb (by have z0 := HZ0.out; have z1 := HZ1.out; have z3 := HZ3.out; have z4 := HZ4.out; have z6 := HZ6.out; have z8 := HZ8.out; have z9 := HZ9.out; have z10 := HZ10.out; have z11 := HZ11.out; have z12 := HZ12.out; omega)); replace HGb := Lib.hid (row_call HGb.out hb (by have z0 := HZ0.out; have z1 := HZ1.out; have z3 := HZ3.out; have z4 := HZ4.out; have z6 := HZ6.out; have z8 := HZ8.out; have z9 := HZ9.out; have z10 := HZ10.out; have z11 := HZ11.out; have z12 := HZ12.out; omega)); have HZ13 := Lib.hid hb.size; clear hb; have kpx_4 := (And.intro (HXx.out.of 0 _ rfl) (And.intro (HXx.out.of 1 _ rfl) (And.intro (HZz.out.of 0 _ rfl) (HZz.out.of 1 _ rfl))))
  go_wp2_with fail
  refine hKpx_10.out _ _ ?kpx_10 (fun hHeldpx_10 => ?dpx_10)
  case kpx_10 => (first | (dsimp only; (first | with_reducible exact kpx_7 | with_reducible exact kpx_6 | with_reducible exact kpx_5 | with_reducible exact kpx_4 | with_reducible exact kpx_3 | with_reducible exact kpx_2 | with_reducible exact kpx_1 | exact kpx_0)) | (first | with_reducible exact kpx_7 | with_reducible exact kpx_6 | with_reducible exact kpx_5 | with_reducible exact kpx_4 | with_reducible exact kpx_3 | with_reducible exact kpx_2 | with_reducible exact kpx_1 | exact kpx_0))
  clear hKpx_10 Kpx_10
  refine take_first 10 39 (v := ?vpx_11) rfl rfl (by kernel_rfl) (by kernel_rfl) (by kernel_rfl) (fun _ _ _ h => h) (by rfl) ?ypx_11 (by assumption) ?rpx_11
  case ypx_11 => (intro w hSw; (try dsimp only at hSw); go_simp; (try with_reducible rfl))
  simp only [Act.put, List.setIfInBounds_toArray, List.set_cons_zero, List.set_cons_succ]
  refine take_first 11 40 (v := ?vpx_12) rfl rfl (by kernel_rfl) (by kernel_rfl) (by kernel_rfl) (fun _ _ _ h => h) (by rfl) ?ypx_12 (by assumption) ?rpx_12
  case ypx_12 => (intro w hSw; (try dsimp only at hSw); go_simp; (try with_reducible rfl))
  simp only [Act.put, List.setIfInBounds_toArray, List.set_cons_zero, List.set_cons_succ]
  refine take_first 12 41 (v := ?vpx_13) rfl rfl (by kernel_rfl) (by kernel_rfl) (by kernel_rfl) (fun _ _ _ h => h) (by rfl) ?ypx_13 (by assumption) ?rpx_13
  case ypx_13 => (intro w hSw; (try dsimp only at hSw); go_simp; (try with_reducible rfl))
  simp only [Act.put, List.setIfInBounds_toArray, List.set_cons_zero, List.set_cons_succ]
  refine take_first 13 42 (v := ?vpx_14) rfl rfl (by kernel_rfl) (by kernel_rfl) (by kernel_rfl) (fun _ _ _ h => h) (by rfl) ?ypx_14 (by assumption) ?rpx_14
  case ypx_14 => (intro w hSw; (try dsimp only at hSw); go_simp; (try with_reducible rfl))
  simp only [Act.put, List.setIfInBounds_toArray, List.set_cons_zero, List.set_cons_succ]
  refine take_first 15 44 (v := ?vpx_15) rfl rfl (by kernel_rfl) (by kernel_rfl) (by kernel_rfl) (fun _ _ _ h => h) (by rfl) ?ypx_15 (by assumption) ?rpx_15
  case ypx_15 => (intro w hSw; (try dsimp only at hSw); go_simp; (try with_reducible rfl))
  simp only [Act.put, List.setIfInBounds_toArray, List.set_cons_zero, List.set_cons_succ]
  refine wpAnyH_ready (rs := [14]) (by kernel_rfl) (by simp) ?_
  refine AllReadyH.cons (o := _) rfl (fun Kpx_16 hKpx_16 => ?cpx_16) ?mpx_16
  case mpx_16 => exact AllReadyH.nil
  go_simp
  refine (implLocks_got _ _ z (diskSh.rmore HRz.out (by have z0 := HZ0.out; have z1 := HZ1.out; have z3 := HZ3.out; have z4 := HZ4.out; have z6 := HZ6.out; have z8 := HZ8.out; have z9 := HZ9.out; have z10 := HZ10.out; have z11 := HZ11.out; have z12 := HZ12.out; have z13 := HZ13.out; omega)) HM.out).mono ?_; rintro e wgc ⟨Ac, cc, rfl, ho, hb⟩; replace HB := Lib.hid (belowNext HB.out hb); replace HXx := Lib.hid (HXx.out.below hb HXx.out.1); replace HZz := Lib.hid (HZz.out.below hb HZz.out.1); replace HRx := Lib.hid (rel_call HRx.out hb (by have z0 := HZ0.out; have z1 := HZ1.out; have z3 := HZ3.out; have z4 := HZ4.out; have z6 := HZ6.out; have z8 := HZ8.out; have z9 := HZ9.out; have z10 := HZ10.out; have z11 := HZ11.out; have z12 := HZ12.out; have z13 := HZ13.out; omega)); replace HRz := Lib.hid (rel_call HRz.out hb (by have z0 := HZ0.out; have z1 := HZ1.out; have z3 := HZ3.out; have z4 := HZ4.out; have z6 := HZ6.out; have z8 := HZ8.out; have z9 := HZ9.out; have z10 := HZ10.out; have z11 := HZ11.out; have z12 := HZ12.out; have z13 := HZ13.out; omega)); replace HRo := Lib.hid (row_call HRo.out hb (by have z0 := HZ0.out; have z1 := HZ1.out; have z3 := HZ3.out; have z4 := HZ4.out; have z6 := HZ6.out; have z8 := HZ8.out; have z9 := HZ9.out; have z10 := HZ10.out; have z11 := HZ11.out; have z12 := HZ12.out; have z13 := HZ13.out; omega)); replace HRl := Lib.hid (row_call HRl.out hb (by have z0 := HZ0.out; have z1 := HZ1.out; have z3 := HZ3.out; have z4 := HZ4.out; have z6 := HZ6.out; have z8 := HZ8.out; have z9 := HZ9.out; have z10 := HZ10.out; have z11 := HZ11.out; have z12 := HZ12.out; have z13 := HZ13.out; omega)); replace HGa := Lib.hid (row_call HGa.out hb (by have z0 := HZ0.out; have z1 := HZ1.out; have z3 := HZ3.out; have z4 := HZ4.out; have z6 := HZ6.out; have z8 := HZ8.out; have z9 := HZ9.out; have z10 := HZ10.out; have z11 := HZ11.out; have z12 := HZ12.out; have z13 := HZ13.out; omega)); replace HGb := Lib.hid (row_call HGb.out hb (by have z0 := HZ0.out; have z1 := HZ1.out; have z3 := HZ3.out; have z4 := HZ4.out; have z6 := HZ6.out; have z8 := HZ8.out; have z9 := HZ9.out; have z10 := HZ10.out; have z11 := HZ11.out; have z12 := HZ12.out; have z13 := HZ13.out; omega)); have HZ14 := Lib.hid hb.size; clear hb; have HGc := Lib.hid ho; clear ho; have kpx_5 := (And.intro (HXx.out.of 0 _ rfl) (And.intro (HXx.out.of 1 _ rfl) (And.intro (HZz.out.of 0 _ rfl) (HZz.out.of 1 _ rfl))))
  go_wp2_with fail
  refine hKpx_16.out _ _ ?kpx_16 (fun hHeldpx_16 => ?dpx_16)
  case kpx_16 => (first | (dsimp only; (first | with_reducible exact kpx_7 | with_reducible exact kpx_6 | with_reducible exact kpx_5 | with_reducible exact kpx_4 | with_reducible exact kpx_3 | with_reducible exact kpx_2 | with_reducible exact kpx_1 | exact kpx_0)) | (first | with_reducible exact kpx_7 | with_reducible exact kpx_6 | with_reducible exact kpx_5 | with_reducible exact kpx_4 | with_reducible exact kpx_3 | with_reducible exact kpx_2 | with_reducible exact kpx_1 | exact kpx_0))
  clear hKpx_16 Kpx_16
  refine wpAnyH_ready (rs := [16]) (by kernel_rfl) (by simp) ?_
  refine AllReadyH.cons (o := _) rfl (fun Kpx_17 hKpx_17 => ?cpx_17) ?mpx_17
  case mpx_17 => exact AllReadyH.nil
  go_simp
  refine (specLocks_got _ _ z (diskSh.rmore HRz.out (by have z0 := HZ0.out; have z1 := HZ1.out; have z3 := HZ3.out; have z4 := HZ4.out; have z6 := HZ6.out; have z8 := HZ8.out; have z9 := HZ9.out; have z10 := HZ10.out; have z11 := HZ11.out; have z12 := HZ12.out; have z13 := HZ13.out; have z14 := HZ14.out; omega)) HM.out).mono ?_; rintro e wgd ⟨Ad, cd, rfl, ho, hb⟩; replace HB := Lib.hid (belowNext HB.out hb); replace HXx := Lib.hid (HXx.out.below hb HXx.out.1); replace HZz := Lib.hid (HZz.out.below hb HZz.out.1); replace HRx := Lib.hid (rel_call HRx.out hb (by have z0 := HZ0.out; have z1 := HZ1.out; have z3 := HZ3.out; have z4 := HZ4.out; have z6 := HZ6.out; have z8 := HZ8.out; have z9 := HZ9.out; have z10 := HZ10.out; have z11 := HZ11.out; have z12 := HZ12.out; have z13 := HZ13.out; have z14 := HZ14.out; omega)); replace HRz := Lib.hid (rel_call HRz.out hb (by have z0 := HZ0.out; have z1 := HZ1.out; have z3 := HZ3.out; have z4 := HZ4.out; have z6 := HZ6.out; have z8 := HZ8.out; have z9 := HZ9.out; have z10 := HZ10.out; have z11 := HZ11.out; have z12 := HZ12.out; have z13 := HZ13.out; have z14 := HZ14.out; omega)); replace HRo := Lib.hid (row_call HRo.out hb (by have z0 := HZ0.out; have z1 := HZ1.out; have z3 := HZ3.out; have z4 := HZ4.out; have z6 := HZ6.out; have z8 := HZ8.out; have z9 := HZ9.out; have z10 := HZ10.out; have z11 := HZ11.out; have z12 := HZ12.out; have z13 := HZ13.out; have z14 := HZ14.out; omega)); replace HRl := Lib.hid (row_call HRl.out hb (by have z0 := HZ0.out; have z1 := HZ1.out; have z3 := HZ3.out; have z4 := HZ4.out; have z6 := HZ6.out; have z8 := HZ8.out; have z9 := HZ9.out; have z10 := HZ10.out; have z11 := HZ11.out; have z12 := HZ12.out; have z13 := HZ13.out; have z14 := HZ14.out; omega)); replace HGa := Lib.hid (row_call HGa.out hb (by have z0 := HZ0.out; have z1 := HZ1.out; have z3 := HZ3.out; have z4 := HZ4.out; have z6 := HZ6.out; have z8 := HZ8.out; have z9 := HZ9.out; have z10 := HZ10.out; have z11 := HZ11.out; have z12 := HZ12.out; have z13 := HZ13.out; have z14 := HZ14.out; omega)); replace HGb := Lib.hid (row_call HGb.out hb (by have z0 := HZ0.out; have z1 := HZ1.out; have z3 := HZ3.out; have z4 := HZ4.out; have z6 := HZ6.out; have z8 := HZ8.out; have z9 := HZ9.out; have z10 := HZ10.out; have z11 := HZ11.out; have z12 := HZ12.out; have z13 := HZ13.out; have z14 := HZ14.out; omega)); replace HGc := Lib.hid (row_call HGc.out hb (by have z0 := HZ0.out; have z1 := HZ1.out; have z3 := HZ3.out; have z4 := HZ4.out; have z6 := HZ6.out; have z8 := HZ8.out; have z9 := HZ9.out; have z10 := HZ10.out; have z11 := HZ11.out; have z12 := HZ12.out; have z13 := HZ13.out; have z14 := HZ14.out; omega)); have HZ15 := Lib.hid hb.size; clear hb; have HGd := Lib.hid ho; clear ho; have kpx_6 := (And.intro (HXx.out.of 0 _ rfl) (And.intro (HXx.out.of 1 _ rfl) (And.intro (HZz.out.of 0 _ rfl) (HZz.out.of 1 _ rfl))))
  go_wp2_with fail
  refine hKpx_17.out _ _ ?kpx_17 (fun hHeldpx_17 => ?dpx_17)
  case kpx_17 => (first | (dsimp only; (first | with_reducible exact kpx_7 | with_reducible exact kpx_6 | with_reducible exact kpx_5 | with_reducible exact kpx_4 | with_reducible exact kpx_3 | with_reducible exact kpx_2 | with_reducible exact kpx_1 | exact kpx_0)) | (first | with_reducible exact kpx_7 | with_reducible exact kpx_6 | with_reducible exact kpx_5 | with_reducible exact kpx_4 | with_reducible exact kpx_3 | with_reducible exact kpx_2 | with_reducible exact kpx_1 | exact kpx_0))
  clear hKpx_17 Kpx_17
  refine wpAnyH_ready (rs := [17]) (by kernel_rfl) (by simp) ?_
  refine AllReadyH.cons (o := _) rfl (fun Kpx_18 hKpx_18 => ?cpx_18) ?mpx_18
  case mpx_18 => exact AllReadyH.nil
  go_simp
  refine (jaTexts_got _ _ _ M (HGc.out.more (by have z0 := HZ0.out; have z1 := HZ1.out; have z3 := HZ3.out; have z4 := HZ4.out; have z6 := HZ6.out; have z8 := HZ8.out; have z9 := HZ9.out; have z10 := HZ10.out; have z11 := HZ11.out; have z12 := HZ12.out; have z13 := HZ13.out; have z14 := HZ14.out; have z15 := HZ15.out; omega)) (HGd.out.more (by have z0 := HZ0.out; have z1 := HZ1.out; have z3 := HZ3.out; have z4 := HZ4.out; have z6 := HZ6.out; have z8 := HZ8.out; have z9 := HZ9.out; have z10 := HZ10.out; have z11 := HZ11.out; have z12 := HZ12.out; have z13 := HZ13.out; have z14 := HZ14.out; have z15 := HZ15.out; omega))).mono ?_; rintro e wjc ⟨rfl, hb⟩; replace HB := Lib.hid (belowNext HB.out hb); replace HXx := Lib.hid (HXx.out.below hb HXx.out.1); replace HZz := Lib.hid (HZz.out.below hb HZz.out.1); replace HRx := Lib.hid (rel_call HRx.out hb (by have z0 := HZ0.out; have z1 := HZ1.out; have z3 := HZ3.out; have z4 := HZ4.out; have z6 := HZ6.out; have z8 := HZ8.out; have z9 := HZ9.out; have z10 := HZ10.out; have z11 := HZ11.out; have z12 := HZ12.out; have z13 := HZ13.out; have z14 := HZ14.out; have z15 := HZ15.out; omega)); replace HRz := Lib.hid (rel_call HRz.out hb (by have z0 := HZ0.out; have z1 := HZ1.out; have z3 := HZ3.out; have z4 := HZ4.out; have z6 := HZ6.out; have z8 := HZ8.out; have z9 := HZ9.out; have z10 := HZ10.out; have z11 := HZ11.out; have z12 := HZ12.out; have z13 := HZ13.out; have z14 := HZ14.out; have z15 := HZ15.out; omega)); replace HRo := Lib.hid (row_call HRo.out hb (by have z0 := HZ0.out; have z1 := HZ1.out; have z3 := HZ3.out; have z4 := HZ4.out; have z6 := HZ6.out; have z8 := HZ8.out; have z9 := HZ9.out; have z10 := HZ10.out; have z11 := HZ11.out; have z12 := HZ12.out; have z13 := HZ13.out; have z14 := HZ14.out; have z15 := HZ15.out; omega)); replace HRl := Lib.hid (row_call HRl.out hb (by have z0 := HZ0.out; have z1 := HZ1.out; have z3 := HZ3.out; have z4 := HZ4.out; have z6 := HZ6.out; have z8 := HZ8.out; have z9 := HZ9.out; have z10 := HZ10.out; have z11 := HZ11.out; have z12 := HZ12.out; have z13 := HZ13.out; have z14 := HZ14.out; have z15 := HZ15.out; omega)); replace HGa := Lib.hid (row_call HGa.out hb (by have z0 := HZ0.out; have z1 := HZ1.out; have z3 := HZ3.out; have z4 := HZ4.out; have z6 := HZ6.out; have z8 := HZ8.out; have z9 := HZ9.out; have z10 := HZ10.out; have z11 := HZ11.out; have z12 := HZ12.out; have z13 := HZ13.out; have z14 := HZ14.out; have z15 := HZ15.out; omega)); replace HGb := Lib.hid (row_call HGb.out hb (by have z0 := HZ0.out; have z1 := HZ1.out; have z3 := HZ3.out; have z4 := HZ4.out; have z6 := HZ6.out; have z8 := HZ8.out; have z9 := HZ9.out; have z10 := HZ10.out; have z11 := HZ11.out; have z12 := HZ12.out; have z13 := HZ13.out; have z14 := HZ14.out; have z15 := HZ15.out; omega)); replace HGc := Lib.hid (row_call HGc.out hb (by have z0 := HZ0.out; have z1 := HZ1.out; have z3 := HZ3.out; have z4 := HZ4.out; have z6 := HZ6.out; have z8 := HZ8.out; have z9 := HZ9.out; have z10 := HZ10.out; have z11 := HZ11.out; have z12 := HZ12.out; have z13 := HZ13.out; have z14 := HZ14.out; have z15 := HZ15.out; omega)); replace HGd := Lib.hid (row_call HGd.out hb (by have z0 := HZ0.out; have z1 := HZ1.out; have z3 := HZ3.out; have z4 := HZ4.out; have z6 := HZ6.out; have z8 := HZ8.out; have z9 := HZ9.out; have z10 := HZ10.out; have z11 := HZ11.out; have z12 := HZ12.out; have z13 := HZ13.out; have z14 := HZ14.out; have z15 := HZ15.out; omega)); have HZ16 := Lib.hid hb.size; clear hb; have kpx_7 := (And.intro (HXx.out.of 0 _ rfl) (And.intro (HXx.out.of 1 _ rfl) (And.intro (HZz.out.of 0 _ rfl) (HZz.out.of 1 _ rfl))))
  go_wp2_with fail
  refine hKpx_18.out _ _ ?kpx_18 (fun hHeldpx_18 => ?dpx_18)
  case kpx_18 => (first | (dsimp only; (first | with_reducible exact kpx_7 | with_reducible exact kpx_6 | with_reducible exact kpx_5 | with_reducible exact kpx_4 | with_reducible exact kpx_3 | with_reducible exact kpx_2 | with_reducible exact kpx_1 | exact kpx_0)) | (first | with_reducible exact kpx_7 | with_reducible exact kpx_6 | with_reducible exact kpx_5 | with_reducible exact kpx_4 | with_reducible exact kpx_3 | with_reducible exact kpx_2 | with_reducible exact kpx_1 | exact kpx_0))
  clear hKpx_18 Kpx_18
  refine take_first 18 47 (v := ?vpx_19) rfl rfl (by kernel_rfl) (by kernel_rfl) (by kernel_rfl) (fun _ _ _ h => h) (by rfl) ?ypx_19 (by assumption) ?rpx_19
  case ypx_19 => (intro w hSw; (try dsimp only at hSw); go_simp; (try with_reducible rfl))
  simp only [Act.put, List.setIfInBounds_toArray, List.set_cons_zero, List.set_cons_succ]
  refine take_first 19 48 (v := ?vpx_20) rfl rfl (by kernel_rfl) (by kernel_rfl) (by kernel_rfl) (fun _ _ _ h => h) (by rfl) ?ypx_20 (by assumption) ?rpx_20
  case ypx_20 => (intro w hSw; (try dsimp only at hSw); go_simp; (try with_reducible rfl))
  simp only [Act.put, List.setIfInBounds_toArray, List.set_cons_zero, List.set_cons_succ]
  refine wpAnyH_done (by kernel_rfl) ?epx _
  clear HGa
  clear HGb
  clear HGc
  clear HGd
  clear HRz
  clear HZz
  clear kpx_0 kpx_1 kpx_2 kpx_3 kpx_4 kpx_5 kpx_6 kpx_7
  have ax_0 := HXx.out.of 0 _ rfl
  have ax_1 := HXx.out.of 1 _ rfl
  go_wp2_with fail
  clear ax_0 ax_1
  refine (specDiskOk_any _ _ x (diskSh.rmore HRx.out (by have z0 := HZ0.out; have z1 := HZ1.out; have z3 := HZ3.out; have z4 := HZ4.out; have z6 := HZ6.out; have z8 := HZ8.out; have z9 := HZ9.out; have z10 := HZ10.out; have z11 := HZ11.out; have z12 := HZ12.out; have z13 := HZ13.out; have z14 := HZ14.out; have z15 := HZ15.out; have z16 := HZ16.out; omega))).mono ?_
  rintro e w17 ⟨rfl, hb⟩
  replace HB := Lib.hid (belowNext HB.out hb)
  replace HXx := Lib.hid (HXx.out.below hb HXx.out.1)
  replace HRx := Lib.hid (rel_call HRx.out hb (by have z0 := HZ0.out; have z1 := HZ1.out; have z3 := HZ3.out; have z4 := HZ4.out; have z6 := HZ6.out; have z8 := HZ8.out; have z9 := HZ9.out; have z10 := HZ10.out; have z11 := HZ11.out; have z12 := HZ12.out; have z13 := HZ13.out; have z14 := HZ14.out; have z15 := HZ15.out; have z16 := HZ16.out; omega))
  replace HRo := Lib.hid (row_call HRo.out hb (by have z0 := HZ0.out; have z1 := HZ1.out; have z3 := HZ3.out; have z4 := HZ4.out; have z6 := HZ6.out; have z8 := HZ8.out; have z9 := HZ9.out; have z10 := HZ10.out; have z11 := HZ11.out; have z12 := HZ12.out; have z13 := HZ13.out; have z14 := HZ14.out; have z15 := HZ15.out; have z16 := HZ16.out; omega))
  replace HRl := Lib.hid (row_call HRl.out hb (by have z0 := HZ0.out; have z1 := HZ1.out; have z3 := HZ3.out; have z4 := HZ4.out; have z6 := HZ6.out; have z8 := HZ8.out; have z9 := HZ9.out; have z10 := HZ10.out; have z11 := HZ11.out; have z12 := HZ12.out; have z13 := HZ13.out; have z14 := HZ14.out; have z15 := HZ15.out; have z16 := HZ16.out; omega))
  have HZ18 := Lib.hid hb.size
  clear hb
  cases hdx : diskB x with
  | false =>
    have hl0 : O = [] := by rw [← HO.out]; exact openD_no hdx
    have hl1 : L = [] := by rw [← HL.out]; exact locksD_no hdx
    subst hl0 hl1
    go_wp2_with fail
    refine (jaOk_any _).mono ?_
    rintro e w19 ⟨rfl, hb⟩
    replace HB := Lib.hid (belowNext HB.out hb)
    replace HXx := Lib.hid (HXx.out.below hb HXx.out.1)
    replace HRx := Lib.hid (rel_call HRx.out hb (by have z0 := HZ0.out; have z1 := HZ1.out; have z3 := HZ3.out; have z4 := HZ4.out; have z6 := HZ6.out; have z8 := HZ8.out; have z9 := HZ9.out; have z10 := HZ10.out; have z11 := HZ11.out; have z12 := HZ12.out; have z13 := HZ13.out; have z14 := HZ14.out; have z15 := HZ15.out; have z16 := HZ16.out; have z18 := HZ18.out; omega))
    replace HRo := Lib.hid (row_call HRo.out hb (by have z0 := HZ0.out; have z1 := HZ1.out; have z3 := HZ3.out; have z4 := HZ4.out; have z6 := HZ6.out; have z8 := HZ8.out; have z9 := HZ9.out; have z10 := HZ10.out; have z11 := HZ11.out; have z12 := HZ12.out; have z13 := HZ13.out; have z14 := HZ14.out; have z15 := HZ15.out; have z16 := HZ16.out; have z18 := HZ18.out; omega))
    replace HRl := Lib.hid (row_call HRl.out hb (by have z0 := HZ0.out; have z1 := HZ1.out; have z3 := HZ3.out; have z4 := HZ4.out; have z6 := HZ6.out; have z8 := HZ8.out; have z9 := HZ9.out; have z10 := HZ10.out; have z11 := HZ11.out; have z12 := HZ12.out; have z13 := HZ13.out; have z14 := HZ14.out; have z15 := HZ15.out; have z16 := HZ16.out; have z18 := HZ18.out; omega))
    have HZ20 := Lib.hid hb.size
    clear hb
    go_wp2
    go_ret
    exact ⟨rfl, HB.out⟩
  | true =>
    have hn120 : x.notes.length ≤ 120 := (diskB_small hdx).1
    have hL1440 : L.length ≤ 1440 := by rw [← HL.out]; have := locksD_len (x := x); omega
    have HMm := Lib.hid fun tx => (HO.out ▸ memB_openD hdx tx : memB O tx = (ofD x tx == 1))
    have HHd := Lib.hid fun (k : Nat) (key : ByteArray) (hk : L[k]? = some key) => (by have h := held_all hdx (k := k) (key := key) (by rw [HL.out]; exact hk); rwa [HO.out] at h : heldTo O key x.notes x.notes.length = true)
    have HOn := Lib.hid fun (k : Nat) (key : ByteArray) (hk : L[k]? = some key) => (by have h := once_T (x := x) (k := k) (key := key) (by rw [HL.out]; exact hk); rwa [HL.out] at h : hasT (L.take k) key = false)
    clear hdx
    go_wp2
    go_loopw [9] (fun i wr => ∃ k : Nat, k ≤ 30 ∧ i = .int .i64 k ∧ Below w17.heap.size w17 wr) (fun i _ => 30 - (intOf i).toNat)
    case atStart => exact ⟨0, by omega, rfl, Below.refl _ _⟩
    case round =>
      rename World => wa
      obtain ⟨k, hk, rfl, hb⟩ := hrel
      have HBk := Lib.hid hb
      replace HB := Lib.hid (belowNext HB.out hb)
      replace HXx := Lib.hid (HXx.out.below hb HXx.out.1)
      replace HRx := Lib.hid (rel_call HRx.out hb (by have z0 := HZ0.out; have z1 := HZ1.out; have z3 := HZ3.out; have z4 := HZ4.out; have z6 := HZ6.out; have z8 := HZ8.out; have z9 := HZ9.out; have z10 := HZ10.out; have z11 := HZ11.out; have z12 := HZ12.out; have z13 := HZ13.out; have z14 := HZ14.out; have z15 := HZ15.out; have z16 := HZ16.out; have z18 := HZ18.out; omega))
      replace HRo := Lib.hid (row_call HRo.out hb (by have z0 := HZ0.out; have z1 := HZ1.out; have z3 := HZ3.out; have z4 := HZ4.out; have z6 := HZ6.out; have z8 := HZ8.out; have z9 := HZ9.out; have z10 := HZ10.out; have z11 := HZ11.out; have z12 := HZ12.out; have z13 := HZ13.out; have z14 := HZ14.out; have z15 := HZ15.out; have z16 := HZ16.out; have z18 := HZ18.out; omega))
      replace HRl := Lib.hid (row_call HRl.out hb (by have z0 := HZ0.out; have z1 := HZ1.out; have z3 := HZ3.out; have z4 := HZ4.out; have z6 := HZ6.out; have z8 := HZ8.out; have z9 := HZ9.out; have z10 := HZ10.out; have z11 := HZ11.out; have z12 := HZ12.out; have z13 := HZ13.out; have z14 := HZ14.out; have z15 := HZ15.out; have z16 := HZ16.out; have z18 := HZ18.out; omega))
      have HZ21 := Lib.hid hb.size
      clear hb
      by_cases hlt : k < 30
      · have hle : (k : Int) ≤ 29 := by omega
        obtain ⟨t, ht⟩ : ∃ t, ofD x (k : Int) = t := ⟨_, rfl⟩
        have HQm := Lib.hid (show memB O (k : Int) = (t == 1) from ht ▸ HMm.out (k : Int))
        have HQo := Lib.hid ht
        clear ht
        have kmx_0 : wa.drew.cell? ⟨w1.heap.size, 0, none⟩ = some (.slice A1 x.notes.length c1) ∧ wa.drew.cell? ⟨w1.heap.size, 1, none⟩ = some (.int .i64 x.safe) := (And.intro (HXx.out.of 0 _ rfl) (HXx.out.of 1 _ rfl))
        go_wp2
        have hdr := (Below.refl wa.heap.size wa).drew
        replace HB := Lib.hid (belowNext HB.out hdr)
        replace HXx := Lib.hid (HXx.out.below hdr HXx.out.1)
        replace HRx := Lib.hid (rel_call HRx.out hdr (by have z0 := HZ0.out; have z1 := HZ1.out; have z3 := HZ3.out; have z4 := HZ4.out; have z6 := HZ6.out; have z8 := HZ8.out; have z9 := HZ9.out; have z10 := HZ10.out; have z11 := HZ11.out; have z12 := HZ12.out; have z13 := HZ13.out; have z14 := HZ14.out; have z15 := HZ15.out; have z16 := HZ16.out; have z18 := HZ18.out; have z21 := HZ21.out; omega))
        replace HRo := Lib.hid (row_call HRo.out hdr (by have z0 := HZ0.out; have z1 := HZ1.out; have z3 := HZ3.out; have z4 := HZ4.out; have z6 := HZ6.out; have z8 := HZ8.out; have z9 := HZ9.out; have z10 := HZ10.out; have z11 := HZ11.out; have z12 := HZ12.out; have z13 := HZ13.out; have z14 := HZ14.out; have z15 := HZ15.out; have z16 := HZ16.out; have z18 := HZ18.out; have z21 := HZ21.out; omega))
        replace HRl := Lib.hid (row_call HRl.out hdr (by have z0 := HZ0.out; have z1 := HZ1.out; have z3 := HZ3.out; have z4 := HZ4.out; have z6 := HZ6.out; have z8 := HZ8.out; have z9 := HZ9.out; have z10 := HZ10.out; have z11 := HZ11.out; have z12 := HZ12.out; have z13 := HZ13.out; have z14 := HZ14.out; have z15 := HZ15.out; have z16 := HZ16.out; have z18 := HZ18.out; have z21 := HZ21.out; omega))
        have HZ22 := Lib.hid hdr.size
        clear hdr
        refine wp_region_held_drew (S := (fun w' => w'.cell? ⟨w1.heap.size, 0, none⟩ = some (.slice A1 x.notes.length c1) ∧ w'.cell? ⟨w1.heap.size, 1, none⟩ = some (.int .i64 x.safe))) (by kernel_rfl) ?hSmx (fun hHeldmx => ?stmx)
        case hSmx => (first | (dsimp only; (first | with_reducible exact kmx_2 | with_reducible exact kmx_1 | exact kmx_0)) | (first | with_reducible exact kmx_2 | with_reducible exact kmx_1 | exact kmx_0))
        refine take_first 0 65 (v := ?vmx_1) rfl rfl (by kernel_rfl) (by kernel_rfl) (by kernel_rfl) (fun _ _ _ h => h) (by rfl) ?ymx_1 (by assumption) ?rmx_1
        case ymx_1 => (intro w hSw; (try dsimp only at hSw); go_simp; (try with_reducible rfl))
        simp only [Act.put, List.setIfInBounds_toArray, List.set_cons_zero, List.set_cons_succ]
        refine take_first 1 66 (v := ?vmx_2) rfl rfl (by kernel_rfl) (by kernel_rfl) (by kernel_rfl) (fun _ _ _ h => h) (by rfl) ?ymx_2 (by assumption) ?rmx_2
        case ymx_2 => (intro w hSw; (try dsimp only at hSw); go_simp; (try with_reducible rfl))
        simp only [Act.put, List.setIfInBounds_toArray, List.set_cons_zero, List.set_cons_succ]
        refine take_first 3 68 (v := ?vmx_3) rfl rfl (by kernel_rfl) (by kernel_rfl) (by kernel_rfl) (fun _ _ _ h => h) (by rfl) ?ymx_3 (by assumption) ?rmx_3
        case ymx_3 => (intro w hSw; (try dsimp only at hSw); go_simp; (try with_reducible rfl))
        simp only [Act.put, List.setIfInBounds_toArray, List.set_cons_zero, List.set_cons_succ]
        refine take_first 4 69 (v := ?vmx_4) rfl rfl (by kernel_rfl) (by kernel_rfl) (by kernel_rfl) (fun _ _ _ h => h) (by rfl) ?ymx_4 (by assumption) ?rmx_4
        case ymx_4 => (intro w hSw; (try dsimp only at hSw); go_simp; (try with_reducible rfl))
        simp only [Act.put, List.setIfInBounds_toArray, List.set_cons_zero, List.set_cons_succ]
        refine wpAnyH_ready (rs := [2]) (by kernel_rfl) (by simp) ?_
        refine AllReadyH.cons (o := _) rfl (fun Kmx_5 hKmx_5 => ?cmx_5) ?mmx_5
        case mmx_5 => exact AllReadyH.nil
        go_simp
        refine (jaIn_any _ _ _ O _ (ints_row.1 HRo.out)).mono ?_; rintro e wi ⟨rfl, rfl⟩; rw [HQm.out]; have kmx_1 := (And.intro (HXx.out.of 0 _ rfl) (HXx.out.of 1 _ rfl))
        go_wp2_with fail
        refine hKmx_5.out _ _ ?kmx_5 (fun hHeldmx_5 => ?dmx_5)
        case kmx_5 => (first | (dsimp only; (first | with_reducible exact kmx_2 | with_reducible exact kmx_1 | exact kmx_0)) | (first | with_reducible exact kmx_2 | with_reducible exact kmx_1 | exact kmx_0))
        clear hKmx_5 Kmx_5
        refine wpAnyH_ready (rs := [5]) (by kernel_rfl) (by simp) ?_
        refine AllReadyH.cons (o := _) rfl (fun Kmx_6 hKmx_6 => ?cmx_6) ?mmx_6
        case mmx_6 => exact AllReadyH.nil
        go_simp
        refine (implDiskOf_any _ _ x (k : Int) (diskSh.rmore HRx.out (by have z0 := HZ0.out; have z1 := HZ1.out; have z3 := HZ3.out; have z4 := HZ4.out; have z6 := HZ6.out; have z8 := HZ8.out; have z9 := HZ9.out; have z10 := HZ10.out; have z11 := HZ11.out; have z12 := HZ12.out; have z13 := HZ13.out; have z14 := HZ14.out; have z15 := HZ15.out; have z16 := HZ16.out; have z18 := HZ18.out; have z21 := HZ21.out; have z22 := HZ22.out; omega))).mono ?_; rintro e wd ⟨rfl, hb⟩; rw [HQo.out]; have HBd := Lib.hid hb; replace HB := Lib.hid (belowNext HB.out hb); replace HXx := Lib.hid (HXx.out.below hb HXx.out.1); replace HRx := Lib.hid (rel_call HRx.out hb (by have z0 := HZ0.out; have z1 := HZ1.out; have z3 := HZ3.out; have z4 := HZ4.out; have z6 := HZ6.out; have z8 := HZ8.out; have z9 := HZ9.out; have z10 := HZ10.out; have z11 := HZ11.out; have z12 := HZ12.out; have z13 := HZ13.out; have z14 := HZ14.out; have z15 := HZ15.out; have z16 := HZ16.out; have z18 := HZ18.out; have z21 := HZ21.out; have z22 := HZ22.out; omega)); replace HRo := Lib.hid (row_call HRo.out hb (by have z0 := HZ0.out; have z1 := HZ1.out; have z3 := HZ3.out; have z4 := HZ4.out; have z6 := HZ6.out; have z8 := HZ8.out; have z9 := HZ9.out; have z10 := HZ10.out; have z11 := HZ11.out; have z12 := HZ12.out; have z13 := HZ13.out; have z14 := HZ14.out; have z15 := HZ15.out; have z16 := HZ16.out; have z18 := HZ18.out; have z21 := HZ21.out; have z22 := HZ22.out; omega)); replace HRl := Lib.hid (row_call HRl.out hb (by have z0 := HZ0.out; have z1 := HZ1.out; have z3 := HZ3.out; have z4 := HZ4.out; have z6 := HZ6.out; have z8 := HZ8.out; have z9 := HZ9.out; have z10 := HZ10.out; have z11 := HZ11.out; have z12 := HZ12.out; have z13 := HZ13.out; have z14 := HZ14.out; have z15 := HZ15.out; have z16 := HZ16.out; have z18 := HZ18.out; have z21 := HZ21.out; have z22 := HZ22.out; omega)); have HZ23 := Lib.hid hb.size; clear hb; have kmx_2 := (And.intro (HXx.out.of 0 _ rfl) (HXx.out.of 1 _ rfl))
        go_wp2_with fail
        refine hKmx_6.out _ _ ?kmx_6 (fun hHeldmx_6 => ?dmx_6)
        case kmx_6 => (first | (dsimp only; (first | with_reducible exact kmx_2 | with_reducible exact kmx_1 | exact kmx_0)) | (first | with_reducible exact kmx_2 | with_reducible exact kmx_1 | exact kmx_0))
        clear hKmx_6 Kmx_6
        refine take_first 6 71 (v := ?vmx_7) rfl rfl (by kernel_rfl) (by kernel_rfl) (by kernel_rfl) (fun _ _ _ h => h) (by rfl) ?ymx_7 (by assumption) ?rmx_7
        case ymx_7 => (intro w hSw; (try dsimp only at hSw); go_simp; (try with_reducible rfl))
        simp only [Act.put, List.setIfInBounds_toArray, List.set_cons_zero, List.set_cons_succ]
        refine take_first 7 72 (v := ?vmx_8) rfl rfl (by kernel_rfl) (by kernel_rfl) (by kernel_rfl) (fun _ _ _ h => h) (by rfl) ?ymx_8 (by assumption) ?rmx_8
        case ymx_8 => (intro w hSw; (try dsimp only at hSw); go_simp; (try with_reducible rfl))
        simp only [Act.put, List.setIfInBounds_toArray, List.set_cons_zero, List.set_cons_succ]
        refine wpAnyH_done (by kernel_rfl) ?emx _
        go_wp2
        go_roundw
        case rel => exact ⟨k + 1, by omega, by go_num, (HBk.out.trans ((Below.refl _ wa).drew.mono HBk.out.size)).trans (HBd.out.mono (by have e : wa.drew.heap.size = wa.heap.size := rfl; have := HBk.out.size; omega))⟩
        case measure => simp [intOf]; omega
      have hgt : ¬ ((k : Int) ≤ 29) := by omega
      clear hlt hk HBk HMm
      go_wp2
      go_loopw [10] (fun i wr => ∃ k : Nat, k ≤ L.length ∧ i = .int .i64 k ∧ Below wa.heap.size wa wr) (fun i _ => L.length - (intOf i).toNat)
      case atStart => exact ⟨0, Nat.zero_le _, rfl, Below.refl _ _⟩
      case round =>
        rename World => wb
        clear hgt
        obtain ⟨kk, hk, rfl, hb⟩ := hrel
        have HBk := Lib.hid hb
        replace HB := Lib.hid (belowNext HB.out hb)
        replace HXx := Lib.hid (HXx.out.below hb HXx.out.1)
        replace HRx := Lib.hid (rel_call HRx.out hb (by have z0 := HZ0.out; have z1 := HZ1.out; have z3 := HZ3.out; have z4 := HZ4.out; have z6 := HZ6.out; have z8 := HZ8.out; have z9 := HZ9.out; have z10 := HZ10.out; have z11 := HZ11.out; have z12 := HZ12.out; have z13 := HZ13.out; have z14 := HZ14.out; have z15 := HZ15.out; have z16 := HZ16.out; have z18 := HZ18.out; have z21 := HZ21.out; omega))
        replace HRo := Lib.hid (row_call HRo.out hb (by have z0 := HZ0.out; have z1 := HZ1.out; have z3 := HZ3.out; have z4 := HZ4.out; have z6 := HZ6.out; have z8 := HZ8.out; have z9 := HZ9.out; have z10 := HZ10.out; have z11 := HZ11.out; have z12 := HZ12.out; have z13 := HZ13.out; have z14 := HZ14.out; have z15 := HZ15.out; have z16 := HZ16.out; have z18 := HZ18.out; have z21 := HZ21.out; omega))
        replace HRl := Lib.hid (row_call HRl.out hb (by have z0 := HZ0.out; have z1 := HZ1.out; have z3 := HZ3.out; have z4 := HZ4.out; have z6 := HZ6.out; have z8 := HZ8.out; have z9 := HZ9.out; have z10 := HZ10.out; have z11 := HZ11.out; have z12 := HZ12.out; have z13 := HZ13.out; have z14 := HZ14.out; have z15 := HZ15.out; have z16 := HZ16.out; have z18 := HZ18.out; have z21 := HZ21.out; omega))
        have HZ24 := Lib.hid hb.size
        clear hb
        by_cases hlt : kk < L.length
        · obtain ⟨bl, ol, cl2, key, e1, hkx, hbl, hkz, ck⟩ := strs_at HRl.out hlt
          injection e1 with e1a e1b e1c
          subst e1a
          clear e1b e1c
          have HHk := Lib.hid (HHd.out kk key hkx)
          have HOk := Lib.hid (HOn.out kk key hkx)
          have HKc := Lib.hid fun (W : World) (hb : Below wb.heap.size wb W) => cell_below hb ck
          clear hkx ck
          obtain ⟨Aq, cq, eq, hq2, hq1⟩ := HRl.out.form
          injection eq with eqA eqB eqC
          subst eqC
          clear eqA eqB
          go_wp2
          go_loopw [11, 12] (fun hv jv wr => ∃ j : Nat, j ≤ x.notes.length ∧ jv = .int .i64 j ∧ hv = .bool (heldTo O key x.notes j) ∧ Below wb.heap.size wb wr) (fun _ jv _ => x.notes.length - (intOf jv).toNat)
          case atStart => exact ⟨0, Nat.zero_le _, rfl, by rw [heldTo_zero], Below.refl _ _⟩
          case round =>
            rename World => wc
            obtain ⟨j, hj, rfl, rfl, hb⟩ := hrel
            have HBj := Lib.hid hb
            have hkc := HKc.out wc hb
            replace HB := Lib.hid (belowNext HB.out hb)
            replace HXx := Lib.hid (HXx.out.below hb HXx.out.1)
            replace HRx := Lib.hid (rel_call HRx.out hb (by have z0 := HZ0.out; have z1 := HZ1.out; have z3 := HZ3.out; have z4 := HZ4.out; have z6 := HZ6.out; have z8 := HZ8.out; have z9 := HZ9.out; have z10 := HZ10.out; have z11 := HZ11.out; have z12 := HZ12.out; have z13 := HZ13.out; have z14 := HZ14.out; have z15 := HZ15.out; have z16 := HZ16.out; have z18 := HZ18.out; have z21 := HZ21.out; have z24 := HZ24.out; omega))
            replace HRo := Lib.hid (row_call HRo.out hb (by have z0 := HZ0.out; have z1 := HZ1.out; have z3 := HZ3.out; have z4 := HZ4.out; have z6 := HZ6.out; have z8 := HZ8.out; have z9 := HZ9.out; have z10 := HZ10.out; have z11 := HZ11.out; have z12 := HZ12.out; have z13 := HZ13.out; have z14 := HZ14.out; have z15 := HZ15.out; have z16 := HZ16.out; have z18 := HZ18.out; have z21 := HZ21.out; have z24 := HZ24.out; omega))
            replace HRl := Lib.hid (row_call HRl.out hb (by have z0 := HZ0.out; have z1 := HZ1.out; have z3 := HZ3.out; have z4 := HZ4.out; have z6 := HZ6.out; have z8 := HZ8.out; have z9 := HZ9.out; have z10 := HZ10.out; have z11 := HZ11.out; have z12 := HZ12.out; have z13 := HZ13.out; have z14 := HZ14.out; have z15 := HZ15.out; have z16 := HZ16.out; have z18 := HZ18.out; have z21 := HZ21.out; have z24 := HZ24.out; omega))
            have HZ25 := Lib.hid hb.size
            clear hb
            by_cases hjl : j < x.notes.length
            · obtain ⟨b, off, d, y, B1, e1, B2, e2, ea, hy, hbB, d0, d1, d2, d3, hyr⟩ := notes_at2 (noteRow HRx.out) hjl
              injection ea with ea1 ea2 ea3
              subst ea1
              clear ea2 ea3
              have HYy := Lib.hid hy
              obtain ⟨_, _, hrf, hr1, -⟩ := note_rel.1 hyr
              cases hrf
              have HRk := Lib.hid hr1
              have hzb := HRx.out
              clear hy hyr hr1 hzb
              have f0 : (0 : Int) ≤ (j : Int) := by omega
              have f1 : (j : Int) < (x.notes.length : Int) := by omega
              have f2 : (0 : Int) ≤ (kk : Int) := by omega
              have f3 : (kk : Int) < (L.length : Int) := by omega
              have ax_0 := HXx.out.of 0 _ rfl
              have k23 : wc.drew.cell? ⟨w1.heap.size, 0, none⟩ = some (.slice (some ⟨b, off, none⟩) x.notes.length c1) ∧ wc.drew.cell? ⟨b, off + j * 4, none⟩ = some (.int .i64 y.kind) ∧ wc.drew.cell? ⟨b, off + j * 4 + 1, none⟩ = some (.int .i64 y.tx) ∧ wc.drew.cell? ⟨b, off + j * 4 + 2, none⟩ = some (.slice B1 y.locks.length e1) ∧ wc.drew.cell? ⟨bl, ol + kk, none⟩ = some (.string key) := ⟨ax_0, d0, d1, d2, hkc⟩
              have HBw := Lib.hid (HBj.out.trans ((Below.refl _ wc).drew.mono HBj.out.size))
              have HRo2 := Lib.hid (ints_row.1 (row_call HRo.out (Below.refl wc.heap.size wc).drew (by have z0 := HZ0.out; have z1 := HZ1.out; have z3 := HZ3.out; have z4 := HZ4.out; have z6 := HZ6.out; have z8 := HZ8.out; have z9 := HZ9.out; have z10 := HZ10.out; have z11 := HZ11.out; have z12 := HZ12.out; have z13 := HZ13.out; have z14 := HZ14.out; have z15 := HZ15.out; have z16 := HZ16.out; have z18 := HZ18.out; have z21 := HZ21.out; have z24 := HZ24.out; have z25 := HZ25.out; omega)))
              have HRk2 := Lib.hid (row_call HRk.out (Below.refl wc.heap.size wc).drew (by have z0 := HZ0.out; have z1 := HZ1.out; have z3 := HZ3.out; have z4 := HZ4.out; have z6 := HZ6.out; have z8 := HZ8.out; have z9 := HZ9.out; have z10 := HZ10.out; have z11 := HZ11.out; have z12 := HZ12.out; have z13 := HZ13.out; have z14 := HZ14.out; have z15 := HZ15.out; have z16 := HZ16.out; have z18 := HZ18.out; have z21 := HZ21.out; have z24 := HZ24.out; have z25 := HZ25.out; omega))
              rcases hhe : heldTo O key x.notes j with _ | _
              · by_cases hk1 : y.kind = 1
                · have ek : (y.kind == 1) = true := by simp [hk1]
                  rcases hmb : memB O y.tx with _ | _
                  · have HF := Lib.hid (held_no (key := key) HYy.out hhe (.inr hmb))
                    clear hk1 hhe
                    go_wp2
                    clear ax_0 d0 d1 d2 d3 hkc
                    refine wp_region_held_drew (S := (fun w' => w'.cell? ⟨w1.heap.size, 0, none⟩ = some (.slice (some ⟨b, off, none⟩) x.notes.length c1) ∧ w'.cell? ⟨b, off + j * 4, none⟩ = some (.int .i64 y.kind) ∧ w'.cell? ⟨b, off + j * 4 + 1, none⟩ = some (.int .i64 y.tx) ∧ w'.cell? ⟨b, off + j * 4 + 2, none⟩ = some (.slice B1 y.locks.length e1) ∧ w'.cell? ⟨bl, ol + kk, none⟩ = some (.string key))) (by kernel_rfl) ?hSax (fun hHeldax => ?stax)
                    case hSax => (first | (dsimp only; (exact k23)) | (exact k23))
                    refine take_first 0 86 (v := ?vax_1) rfl rfl (by kernel_rfl) (by kernel_rfl) (by kernel_rfl) (fun _ _ _ h => h) (by rfl) ?yax_1 (by assumption) ?rax_1
                    case yax_1 => (intro w hSw; (try dsimp only at hSw); go_simp; (try with_reducible rfl))
                    simp only [Act.put, List.setIfInBounds_toArray, List.set_cons_zero, List.set_cons_succ]
                    refine take_first 1 87 (v := ?vax_2) rfl rfl (by kernel_rfl) (by kernel_rfl) (by kernel_rfl) (fun _ _ _ h => h) (by rfl) ?yax_2 (by assumption) ?rax_2
                    case yax_2 => (intro w hSw; (try dsimp only at hSw); go_simp; (try with_reducible rfl))
                    simp only [Act.put, List.setIfInBounds_toArray, List.set_cons_zero, List.set_cons_succ]
                    refine take_first 2 88 (v := ?vax_3) rfl rfl (by kernel_rfl) (by kernel_rfl) (by kernel_rfl) (fun _ _ _ h => h) (by rfl) ?yax_3 (by assumption) ?rax_3
                    case yax_3 => (intro w hSw; (try dsimp only at hSw); go_simp; (try with_reducible rfl))
                    simp only [Act.put, List.setIfInBounds_toArray, List.set_cons_zero, List.set_cons_succ]
                    refine take_first 3 89 (v := ?vax_4) rfl rfl (by kernel_rfl) (by kernel_rfl) (by kernel_rfl) (fun _ _ _ h => h) (by rfl) ?yax_4 (by assumption) ?rax_4
                    case yax_4 => (intro w hSw; (try dsimp only at hSw); go_simp; (try with_reducible rfl))
                    simp only [Act.put, List.setIfInBounds_toArray, List.set_cons_zero, List.set_cons_succ]
                    refine take_first 4 90 (v := ?vax_5) rfl rfl (by kernel_rfl) (by kernel_rfl) (by kernel_rfl) (fun _ _ _ h => h) (by rfl) ?yax_5 (by assumption) ?rax_5
                    case yax_5 => (intro w hSw; (try dsimp only at hSw); go_simp; (try with_reducible rfl))
                    simp only [Act.put, List.setIfInBounds_toArray, List.set_cons_zero, List.set_cons_succ]
                    refine take_first 5 91 (v := ?vax_6) rfl rfl (by kernel_rfl) (by kernel_rfl) (by kernel_rfl) (fun _ _ _ h => h) (by rfl) ?yax_6 (by assumption) ?rax_6
                    case yax_6 => (intro w hSw; (try dsimp only at hSw); go_simp; (try with_reducible rfl))
                    simp only [Act.put, List.setIfInBounds_toArray, List.set_cons_zero, List.set_cons_succ]
                    refine take_first 6 92 (v := ?vax_7) rfl rfl (by kernel_rfl) (by kernel_rfl) (by kernel_rfl) (fun _ _ _ h => h) (by rfl) ?yax_7 (by assumption) ?rax_7
                    case yax_7 => (intro w hSw; (try dsimp only at hSw); go_simp; (try with_reducible rfl))
                    simp only [Act.put, List.setIfInBounds_toArray, List.set_cons_zero, List.set_cons_succ]
                    refine take_first 7 93 (v := ?vax_8) rfl rfl (by kernel_rfl) (by kernel_rfl) (by kernel_rfl) (fun _ _ _ h => h) (by rfl) ?yax_8 (by assumption) ?rax_8
                    case yax_8 => (intro w hSw; (try dsimp only at hSw); go_simp; (try with_reducible rfl))
                    simp only [Act.put, List.setIfInBounds_toArray, List.set_cons_zero, List.set_cons_succ]
                    refine take_first 8 94 (v := ?vax_9) rfl rfl (by kernel_rfl) (by kernel_rfl) (by kernel_rfl) (fun _ _ _ h => h) (by rfl) ?yax_9 (by assumption) ?rax_9
                    case yax_9 => (intro w hSw; (try dsimp only at hSw); go_simp; (try with_reducible rfl))
                    simp only [Act.put, List.setIfInBounds_toArray, List.set_cons_zero, List.set_cons_succ]
                    refine take_first 9 95 (v := ?vax_10) rfl rfl (by kernel_rfl) (by kernel_rfl) (by kernel_rfl) (fun _ _ _ h => h) (by rfl) ?yax_10 (by assumption) ?rax_10
                    case yax_10 => (intro w hSw; (try dsimp only at hSw); go_simp; (try with_reducible rfl))
                    simp only [Act.put, List.setIfInBounds_toArray, List.set_cons_zero, List.set_cons_succ]
                    refine take_first 10 96 (v := ?vax_11) rfl rfl (by kernel_rfl) (by kernel_rfl) (by kernel_rfl) (fun _ _ _ h => h) (by rfl) ?yax_11 (by assumption) ?rax_11
                    case yax_11 => (intro w hSw; (try dsimp only at hSw); go_simp; (try with_reducible rfl))
                    simp only [Act.put, List.setIfInBounds_toArray, List.set_cons_zero, List.set_cons_succ]
                    refine take_first 11 97 (v := ?vax_12) rfl rfl (by kernel_rfl) (by kernel_rfl) (by kernel_rfl) (fun _ _ _ h => h) (by rfl) ?yax_12 (by assumption) ?rax_12
                    case yax_12 => (intro w hSw; (try dsimp only at hSw); go_simp; (try with_reducible rfl))
                    simp only [Act.put, List.setIfInBounds_toArray, List.set_cons_zero, List.set_cons_succ]
                    refine take_first 12 98 (v := ?vax_13) rfl rfl (by kernel_rfl) (by kernel_rfl) (by kernel_rfl) (fun _ _ _ h => h) (by rfl) ?yax_13 (by assumption) ?rax_13
                    case yax_13 => (intro w hSw; (try dsimp only at hSw); go_simp; (try with_reducible rfl))
                    simp only [Act.put, List.setIfInBounds_toArray, List.set_cons_zero, List.set_cons_succ]
                    refine take_first 13 99 (v := ?vax_14) rfl rfl (by kernel_rfl) (by kernel_rfl) (by kernel_rfl) (fun _ _ _ h => h) (by rfl) ?yax_14 (by assumption) ?rax_14
                    case yax_14 => (intro w hSw; (try dsimp only at hSw); go_simp; (try with_reducible rfl))
                    simp only [Act.put, List.setIfInBounds_toArray, List.set_cons_zero, List.set_cons_succ]
                    refine take_first 14 100 (v := ?vax_15) rfl rfl (by kernel_rfl) (by kernel_rfl) (by kernel_rfl) (fun _ _ _ h => h) (by rfl) ?yax_15 (by assumption) ?rax_15
                    case yax_15 => (intro w hSw; (try dsimp only at hSw); go_simp; (try with_reducible rfl))
                    simp only [Act.put, List.setIfInBounds_toArray, List.set_cons_zero, List.set_cons_succ]
                    refine take_first 15 101 (v := ?vax_16) rfl rfl (by kernel_rfl) (by kernel_rfl) (by kernel_rfl) (fun _ _ _ h => h) (by rfl) ?yax_16 (by assumption) ?rax_16
                    case yax_16 => (intro w hSw; (try dsimp only at hSw); go_simp; (try with_reducible rfl))
                    simp only [Act.put, List.setIfInBounds_toArray, List.set_cons_zero, List.set_cons_succ]
                    refine take_first 16 102 (v := ?vax_17) rfl rfl (by kernel_rfl) (by kernel_rfl) (by kernel_rfl) (fun _ _ _ h => h) (by rfl) ?yax_17 (by assumption) ?rax_17
                    case yax_17 => (intro w hSw; (try dsimp only at hSw); go_simp; (try with_reducible rfl))
                    simp only [Act.put, List.setIfInBounds_toArray, List.set_cons_zero, List.set_cons_succ]
                    refine wpAnyH_ready (rs := [17]) (by kernel_rfl) (by simp) ?_
                    refine AllReadyH.cons (o := _) rfl (fun Kax_18 hKax_18 => ?cax_18) ?max_18
                    case max_18 => exact AllReadyH.nil
                    go_simp
                    refine (jaIn_any _ _ _ O _ HRo2.out).mono ?_; rintro e wi ⟨rfl, rfl⟩; rw [hmb]
                    go_wp2_with fail
                    refine hKax_18.out _ _ ?kax_18 (fun hHeldax_18 => ?dax_18)
                    case kax_18 => (first | (dsimp only; (exact k23)) | (exact k23))
                    clear hKax_18 Kax_18
                    refine take_first 18 104 (v := ?vax_19) rfl rfl (by kernel_rfl) (by kernel_rfl) (by kernel_rfl) (fun _ _ _ h => h) (by rfl) ?yax_19 (by assumption) ?rax_19
                    case yax_19 => (intro w hSw; (try dsimp only at hSw); go_simp; (try with_reducible rfl))
                    simp only [Act.put, List.setIfInBounds_toArray, List.set_cons_zero, List.set_cons_succ]
                    refine take_first 19 105 (v := ?vax_20) rfl rfl (by kernel_rfl) (by kernel_rfl) (by kernel_rfl) (fun _ _ _ h => h) (by rfl) ?yax_20 (by assumption) ?rax_20
                    case yax_20 => (intro w hSw; (try dsimp only at hSw); go_simp; (try with_reducible rfl))
                    simp only [Act.put, List.setIfInBounds_toArray, List.set_cons_zero, List.set_cons_succ]
                    refine pass_over 20 106 rfl rfl (by kernel_rfl) (by kernel_rfl) (by kernel_rfl) (fun _ _ _ h => h) (by rfl) (by assumption) ?rax_21
                    simp only [Act.put, List.setIfInBounds_toArray, List.set_cons_zero, List.set_cons_succ]
                    refine pass_over 21 107 rfl rfl (by kernel_rfl) (by kernel_rfl) (by kernel_rfl) (fun _ _ _ h => h) (by rfl) (by assumption) ?rax_22
                    simp only [Act.put, List.setIfInBounds_toArray, List.set_cons_zero, List.set_cons_succ]
                    refine pass_over 22 108 rfl rfl (by kernel_rfl) (by kernel_rfl) (by kernel_rfl) (fun _ _ _ h => h) (by rfl) (by assumption) ?rax_23
                    simp only [Act.put, List.setIfInBounds_toArray, List.set_cons_zero, List.set_cons_succ]
                    refine pass_over 23 109 rfl rfl (by kernel_rfl) (by kernel_rfl) (by kernel_rfl) (fun _ _ _ h => h) (by rfl) (by assumption) ?rax_24
                    simp only [Act.put, List.setIfInBounds_toArray, List.set_cons_zero, List.set_cons_succ]
                    refine pass_over 24 110 rfl rfl (by kernel_rfl) (by kernel_rfl) (by kernel_rfl) (fun _ _ _ h => h) (by rfl) (by assumption) ?rax_25
                    simp only [Act.put, List.setIfInBounds_toArray, List.set_cons_zero, List.set_cons_succ]
                    refine pass_over 25 111 rfl rfl (by kernel_rfl) (by kernel_rfl) (by kernel_rfl) (fun _ _ _ h => h) (by rfl) (by assumption) ?rax_26
                    simp only [Act.put, List.setIfInBounds_toArray, List.set_cons_zero, List.set_cons_succ]
                    refine pass_over 26 112 rfl rfl (by kernel_rfl) (by kernel_rfl) (by kernel_rfl) (fun _ _ _ h => h) (by rfl) (by assumption) ?rax_27
                    simp only [Act.put, List.setIfInBounds_toArray, List.set_cons_zero, List.set_cons_succ]
                    refine pass_over 27 113 rfl rfl (by kernel_rfl) (by kernel_rfl) (by kernel_rfl) (fun _ _ _ h => h) (by rfl) (by assumption) ?rax_28
                    simp only [Act.put, List.setIfInBounds_toArray, List.set_cons_zero, List.set_cons_succ]
                    refine pass_over 28 114 rfl rfl (by kernel_rfl) (by kernel_rfl) (by kernel_rfl) (fun _ _ _ h => h) (by rfl) (by assumption) ?rax_29
                    simp only [Act.put, List.setIfInBounds_toArray, List.set_cons_zero, List.set_cons_succ]
                    refine pass_over 29 115 rfl rfl (by kernel_rfl) (by kernel_rfl) (by kernel_rfl) (fun _ _ _ h => h) (by rfl) (by assumption) ?rax_30
                    simp only [Act.put, List.setIfInBounds_toArray, List.set_cons_zero, List.set_cons_succ]
                    refine pass_over 30 116 rfl rfl (by kernel_rfl) (by kernel_rfl) (by kernel_rfl) (fun _ _ _ h => h) (by rfl) (by assumption) ?rax_31
                    simp only [Act.put, List.setIfInBounds_toArray, List.set_cons_zero, List.set_cons_succ]
                    refine take_first 31 117 (v := ?vax_32) rfl rfl (by kernel_rfl) (by kernel_rfl) (by kernel_rfl) (fun _ _ _ h => h) (by rfl) ?yax_32 (by assumption) ?rax_32
                    case yax_32 => (intro w hSw; (try dsimp only at hSw); go_simp; (try with_reducible rfl))
                    simp only [Act.put, List.setIfInBounds_toArray, List.set_cons_zero, List.set_cons_succ]
                    refine take_first 32 118 (v := ?vax_33) rfl rfl (by kernel_rfl) (by kernel_rfl) (by kernel_rfl) (fun _ _ _ h => h) (by rfl) ?yax_33 (by assumption) ?rax_33
                    case yax_33 => (intro w hSw; (try dsimp only at hSw); go_simp; (try with_reducible rfl))
                    simp only [Act.put, List.setIfInBounds_toArray, List.set_cons_zero, List.set_cons_succ]
                    refine take_first 33 11 (v := ?vax_34) rfl rfl (by kernel_rfl) (by kernel_rfl) (by kernel_rfl) (fun _ _ _ h => h) (by rfl) ?yax_34 (by assumption) ?rax_34
                    case yax_34 => (intro w hSw; (try dsimp only at hSw); go_simp; (try with_reducible rfl))
                    simp only [Act.put, List.setIfInBounds_toArray, List.set_cons_zero, List.set_cons_succ]
                    refine wpAnyH_done (by kernel_rfl) ?eax _
                    go_wp2
                    go_roundw
                    case rel => exact ⟨j + 1, by omega, by go_num, by rw [HF.out], HBw.out⟩
                    case measure => simp [intOf]; omega
                  · obtain ⟨qh, hht⟩ : ∃ q, hasT y.locks key = q := ⟨_, rfl⟩
                    have HF := Lib.hid ((held_has HYy.out hhe hk1 hmb).trans hht)
                    clear hk1 hhe
                    go_wp2
                    clear ax_0 d0 d1 d2 d3 hkc
                    refine wp_region_held_drew (S := (fun w' => w'.cell? ⟨w1.heap.size, 0, none⟩ = some (.slice (some ⟨b, off, none⟩) x.notes.length c1) ∧ w'.cell? ⟨b, off + j * 4, none⟩ = some (.int .i64 y.kind) ∧ w'.cell? ⟨b, off + j * 4 + 1, none⟩ = some (.int .i64 y.tx) ∧ w'.cell? ⟨b, off + j * 4 + 2, none⟩ = some (.slice B1 y.locks.length e1) ∧ w'.cell? ⟨bl, ol + kk, none⟩ = some (.string key))) (by kernel_rfl) ?hSbx (fun hHeldbx => ?stbx)
                    case hSbx => (first | (dsimp only; (exact k23)) | (exact k23))
                    refine take_first 0 86 (v := ?vbx_1) rfl rfl (by kernel_rfl) (by kernel_rfl) (by kernel_rfl) (fun _ _ _ h => h) (by rfl) ?ybx_1 (by assumption) ?rbx_1
                    case ybx_1 => (intro w hSw; (try dsimp only at hSw); go_simp; (try with_reducible rfl))
                    simp only [Act.put, List.setIfInBounds_toArray, List.set_cons_zero, List.set_cons_succ]
                    refine take_first 1 87 (v := ?vbx_2) rfl rfl (by kernel_rfl) (by kernel_rfl) (by kernel_rfl) (fun _ _ _ h => h) (by rfl) ?ybx_2 (by assumption) ?rbx_2
                    case ybx_2 => (intro w hSw; (try dsimp only at hSw); go_simp; (try with_reducible rfl))
                    simp only [Act.put, List.setIfInBounds_toArray, List.set_cons_zero, List.set_cons_succ]
                    refine take_first 2 88 (v := ?vbx_3) rfl rfl (by kernel_rfl) (by kernel_rfl) (by kernel_rfl) (fun _ _ _ h => h) (by rfl) ?ybx_3 (by assumption) ?rbx_3
                    case ybx_3 => (intro w hSw; (try dsimp only at hSw); go_simp; (try with_reducible rfl))
                    simp only [Act.put, List.setIfInBounds_toArray, List.set_cons_zero, List.set_cons_succ]
                    refine take_first 3 89 (v := ?vbx_4) rfl rfl (by kernel_rfl) (by kernel_rfl) (by kernel_rfl) (fun _ _ _ h => h) (by rfl) ?ybx_4 (by assumption) ?rbx_4
                    case ybx_4 => (intro w hSw; (try dsimp only at hSw); go_simp; (try with_reducible rfl))
                    simp only [Act.put, List.setIfInBounds_toArray, List.set_cons_zero, List.set_cons_succ]
                    refine take_first 4 90 (v := ?vbx_5) rfl rfl (by kernel_rfl) (by kernel_rfl) (by kernel_rfl) (fun _ _ _ h => h) (by rfl) ?ybx_5 (by assumption) ?rbx_5
                    case ybx_5 => (intro w hSw; (try dsimp only at hSw); go_simp; (try with_reducible rfl))
                    simp only [Act.put, List.setIfInBounds_toArray, List.set_cons_zero, List.set_cons_succ]
                    refine take_first 5 91 (v := ?vbx_6) rfl rfl (by kernel_rfl) (by kernel_rfl) (by kernel_rfl) (fun _ _ _ h => h) (by rfl) ?ybx_6 (by assumption) ?rbx_6
                    case ybx_6 => (intro w hSw; (try dsimp only at hSw); go_simp; (try with_reducible rfl))
                    simp only [Act.put, List.setIfInBounds_toArray, List.set_cons_zero, List.set_cons_succ]
                    refine take_first 6 92 (v := ?vbx_7) rfl rfl (by kernel_rfl) (by kernel_rfl) (by kernel_rfl) (fun _ _ _ h => h) (by rfl) ?ybx_7 (by assumption) ?rbx_7
                    case ybx_7 => (intro w hSw; (try dsimp only at hSw); go_simp; (try with_reducible rfl))
                    simp only [Act.put, List.setIfInBounds_toArray, List.set_cons_zero, List.set_cons_succ]
                    refine take_first 7 93 (v := ?vbx_8) rfl rfl (by kernel_rfl) (by kernel_rfl) (by kernel_rfl) (fun _ _ _ h => h) (by rfl) ?ybx_8 (by assumption) ?rbx_8
                    case ybx_8 => (intro w hSw; (try dsimp only at hSw); go_simp; (try with_reducible rfl))
                    simp only [Act.put, List.setIfInBounds_toArray, List.set_cons_zero, List.set_cons_succ]
                    refine take_first 8 94 (v := ?vbx_9) rfl rfl (by kernel_rfl) (by kernel_rfl) (by kernel_rfl) (fun _ _ _ h => h) (by rfl) ?ybx_9 (by assumption) ?rbx_9
                    case ybx_9 => (intro w hSw; (try dsimp only at hSw); go_simp; (try with_reducible rfl))
                    simp only [Act.put, List.setIfInBounds_toArray, List.set_cons_zero, List.set_cons_succ]
                    refine take_first 9 95 (v := ?vbx_10) rfl rfl (by kernel_rfl) (by kernel_rfl) (by kernel_rfl) (fun _ _ _ h => h) (by rfl) ?ybx_10 (by assumption) ?rbx_10
                    case ybx_10 => (intro w hSw; (try dsimp only at hSw); go_simp; (try with_reducible rfl))
                    simp only [Act.put, List.setIfInBounds_toArray, List.set_cons_zero, List.set_cons_succ]
                    refine take_first 10 96 (v := ?vbx_11) rfl rfl (by kernel_rfl) (by kernel_rfl) (by kernel_rfl) (fun _ _ _ h => h) (by rfl) ?ybx_11 (by assumption) ?rbx_11
                    case ybx_11 => (intro w hSw; (try dsimp only at hSw); go_simp; (try with_reducible rfl))
                    simp only [Act.put, List.setIfInBounds_toArray, List.set_cons_zero, List.set_cons_succ]
                    refine take_first 11 97 (v := ?vbx_12) rfl rfl (by kernel_rfl) (by kernel_rfl) (by kernel_rfl) (fun _ _ _ h => h) (by rfl) ?ybx_12 (by assumption) ?rbx_12
                    case ybx_12 => (intro w hSw; (try dsimp only at hSw); go_simp; (try with_reducible rfl))
                    simp only [Act.put, List.setIfInBounds_toArray, List.set_cons_zero, List.set_cons_succ]
                    refine take_first 12 98 (v := ?vbx_13) rfl rfl (by kernel_rfl) (by kernel_rfl) (by kernel_rfl) (fun _ _ _ h => h) (by rfl) ?ybx_13 (by assumption) ?rbx_13
                    case ybx_13 => (intro w hSw; (try dsimp only at hSw); go_simp; (try with_reducible rfl))
                    simp only [Act.put, List.setIfInBounds_toArray, List.set_cons_zero, List.set_cons_succ]
                    refine take_first 13 99 (v := ?vbx_14) rfl rfl (by kernel_rfl) (by kernel_rfl) (by kernel_rfl) (fun _ _ _ h => h) (by rfl) ?ybx_14 (by assumption) ?rbx_14
                    case ybx_14 => (intro w hSw; (try dsimp only at hSw); go_simp; (try with_reducible rfl))
                    simp only [Act.put, List.setIfInBounds_toArray, List.set_cons_zero, List.set_cons_succ]
                    refine take_first 14 100 (v := ?vbx_15) rfl rfl (by kernel_rfl) (by kernel_rfl) (by kernel_rfl) (fun _ _ _ h => h) (by rfl) ?ybx_15 (by assumption) ?rbx_15
                    case ybx_15 => (intro w hSw; (try dsimp only at hSw); go_simp; (try with_reducible rfl))
                    simp only [Act.put, List.setIfInBounds_toArray, List.set_cons_zero, List.set_cons_succ]
                    refine take_first 15 101 (v := ?vbx_16) rfl rfl (by kernel_rfl) (by kernel_rfl) (by kernel_rfl) (fun _ _ _ h => h) (by rfl) ?ybx_16 (by assumption) ?rbx_16
                    case ybx_16 => (intro w hSw; (try dsimp only at hSw); go_simp; (try with_reducible rfl))
                    simp only [Act.put, List.setIfInBounds_toArray, List.set_cons_zero, List.set_cons_succ]
                    refine take_first 16 102 (v := ?vbx_17) rfl rfl (by kernel_rfl) (by kernel_rfl) (by kernel_rfl) (fun _ _ _ h => h) (by rfl) ?ybx_17 (by assumption) ?rbx_17
                    case ybx_17 => (intro w hSw; (try dsimp only at hSw); go_simp; (try with_reducible rfl))
                    simp only [Act.put, List.setIfInBounds_toArray, List.set_cons_zero, List.set_cons_succ]
                    refine wpAnyH_ready (rs := [17]) (by kernel_rfl) (by simp) ?_
                    refine AllReadyH.cons (o := _) rfl (fun Kbx_18 hKbx_18 => ?cbx_18) ?mbx_18
                    case mbx_18 => exact AllReadyH.nil
                    go_simp
                    refine (jaIn_any _ _ _ O _ HRo2.out).mono ?_; rintro e wi ⟨rfl, rfl⟩; rw [hmb]
                    go_wp2_with fail
                    refine hKbx_18.out _ _ ?kbx_18 (fun hHeldbx_18 => ?dbx_18)
                    case kbx_18 => (first | (dsimp only; (exact k23)) | (exact k23))
                    clear hKbx_18 Kbx_18
                    refine take_first 18 104 (v := ?vbx_19) rfl rfl (by kernel_rfl) (by kernel_rfl) (by kernel_rfl) (fun _ _ _ h => h) (by rfl) ?ybx_19 (by assumption) ?rbx_19
                    case ybx_19 => (intro w hSw; (try dsimp only at hSw); go_simp; (try with_reducible rfl))
                    simp only [Act.put, List.setIfInBounds_toArray, List.set_cons_zero, List.set_cons_succ]
                    refine take_first 19 105 (v := ?vbx_20) rfl rfl (by kernel_rfl) (by kernel_rfl) (by kernel_rfl) (fun _ _ _ h => h) (by rfl) ?ybx_20 (by assumption) ?rbx_20
                    case ybx_20 => (intro w hSw; (try dsimp only at hSw); go_simp; (try with_reducible rfl))
                    simp only [Act.put, List.setIfInBounds_toArray, List.set_cons_zero, List.set_cons_succ]
                    refine take_first 20 106 (v := ?vbx_21) rfl rfl (by kernel_rfl) (by kernel_rfl) (by kernel_rfl) (fun _ _ _ h => h) (by rfl) ?ybx_21 (by assumption) ?rbx_21
                    case ybx_21 => (intro w hSw; (try dsimp only at hSw); go_simp; (try with_reducible rfl))
                    simp only [Act.put, List.setIfInBounds_toArray, List.set_cons_zero, List.set_cons_succ]
                    refine take_first 21 107 (v := ?vbx_22) rfl rfl (by kernel_rfl) (by kernel_rfl) (by kernel_rfl) (fun _ _ _ h => h) (by rfl) ?ybx_22 (by assumption) ?rbx_22
                    case ybx_22 => (intro w hSw; (try dsimp only at hSw); go_simp; (try with_reducible rfl))
                    simp only [Act.put, List.setIfInBounds_toArray, List.set_cons_zero, List.set_cons_succ]
                    refine take_first 22 108 (v := ?vbx_23) rfl rfl (by kernel_rfl) (by kernel_rfl) (by kernel_rfl) (fun _ _ _ h => h) (by rfl) ?ybx_23 (by assumption) ?rbx_23
                    case ybx_23 => (intro w hSw; (try dsimp only at hSw); go_simp; (try with_reducible rfl))
                    simp only [Act.put, List.setIfInBounds_toArray, List.set_cons_zero, List.set_cons_succ]
                    refine take_first 23 109 (v := ?vbx_24) rfl rfl (by kernel_rfl) (by kernel_rfl) (by kernel_rfl) (fun _ _ _ h => h) (by rfl) ?ybx_24 (by assumption) ?rbx_24
                    case ybx_24 => (intro w hSw; (try dsimp only at hSw); go_simp; (try with_reducible rfl))
                    simp only [Act.put, List.setIfInBounds_toArray, List.set_cons_zero, List.set_cons_succ]
                    refine take_first 24 110 (v := ?vbx_25) rfl rfl (by kernel_rfl) (by kernel_rfl) (by kernel_rfl) (fun _ _ _ h => h) (by rfl) ?ybx_25 (by assumption) ?rbx_25
                    case ybx_25 => (intro w hSw; (try dsimp only at hSw); go_simp; (try with_reducible rfl))
                    simp only [Act.put, List.setIfInBounds_toArray, List.set_cons_zero, List.set_cons_succ]
                    refine take_first 25 111 (v := ?vbx_26) rfl rfl (by kernel_rfl) (by kernel_rfl) (by kernel_rfl) (fun _ _ _ h => h) (by rfl) ?ybx_26 (by assumption) ?rbx_26
                    case ybx_26 => (intro w hSw; (try dsimp only at hSw); go_simp; (try with_reducible rfl))
                    simp only [Act.put, List.setIfInBounds_toArray, List.set_cons_zero, List.set_cons_succ]
                    refine take_first 26 112 (v := ?vbx_27) rfl rfl (by kernel_rfl) (by kernel_rfl) (by kernel_rfl) (fun _ _ _ h => h) (by rfl) ?ybx_27 (by assumption) ?rbx_27
                    case ybx_27 => (intro w hSw; (try dsimp only at hSw); go_simp; (try with_reducible rfl))
                    simp only [Act.put, List.setIfInBounds_toArray, List.set_cons_zero, List.set_cons_succ]
                    refine take_first 27 113 (v := ?vbx_28) rfl rfl (by kernel_rfl) (by kernel_rfl) (by kernel_rfl) (fun _ _ _ h => h) (by rfl) ?ybx_28 (by assumption) ?rbx_28
                    case ybx_28 => (intro w hSw; (try dsimp only at hSw); go_simp; (try with_reducible rfl))
                    simp only [Act.put, List.setIfInBounds_toArray, List.set_cons_zero, List.set_cons_succ]
                    refine take_first 28 114 (v := ?vbx_29) rfl rfl (by kernel_rfl) (by kernel_rfl) (by kernel_rfl) (fun _ _ _ h => h) (by rfl) ?ybx_29 (by assumption) ?rbx_29
                    case ybx_29 => (intro w hSw; (try dsimp only at hSw); go_simp; (try with_reducible rfl))
                    simp only [Act.put, List.setIfInBounds_toArray, List.set_cons_zero, List.set_cons_succ]
                    refine take_first 29 115 (v := ?vbx_30) rfl rfl (by kernel_rfl) (by kernel_rfl) (by kernel_rfl) (fun _ _ _ h => h) (by rfl) ?ybx_30 (by assumption) ?rbx_30
                    case ybx_30 => (intro w hSw; (try dsimp only at hSw); go_simp; (try with_reducible rfl))
                    simp only [Act.put, List.setIfInBounds_toArray, List.set_cons_zero, List.set_cons_succ]
                    refine wpAnyH_ready (rs := [30]) (by kernel_rfl) (by simp) ?_
                    refine AllReadyH.cons (o := _) rfl (fun Kbx_31 hKbx_31 => ?cbx_31) ?mbx_31
                    case mbx_31 => exact AllReadyH.nil
                    go_simp
                    refine (jaHas_any _ _ _ y.locks key HRk2.out).mono ?_; rintro e wh ⟨rfl, rfl⟩; rw [hht]
                    go_wp2_with fail
                    refine hKbx_31.out _ _ ?kbx_31 (fun hHeldbx_31 => ?dbx_31)
                    case kbx_31 => (first | (dsimp only; (exact k23)) | (exact k23))
                    clear hKbx_31 Kbx_31
                    refine take_first 31 117 (v := ?vbx_32) rfl rfl (by kernel_rfl) (by kernel_rfl) (by kernel_rfl) (fun _ _ _ h => h) (by rfl) ?ybx_32 (by assumption) ?rbx_32
                    case ybx_32 => (intro w hSw; (try dsimp only at hSw); go_simp; (try with_reducible rfl))
                    simp only [Act.put, List.setIfInBounds_toArray, List.set_cons_zero, List.set_cons_succ]
                    refine take_first 32 118 (v := ?vbx_33) rfl rfl (by kernel_rfl) (by kernel_rfl) (by kernel_rfl) (fun _ _ _ h => h) (by rfl) ?ybx_33 (by assumption) ?rbx_33
                    case ybx_33 => (intro w hSw; (try dsimp only at hSw); go_simp; (try with_reducible rfl))
                    simp only [Act.put, List.setIfInBounds_toArray, List.set_cons_zero, List.set_cons_succ]
                    refine take_first 33 11 (v := ?vbx_34) rfl rfl (by kernel_rfl) (by kernel_rfl) (by kernel_rfl) (fun _ _ _ h => h) (by rfl) ?ybx_34 (by assumption) ?rbx_34
                    case ybx_34 => (intro w hSw; (try dsimp only at hSw); go_simp; (try with_reducible rfl))
                    simp only [Act.put, List.setIfInBounds_toArray, List.set_cons_zero, List.set_cons_succ]
                    refine wpAnyH_done (by kernel_rfl) ?ebx _
                    go_wp2
                    go_roundw
                    case rel => exact ⟨j + 1, by omega, by go_num, by rw [HF.out], HBw.out⟩
                    case measure => simp [intOf]; omega
                · have ek : (y.kind == 1) = false := by simp [hk1]
                  have HF := Lib.hid (held_no (O := O) (key := key) HYy.out hhe (.inl hk1))
                  clear hk1 hhe
                  go_wp2
                  clear ax_0 d0 d1 d2 d3 hkc
                  refine wp_region_held_drew (S := (fun w' => w'.cell? ⟨w1.heap.size, 0, none⟩ = some (.slice (some ⟨b, off, none⟩) x.notes.length c1) ∧ w'.cell? ⟨b, off + j * 4, none⟩ = some (.int .i64 y.kind) ∧ w'.cell? ⟨b, off + j * 4 + 1, none⟩ = some (.int .i64 y.tx) ∧ w'.cell? ⟨b, off + j * 4 + 2, none⟩ = some (.slice B1 y.locks.length e1) ∧ w'.cell? ⟨bl, ol + kk, none⟩ = some (.string key))) (by kernel_rfl) ?hScx (fun hHeldcx => ?stcx)
                  case hScx => (first | (dsimp only; (exact k23)) | (exact k23))
                  refine take_first 0 86 (v := ?vcx_1) rfl rfl (by kernel_rfl) (by kernel_rfl) (by kernel_rfl) (fun _ _ _ h => h) (by rfl) ?ycx_1 (by assumption) ?rcx_1
                  case ycx_1 => (intro w hSw; (try dsimp only at hSw); go_simp; (try with_reducible rfl))
                  simp only [Act.put, List.setIfInBounds_toArray, List.set_cons_zero, List.set_cons_succ]
                  refine take_first 1 87 (v := ?vcx_2) rfl rfl (by kernel_rfl) (by kernel_rfl) (by kernel_rfl) (fun _ _ _ h => h) (by rfl) ?ycx_2 (by assumption) ?rcx_2
                  case ycx_2 => (intro w hSw; (try dsimp only at hSw); go_simp; (try with_reducible rfl))
                  simp only [Act.put, List.setIfInBounds_toArray, List.set_cons_zero, List.set_cons_succ]
                  refine take_first 2 88 (v := ?vcx_3) rfl rfl (by kernel_rfl) (by kernel_rfl) (by kernel_rfl) (fun _ _ _ h => h) (by rfl) ?ycx_3 (by assumption) ?rcx_3
                  case ycx_3 => (intro w hSw; (try dsimp only at hSw); go_simp; (try with_reducible rfl))
                  simp only [Act.put, List.setIfInBounds_toArray, List.set_cons_zero, List.set_cons_succ]
                  refine take_first 3 89 (v := ?vcx_4) rfl rfl (by kernel_rfl) (by kernel_rfl) (by kernel_rfl) (fun _ _ _ h => h) (by rfl) ?ycx_4 (by assumption) ?rcx_4
                  case ycx_4 => (intro w hSw; (try dsimp only at hSw); go_simp; (try with_reducible rfl))
                  simp only [Act.put, List.setIfInBounds_toArray, List.set_cons_zero, List.set_cons_succ]
                  refine take_first 4 90 (v := ?vcx_5) rfl rfl (by kernel_rfl) (by kernel_rfl) (by kernel_rfl) (fun _ _ _ h => h) (by rfl) ?ycx_5 (by assumption) ?rcx_5
                  case ycx_5 => (intro w hSw; (try dsimp only at hSw); go_simp; (try with_reducible rfl))
                  simp only [Act.put, List.setIfInBounds_toArray, List.set_cons_zero, List.set_cons_succ]
                  refine take_first 5 91 (v := ?vcx_6) rfl rfl (by kernel_rfl) (by kernel_rfl) (by kernel_rfl) (fun _ _ _ h => h) (by rfl) ?ycx_6 (by assumption) ?rcx_6
                  case ycx_6 => (intro w hSw; (try dsimp only at hSw); go_simp; (try with_reducible rfl))
                  simp only [Act.put, List.setIfInBounds_toArray, List.set_cons_zero, List.set_cons_succ]
                  refine take_first 6 92 (v := ?vcx_7) rfl rfl (by kernel_rfl) (by kernel_rfl) (by kernel_rfl) (fun _ _ _ h => h) (by rfl) ?ycx_7 (by assumption) ?rcx_7
                  case ycx_7 => (intro w hSw; (try dsimp only at hSw); go_simp; (try with_reducible rfl))
                  simp only [Act.put, List.setIfInBounds_toArray, List.set_cons_zero, List.set_cons_succ]
                  refine take_first 7 93 (v := ?vcx_8) rfl rfl (by kernel_rfl) (by kernel_rfl) (by kernel_rfl) (fun _ _ _ h => h) (by rfl) ?ycx_8 (by assumption) ?rcx_8
                  case ycx_8 => (intro w hSw; (try dsimp only at hSw); go_simp; (try with_reducible rfl))
                  simp only [Act.put, List.setIfInBounds_toArray, List.set_cons_zero, List.set_cons_succ]
                  refine take_first 8 94 (v := ?vcx_9) rfl rfl (by kernel_rfl) (by kernel_rfl) (by kernel_rfl) (fun _ _ _ h => h) (by rfl) ?ycx_9 (by assumption) ?rcx_9
                  case ycx_9 => (intro w hSw; (try dsimp only at hSw); go_simp; (try with_reducible rfl))
                  simp only [Act.put, List.setIfInBounds_toArray, List.set_cons_zero, List.set_cons_succ]
                  refine take_first 9 95 (v := ?vcx_10) rfl rfl (by kernel_rfl) (by kernel_rfl) (by kernel_rfl) (fun _ _ _ h => h) (by rfl) ?ycx_10 (by assumption) ?rcx_10
                  case ycx_10 => (intro w hSw; (try dsimp only at hSw); go_simp; (try with_reducible rfl))
                  simp only [Act.put, List.setIfInBounds_toArray, List.set_cons_zero, List.set_cons_succ]
                  refine pass_over 10 96 rfl rfl (by kernel_rfl) (by kernel_rfl) (by kernel_rfl) (fun _ _ _ h => h) (by rfl) (by assumption) ?rcx_11
                  simp only [Act.put, List.setIfInBounds_toArray, List.set_cons_zero, List.set_cons_succ]
                  refine pass_over 11 97 rfl rfl (by kernel_rfl) (by kernel_rfl) (by kernel_rfl) (fun _ _ _ h => h) (by rfl) (by assumption) ?rcx_12
                  simp only [Act.put, List.setIfInBounds_toArray, List.set_cons_zero, List.set_cons_succ]
                  refine pass_over 12 98 rfl rfl (by kernel_rfl) (by kernel_rfl) (by kernel_rfl) (fun _ _ _ h => h) (by rfl) (by assumption) ?rcx_13
                  simp only [Act.put, List.setIfInBounds_toArray, List.set_cons_zero, List.set_cons_succ]
                  refine pass_over 13 99 rfl rfl (by kernel_rfl) (by kernel_rfl) (by kernel_rfl) (fun _ _ _ h => h) (by rfl) (by assumption) ?rcx_14
                  simp only [Act.put, List.setIfInBounds_toArray, List.set_cons_zero, List.set_cons_succ]
                  refine pass_over 14 100 rfl rfl (by kernel_rfl) (by kernel_rfl) (by kernel_rfl) (fun _ _ _ h => h) (by rfl) (by assumption) ?rcx_15
                  simp only [Act.put, List.setIfInBounds_toArray, List.set_cons_zero, List.set_cons_succ]
                  refine pass_over 15 101 rfl rfl (by kernel_rfl) (by kernel_rfl) (by kernel_rfl) (fun _ _ _ h => h) (by rfl) (by assumption) ?rcx_16
                  simp only [Act.put, List.setIfInBounds_toArray, List.set_cons_zero, List.set_cons_succ]
                  refine pass_over 16 102 rfl rfl (by kernel_rfl) (by kernel_rfl) (by kernel_rfl) (fun _ _ _ h => h) (by rfl) (by assumption) ?rcx_17
                  simp only [Act.put, List.setIfInBounds_toArray, List.set_cons_zero, List.set_cons_succ]
                  refine pass_over 17 103 rfl rfl (by kernel_rfl) (by kernel_rfl) (by kernel_rfl) (fun _ _ _ h => h) (by rfl) (by assumption) ?rcx_18
                  simp only [Act.put, List.setIfInBounds_toArray, List.set_cons_zero, List.set_cons_succ]
                  refine take_first 18 104 (v := ?vcx_19) rfl rfl (by kernel_rfl) (by kernel_rfl) (by kernel_rfl) (fun _ _ _ h => h) (by rfl) ?ycx_19 (by assumption) ?rcx_19
                  case ycx_19 => (intro w hSw; (try dsimp only at hSw); go_simp; (try with_reducible rfl))
                  simp only [Act.put, List.setIfInBounds_toArray, List.set_cons_zero, List.set_cons_succ]
                  refine take_first 19 105 (v := ?vcx_20) rfl rfl (by kernel_rfl) (by kernel_rfl) (by kernel_rfl) (fun _ _ _ h => h) (by rfl) ?ycx_20 (by assumption) ?rcx_20
                  case ycx_20 => (intro w hSw; (try dsimp only at hSw); go_simp; (try with_reducible rfl))
                  simp only [Act.put, List.setIfInBounds_toArray, List.set_cons_zero, List.set_cons_succ]
                  refine pass_over 20 106 rfl rfl (by kernel_rfl) (by kernel_rfl) (by kernel_rfl) (fun _ _ _ h => h) (by rfl) (by assumption) ?rcx_21
                  simp only [Act.put, List.setIfInBounds_toArray, List.set_cons_zero, List.set_cons_succ]
                  refine pass_over 21 107 rfl rfl (by kernel_rfl) (by kernel_rfl) (by kernel_rfl) (fun _ _ _ h => h) (by rfl) (by assumption) ?rcx_22
                  simp only [Act.put, List.setIfInBounds_toArray, List.set_cons_zero, List.set_cons_succ]
                  refine pass_over 22 108 rfl rfl (by kernel_rfl) (by kernel_rfl) (by kernel_rfl) (fun _ _ _ h => h) (by rfl) (by assumption) ?rcx_23
                  simp only [Act.put, List.setIfInBounds_toArray, List.set_cons_zero, List.set_cons_succ]
                  refine pass_over 23 109 rfl rfl (by kernel_rfl) (by kernel_rfl) (by kernel_rfl) (fun _ _ _ h => h) (by rfl) (by assumption) ?rcx_24
                  simp only [Act.put, List.setIfInBounds_toArray, List.set_cons_zero, List.set_cons_succ]
                  refine pass_over 24 110 rfl rfl (by kernel_rfl) (by kernel_rfl) (by kernel_rfl) (fun _ _ _ h => h) (by rfl) (by assumption) ?rcx_25
                  simp only [Act.put, List.setIfInBounds_toArray, List.set_cons_zero, List.set_cons_succ]
                  refine pass_over 25 111 rfl rfl (by kernel_rfl) (by kernel_rfl) (by kernel_rfl) (fun _ _ _ h => h) (by rfl) (by assumption) ?rcx_26
                  simp only [Act.put, List.setIfInBounds_toArray, List.set_cons_zero, List.set_cons_succ]
                  refine pass_over 26 112 rfl rfl (by kernel_rfl) (by kernel_rfl) (by kernel_rfl) (fun _ _ _ h => h) (by rfl) (by assumption) ?rcx_27
                  simp only [Act.put, List.setIfInBounds_toArray, List.set_cons_zero, List.set_cons_succ]
                  refine pass_over 27 113 rfl rfl (by kernel_rfl) (by kernel_rfl) (by kernel_rfl) (fun _ _ _ h => h) (by rfl) (by assumption) ?rcx_28
                  simp only [Act.put, List.setIfInBounds_toArray, List.set_cons_zero, List.set_cons_succ]
                  refine pass_over 28 114 rfl rfl (by kernel_rfl) (by kernel_rfl) (by kernel_rfl) (fun _ _ _ h => h) (by rfl) (by assumption) ?rcx_29
                  simp only [Act.put, List.setIfInBounds_toArray, List.set_cons_zero, List.set_cons_succ]
                  refine pass_over 29 115 rfl rfl (by kernel_rfl) (by kernel_rfl) (by kernel_rfl) (fun _ _ _ h => h) (by rfl) (by assumption) ?rcx_30
                  simp only [Act.put, List.setIfInBounds_toArray, List.set_cons_zero, List.set_cons_succ]
                  refine pass_over 30 116 rfl rfl (by kernel_rfl) (by kernel_rfl) (by kernel_rfl) (fun _ _ _ h => h) (by rfl) (by assumption) ?rcx_31
                  simp only [Act.put, List.setIfInBounds_toArray, List.set_cons_zero, List.set_cons_succ]
                  refine take_first 31 117 (v := ?vcx_32) rfl rfl (by kernel_rfl) (by kernel_rfl) (by kernel_rfl) (fun _ _ _ h => h) (by rfl) ?ycx_32 (by assumption) ?rcx_32
                  case ycx_32 => (intro w hSw; (try dsimp only at hSw); go_simp; (try with_reducible rfl))
                  simp only [Act.put, List.setIfInBounds_toArray, List.set_cons_zero, List.set_cons_succ]
                  refine take_first 32 118 (v := ?vcx_33) rfl rfl (by kernel_rfl) (by kernel_rfl) (by kernel_rfl) (fun _ _ _ h => h) (by rfl) ?ycx_33 (by assumption) ?rcx_33
                  case ycx_33 => (intro w hSw; (try dsimp only at hSw); go_simp; (try with_reducible rfl))
                  simp only [Act.put, List.setIfInBounds_toArray, List.set_cons_zero, List.set_cons_succ]
                  refine take_first 33 11 (v := ?vcx_34) rfl rfl (by kernel_rfl) (by kernel_rfl) (by kernel_rfl) (fun _ _ _ h => h) (by rfl) ?ycx_34 (by assumption) ?rcx_34
                  case ycx_34 => (intro w hSw; (try dsimp only at hSw); go_simp; (try with_reducible rfl))
                  simp only [Act.put, List.setIfInBounds_toArray, List.set_cons_zero, List.set_cons_succ]
                  refine wpAnyH_done (by kernel_rfl) ?ecx _
                  go_wp2
                  go_roundw
                  case rel => exact ⟨j + 1, by omega, by go_num, by rw [HF.out], HBw.out⟩
                  case measure => simp [intOf]; omega
              · have HF := Lib.hid (held_yes HYy.out hhe)
                clear hhe
                go_wp2
                clear ax_0 d0 d1 d2 d3 hkc
                refine wp_region_held_drew (S := (fun w' => w'.cell? ⟨w1.heap.size, 0, none⟩ = some (.slice (some ⟨b, off, none⟩) x.notes.length c1) ∧ w'.cell? ⟨b, off + j * 4, none⟩ = some (.int .i64 y.kind) ∧ w'.cell? ⟨b, off + j * 4 + 1, none⟩ = some (.int .i64 y.tx) ∧ w'.cell? ⟨b, off + j * 4 + 2, none⟩ = some (.slice B1 y.locks.length e1) ∧ w'.cell? ⟨bl, ol + kk, none⟩ = some (.string key))) (by kernel_rfl) ?hSdx (fun hHelddx => ?stdx)
                case hSdx => (first | (dsimp only; (exact k23)) | (exact k23))
                refine take_first 0 86 (v := ?vdx_1) rfl rfl (by kernel_rfl) (by kernel_rfl) (by kernel_rfl) (fun _ _ _ h => h) (by rfl) ?ydx_1 (by assumption) ?rdx_1
                case ydx_1 => (intro w hSw; (try dsimp only at hSw); go_simp; (try with_reducible rfl))
                simp only [Act.put, List.setIfInBounds_toArray, List.set_cons_zero, List.set_cons_succ]
                refine take_first 1 87 (v := ?vdx_2) rfl rfl (by kernel_rfl) (by kernel_rfl) (by kernel_rfl) (fun _ _ _ h => h) (by rfl) ?ydx_2 (by assumption) ?rdx_2
                case ydx_2 => (intro w hSw; (try dsimp only at hSw); go_simp; (try with_reducible rfl))
                simp only [Act.put, List.setIfInBounds_toArray, List.set_cons_zero, List.set_cons_succ]
                refine pass_over 2 88 rfl rfl (by kernel_rfl) (by kernel_rfl) (by kernel_rfl) (fun _ _ _ h => h) (by rfl) (by assumption) ?rdx_3
                simp only [Act.put, List.setIfInBounds_toArray, List.set_cons_zero, List.set_cons_succ]
                refine pass_over 3 89 rfl rfl (by kernel_rfl) (by kernel_rfl) (by kernel_rfl) (fun _ _ _ h => h) (by rfl) (by assumption) ?rdx_4
                simp only [Act.put, List.setIfInBounds_toArray, List.set_cons_zero, List.set_cons_succ]
                refine pass_over 4 90 rfl rfl (by kernel_rfl) (by kernel_rfl) (by kernel_rfl) (fun _ _ _ h => h) (by rfl) (by assumption) ?rdx_5
                simp only [Act.put, List.setIfInBounds_toArray, List.set_cons_zero, List.set_cons_succ]
                refine pass_over 5 91 rfl rfl (by kernel_rfl) (by kernel_rfl) (by kernel_rfl) (fun _ _ _ h => h) (by rfl) (by assumption) ?rdx_6
                simp only [Act.put, List.setIfInBounds_toArray, List.set_cons_zero, List.set_cons_succ]
                refine pass_over 6 92 rfl rfl (by kernel_rfl) (by kernel_rfl) (by kernel_rfl) (fun _ _ _ h => h) (by rfl) (by assumption) ?rdx_7
                simp only [Act.put, List.setIfInBounds_toArray, List.set_cons_zero, List.set_cons_succ]
                refine pass_over 7 93 rfl rfl (by kernel_rfl) (by kernel_rfl) (by kernel_rfl) (fun _ _ _ h => h) (by rfl) (by assumption) ?rdx_8
                simp only [Act.put, List.setIfInBounds_toArray, List.set_cons_zero, List.set_cons_succ]
                refine pass_over 8 94 rfl rfl (by kernel_rfl) (by kernel_rfl) (by kernel_rfl) (fun _ _ _ h => h) (by rfl) (by assumption) ?rdx_9
                simp only [Act.put, List.setIfInBounds_toArray, List.set_cons_zero, List.set_cons_succ]
                refine pass_over 9 95 rfl rfl (by kernel_rfl) (by kernel_rfl) (by kernel_rfl) (fun _ _ _ h => h) (by rfl) (by assumption) ?rdx_10
                simp only [Act.put, List.setIfInBounds_toArray, List.set_cons_zero, List.set_cons_succ]
                refine pass_over 10 96 rfl rfl (by kernel_rfl) (by kernel_rfl) (by kernel_rfl) (fun _ _ _ h => h) (by rfl) (by assumption) ?rdx_11
                simp only [Act.put, List.setIfInBounds_toArray, List.set_cons_zero, List.set_cons_succ]
                refine pass_over 11 97 rfl rfl (by kernel_rfl) (by kernel_rfl) (by kernel_rfl) (fun _ _ _ h => h) (by rfl) (by assumption) ?rdx_12
                simp only [Act.put, List.setIfInBounds_toArray, List.set_cons_zero, List.set_cons_succ]
                refine pass_over 12 98 rfl rfl (by kernel_rfl) (by kernel_rfl) (by kernel_rfl) (fun _ _ _ h => h) (by rfl) (by assumption) ?rdx_13
                simp only [Act.put, List.setIfInBounds_toArray, List.set_cons_zero, List.set_cons_succ]
                refine pass_over 13 99 rfl rfl (by kernel_rfl) (by kernel_rfl) (by kernel_rfl) (fun _ _ _ h => h) (by rfl) (by assumption) ?rdx_14
                simp only [Act.put, List.setIfInBounds_toArray, List.set_cons_zero, List.set_cons_succ]
                refine pass_over 14 100 rfl rfl (by kernel_rfl) (by kernel_rfl) (by kernel_rfl) (fun _ _ _ h => h) (by rfl) (by assumption) ?rdx_15
                simp only [Act.put, List.setIfInBounds_toArray, List.set_cons_zero, List.set_cons_succ]
                refine pass_over 15 101 rfl rfl (by kernel_rfl) (by kernel_rfl) (by kernel_rfl) (fun _ _ _ h => h) (by rfl) (by assumption) ?rdx_16
                simp only [Act.put, List.setIfInBounds_toArray, List.set_cons_zero, List.set_cons_succ]
                refine pass_over 16 102 rfl rfl (by kernel_rfl) (by kernel_rfl) (by kernel_rfl) (fun _ _ _ h => h) (by rfl) (by assumption) ?rdx_17
                simp only [Act.put, List.setIfInBounds_toArray, List.set_cons_zero, List.set_cons_succ]
                refine pass_over 17 103 rfl rfl (by kernel_rfl) (by kernel_rfl) (by kernel_rfl) (fun _ _ _ h => h) (by rfl) (by assumption) ?rdx_18
                simp only [Act.put, List.setIfInBounds_toArray, List.set_cons_zero, List.set_cons_succ]
                refine pass_over 18 104 rfl rfl (by kernel_rfl) (by kernel_rfl) (by kernel_rfl) (fun _ _ _ h => h) (by rfl) (by assumption) ?rdx_19
                simp only [Act.put, List.setIfInBounds_toArray, List.set_cons_zero, List.set_cons_succ]
                refine pass_over 19 105 rfl rfl (by kernel_rfl) (by kernel_rfl) (by kernel_rfl) (fun _ _ _ h => h) (by rfl) (by assumption) ?rdx_20
                simp only [Act.put, List.setIfInBounds_toArray, List.set_cons_zero, List.set_cons_succ]
                refine pass_over 20 106 rfl rfl (by kernel_rfl) (by kernel_rfl) (by kernel_rfl) (fun _ _ _ h => h) (by rfl) (by assumption) ?rdx_21
                simp only [Act.put, List.setIfInBounds_toArray, List.set_cons_zero, List.set_cons_succ]
                refine pass_over 21 107 rfl rfl (by kernel_rfl) (by kernel_rfl) (by kernel_rfl) (fun _ _ _ h => h) (by rfl) (by assumption) ?rdx_22
                simp only [Act.put, List.setIfInBounds_toArray, List.set_cons_zero, List.set_cons_succ]
                refine pass_over 22 108 rfl rfl (by kernel_rfl) (by kernel_rfl) (by kernel_rfl) (fun _ _ _ h => h) (by rfl) (by assumption) ?rdx_23
                simp only [Act.put, List.setIfInBounds_toArray, List.set_cons_zero, List.set_cons_succ]
                refine pass_over 23 109 rfl rfl (by kernel_rfl) (by kernel_rfl) (by kernel_rfl) (fun _ _ _ h => h) (by rfl) (by assumption) ?rdx_24
                simp only [Act.put, List.setIfInBounds_toArray, List.set_cons_zero, List.set_cons_succ]
                refine pass_over 24 110 rfl rfl (by kernel_rfl) (by kernel_rfl) (by kernel_rfl) (fun _ _ _ h => h) (by rfl) (by assumption) ?rdx_25
                simp only [Act.put, List.setIfInBounds_toArray, List.set_cons_zero, List.set_cons_succ]
                refine pass_over 25 111 rfl rfl (by kernel_rfl) (by kernel_rfl) (by kernel_rfl) (fun _ _ _ h => h) (by rfl) (by assumption) ?rdx_26
                simp only [Act.put, List.setIfInBounds_toArray, List.set_cons_zero, List.set_cons_succ]
                refine pass_over 26 112 rfl rfl (by kernel_rfl) (by kernel_rfl) (by kernel_rfl) (fun _ _ _ h => h) (by rfl) (by assumption) ?rdx_27
                simp only [Act.put, List.setIfInBounds_toArray, List.set_cons_zero, List.set_cons_succ]
                refine pass_over 27 113 rfl rfl (by kernel_rfl) (by kernel_rfl) (by kernel_rfl) (fun _ _ _ h => h) (by rfl) (by assumption) ?rdx_28
                simp only [Act.put, List.setIfInBounds_toArray, List.set_cons_zero, List.set_cons_succ]
                refine pass_over 28 114 rfl rfl (by kernel_rfl) (by kernel_rfl) (by kernel_rfl) (fun _ _ _ h => h) (by rfl) (by assumption) ?rdx_29
                simp only [Act.put, List.setIfInBounds_toArray, List.set_cons_zero, List.set_cons_succ]
                refine pass_over 29 115 rfl rfl (by kernel_rfl) (by kernel_rfl) (by kernel_rfl) (fun _ _ _ h => h) (by rfl) (by assumption) ?rdx_30
                simp only [Act.put, List.setIfInBounds_toArray, List.set_cons_zero, List.set_cons_succ]
                refine pass_over 30 116 rfl rfl (by kernel_rfl) (by kernel_rfl) (by kernel_rfl) (fun _ _ _ h => h) (by rfl) (by assumption) ?rdx_31
                simp only [Act.put, List.setIfInBounds_toArray, List.set_cons_zero, List.set_cons_succ]
                refine pass_over 31 117 rfl rfl (by kernel_rfl) (by kernel_rfl) (by kernel_rfl) (fun _ _ _ h => h) (by rfl) (by assumption) ?rdx_32
                simp only [Act.put, List.setIfInBounds_toArray, List.set_cons_zero, List.set_cons_succ]
                refine take_first 32 118 (v := ?vdx_33) rfl rfl (by kernel_rfl) (by kernel_rfl) (by kernel_rfl) (fun _ _ _ h => h) (by rfl) ?ydx_33 (by assumption) ?rdx_33
                case ydx_33 => (intro w hSw; (try dsimp only at hSw); go_simp; (try with_reducible rfl))
                simp only [Act.put, List.setIfInBounds_toArray, List.set_cons_zero, List.set_cons_succ]
                refine take_first 33 11 (v := ?vdx_34) rfl rfl (by kernel_rfl) (by kernel_rfl) (by kernel_rfl) (fun _ _ _ h => h) (by rfl) ?ydx_34 (by assumption) ?rdx_34
                case ydx_34 => (intro w hSw; (try dsimp only at hSw); go_simp; (try with_reducible rfl))
                simp only [Act.put, List.setIfInBounds_toArray, List.set_cons_zero, List.set_cons_succ]
                refine wpAnyH_done (by kernel_rfl) ?edx _
                go_wp2
                go_roundw
                case rel => exact ⟨j + 1, by omega, by go_num, by rw [HF.out], HBw.out⟩
                case measure => simp [intOf]; omega
            have hje : j = x.notes.length := by omega
            subst hje
            rw [HHk.out]
            have HTk := Lib.hid (Sh.Row.take (row_call HRl.out (Below.refl wc.heap.size wc).drew (by have z0 := HZ0.out; have z1 := HZ1.out; have z3 := HZ3.out; have z4 := HZ4.out; have z6 := HZ6.out; have z8 := HZ8.out; have z9 := HZ9.out; have z10 := HZ10.out; have z11 := HZ11.out; have z12 := HZ12.out; have z13 := HZ13.out; have z14 := HZ14.out; have z15 := HZ15.out; have z16 := HZ16.out; have z18 := HZ18.out; have z21 := HZ21.out; have z24 := HZ24.out; have z25 := HZ25.out; omega)) (k := kk) rfl (by omega))
            have f0 : (0 : Int) ≤ (kk : Int) := by omega
            have f1 : (kk : Int) ≤ (cl : Int) := by omega
            have f2 : (kk : Int) < (L.length : Int) := by omega
            have ax_0 := HXx.out.of 0 _ rfl
            have k24 : wc.drew.cell? ⟨bl, ol + kk, none⟩ = some (.string key) := hkc
            go_wp2
            clear ax_0 hkc
            refine wp_region_held_drew (S := (fun w' => w'.cell? ⟨bl, ol + kk, none⟩ = some (.string key))) (by kernel_rfl) ?hSex (fun hHeldex => ?stex)
            case hSex => (first | (dsimp only; (exact k24)) | (exact k24))
            refine take_first 0 119 (v := ?vex_1) rfl rfl (by kernel_rfl) (by kernel_rfl) (by kernel_rfl) (fun _ _ _ h => h) (by rfl) ?yex_1 (by assumption) ?rex_1
            case yex_1 => (intro w hSw; (try dsimp only at hSw); go_simp; (try with_reducible rfl))
            simp only [Act.put, List.setIfInBounds_toArray, List.set_cons_zero, List.set_cons_succ]
            refine take_first 1 120 (v := ?vex_2) rfl rfl (by kernel_rfl) (by kernel_rfl) (by kernel_rfl) (fun _ _ _ h => h) (by rfl) ?yex_2 (by assumption) ?rex_2
            case yex_2 => (intro w hSw; (try dsimp only at hSw); go_simp; (try with_reducible rfl))
            simp only [Act.put, List.setIfInBounds_toArray, List.set_cons_zero, List.set_cons_succ]
            refine take_first 2 121 (v := ?vex_3) rfl rfl (by kernel_rfl) (by kernel_rfl) (by kernel_rfl) (fun _ _ _ h => h) (by rfl) ?yex_3 (by assumption) ?rex_3
            case yex_3 => (intro w hSw; (try dsimp only at hSw); go_simp; (try with_reducible rfl))
            simp only [Act.put, List.setIfInBounds_toArray, List.set_cons_zero, List.set_cons_succ]
            refine take_first 3 122 (v := ?vex_4) rfl rfl (by kernel_rfl) (by kernel_rfl) (by kernel_rfl) (fun _ _ _ h => h) (by rfl) ?yex_4 (by assumption) ?rex_4
            case yex_4 => (intro w hSw; (try dsimp only at hSw); go_simp; (try with_reducible rfl))
            simp only [Act.put, List.setIfInBounds_toArray, List.set_cons_zero, List.set_cons_succ]
            refine take_first 4 123 (v := ?vex_5) rfl rfl (by kernel_rfl) (by kernel_rfl) (by kernel_rfl) (fun _ _ _ h => h) (by rfl) ?yex_5 (by assumption) ?rex_5
            case yex_5 => (intro w hSw; (try dsimp only at hSw); go_simp; (try with_reducible rfl))
            simp only [Act.put, List.setIfInBounds_toArray, List.set_cons_zero, List.set_cons_succ]
            refine take_first 5 124 (v := ?vex_6) rfl rfl (by kernel_rfl) (by kernel_rfl) (by kernel_rfl) (fun _ _ _ h => h) (by rfl) ?yex_6 (by assumption) ?rex_6
            case yex_6 => (intro w hSw; (try dsimp only at hSw); go_simp; (try with_reducible rfl))
            simp only [Act.put, List.setIfInBounds_toArray, List.set_cons_zero, List.set_cons_succ]
            refine take_first 6 125 (v := ?vex_7) rfl rfl (by kernel_rfl) (by kernel_rfl) (by kernel_rfl) (fun _ _ _ h => h) (by rfl) ?yex_7 (by assumption) ?rex_7
            case yex_7 => (intro w hSw; (try dsimp only at hSw); go_simp; (try with_reducible rfl))
            simp only [Act.put, List.setIfInBounds_toArray, List.set_cons_zero, List.set_cons_succ]
            refine take_first 7 126 (v := ?vex_8) rfl rfl (by kernel_rfl) (by kernel_rfl) (by kernel_rfl) (fun _ _ _ h => h) (by rfl) ?yex_8 (by assumption) ?rex_8
            case yex_8 => (intro w hSw; (try dsimp only at hSw); go_simp; (try with_reducible rfl))
            simp only [Act.put, List.setIfInBounds_toArray, List.set_cons_zero, List.set_cons_succ]
            refine take_first 8 127 (v := ?vex_9) rfl rfl (by kernel_rfl) (by kernel_rfl) (by kernel_rfl) (fun _ _ _ h => h) (by rfl) ?yex_9 (by assumption) ?rex_9
            case yex_9 => (intro w hSw; (try dsimp only at hSw); go_simp; (try with_reducible rfl))
            simp only [Act.put, List.setIfInBounds_toArray, List.set_cons_zero, List.set_cons_succ]
            refine take_first 9 128 (v := ?vex_10) rfl rfl (by kernel_rfl) (by kernel_rfl) (by kernel_rfl) (fun _ _ _ h => h) (by rfl) ?yex_10 (by assumption) ?rex_10
            case yex_10 => (intro w hSw; (try dsimp only at hSw); go_simp; (try with_reducible rfl))
            simp only [Act.put, List.setIfInBounds_toArray, List.set_cons_zero, List.set_cons_succ]
            refine wpAnyH_ready (rs := [10]) (by kernel_rfl) (by simp) ?_
            refine AllReadyH.cons (o := _) rfl (fun Kex_11 hKex_11 => ?cex_11) ?mex_11
            case mex_11 => exact AllReadyH.nil
            go_simp
            refine (jaHas_any _ _ _ (L.take kk) key HTk.out).mono ?_; rintro e wh ⟨rfl, rfl⟩; rw [HOk.out]
            go_wp2_with fail
            refine hKex_11.out _ _ ?kex_11 (fun hHeldex_11 => ?dex_11)
            case kex_11 => (first | (dsimp only; (exact k24)) | (exact k24))
            clear hKex_11 Kex_11
            refine take_first 11 130 (v := ?vex_12) rfl rfl (by kernel_rfl) (by kernel_rfl) (by kernel_rfl) (fun _ _ _ h => h) (by rfl) ?yex_12 (by assumption) ?rex_12
            case yex_12 => (intro w hSw; (try dsimp only at hSw); go_simp; (try with_reducible rfl))
            simp only [Act.put, List.setIfInBounds_toArray, List.set_cons_zero, List.set_cons_succ]
            refine wpAnyH_done (by kernel_rfl) ?eex _
            go_wp2
            go_roundw
            case rel => exact ⟨kk + 1, by omega, by go_num, HBk.out.trans ((HBj.out.trans ((Below.refl _ wc).drew.mono HBj.out.size)).mono HBk.out.size)⟩
            case measure => simp [intOf]; omega
        have hke : kk = L.length := by omega
        subst hke
        go_wp2_with fail
        refine (jaOk_any _).mono ?_
        rintro e w25 ⟨rfl, hb⟩
        replace HB := Lib.hid (belowNext HB.out hb)
        replace HXx := Lib.hid (HXx.out.below hb HXx.out.1)
        replace HRx := Lib.hid (rel_call HRx.out hb (by have z0 := HZ0.out; have z1 := HZ1.out; have z3 := HZ3.out; have z4 := HZ4.out; have z6 := HZ6.out; have z8 := HZ8.out; have z9 := HZ9.out; have z10 := HZ10.out; have z11 := HZ11.out; have z12 := HZ12.out; have z13 := HZ13.out; have z14 := HZ14.out; have z15 := HZ15.out; have z16 := HZ16.out; have z18 := HZ18.out; have z21 := HZ21.out; have z24 := HZ24.out; omega))
        replace HRo := Lib.hid (row_call HRo.out hb (by have z0 := HZ0.out; have z1 := HZ1.out; have z3 := HZ3.out; have z4 := HZ4.out; have z6 := HZ6.out; have z8 := HZ8.out; have z9 := HZ9.out; have z10 := HZ10.out; have z11 := HZ11.out; have z12 := HZ12.out; have z13 := HZ13.out; have z14 := HZ14.out; have z15 := HZ15.out; have z16 := HZ16.out; have z18 := HZ18.out; have z21 := HZ21.out; have z24 := HZ24.out; omega))
        replace HRl := Lib.hid (row_call HRl.out hb (by have z0 := HZ0.out; have z1 := HZ1.out; have z3 := HZ3.out; have z4 := HZ4.out; have z6 := HZ6.out; have z8 := HZ8.out; have z9 := HZ9.out; have z10 := HZ10.out; have z11 := HZ11.out; have z12 := HZ12.out; have z13 := HZ13.out; have z14 := HZ14.out; have z15 := HZ15.out; have z16 := HZ16.out; have z18 := HZ18.out; have z21 := HZ21.out; have z24 := HZ24.out; omega))
        have HZ26 := Lib.hid hb.size
        clear hb
        go_wp2
        go_ret
        exact ⟨rfl, HB.out⟩

end Go.Proofs.Ytkamlibfcakblaa

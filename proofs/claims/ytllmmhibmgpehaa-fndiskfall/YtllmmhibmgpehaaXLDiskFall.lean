/- The walk of FnDiskFall. By ldiskfallgen.py. -/
import Derived.Test.YtllmmhibmgpehaaXDrawDiskFall
import Derived.Test.YtllmmhibmgpehaaXDiskFallI
import Derived.Test.YtllmmhibmgpehaaXSFall
import Derived.Test.YtllmmhibmgpehaaXDiskOk
import Derived.Test.YtllmmhibmgpehaaXJaNotes
import Derived.Test.YtllmmhibmgpehaaXDrawOpen
import Derived.Test.YtllmmhibmgpehaaXShal
import Derived.Deep.CutRange
import Derived.Deep.DeepCutAuto
namespace Go.Proofs.Ytllmmhibmgpehaa
open Go.RowKit

/-- A fall of what has fallen. -/
theorem fallD_again {x : Disk} {k : Int} (h : diskB x = true) : fallD ⟨x.notes.take (leftD x k), (leftD x k : Int)⟩ k = ⟨x.notes.take (leftD x k), (leftD x k : Int)⟩ := by
  have hl := leftD_le (k := k) h
  have hb : diskB ⟨x.notes.take (leftD x k), (leftD x k : Int)⟩ = true := by have := diskB_fall (x := x) (k := k); rwa [fallD_yes h] at this
  obtain ⟨n, hn⟩ : ∃ n, leftD x k = n := ⟨_, rfl⟩
  rw [hn] at hl hb ⊢
  have hlen : (x.notes.take n).length = n := by simp; omega
  have e : leftD ⟨x.notes.take n, (n : Int)⟩ k = n := by
    unfold leftD
    show ((n : Int) + min (max k 0) (((x.notes.take n).length : Int) - n)).toNat = n
    rw [hlen]
    omega
  rw [fallD_yes hb, e]
  show (⟨(x.notes.take n).take n, (n : Int)⟩ : Disk) = _
  rw [List.take_take, Nat.min_self]

set_option maxRecDepth 100000 in
set_option maxHeartbeats 4000000 in
theorem lawDiskFall_any (w : World) (v : Value) (m : Nat) (hv : Code8 w v m) :
    Calls Try.prog 10 #[v] w fun e w' => e = .returned (.bool true) ∧ Below w.heap.size w w' := by
  have HV := Lib.hid hv
  obtain ⟨A, c, f, rfl, h1, h2, -, -⟩ := hv
  unfold maxLen at h2
  by_cases hn : 1048576 < m
  · clear HV
    go_enter Try.func10, Try.ntmps10
    go_wp2
    go_ret
    exact ⟨rfl, Below.refl _ _⟩
  have hn' : m ≤ 1048576 := by omega
  clear hn
  go_enter Try.func10, Try.ntmps10
  go_wp2_with fail
  refine (drawDiskFall_any _ _ _ HV.out).mono ?_
  rintro e w1 ⟨cs, x, keep, rfl, hfd, hox, hb1⟩
  obtain ⟨u1, rfl, hu1⟩ := disk_own.1 hox
  obtain ⟨A1, c1, rfl, -, -⟩ := hu1.row.form
  clear hu1
  have HRx := Lib.hid (diskSh.orel hox)
  have HB := Lib.hid hb1
  have HZ0 := Lib.hid hb1.size
  have hxl := hfd.1
  clear hox hb1 HV hfd
  have hal := belowOne w1 (.cells #[.slice A1 x.notes.length c1, .int .i64 x.safe] 45)
  replace HB := Lib.hid (belowNext HB.out hal)
  replace HRx := Lib.hid (rel_call HRx.out hal (by have z0 := HZ0.out; omega))
  have HZ1 := Lib.hid (allocSize w1 (.cells #[.slice A1 x.notes.length c1, .int .i64 x.safe] 45))
  clear hal
  have HXx := Lib.hid (Held.new w1 #[.slice A1 x.notes.length c1, .int .i64 x.safe] 45)
  have ax_0 := HXx.out.of 0 _ rfl
  have ax_1 := HXx.out.of 1 _ rfl
  go_wp2_with fail
  clear ax_0 ax_1
  refine (implDiskFall_any _ _ x keep (diskSh.rmore HRx.out (by have z0 := HZ0.out; have z1 := HZ1.out; omega))).mono ?_
  rintro e w2 ⟨cs3, rfl, ho, hb⟩
  obtain ⟨y, hy⟩ : ∃ y, fallD x keep = y := ⟨_, rfl⟩
  rw [hy] at ho
  obtain ⟨u3, rfl, hu3⟩ := disk_own.1 ho
  obtain ⟨A3, c3, rfl, -, -⟩ := hu3.row.form
  clear hu3
  replace HB := Lib.hid (belowNext HB.out hb)
  replace HXx := Lib.hid (HXx.out.below hb HXx.out.1)
  replace HRx := Lib.hid (rel_call HRx.out hb (by have z0 := HZ0.out; have z1 := HZ1.out; omega))
  have HZ3 := Lib.hid hb.size
  clear hb
  have HRy := Lib.hid (diskSh.orel ho)
  clear ho
  have hal := belowOne w2 (.cells #[.slice A3 y.notes.length c3, .int .i64 y.safe] 45)
  replace HB := Lib.hid (belowNext HB.out hal)
  replace HXx := Lib.hid (HXx.out.below hal HXx.out.1)
  replace HRx := Lib.hid (rel_call HRx.out hal (by have z0 := HZ0.out; have z1 := HZ1.out; have z3 := HZ3.out; omega))
  replace HRy := Lib.hid (rel_call HRy.out hal (by have z0 := HZ0.out; have z1 := HZ1.out; have z3 := HZ3.out; omega))
  have HZ4 := Lib.hid (allocSize w2 (.cells #[.slice A3 y.notes.length c3, .int .i64 y.safe] 45))
  clear hal
  have HXy := Lib.hid (Held.new w2 #[.slice A3 y.notes.length c3, .int .i64 y.safe] 45)
  go_upto_if 23 with fail
  go_cut [23] from 18 to 23 (fun u wd => u = .bool false ∧ Below (w2.alloc (.cells #[.slice A3 y.notes.length c3, .int .i64 y.safe] 45)).heap.size (w2.alloc (.cells #[.slice A3 y.notes.length c3, .int .i64 y.safe] 45)) wd)
  case first =>
    have HX0 := Lib.hid (show diskSh.rel (w2.alloc (.cells #[.slice A3 y.notes.length c3, .int .i64 y.safe] 45)) (w2.alloc (.cells #[.slice A3 y.notes.length c3, .int .i64 y.safe] 45)).heap.size [.slice A1 x.notes.length c1, .int .i64 x.safe] x from (diskSh.rmore HRx.out (by have z0 := HZ0.out; have z1 := HZ1.out; have z3 := HZ3.out; have z4 := HZ4.out; omega)))
    have HY0 := Lib.hid (show diskSh.rel (w2.alloc (.cells #[.slice A3 y.notes.length c3, .int .i64 y.safe] 45)) (w2.alloc (.cells #[.slice A3 y.notes.length c3, .int .i64 y.safe] 45)).heap.size [.slice A3 y.notes.length c3, .int .i64 y.safe] y from (diskSh.rmore HRy.out (by have z0 := HZ0.out; have z1 := HZ1.out; have z3 := HZ3.out; have z4 := HZ4.out; omega)))
    have HL := Lib.hid (show Below (w2.alloc (.cells #[.slice A3 y.notes.length c3, .int .i64 y.safe] 45)).heap.size (w2.alloc (.cells #[.slice A3 y.notes.length c3, .int .i64 y.safe] 45)) (w2.alloc (.cells #[.slice A3 y.notes.length c3, .int .i64 y.safe] 45)).drew from (Below.refl _ _).drew)
    have k0_ : (w2.alloc (.cells #[.slice A3 y.notes.length c3, .int .i64 y.safe] 45)).drew.cell? ⟨w1.heap.size, 0, none⟩ = some (.slice A1 x.notes.length c1) ∧ (w2.alloc (.cells #[.slice A3 y.notes.length c3, .int .i64 y.safe] 45)).drew.cell? ⟨w1.heap.size, 1, none⟩ = some (.int .i64 x.safe) ∧ (w2.alloc (.cells #[.slice A3 y.notes.length c3, .int .i64 y.safe] 45)).drew.cell? ⟨w2.heap.size, 0, none⟩ = some (.slice A3 y.notes.length c3) ∧ (w2.alloc (.cells #[.slice A3 y.notes.length c3, .int .i64 y.safe] 45)).drew.cell? ⟨w2.heap.size, 1, none⟩ = some (.int .i64 y.safe) := (And.intro ((HXx.out.below HL.out HXx.out.1).of 0 _ rfl) (And.intro ((HXx.out.below HL.out HXx.out.1).of 1 _ rfl) (And.intro ((HXy.out.below HL.out HXy.out.1).of 0 _ rfl) ((HXy.out.below HL.out HXy.out.1).of 1 _ rfl))))
    refine wp_region_held_drew (S := (fun w' => w'.cell? ⟨w1.heap.size, 0, none⟩ = some (.slice A1 x.notes.length c1) ∧ w'.cell? ⟨w1.heap.size, 1, none⟩ = some (.int .i64 x.safe) ∧ w'.cell? ⟨w2.heap.size, 0, none⟩ = some (.slice A3 y.notes.length c3) ∧ w'.cell? ⟨w2.heap.size, 1, none⟩ = some (.int .i64 y.safe))) (by kernel_rfl) ?hSp (fun hHeldp => ?stp)
    case hSp => (first | (dsimp only; (exact k0_)) | (exact k0_))
    refine take_first 0 18 (v := ?vp_1) rfl rfl (by kernel_rfl) (by kernel_rfl) (by kernel_rfl) (fun _ _ _ h => h) (by rfl) ?yp_1 (by assumption) ?rp_1
    case yp_1 => (intro w hSw; (try dsimp only at hSw); go_simp; (try with_reducible rfl))
    simp only [Act.put, List.setIfInBounds_toArray, List.set_cons_zero, List.set_cons_succ]
    refine take_first 1 19 (v := ?vp_2) rfl rfl (by kernel_rfl) (by kernel_rfl) (by kernel_rfl) (fun _ _ _ h => h) (by rfl) ?yp_2 (by assumption) ?rp_2
    case yp_2 => (intro w hSw; (try dsimp only at hSw); go_simp; (try with_reducible rfl))
    simp only [Act.put, List.setIfInBounds_toArray, List.set_cons_zero, List.set_cons_succ]
    refine take_first 2 20 (v := ?vp_3) rfl rfl (by kernel_rfl) (by kernel_rfl) (by kernel_rfl) (fun _ _ _ h => h) (by rfl) ?yp_3 (by assumption) ?rp_3
    case yp_3 => (intro w hSw; (try dsimp only at hSw); go_simp; (try with_reducible rfl))
    simp only [Act.put, List.setIfInBounds_toArray, List.set_cons_zero, List.set_cons_succ]
    refine wpAnyH_ready (rs := [3]) (by kernel_rfl) (by simp) ?_
    refine AllReadyH.cons (o := _) rfl (fun Kp_4 hKp_4 => ?cp_4) ?mp_4
    case mp_4 => exact AllReadyH.nil
    go_simp
    refine (specDiskFall_any _ _ x keep (diskSh.rmore (diskSh.rbelow HX0.out HL.out) HL.out.size)).mono ?_
    rintro e v5 ⟨cs4, rfl, ho, hb⟩
    rw [hy] at ho
    obtain ⟨u4, rfl, hu4⟩ := disk_own.1 ho
    obtain ⟨A4, c4, rfl, -, -⟩ := hu4.row.form
    clear hu4
    have HRz := Lib.hid (diskSh.orel ho)
    clear ho
    replace HL := Lib.hid (HL.out.trans (hb.mono HL.out.size))
    clear hb
    have k5_ : v5.cell? ⟨w1.heap.size, 0, none⟩ = some (.slice A1 x.notes.length c1) ∧ v5.cell? ⟨w1.heap.size, 1, none⟩ = some (.int .i64 x.safe) ∧ v5.cell? ⟨w2.heap.size, 0, none⟩ = some (.slice A3 y.notes.length c3) ∧ v5.cell? ⟨w2.heap.size, 1, none⟩ = some (.int .i64 y.safe) := (And.intro ((HXx.out.below HL.out HXx.out.1).of 0 _ rfl) (And.intro ((HXx.out.below HL.out HXx.out.1).of 1 _ rfl) (And.intro ((HXy.out.below HL.out HXy.out.1).of 0 _ rfl) ((HXy.out.below HL.out HXy.out.1).of 1 _ rfl))))
    go_wp2_with fail
    refine hKp_4.out _ _ ?kp_4 (fun hHeldp_4 => ?dp_4)
    case kp_4 => (first | (dsimp only; (exact k5_)) | (exact k5_))
    clear hKp_4 Kp_4
    refine wpAnyH_ready (rs := [4]) (by kernel_rfl) (by simp) ?_
    refine AllReadyH.cons (o := _) rfl (fun Kp_5 hKp_5 => ?cp_5) ?mp_5
    case mp_5 => exact AllReadyH.nil
    go_simp
    refine (jaDisk_same _ _ _ y (diskSh.rmore (diskSh.rbelow HY0.out HL.out) HL.out.size) HRz.out).mono ?_
    rintro e v6 ⟨rfl, hb⟩
    replace HL := Lib.hid (HL.out.trans (hb.mono HL.out.size))
    clear hb
    have k6_ : v6.cell? ⟨w1.heap.size, 0, none⟩ = some (.slice A1 x.notes.length c1) ∧ v6.cell? ⟨w1.heap.size, 1, none⟩ = some (.int .i64 x.safe) ∧ v6.cell? ⟨w2.heap.size, 0, none⟩ = some (.slice A3 y.notes.length c3) ∧ v6.cell? ⟨w2.heap.size, 1, none⟩ = some (.int .i64 y.safe) := (And.intro ((HXx.out.below HL.out HXx.out.1).of 0 _ rfl) (And.intro ((HXx.out.below HL.out HXx.out.1).of 1 _ rfl) (And.intro ((HXy.out.below HL.out HXy.out.1).of 0 _ rfl) ((HXy.out.below HL.out HXy.out.1).of 1 _ rfl))))
    go_wp2_with fail
    refine hKp_5.out _ _ ?kp_5 (fun hHeldp_5 => ?dp_5)
    case kp_5 => (first | (dsimp only; (exact k6_)) | (exact k6_))
    clear hKp_5 Kp_5
    refine take_first 5 23 (v := ?vp_6) rfl rfl (by kernel_rfl) (by kernel_rfl) (by kernel_rfl) (fun _ _ _ h => h) (by rfl) ?yp_6 (by assumption) ?rp_6
    case yp_6 => (intro w hSw; (try dsimp only at hSw); go_simp; (try with_reducible rfl))
    simp only [Act.put, List.setIfInBounds_toArray, List.set_cons_zero, List.set_cons_succ]
    refine wpAnyH_done (by kernel_rfl) ?ep_7 _
    go_wp2
    go_meet
    case rel => exact ⟨rfl, HL.out⟩
  case rest =>
    obtain ⟨rfl, hb⟩ := hcut
    replace HB := Lib.hid (belowNext HB.out hb)
    replace HXx := Lib.hid (HXx.out.below hb HXx.out.1)
    replace HXy := Lib.hid (HXy.out.below hb HXy.out.1)
    replace HRx := Lib.hid (rel_call HRx.out hb (by have z0 := HZ0.out; have z1 := HZ1.out; have z3 := HZ3.out; have z4 := HZ4.out; omega))
    replace HRy := Lib.hid (rel_call HRy.out hb (by have z0 := HZ0.out; have z1 := HZ1.out; have z3 := HZ3.out; have z4 := HZ4.out; omega))
    have HZ7 := Lib.hid hb.size
    clear hb
    have ax_0 := HXx.out.of 0 _ rfl
    have ax_1 := HXx.out.of 1 _ rfl
    go_wp2_with fail
    clear ax_0 ax_1
    refine (specDiskOk_any _ _ x (diskSh.rmore HRx.out (by have z0 := HZ0.out; have z1 := HZ1.out; have z3 := HZ3.out; have z4 := HZ4.out; have z7 := HZ7.out; omega))).mono ?_
    rintro e w8 ⟨rfl, hb⟩
    replace HB := Lib.hid (belowNext HB.out hb)
    replace HXx := Lib.hid (HXx.out.below hb HXx.out.1)
    replace HXy := Lib.hid (HXy.out.below hb HXy.out.1)
    replace HRx := Lib.hid (rel_call HRx.out hb (by have z0 := HZ0.out; have z1 := HZ1.out; have z3 := HZ3.out; have z4 := HZ4.out; have z7 := HZ7.out; omega))
    replace HRy := Lib.hid (rel_call HRy.out hb (by have z0 := HZ0.out; have z1 := HZ1.out; have z3 := HZ3.out; have z4 := HZ4.out; have z7 := HZ7.out; omega))
    have HZ9 := Lib.hid hb.size
    clear hb
    cases hdx : diskB x with
    | false =>
      have e1 := fallD_no (k := keep) hdx
      rw [hy] at e1
      subst e1
      have hl0 : (((noDisk.notes.length : Nat) : Int) == 0) = true := by decide
      have ay_0 := HXy.out.of 0 _ rfl
      have ay_1 := HXy.out.of 1 _ rfl
      go_wp2_with fail
      clear ay_0 ay_1
      refine (jaOk_any _).mono ?_
      rintro e w10 ⟨rfl, hb⟩
      replace HB := Lib.hid (belowNext HB.out hb)
      replace HXx := Lib.hid (HXx.out.below hb HXx.out.1)
      replace HXy := Lib.hid (HXy.out.below hb HXy.out.1)
      replace HRx := Lib.hid (rel_call HRx.out hb (by have z0 := HZ0.out; have z1 := HZ1.out; have z3 := HZ3.out; have z4 := HZ4.out; have z7 := HZ7.out; have z9 := HZ9.out; omega))
      replace HRy := Lib.hid (rel_call HRy.out hb (by have z0 := HZ0.out; have z1 := HZ1.out; have z3 := HZ3.out; have z4 := HZ4.out; have z7 := HZ7.out; have z9 := HZ9.out; omega))
      have HZ11 := Lib.hid hb.size
      clear hb
      go_wp2
      go_ret
      exact ⟨rfl, HB.out⟩
    | true =>
      have e1 := fallD_yes (k := keep) hdx
      have hag := fallD_again (k := keep) hdx
      obtain ⟨hk1, hk2⟩ := leftD_le (k := keep) hdx
      obtain ⟨-, hs0, hs1, -⟩ := diskB_parts hdx
      rw [hy] at e1
      obtain ⟨kk, hkk⟩ : ∃ n, leftD x keep = n := ⟨_, rfl⟩
      rw [hkk] at e1 hag hk1 hk2
      subst e1
      have hkl : (x.notes.take kk).length = kk := by simp; omega
      replace HXy := Lib.hid (show Held w8 w2.heap.size [.slice A3 kk c3, .int .i64 (kk : Int)] from by have h := HXy.out; rwa [hkl] at h)
      have HYd := Lib.hid (show diskSh.rel w8 w8.heap.size [.slice A3 kk c3, .int .i64 (kk : Int)] ⟨x.notes.take kk, kk⟩ from by have h : diskSh.rel w8 w8.heap.size [.slice A3 (x.notes.take kk).length c3, .int .i64 (kk : Int)] ⟨x.notes.take kk, kk⟩ := diskSh.rmore HRy.out (by have z0 := HZ0.out; have z1 := HZ1.out; have z3 := HZ3.out; have z4 := HZ4.out; have z7 := HZ7.out; have z9 := HZ9.out; omega); rwa [hkl] at h)
      have HYr := Lib.hid (show noteSh.Row w8 w8.heap.size (.slice A3 kk c3) (x.notes.take kk) from by obtain ⟨u, hu, hr⟩ := disk_rel.1 HYd.out; injection hu with hu _; subst hu; exact hr)
      have HXr := Lib.hid (show noteSh.Row w8 w8.heap.size (.slice A1 x.notes.length c1) x.notes from by obtain ⟨u, hu, hr⟩ := disk_rel.1 HRx.out; injection hu with hu _; subst hu; exact hr.more (by have z0 := HZ0.out; have z1 := HZ1.out; have z3 := HZ3.out; have z4 := HZ4.out; have z7 := HZ7.out; have z9 := HZ9.out; omega))
      have HXt := Lib.hid (HXr.out.take rfl hk1)
      have HK2 := Lib.hid hk2
      have HAg := Lib.hid hag
      clear HRx HRy hy hkk hk2 hag
      have hcap : x.notes.length ≤ c1 ∧ (c1 : Int) ≤ 9223372036854775807 := by
        obtain ⟨A', c', e, h3, h4, -⟩ := HXr.out
        injection e with _ _ e
        subst e
        unfold maxLen at h4
        omega
      have ay_0 := HXy.out.of 0 _ rfl
      have ay_1 := HXy.out.of 1 _ rfl
      go_upto_if 63 with fail
      clear ay_0 ay_1
      go_cut [63] from 37 to 63 (fun u wd => u = .bool false ∧ Below w8.heap.size w8 wd)
      case first =>
        have f1 : decide ((kk : Int) < x.safe) = false := by have := HK2.out; simp; omega
        have f2 : decide ((x.notes.length : Int) < (kk : Int)) = false := by have := HK2.out; simp; omega
        have f2n : decide (x.notes.length < kk) = false := by simp; omega
        have f3 : (0 : Int) ≤ (kk : Int) := by omega
        have f4 : (kk : Int) ≤ (c1 : Int) := by omega
        have f5 : ((kk : Int) != (kk : Int)) = false := by simp
        have HL := Lib.hid (show Below w8.heap.size w8 w8.drew from (Below.refl _ _).drew)
        have k0_ : w8.drew.cell? ⟨w1.heap.size, 0, none⟩ = some (.slice A1 x.notes.length c1) ∧ w8.drew.cell? ⟨w1.heap.size, 1, none⟩ = some (.int .i64 x.safe) ∧ w8.drew.cell? ⟨w2.heap.size, 0, none⟩ = some (.slice A3 kk c3) ∧ w8.drew.cell? ⟨w2.heap.size, 1, none⟩ = some (.int .i64 (kk : Int)) := (And.intro ((HXx.out.below HL.out HXx.out.1).of 0 _ rfl) (And.intro ((HXx.out.below HL.out HXx.out.1).of 1 _ rfl) (And.intro ((HXy.out.below HL.out HXy.out.1).of 0 _ rfl) ((HXy.out.below HL.out HXy.out.1).of 1 _ rfl))))
        refine wp_region_held_drew (S := (fun w' => w'.cell? ⟨w1.heap.size, 0, none⟩ = some (.slice A1 x.notes.length c1) ∧ w'.cell? ⟨w1.heap.size, 1, none⟩ = some (.int .i64 x.safe) ∧ w'.cell? ⟨w2.heap.size, 0, none⟩ = some (.slice A3 kk c3) ∧ w'.cell? ⟨w2.heap.size, 1, none⟩ = some (.int .i64 (kk : Int)))) (by kernel_rfl) ?hSq (fun hHeldq => ?stq)
        case hSq => (first | (dsimp only; (exact k0_)) | (exact k0_))
        refine take_first 0 37 (v := ?vq_1) rfl rfl (by kernel_rfl) (by kernel_rfl) (by kernel_rfl) (fun _ _ _ h => h) (by rfl) ?yq_1 (by assumption) ?rq_1
        case yq_1 => (intro w hSw; (try dsimp only at hSw); go_simp; (try with_reducible rfl))
        simp only [Act.put, List.setIfInBounds_toArray, List.set_cons_zero, List.set_cons_succ]
        refine take_first 1 38 (v := ?vq_2) rfl rfl (by kernel_rfl) (by kernel_rfl) (by kernel_rfl) (fun _ _ _ h => h) (by rfl) ?yq_2 (by assumption) ?rq_2
        case yq_2 => (intro w hSw; (try dsimp only at hSw); go_simp; (try with_reducible rfl))
        simp only [Act.put, List.setIfInBounds_toArray, List.set_cons_zero, List.set_cons_succ]
        refine take_first 2 39 (v := ?vq_3) rfl rfl (by kernel_rfl) (by kernel_rfl) (by kernel_rfl) (fun _ _ _ h => h) (by rfl) ?yq_3 (by assumption) ?rq_3
        case yq_3 => (intro w hSw; (try dsimp only at hSw); go_simp; (try with_reducible rfl))
        simp only [Act.put, List.setIfInBounds_toArray, List.set_cons_zero, List.set_cons_succ]
        refine take_first 3 40 (v := ?vq_4) rfl rfl (by kernel_rfl) (by kernel_rfl) (by kernel_rfl) (fun _ _ _ h => h) (by rfl) ?yq_4 (by assumption) ?rq_4
        case yq_4 => (intro w hSw; (try dsimp only at hSw); go_simp; (try with_reducible rfl))
        simp only [Act.put, List.setIfInBounds_toArray, List.set_cons_zero, List.set_cons_succ]
        refine take_first 4 41 (v := ?vq_5) rfl rfl (by kernel_rfl) (by kernel_rfl) (by kernel_rfl) (fun _ _ _ h => h) (by rfl) ?yq_5 (by assumption) ?rq_5
        case yq_5 => (intro w hSw; (try dsimp only at hSw); go_simp; (try with_reducible rfl))
        simp only [Act.put, List.setIfInBounds_toArray, List.set_cons_zero, List.set_cons_succ]
        refine take_first 5 42 (v := ?vq_6) rfl rfl (by kernel_rfl) (by kernel_rfl) (by kernel_rfl) (fun _ _ _ h => h) (by rfl) ?yq_6 (by assumption) ?rq_6
        case yq_6 => (intro w hSw; (try dsimp only at hSw); go_simp; (try with_reducible rfl))
        simp only [Act.put, List.setIfInBounds_toArray, List.set_cons_zero, List.set_cons_succ]
        refine take_first 6 43 (v := ?vq_7) rfl rfl (by kernel_rfl) (by kernel_rfl) (by kernel_rfl) (fun _ _ _ h => h) (by rfl) ?yq_7 (by assumption) ?rq_7
        case yq_7 => (intro w hSw; (try dsimp only at hSw); go_simp; (try with_reducible rfl))
        simp only [Act.put, List.setIfInBounds_toArray, List.set_cons_zero, List.set_cons_succ]
        refine take_first 7 44 (v := ?vq_8) rfl rfl (by kernel_rfl) (by kernel_rfl) (by kernel_rfl) (fun _ _ _ h => h) (by rfl) ?yq_8 (by assumption) ?rq_8
        case yq_8 => (intro w hSw; (try dsimp only at hSw); go_simp; (try with_reducible rfl))
        simp only [Act.put, List.setIfInBounds_toArray, List.set_cons_zero, List.set_cons_succ]
        refine take_first 8 45 (v := ?vq_9) rfl rfl (by kernel_rfl) (by kernel_rfl) (by kernel_rfl) (fun _ _ _ h => h) (by rfl) ?yq_9 (by assumption) ?rq_9
        case yq_9 => (intro w hSw; (try dsimp only at hSw); go_simp; (try with_reducible rfl))
        simp only [Act.put, List.setIfInBounds_toArray, List.set_cons_zero, List.set_cons_succ]
        refine take_first 9 46 (v := ?vq_10) rfl rfl (by kernel_rfl) (by kernel_rfl) (by kernel_rfl) (fun _ _ _ h => h) (by rfl) ?yq_10 (by assumption) ?rq_10
        case yq_10 => (intro w hSw; (try dsimp only at hSw); go_simp; (try with_reducible rfl))
        simp only [Act.put, List.setIfInBounds_toArray, List.set_cons_zero, List.set_cons_succ]
        refine take_first 10 47 (v := ?vq_11) rfl rfl (by kernel_rfl) (by kernel_rfl) (by kernel_rfl) (fun _ _ _ h => h) (by rfl) ?yq_11 (by assumption) ?rq_11
        case yq_11 => (intro w hSw; (try dsimp only at hSw); go_simp; (try with_reducible rfl))
        simp only [Act.put, List.setIfInBounds_toArray, List.set_cons_zero, List.set_cons_succ]
        refine take_first 11 48 (v := ?vq_12) rfl rfl (by kernel_rfl) (by kernel_rfl) (by kernel_rfl) (fun _ _ _ h => h) (by rfl) ?yq_12 (by assumption) ?rq_12
        case yq_12 => (intro w hSw; (try dsimp only at hSw); go_simp; (try with_reducible rfl))
        simp only [Act.put, List.setIfInBounds_toArray, List.set_cons_zero, List.set_cons_succ]
        refine take_first 12 49 (v := ?vq_13) rfl rfl (by kernel_rfl) (by kernel_rfl) (by kernel_rfl) (fun _ _ _ h => h) (by rfl) ?yq_13 (by assumption) ?rq_13
        case yq_13 => (intro w hSw; (try dsimp only at hSw); go_simp; (try with_reducible rfl))
        simp only [Act.put, List.setIfInBounds_toArray, List.set_cons_zero, List.set_cons_succ]
        refine take_first 13 50 (v := ?vq_14) rfl rfl (by kernel_rfl) (by kernel_rfl) (by kernel_rfl) (fun _ _ _ h => h) (by rfl) ?yq_14 (by assumption) ?rq_14
        case yq_14 => (intro w hSw; (try dsimp only at hSw); go_simp; (try with_reducible rfl))
        simp only [Act.put, List.setIfInBounds_toArray, List.set_cons_zero, List.set_cons_succ]
        refine take_first 14 51 (v := ?vq_15) rfl rfl (by kernel_rfl) (by kernel_rfl) (by kernel_rfl) (fun _ _ _ h => h) (by rfl) ?yq_15 (by assumption) ?rq_15
        case yq_15 => (intro w hSw; (try dsimp only at hSw); go_simp; (try with_reducible rfl))
        simp only [Act.put, List.setIfInBounds_toArray, List.set_cons_zero, List.set_cons_succ]
        refine take_first 15 52 (v := ?vq_16) rfl rfl (by kernel_rfl) (by kernel_rfl) (by kernel_rfl) (fun _ _ _ h => h) (by rfl) ?yq_16 (by assumption) ?rq_16
        case yq_16 => (intro w hSw; (try dsimp only at hSw); go_simp; (try with_reducible rfl))
        simp only [Act.put, List.setIfInBounds_toArray, List.set_cons_zero, List.set_cons_succ]
        refine take_first 16 53 (v := ?vq_17) rfl rfl (by kernel_rfl) (by kernel_rfl) (by kernel_rfl) (fun _ _ _ h => h) (by rfl) ?yq_17 (by assumption) ?rq_17
        case yq_17 => (intro w hSw; (try dsimp only at hSw); go_simp; (try with_reducible rfl))
        simp only [Act.put, List.setIfInBounds_toArray, List.set_cons_zero, List.set_cons_succ]
        refine take_first 17 54 (v := ?vq_18) rfl rfl (by kernel_rfl) (by kernel_rfl) (by kernel_rfl) (fun _ _ _ h => h) (by rfl) ?yq_18 (by assumption) ?rq_18
        case yq_18 => (intro w hSw; (try dsimp only at hSw); go_simp; (try with_reducible rfl))
        simp only [Act.put, List.setIfInBounds_toArray, List.set_cons_zero, List.set_cons_succ]
        refine wpAnyH_ready (rs := [18]) (by kernel_rfl) (by simp) ?_
        refine AllReadyH.cons (o := _) rfl (fun Kq_19 hKq_19 => ?cq_19) ?mq_19
        case mq_19 => exact AllReadyH.nil
        go_simp
        refine (jaNotes_same _ _ _ (x.notes.take kk) ((HYr.out.below HL.out).more HL.out.size) ((HXt.out.below HL.out).more HL.out.size)).mono ?_
        rintro e v12 ⟨rfl, hb⟩
        replace HL := Lib.hid (HL.out.trans (hb.mono HL.out.size))
        clear hb
        have k12_ : v12.cell? ⟨w1.heap.size, 0, none⟩ = some (.slice A1 x.notes.length c1) ∧ v12.cell? ⟨w1.heap.size, 1, none⟩ = some (.int .i64 x.safe) ∧ v12.cell? ⟨w2.heap.size, 0, none⟩ = some (.slice A3 kk c3) ∧ v12.cell? ⟨w2.heap.size, 1, none⟩ = some (.int .i64 (kk : Int)) := (And.intro ((HXx.out.below HL.out HXx.out.1).of 0 _ rfl) (And.intro ((HXx.out.below HL.out HXx.out.1).of 1 _ rfl) (And.intro ((HXy.out.below HL.out HXy.out.1).of 0 _ rfl) ((HXy.out.below HL.out HXy.out.1).of 1 _ rfl))))
        go_wp2_with fail
        refine hKq_19.out _ _ ?kq_19 (fun hHeldq_19 => ?dq_19)
        case kq_19 => (first | (dsimp only; (exact k12_)) | (exact k12_))
        clear hKq_19 Kq_19
        refine take_first 19 56 (v := ?vq_20) rfl rfl (by kernel_rfl) (by kernel_rfl) (by kernel_rfl) (fun _ _ _ h => h) (by rfl) ?yq_20 (by assumption) ?rq_20
        case yq_20 => (intro w hSw; (try dsimp only at hSw); go_simp; (try with_reducible rfl))
        simp only [Act.put, List.setIfInBounds_toArray, List.set_cons_zero, List.set_cons_succ]
        refine take_first 20 57 (v := ?vq_21) rfl rfl (by kernel_rfl) (by kernel_rfl) (by kernel_rfl) (fun _ _ _ h => h) (by rfl) ?yq_21 (by assumption) ?rq_21
        case yq_21 => (intro w hSw; (try dsimp only at hSw); go_simp; (try with_reducible rfl))
        simp only [Act.put, List.setIfInBounds_toArray, List.set_cons_zero, List.set_cons_succ]
        refine take_first 21 58 (v := ?vq_22) rfl rfl (by kernel_rfl) (by kernel_rfl) (by kernel_rfl) (fun _ _ _ h => h) (by rfl) ?yq_22 (by assumption) ?rq_22
        case yq_22 => (intro w hSw; (try dsimp only at hSw); go_simp; (try with_reducible rfl))
        simp only [Act.put, List.setIfInBounds_toArray, List.set_cons_zero, List.set_cons_succ]
        refine take_first 22 59 (v := ?vq_23) rfl rfl (by kernel_rfl) (by kernel_rfl) (by kernel_rfl) (fun _ _ _ h => h) (by rfl) ?yq_23 (by assumption) ?rq_23
        case yq_23 => (intro w hSw; (try dsimp only at hSw); go_simp; (try with_reducible rfl))
        simp only [Act.put, List.setIfInBounds_toArray, List.set_cons_zero, List.set_cons_succ]
        refine take_first 23 60 (v := ?vq_24) rfl rfl (by kernel_rfl) (by kernel_rfl) (by kernel_rfl) (fun _ _ _ h => h) (by rfl) ?yq_24 (by assumption) ?rq_24
        case yq_24 => (intro w hSw; (try dsimp only at hSw); go_simp; (try with_reducible rfl))
        simp only [Act.put, List.setIfInBounds_toArray, List.set_cons_zero, List.set_cons_succ]
        refine take_first 24 61 (v := ?vq_25) rfl rfl (by kernel_rfl) (by kernel_rfl) (by kernel_rfl) (fun _ _ _ h => h) (by rfl) ?yq_25 (by assumption) ?rq_25
        case yq_25 => (intro w hSw; (try dsimp only at hSw); go_simp; (try with_reducible rfl))
        simp only [Act.put, List.setIfInBounds_toArray, List.set_cons_zero, List.set_cons_succ]
        refine take_first 25 62 (v := ?vq_26) rfl rfl (by kernel_rfl) (by kernel_rfl) (by kernel_rfl) (fun _ _ _ h => h) (by rfl) ?yq_26 (by assumption) ?rq_26
        case yq_26 => (intro w hSw; (try dsimp only at hSw); go_simp; (try with_reducible rfl))
        simp only [Act.put, List.setIfInBounds_toArray, List.set_cons_zero, List.set_cons_succ]
        refine take_first 26 63 (v := ?vq_27) rfl rfl (by kernel_rfl) (by kernel_rfl) (by kernel_rfl) (fun _ _ _ h => h) (by rfl) ?yq_27 (by assumption) ?rq_27
        case yq_27 => (intro w hSw; (try dsimp only at hSw); go_simp; (try with_reducible rfl))
        simp only [Act.put, List.setIfInBounds_toArray, List.set_cons_zero, List.set_cons_succ]
        refine wpAnyH_done (by kernel_rfl) ?eq_28 _
        go_wp2
        go_meet
        case rel => exact ⟨rfl, HL.out⟩
      case rest =>
        obtain ⟨rfl, hb⟩ := hcut
        replace HYd := Lib.hid (diskSh.rmore (diskSh.rbelow HYd.out hb) hb.size)
        clear HYr HXr HXt
        replace HB := Lib.hid (belowNext HB.out hb)
        replace HXx := Lib.hid (HXx.out.below hb HXx.out.1)
        replace HXy := Lib.hid (HXy.out.below hb HXy.out.1)
        have HZ13 := Lib.hid hb.size
        clear hb
        go_wp2
        rcases (by omega : keep < 0 ∨ keep = 0 ∨ 0 < keep) with hke | hke | hke
        · have d1 : decide ((0 : Int) < keep) = false := by have := HK2.out; simp; omega
          have d2 : decide (keep < (0 : Int)) = true := by have := HK2.out; simp; omega
          have d3 : ((kk : Int) == x.safe) = true := by have := HK2.out; simp; omega
          clear hke
          have HL := Lib.hid (show Below wc.heap.size wc wc.drew from (Below.refl _ _).drew)
          have k0_ : wc.drew.cell? ⟨w1.heap.size, 0, none⟩ = some (.slice A1 x.notes.length c1) ∧ wc.drew.cell? ⟨w1.heap.size, 1, none⟩ = some (.int .i64 x.safe) ∧ wc.drew.cell? ⟨w2.heap.size, 0, none⟩ = some (.slice A3 kk c3) ∧ wc.drew.cell? ⟨w2.heap.size, 1, none⟩ = some (.int .i64 (kk : Int)) := (And.intro ((HXx.out.below HL.out HXx.out.1).of 0 _ rfl) (And.intro ((HXx.out.below HL.out HXx.out.1).of 1 _ rfl) (And.intro ((HXy.out.below HL.out HXy.out.1).of 0 _ rfl) ((HXy.out.below HL.out HXy.out.1).of 1 _ rfl))))
          refine wp_region_held_drew (S := (fun w' => w'.cell? ⟨w1.heap.size, 0, none⟩ = some (.slice A1 x.notes.length c1) ∧ w'.cell? ⟨w1.heap.size, 1, none⟩ = some (.int .i64 x.safe) ∧ w'.cell? ⟨w2.heap.size, 0, none⟩ = some (.slice A3 kk c3) ∧ w'.cell? ⟨w2.heap.size, 1, none⟩ = some (.int .i64 (kk : Int)))) (by kernel_rfl) ?hSr0 (fun hHeldr0 => ?str0)
          case hSr0 => (first | (dsimp only; (exact k0_)) | (exact k0_))
          refine take_first 0 64 (v := ?vr0_1) rfl rfl (by kernel_rfl) (by kernel_rfl) (by kernel_rfl) (fun _ _ _ h => h) (by rfl) ?yr0_1 (by assumption) ?rr0_1
          case yr0_1 => (intro w hSw; (try dsimp only at hSw); go_simp; (try with_reducible rfl))
          simp only [Act.put, List.setIfInBounds_toArray, List.set_cons_zero, List.set_cons_succ]
          refine take_first 1 65 (v := ?vr0_2) rfl rfl (by kernel_rfl) (by kernel_rfl) (by kernel_rfl) (fun _ _ _ h => h) (by rfl) ?yr0_2 (by assumption) ?rr0_2
          case yr0_2 => (intro w hSw; (try dsimp only at hSw); go_simp; (try with_reducible rfl))
          simp only [Act.put, List.setIfInBounds_toArray, List.set_cons_zero, List.set_cons_succ]
          refine take_first 2 66 (v := ?vr0_3) rfl rfl (by kernel_rfl) (by kernel_rfl) (by kernel_rfl) (fun _ _ _ h => h) (by rfl) ?yr0_3 (by assumption) ?rr0_3
          case yr0_3 => (intro w hSw; (try dsimp only at hSw); go_simp; (try with_reducible rfl))
          simp only [Act.put, List.setIfInBounds_toArray, List.set_cons_zero, List.set_cons_succ]
          refine take_first 3 67 (v := ?vr0_4) rfl rfl (by kernel_rfl) (by kernel_rfl) (by kernel_rfl) (fun _ _ _ h => h) (by rfl) ?yr0_4 (by assumption) ?rr0_4
          case yr0_4 => (intro w hSw; (try dsimp only at hSw); go_simp; (try with_reducible rfl))
          simp only [Act.put, List.setIfInBounds_toArray, List.set_cons_zero, List.set_cons_succ]
          refine take_first 4 68 (v := ?vr0_5) rfl rfl (by kernel_rfl) (by kernel_rfl) (by kernel_rfl) (fun _ _ _ h => h) (by rfl) ?yr0_5 (by assumption) ?rr0_5
          case yr0_5 => (intro w hSw; (try dsimp only at hSw); go_simp; (try with_reducible rfl))
          simp only [Act.put, List.setIfInBounds_toArray, List.set_cons_zero, List.set_cons_succ]
          refine take_first 5 69 (v := ?vr0_6) rfl rfl (by kernel_rfl) (by kernel_rfl) (by kernel_rfl) (fun _ _ _ h => h) (by rfl) ?yr0_6 (by assumption) ?rr0_6
          case yr0_6 => (intro w hSw; (try dsimp only at hSw); go_simp; (try with_reducible rfl))
          simp only [Act.put, List.setIfInBounds_toArray, List.set_cons_zero, List.set_cons_succ]
          refine take_first 6 70 (v := ?vr0_7) rfl rfl (by kernel_rfl) (by kernel_rfl) (by kernel_rfl) (fun _ _ _ h => h) (by rfl) ?yr0_7 (by assumption) ?rr0_7
          case yr0_7 => (intro w hSw; (try dsimp only at hSw); go_simp; (try with_reducible rfl))
          simp only [Act.put, List.setIfInBounds_toArray, List.set_cons_zero, List.set_cons_succ]
          refine take_first 7 71 (v := ?vr0_8) rfl rfl (by kernel_rfl) (by kernel_rfl) (by kernel_rfl) (fun _ _ _ h => h) (by rfl) ?yr0_8 (by assumption) ?rr0_8
          case yr0_8 => (intro w hSw; (try dsimp only at hSw); go_simp; (try with_reducible rfl))
          simp only [Act.put, List.setIfInBounds_toArray, List.set_cons_zero, List.set_cons_succ]
          refine take_first 8 72 (v := ?vr0_9) rfl rfl (by kernel_rfl) (by kernel_rfl) (by kernel_rfl) (fun _ _ _ h => h) (by rfl) ?yr0_9 (by assumption) ?rr0_9
          case yr0_9 => (intro w hSw; (try dsimp only at hSw); go_simp; (try with_reducible rfl))
          simp only [Act.put, List.setIfInBounds_toArray, List.set_cons_zero, List.set_cons_succ]
          refine take_first 9 73 (v := ?vr0_10) rfl rfl (by kernel_rfl) (by kernel_rfl) (by kernel_rfl) (fun _ _ _ h => h) (by rfl) ?yr0_10 (by assumption) ?rr0_10
          case yr0_10 => (intro w hSw; (try dsimp only at hSw); go_simp; (try with_reducible rfl))
          simp only [Act.put, List.setIfInBounds_toArray, List.set_cons_zero, List.set_cons_succ]
          refine take_first 10 74 (v := ?vr0_11) rfl rfl (by kernel_rfl) (by kernel_rfl) (by kernel_rfl) (fun _ _ _ h => h) (by rfl) ?yr0_11 (by assumption) ?rr0_11
          case yr0_11 => (intro w hSw; (try dsimp only at hSw); go_simp; (try with_reducible rfl))
          simp only [Act.put, List.setIfInBounds_toArray, List.set_cons_zero, List.set_cons_succ]
          refine take_first 11 75 (v := ?vr0_12) rfl rfl (by kernel_rfl) (by kernel_rfl) (by kernel_rfl) (fun _ _ _ h => h) (by rfl) ?yr0_12 (by assumption) ?rr0_12
          case yr0_12 => (intro w hSw; (try dsimp only at hSw); go_simp; (try with_reducible rfl))
          simp only [Act.put, List.setIfInBounds_toArray, List.set_cons_zero, List.set_cons_succ]
          refine pass_over 12 76 rfl rfl (by kernel_rfl) (by kernel_rfl) (by kernel_rfl) (fun _ _ _ h => h) (by rfl) (by assumption) ?rr0_13
          simp only [Act.put, List.setIfInBounds_toArray, List.set_cons_zero, List.set_cons_succ]
          refine pass_over 13 77 rfl rfl (by kernel_rfl) (by kernel_rfl) (by kernel_rfl) (fun _ _ _ h => h) (by rfl) (by assumption) ?rr0_14
          simp only [Act.put, List.setIfInBounds_toArray, List.set_cons_zero, List.set_cons_succ]
          refine pass_over 14 78 rfl rfl (by kernel_rfl) (by kernel_rfl) (by kernel_rfl) (fun _ _ _ h => h) (by rfl) (by assumption) ?rr0_15
          simp only [Act.put, List.setIfInBounds_toArray, List.set_cons_zero, List.set_cons_succ]
          refine pass_over 15 79 rfl rfl (by kernel_rfl) (by kernel_rfl) (by kernel_rfl) (fun _ _ _ h => h) (by rfl) (by assumption) ?rr0_16
          simp only [Act.put, List.setIfInBounds_toArray, List.set_cons_zero, List.set_cons_succ]
          refine pass_over 16 80 rfl rfl (by kernel_rfl) (by kernel_rfl) (by kernel_rfl) (fun _ _ _ h => h) (by rfl) (by assumption) ?rr0_17
          simp only [Act.put, List.setIfInBounds_toArray, List.set_cons_zero, List.set_cons_succ]
          refine pass_over 17 81 rfl rfl (by kernel_rfl) (by kernel_rfl) (by kernel_rfl) (fun _ _ _ h => h) (by rfl) (by assumption) ?rr0_18
          simp only [Act.put, List.setIfInBounds_toArray, List.set_cons_zero, List.set_cons_succ]
          refine pass_over 18 82 rfl rfl (by kernel_rfl) (by kernel_rfl) (by kernel_rfl) (fun _ _ _ h => h) (by rfl) (by assumption) ?rr0_19
          simp only [Act.put, List.setIfInBounds_toArray, List.set_cons_zero, List.set_cons_succ]
          refine pass_over 19 83 rfl rfl (by kernel_rfl) (by kernel_rfl) (by kernel_rfl) (fun _ _ _ h => h) (by rfl) (by assumption) ?rr0_20
          simp only [Act.put, List.setIfInBounds_toArray, List.set_cons_zero, List.set_cons_succ]
          refine pass_over 20 84 rfl rfl (by kernel_rfl) (by kernel_rfl) (by kernel_rfl) (fun _ _ _ h => h) (by rfl) (by assumption) ?rr0_21
          simp only [Act.put, List.setIfInBounds_toArray, List.set_cons_zero, List.set_cons_succ]
          refine pass_over 21 85 rfl rfl (by kernel_rfl) (by kernel_rfl) (by kernel_rfl) (fun _ _ _ h => h) (by rfl) (by assumption) ?rr0_22
          simp only [Act.put, List.setIfInBounds_toArray, List.set_cons_zero, List.set_cons_succ]
          refine pass_over 22 86 rfl rfl (by kernel_rfl) (by kernel_rfl) (by kernel_rfl) (fun _ _ _ h => h) (by rfl) (by assumption) ?rr0_23
          simp only [Act.put, List.setIfInBounds_toArray, List.set_cons_zero, List.set_cons_succ]
          refine pass_over 23 87 rfl rfl (by kernel_rfl) (by kernel_rfl) (by kernel_rfl) (fun _ _ _ h => h) (by rfl) (by assumption) ?rr0_24
          simp only [Act.put, List.setIfInBounds_toArray, List.set_cons_zero, List.set_cons_succ]
          refine pass_over 24 88 rfl rfl (by kernel_rfl) (by kernel_rfl) (by kernel_rfl) (fun _ _ _ h => h) (by rfl) (by assumption) ?rr0_25
          simp only [Act.put, List.setIfInBounds_toArray, List.set_cons_zero, List.set_cons_succ]
          refine take_first 25 89 (v := ?vr0_26) rfl rfl (by kernel_rfl) (by kernel_rfl) (by kernel_rfl) (fun _ _ _ h => h) (by rfl) ?yr0_26 (by assumption) ?rr0_26
          case yr0_26 => (intro w hSw; (try dsimp only at hSw); go_simp; (try with_reducible rfl))
          simp only [Act.put, List.setIfInBounds_toArray, List.set_cons_zero, List.set_cons_succ]
          refine take_first 26 90 (v := ?vr0_27) rfl rfl (by kernel_rfl) (by kernel_rfl) (by kernel_rfl) (fun _ _ _ h => h) (by rfl) ?yr0_27 (by assumption) ?rr0_27
          case yr0_27 => (intro w hSw; (try dsimp only at hSw); go_simp; (try with_reducible rfl))
          simp only [Act.put, List.setIfInBounds_toArray, List.set_cons_zero, List.set_cons_succ]
          refine take_first 27 91 (v := ?vr0_28) rfl rfl (by kernel_rfl) (by kernel_rfl) (by kernel_rfl) (fun _ _ _ h => h) (by rfl) ?yr0_28 (by assumption) ?rr0_28
          case yr0_28 => (intro w hSw; (try dsimp only at hSw); go_simp; (try with_reducible rfl))
          simp only [Act.put, List.setIfInBounds_toArray, List.set_cons_zero, List.set_cons_succ]
          refine take_first 28 92 (v := ?vr0_29) rfl rfl (by kernel_rfl) (by kernel_rfl) (by kernel_rfl) (fun _ _ _ h => h) (by rfl) ?yr0_29 (by assumption) ?rr0_29
          case yr0_29 => (intro w hSw; (try dsimp only at hSw); go_simp; (try with_reducible rfl))
          simp only [Act.put, List.setIfInBounds_toArray, List.set_cons_zero, List.set_cons_succ]
          refine take_first 29 93 (v := ?vr0_30) rfl rfl (by kernel_rfl) (by kernel_rfl) (by kernel_rfl) (fun _ _ _ h => h) (by rfl) ?yr0_30 (by assumption) ?rr0_30
          case yr0_30 => (intro w hSw; (try dsimp only at hSw); go_simp; (try with_reducible rfl))
          simp only [Act.put, List.setIfInBounds_toArray, List.set_cons_zero, List.set_cons_succ]
          refine take_first 31 95 (v := ?vr0_31) rfl rfl (by kernel_rfl) (by kernel_rfl) (by kernel_rfl) (fun _ _ _ h => h) (by rfl) ?yr0_31 (by assumption) ?rr0_31
          case yr0_31 => (intro w hSw; (try dsimp only at hSw); go_simp; (try with_reducible rfl))
          simp only [Act.put, List.setIfInBounds_toArray, List.set_cons_zero, List.set_cons_succ]
          refine wpAnyH_ready (rs := [30]) (by kernel_rfl) (by simp) ?_
          refine AllReadyH.cons (o := _) rfl (fun Kr0_32 hKr0_32 => ?cr0_32) ?mr0_32
          case mr0_32 => exact AllReadyH.nil
          go_simp
          refine (implDiskFall_any _ _ ⟨x.notes.take kk, kk⟩ keep (diskSh.rmore (diskSh.rbelow HYd.out HL.out) HL.out.size)).mono ?_
          rintro e v14 ⟨cs6, rfl, ho, hb⟩
          rw [HAg.out] at ho
          obtain ⟨u6, rfl, hu6⟩ := disk_own.1 ho
          obtain ⟨A6, c6, hf6, -, -⟩ := hu6.row.form
          replace hf6 : u6 = .slice A6 kk c6 := hf6.trans (congrArg (fun n => Value.slice A6 n c6) hkl)
          subst hf6
          clear hu6
          have HRw := Lib.hid (show diskSh.rel v14 v14.heap.size [.slice A6 kk c6, .int .i64 (kk : Int)] ⟨x.notes.take kk, kk⟩ from diskSh.orel ho)
          clear ho
          replace HL := Lib.hid (HL.out.trans (hb.mono HL.out.size))
          clear hb
          have k14_ : v14.cell? ⟨w1.heap.size, 0, none⟩ = some (.slice A1 x.notes.length c1) ∧ v14.cell? ⟨w1.heap.size, 1, none⟩ = some (.int .i64 x.safe) ∧ v14.cell? ⟨w2.heap.size, 0, none⟩ = some (.slice A3 kk c3) ∧ v14.cell? ⟨w2.heap.size, 1, none⟩ = some (.int .i64 (kk : Int)) := (And.intro ((HXx.out.below HL.out HXx.out.1).of 0 _ rfl) (And.intro ((HXx.out.below HL.out HXx.out.1).of 1 _ rfl) (And.intro ((HXy.out.below HL.out HXy.out.1).of 0 _ rfl) ((HXy.out.below HL.out HXy.out.1).of 1 _ rfl))))
          go_wp2_with fail
          refine hKr0_32.out _ _ ?kr0_32 (fun hHeldr0_32 => ?dr0_32)
          case kr0_32 => (first | (dsimp only; (exact k14_)) | (exact k14_))
          clear hKr0_32 Kr0_32
          refine wpAnyH_ready (rs := [32]) (by kernel_rfl) (by simp) ?_
          refine AllReadyH.cons (o := _) rfl (fun Kr0_33 hKr0_33 => ?cr0_33) ?mr0_33
          case mr0_33 => exact AllReadyH.nil
          go_simp
          refine (jaDisk_same _ _ _ ⟨x.notes.take kk, kk⟩ HRw.out (diskSh.rmore (diskSh.rbelow HYd.out HL.out) HL.out.size)).mono ?_
          rintro e v15 ⟨rfl, hb⟩
          replace HL := Lib.hid (HL.out.trans (hb.mono HL.out.size))
          clear hb
          have k15_ : v15.cell? ⟨w1.heap.size, 0, none⟩ = some (.slice A1 x.notes.length c1) ∧ v15.cell? ⟨w1.heap.size, 1, none⟩ = some (.int .i64 x.safe) ∧ v15.cell? ⟨w2.heap.size, 0, none⟩ = some (.slice A3 kk c3) ∧ v15.cell? ⟨w2.heap.size, 1, none⟩ = some (.int .i64 (kk : Int)) := (And.intro ((HXx.out.below HL.out HXx.out.1).of 0 _ rfl) (And.intro ((HXx.out.below HL.out HXx.out.1).of 1 _ rfl) (And.intro ((HXy.out.below HL.out HXy.out.1).of 0 _ rfl) ((HXy.out.below HL.out HXy.out.1).of 1 _ rfl))))
          go_wp2_with fail
          refine hKr0_33.out _ _ ?kr0_33 (fun hHeldr0_33 => ?dr0_33)
          case kr0_33 => (first | (dsimp only; (exact k15_)) | (exact k15_))
          clear hKr0_33 Kr0_33
          refine take_first 33 97 (v := ?vr0_34) rfl rfl (by kernel_rfl) (by kernel_rfl) (by kernel_rfl) (fun _ _ _ h => h) (by rfl) ?yr0_34 (by assumption) ?rr0_34
          case yr0_34 => (intro w hSw; (try dsimp only at hSw); go_simp; (try with_reducible rfl))
          simp only [Act.put, List.setIfInBounds_toArray, List.set_cons_zero, List.set_cons_succ]
          refine take_first 34 2 (v := ?vr0_35) rfl rfl (by kernel_rfl) (by kernel_rfl) (by kernel_rfl) (fun _ _ _ h => h) (by rfl) ?yr0_35 (by assumption) ?rr0_35
          case yr0_35 => (intro w hSw; (try dsimp only at hSw); go_simp; (try with_reducible rfl))
          simp only [Act.put, List.setIfInBounds_toArray, List.set_cons_zero, List.set_cons_succ]
          refine wpAnyH_done (by kernel_rfl) ?er0_36 _
          go_wp2
          go_ret
          exact ⟨rfl, belowNext HB.out HL.out⟩
        · have d1 : decide ((0 : Int) < keep) = false := by have := HK2.out; simp; omega
          have d2 : decide (keep < (0 : Int)) = false := by have := HK2.out; simp; omega
          have d3 : ((kk : Int) == x.safe) = true := by have := HK2.out; simp; omega
          have hw1 : IntKind.i64.wrap ((x.notes.length : Int) - x.safe) = (x.notes.length : Int) - x.safe := IntWalk.i64_in _ (by omega)
          have hw2 : IntKind.i64.wrap (x.safe + min keep ((x.notes.length : Int) - x.safe)) = (kk : Int) := by have := HK2.out; rw [IntWalk.i64_in _ (by omega)]; omega
          have d4 : ((kk : Int) == (kk : Int)) = true := by simp
          clear hke
          have HL := Lib.hid (show Below wc.heap.size wc wc.drew from (Below.refl _ _).drew)
          have k0_ : wc.drew.cell? ⟨w1.heap.size, 0, none⟩ = some (.slice A1 x.notes.length c1) ∧ wc.drew.cell? ⟨w1.heap.size, 1, none⟩ = some (.int .i64 x.safe) ∧ wc.drew.cell? ⟨w2.heap.size, 0, none⟩ = some (.slice A3 kk c3) ∧ wc.drew.cell? ⟨w2.heap.size, 1, none⟩ = some (.int .i64 (kk : Int)) := (And.intro ((HXx.out.below HL.out HXx.out.1).of 0 _ rfl) (And.intro ((HXx.out.below HL.out HXx.out.1).of 1 _ rfl) (And.intro ((HXy.out.below HL.out HXy.out.1).of 0 _ rfl) ((HXy.out.below HL.out HXy.out.1).of 1 _ rfl))))
          refine wp_region_held_drew (S := (fun w' => w'.cell? ⟨w1.heap.size, 0, none⟩ = some (.slice A1 x.notes.length c1) ∧ w'.cell? ⟨w1.heap.size, 1, none⟩ = some (.int .i64 x.safe) ∧ w'.cell? ⟨w2.heap.size, 0, none⟩ = some (.slice A3 kk c3) ∧ w'.cell? ⟨w2.heap.size, 1, none⟩ = some (.int .i64 (kk : Int)))) (by kernel_rfl) ?hSr1 (fun hHeldr1 => ?str1)
          case hSr1 => (first | (dsimp only; (exact k0_)) | (exact k0_))
          refine take_first 0 64 (v := ?vr1_1) rfl rfl (by kernel_rfl) (by kernel_rfl) (by kernel_rfl) (fun _ _ _ h => h) (by rfl) ?yr1_1 (by assumption) ?rr1_1
          case yr1_1 => (intro w hSw; (try dsimp only at hSw); go_simp; (try with_reducible rfl))
          simp only [Act.put, List.setIfInBounds_toArray, List.set_cons_zero, List.set_cons_succ]
          refine take_first 1 65 (v := ?vr1_2) rfl rfl (by kernel_rfl) (by kernel_rfl) (by kernel_rfl) (fun _ _ _ h => h) (by rfl) ?yr1_2 (by assumption) ?rr1_2
          case yr1_2 => (intro w hSw; (try dsimp only at hSw); go_simp; (try with_reducible rfl))
          simp only [Act.put, List.setIfInBounds_toArray, List.set_cons_zero, List.set_cons_succ]
          refine take_first 2 66 (v := ?vr1_3) rfl rfl (by kernel_rfl) (by kernel_rfl) (by kernel_rfl) (fun _ _ _ h => h) (by rfl) ?yr1_3 (by assumption) ?rr1_3
          case yr1_3 => (intro w hSw; (try dsimp only at hSw); go_simp; (try with_reducible rfl))
          simp only [Act.put, List.setIfInBounds_toArray, List.set_cons_zero, List.set_cons_succ]
          refine take_first 3 67 (v := ?vr1_4) rfl rfl (by kernel_rfl) (by kernel_rfl) (by kernel_rfl) (fun _ _ _ h => h) (by rfl) ?yr1_4 (by assumption) ?rr1_4
          case yr1_4 => (intro w hSw; (try dsimp only at hSw); go_simp; (try with_reducible rfl))
          simp only [Act.put, List.setIfInBounds_toArray, List.set_cons_zero, List.set_cons_succ]
          refine take_first 4 68 (v := ?vr1_5) rfl rfl (by kernel_rfl) (by kernel_rfl) (by kernel_rfl) (fun _ _ _ h => h) (by rfl) ?yr1_5 (by assumption) ?rr1_5
          case yr1_5 => (intro w hSw; (try dsimp only at hSw); go_simp; (try with_reducible rfl))
          simp only [Act.put, List.setIfInBounds_toArray, List.set_cons_zero, List.set_cons_succ]
          refine take_first 5 69 (v := ?vr1_6) rfl rfl (by kernel_rfl) (by kernel_rfl) (by kernel_rfl) (fun _ _ _ h => h) (by rfl) ?yr1_6 (by assumption) ?rr1_6
          case yr1_6 => (intro w hSw; (try dsimp only at hSw); go_simp; (try with_reducible rfl))
          simp only [Act.put, List.setIfInBounds_toArray, List.set_cons_zero, List.set_cons_succ]
          refine take_first 6 70 (v := ?vr1_7) rfl rfl (by kernel_rfl) (by kernel_rfl) (by kernel_rfl) (fun _ _ _ h => h) (by rfl) ?yr1_7 (by assumption) ?rr1_7
          case yr1_7 => (intro w hSw; (try dsimp only at hSw); go_simp; (try with_reducible rfl))
          simp only [Act.put, List.setIfInBounds_toArray, List.set_cons_zero, List.set_cons_succ]
          refine take_first 7 71 (v := ?vr1_8) rfl rfl (by kernel_rfl) (by kernel_rfl) (by kernel_rfl) (fun _ _ _ h => h) (by rfl) ?yr1_8 (by assumption) ?rr1_8
          case yr1_8 => (intro w hSw; (try dsimp only at hSw); go_simp; (try with_reducible rfl))
          simp only [Act.put, List.setIfInBounds_toArray, List.set_cons_zero, List.set_cons_succ]
          refine take_first 8 72 (v := ?vr1_9) rfl rfl (by kernel_rfl) (by kernel_rfl) (by kernel_rfl) (fun _ _ _ h => h) (by rfl) ?yr1_9 (by assumption) ?rr1_9
          case yr1_9 => (intro w hSw; (try dsimp only at hSw); go_simp; (try with_reducible rfl))
          simp only [Act.put, List.setIfInBounds_toArray, List.set_cons_zero, List.set_cons_succ]
          refine take_first 9 73 (v := ?vr1_10) rfl rfl (by kernel_rfl) (by kernel_rfl) (by kernel_rfl) (fun _ _ _ h => h) (by rfl) ?yr1_10 (by assumption) ?rr1_10
          case yr1_10 => (intro w hSw; (try dsimp only at hSw); go_simp; (try with_reducible rfl))
          simp only [Act.put, List.setIfInBounds_toArray, List.set_cons_zero, List.set_cons_succ]
          refine take_first 10 74 (v := ?vr1_11) rfl rfl (by kernel_rfl) (by kernel_rfl) (by kernel_rfl) (fun _ _ _ h => h) (by rfl) ?yr1_11 (by assumption) ?rr1_11
          case yr1_11 => (intro w hSw; (try dsimp only at hSw); go_simp; (try with_reducible rfl))
          simp only [Act.put, List.setIfInBounds_toArray, List.set_cons_zero, List.set_cons_succ]
          refine take_first 11 75 (v := ?vr1_12) rfl rfl (by kernel_rfl) (by kernel_rfl) (by kernel_rfl) (fun _ _ _ h => h) (by rfl) ?yr1_12 (by assumption) ?rr1_12
          case yr1_12 => (intro w hSw; (try dsimp only at hSw); go_simp; (try with_reducible rfl))
          simp only [Act.put, List.setIfInBounds_toArray, List.set_cons_zero, List.set_cons_succ]
          refine take_first 12 76 (v := ?vr1_13) rfl rfl (by kernel_rfl) (by kernel_rfl) (by kernel_rfl) (fun _ _ _ h => h) (by rfl) ?yr1_13 (by assumption) ?rr1_13
          case yr1_13 => (intro w hSw; (try dsimp only at hSw); go_simp; (try with_reducible rfl))
          simp only [Act.put, List.setIfInBounds_toArray, List.set_cons_zero, List.set_cons_succ]
          refine take_first 13 77 (v := ?vr1_14) rfl rfl (by kernel_rfl) (by kernel_rfl) (by kernel_rfl) (fun _ _ _ h => h) (by rfl) ?yr1_14 (by assumption) ?rr1_14
          case yr1_14 => (intro w hSw; (try dsimp only at hSw); go_simp; (try with_reducible rfl))
          simp only [Act.put, List.setIfInBounds_toArray, List.set_cons_zero, List.set_cons_succ]
          refine take_first 14 78 (v := ?vr1_15) rfl rfl (by kernel_rfl) (by kernel_rfl) (by kernel_rfl) (fun _ _ _ h => h) (by rfl) ?yr1_15 (by assumption) ?rr1_15
          case yr1_15 => (intro w hSw; (try dsimp only at hSw); go_simp; (try with_reducible rfl))
          simp only [Act.put, List.setIfInBounds_toArray, List.set_cons_zero, List.set_cons_succ]
          refine take_first 15 79 (v := ?vr1_16) rfl rfl (by kernel_rfl) (by kernel_rfl) (by kernel_rfl) (fun _ _ _ h => h) (by rfl) ?yr1_16 (by assumption) ?rr1_16
          case yr1_16 => (intro w hSw; (try dsimp only at hSw); go_simp; (try with_reducible rfl))
          simp only [Act.put, List.setIfInBounds_toArray, List.set_cons_zero, List.set_cons_succ]
          refine take_first 16 80 (v := ?vr1_17) rfl rfl (by kernel_rfl) (by kernel_rfl) (by kernel_rfl) (fun _ _ _ h => h) (by rfl) ?yr1_17 (by assumption) ?rr1_17
          case yr1_17 => (intro w hSw; (try dsimp only at hSw); go_simp; (try with_reducible rfl))
          simp only [Act.put, List.setIfInBounds_toArray, List.set_cons_zero, List.set_cons_succ]
          refine take_first 17 81 (v := ?vr1_18) rfl rfl (by kernel_rfl) (by kernel_rfl) (by kernel_rfl) (fun _ _ _ h => h) (by rfl) ?yr1_18 (by assumption) ?rr1_18
          case yr1_18 => (intro w hSw; (try dsimp only at hSw); go_simp; (try with_reducible rfl))
          simp only [Act.put, List.setIfInBounds_toArray, List.set_cons_zero, List.set_cons_succ]
          refine take_first 18 82 (v := ?vr1_19) rfl rfl (by kernel_rfl) (by kernel_rfl) (by kernel_rfl) (fun _ _ _ h => h) (by rfl) ?yr1_19 (by assumption) ?rr1_19
          case yr1_19 => (intro w hSw; (try dsimp only at hSw); go_simp; (try with_reducible rfl))
          simp only [Act.put, List.setIfInBounds_toArray, List.set_cons_zero, List.set_cons_succ]
          refine take_first 19 83 (v := ?vr1_20) rfl rfl (by kernel_rfl) (by kernel_rfl) (by kernel_rfl) (fun _ _ _ h => h) (by rfl) ?yr1_20 (by assumption) ?rr1_20
          case yr1_20 => (intro w hSw; (try dsimp only at hSw); go_simp; (try with_reducible rfl))
          simp only [Act.put, List.setIfInBounds_toArray, List.set_cons_zero, List.set_cons_succ]
          refine take_first 20 84 (v := ?vr1_21) rfl rfl (by kernel_rfl) (by kernel_rfl) (by kernel_rfl) (fun _ _ _ h => h) (by rfl) ?yr1_21 (by assumption) ?rr1_21
          case yr1_21 => (intro w hSw; (try dsimp only at hSw); go_simp; (try with_reducible rfl))
          simp only [Act.put, List.setIfInBounds_toArray, List.set_cons_zero, List.set_cons_succ]
          refine take_first 21 85 (v := ?vr1_22) rfl rfl (by kernel_rfl) (by kernel_rfl) (by kernel_rfl) (fun _ _ _ h => h) (by rfl) ?yr1_22 (by assumption) ?rr1_22
          case yr1_22 => (intro w hSw; (try dsimp only at hSw); go_simp; (try with_reducible rfl))
          simp only [Act.put, List.setIfInBounds_toArray, List.set_cons_zero, List.set_cons_succ]
          refine take_first 22 86 (v := ?vr1_23) rfl rfl (by kernel_rfl) (by kernel_rfl) (by kernel_rfl) (fun _ _ _ h => h) (by rfl) ?yr1_23 (by assumption) ?rr1_23
          case yr1_23 => (intro w hSw; (try dsimp only at hSw); go_simp; (try with_reducible rfl))
          simp only [Act.put, List.setIfInBounds_toArray, List.set_cons_zero, List.set_cons_succ]
          refine take_first 23 87 (v := ?vr1_24) rfl rfl (by kernel_rfl) (by kernel_rfl) (by kernel_rfl) (fun _ _ _ h => h) (by rfl) ?yr1_24 (by assumption) ?rr1_24
          case yr1_24 => (intro w hSw; (try dsimp only at hSw); go_simp; (try with_reducible rfl))
          simp only [Act.put, List.setIfInBounds_toArray, List.set_cons_zero, List.set_cons_succ]
          refine take_first 24 88 (v := ?vr1_25) rfl rfl (by kernel_rfl) (by kernel_rfl) (by kernel_rfl) (fun _ _ _ h => h) (by rfl) ?yr1_25 (by assumption) ?rr1_25
          case yr1_25 => (intro w hSw; (try dsimp only at hSw); go_simp; (try with_reducible rfl))
          simp only [Act.put, List.setIfInBounds_toArray, List.set_cons_zero, List.set_cons_succ]
          refine take_first 25 89 (v := ?vr1_26) rfl rfl (by kernel_rfl) (by kernel_rfl) (by kernel_rfl) (fun _ _ _ h => h) (by rfl) ?yr1_26 (by assumption) ?rr1_26
          case yr1_26 => (intro w hSw; (try dsimp only at hSw); go_simp; (try with_reducible rfl))
          simp only [Act.put, List.setIfInBounds_toArray, List.set_cons_zero, List.set_cons_succ]
          refine take_first 26 90 (v := ?vr1_27) rfl rfl (by kernel_rfl) (by kernel_rfl) (by kernel_rfl) (fun _ _ _ h => h) (by rfl) ?yr1_27 (by assumption) ?rr1_27
          case yr1_27 => (intro w hSw; (try dsimp only at hSw); go_simp; (try with_reducible rfl))
          simp only [Act.put, List.setIfInBounds_toArray, List.set_cons_zero, List.set_cons_succ]
          refine take_first 27 91 (v := ?vr1_28) rfl rfl (by kernel_rfl) (by kernel_rfl) (by kernel_rfl) (fun _ _ _ h => h) (by rfl) ?yr1_28 (by assumption) ?rr1_28
          case yr1_28 => (intro w hSw; (try dsimp only at hSw); go_simp; (try with_reducible rfl))
          simp only [Act.put, List.setIfInBounds_toArray, List.set_cons_zero, List.set_cons_succ]
          refine take_first 28 92 (v := ?vr1_29) rfl rfl (by kernel_rfl) (by kernel_rfl) (by kernel_rfl) (fun _ _ _ h => h) (by rfl) ?yr1_29 (by assumption) ?rr1_29
          case yr1_29 => (intro w hSw; (try dsimp only at hSw); go_simp; (try with_reducible rfl))
          simp only [Act.put, List.setIfInBounds_toArray, List.set_cons_zero, List.set_cons_succ]
          refine take_first 29 93 (v := ?vr1_30) rfl rfl (by kernel_rfl) (by kernel_rfl) (by kernel_rfl) (fun _ _ _ h => h) (by rfl) ?yr1_30 (by assumption) ?rr1_30
          case yr1_30 => (intro w hSw; (try dsimp only at hSw); go_simp; (try with_reducible rfl))
          simp only [Act.put, List.setIfInBounds_toArray, List.set_cons_zero, List.set_cons_succ]
          refine take_first 31 95 (v := ?vr1_31) rfl rfl (by kernel_rfl) (by kernel_rfl) (by kernel_rfl) (fun _ _ _ h => h) (by rfl) ?yr1_31 (by assumption) ?rr1_31
          case yr1_31 => (intro w hSw; (try dsimp only at hSw); go_simp; (try with_reducible rfl))
          simp only [Act.put, List.setIfInBounds_toArray, List.set_cons_zero, List.set_cons_succ]
          refine wpAnyH_ready (rs := [30]) (by kernel_rfl) (by simp) ?_
          refine AllReadyH.cons (o := _) rfl (fun Kr1_32 hKr1_32 => ?cr1_32) ?mr1_32
          case mr1_32 => exact AllReadyH.nil
          go_simp
          refine (implDiskFall_any _ _ ⟨x.notes.take kk, kk⟩ keep (diskSh.rmore (diskSh.rbelow HYd.out HL.out) HL.out.size)).mono ?_
          rintro e v16 ⟨cs6, rfl, ho, hb⟩
          rw [HAg.out] at ho
          obtain ⟨u6, rfl, hu6⟩ := disk_own.1 ho
          obtain ⟨A6, c6, hf6, -, -⟩ := hu6.row.form
          replace hf6 : u6 = .slice A6 kk c6 := hf6.trans (congrArg (fun n => Value.slice A6 n c6) hkl)
          subst hf6
          clear hu6
          have HRw := Lib.hid (show diskSh.rel v16 v16.heap.size [.slice A6 kk c6, .int .i64 (kk : Int)] ⟨x.notes.take kk, kk⟩ from diskSh.orel ho)
          clear ho
          replace HL := Lib.hid (HL.out.trans (hb.mono HL.out.size))
          clear hb
          have k16_ : v16.cell? ⟨w1.heap.size, 0, none⟩ = some (.slice A1 x.notes.length c1) ∧ v16.cell? ⟨w1.heap.size, 1, none⟩ = some (.int .i64 x.safe) ∧ v16.cell? ⟨w2.heap.size, 0, none⟩ = some (.slice A3 kk c3) ∧ v16.cell? ⟨w2.heap.size, 1, none⟩ = some (.int .i64 (kk : Int)) := (And.intro ((HXx.out.below HL.out HXx.out.1).of 0 _ rfl) (And.intro ((HXx.out.below HL.out HXx.out.1).of 1 _ rfl) (And.intro ((HXy.out.below HL.out HXy.out.1).of 0 _ rfl) ((HXy.out.below HL.out HXy.out.1).of 1 _ rfl))))
          go_wp2_with fail
          refine hKr1_32.out _ _ ?kr1_32 (fun hHeldr1_32 => ?dr1_32)
          case kr1_32 => (first | (dsimp only; (exact k16_)) | (exact k16_))
          clear hKr1_32 Kr1_32
          refine wpAnyH_ready (rs := [32]) (by kernel_rfl) (by simp) ?_
          refine AllReadyH.cons (o := _) rfl (fun Kr1_33 hKr1_33 => ?cr1_33) ?mr1_33
          case mr1_33 => exact AllReadyH.nil
          go_simp
          refine (jaDisk_same _ _ _ ⟨x.notes.take kk, kk⟩ HRw.out (diskSh.rmore (diskSh.rbelow HYd.out HL.out) HL.out.size)).mono ?_
          rintro e v17 ⟨rfl, hb⟩
          replace HL := Lib.hid (HL.out.trans (hb.mono HL.out.size))
          clear hb
          have k17_ : v17.cell? ⟨w1.heap.size, 0, none⟩ = some (.slice A1 x.notes.length c1) ∧ v17.cell? ⟨w1.heap.size, 1, none⟩ = some (.int .i64 x.safe) ∧ v17.cell? ⟨w2.heap.size, 0, none⟩ = some (.slice A3 kk c3) ∧ v17.cell? ⟨w2.heap.size, 1, none⟩ = some (.int .i64 (kk : Int)) := (And.intro ((HXx.out.below HL.out HXx.out.1).of 0 _ rfl) (And.intro ((HXx.out.below HL.out HXx.out.1).of 1 _ rfl) (And.intro ((HXy.out.below HL.out HXy.out.1).of 0 _ rfl) ((HXy.out.below HL.out HXy.out.1).of 1 _ rfl))))
          go_wp2_with fail
          refine hKr1_33.out _ _ ?kr1_33 (fun hHeldr1_33 => ?dr1_33)
          case kr1_33 => (first | (dsimp only; (exact k17_)) | (exact k17_))
          clear hKr1_33 Kr1_33
          refine take_first 33 97 (v := ?vr1_34) rfl rfl (by kernel_rfl) (by kernel_rfl) (by kernel_rfl) (fun _ _ _ h => h) (by rfl) ?yr1_34 (by assumption) ?rr1_34
          case yr1_34 => (intro w hSw; (try dsimp only at hSw); go_simp; (try with_reducible rfl))
          simp only [Act.put, List.setIfInBounds_toArray, List.set_cons_zero, List.set_cons_succ]
          refine take_first 34 2 (v := ?vr1_35) rfl rfl (by kernel_rfl) (by kernel_rfl) (by kernel_rfl) (fun _ _ _ h => h) (by rfl) ?yr1_35 (by assumption) ?rr1_35
          case yr1_35 => (intro w hSw; (try dsimp only at hSw); go_simp; (try with_reducible rfl))
          simp only [Act.put, List.setIfInBounds_toArray, List.set_cons_zero, List.set_cons_succ]
          refine wpAnyH_done (by kernel_rfl) ?er1_36 _
          go_wp2
          go_ret
          exact ⟨rfl, belowNext HB.out HL.out⟩
        · have d1 : decide ((0 : Int) < keep) = true := by have := HK2.out; simp; omega
          have d2 : decide (keep < (0 : Int)) = false := by have := HK2.out; simp; omega
          have hw1 : IntKind.i64.wrap ((x.notes.length : Int) - x.safe) = (x.notes.length : Int) - x.safe := IntWalk.i64_in _ (by omega)
          have hw2 : IntKind.i64.wrap (x.safe + min keep ((x.notes.length : Int) - x.safe)) = (kk : Int) := by have := HK2.out; rw [IntWalk.i64_in _ (by omega)]; omega
          have d4 : ((kk : Int) == (kk : Int)) = true := by simp
          clear hke
          have HL := Lib.hid (show Below wc.heap.size wc wc.drew from (Below.refl _ _).drew)
          have k0_ : wc.drew.cell? ⟨w1.heap.size, 0, none⟩ = some (.slice A1 x.notes.length c1) ∧ wc.drew.cell? ⟨w1.heap.size, 1, none⟩ = some (.int .i64 x.safe) ∧ wc.drew.cell? ⟨w2.heap.size, 0, none⟩ = some (.slice A3 kk c3) ∧ wc.drew.cell? ⟨w2.heap.size, 1, none⟩ = some (.int .i64 (kk : Int)) := (And.intro ((HXx.out.below HL.out HXx.out.1).of 0 _ rfl) (And.intro ((HXx.out.below HL.out HXx.out.1).of 1 _ rfl) (And.intro ((HXy.out.below HL.out HXy.out.1).of 0 _ rfl) ((HXy.out.below HL.out HXy.out.1).of 1 _ rfl))))
          refine wp_region_held_drew (S := (fun w' => w'.cell? ⟨w1.heap.size, 0, none⟩ = some (.slice A1 x.notes.length c1) ∧ w'.cell? ⟨w1.heap.size, 1, none⟩ = some (.int .i64 x.safe) ∧ w'.cell? ⟨w2.heap.size, 0, none⟩ = some (.slice A3 kk c3) ∧ w'.cell? ⟨w2.heap.size, 1, none⟩ = some (.int .i64 (kk : Int)))) (by kernel_rfl) ?hSr2 (fun hHeldr2 => ?str2)
          case hSr2 => (first | (dsimp only; (exact k0_)) | (exact k0_))
          refine take_first 0 64 (v := ?vr2_1) rfl rfl (by kernel_rfl) (by kernel_rfl) (by kernel_rfl) (fun _ _ _ h => h) (by rfl) ?yr2_1 (by assumption) ?rr2_1
          case yr2_1 => (intro w hSw; (try dsimp only at hSw); go_simp; (try with_reducible rfl))
          simp only [Act.put, List.setIfInBounds_toArray, List.set_cons_zero, List.set_cons_succ]
          refine take_first 1 65 (v := ?vr2_2) rfl rfl (by kernel_rfl) (by kernel_rfl) (by kernel_rfl) (fun _ _ _ h => h) (by rfl) ?yr2_2 (by assumption) ?rr2_2
          case yr2_2 => (intro w hSw; (try dsimp only at hSw); go_simp; (try with_reducible rfl))
          simp only [Act.put, List.setIfInBounds_toArray, List.set_cons_zero, List.set_cons_succ]
          refine take_first 2 66 (v := ?vr2_3) rfl rfl (by kernel_rfl) (by kernel_rfl) (by kernel_rfl) (fun _ _ _ h => h) (by rfl) ?yr2_3 (by assumption) ?rr2_3
          case yr2_3 => (intro w hSw; (try dsimp only at hSw); go_simp; (try with_reducible rfl))
          simp only [Act.put, List.setIfInBounds_toArray, List.set_cons_zero, List.set_cons_succ]
          refine pass_over 3 67 rfl rfl (by kernel_rfl) (by kernel_rfl) (by kernel_rfl) (fun _ _ _ h => h) (by rfl) (by assumption) ?rr2_4
          simp only [Act.put, List.setIfInBounds_toArray, List.set_cons_zero, List.set_cons_succ]
          refine pass_over 4 68 rfl rfl (by kernel_rfl) (by kernel_rfl) (by kernel_rfl) (fun _ _ _ h => h) (by rfl) (by assumption) ?rr2_5
          simp only [Act.put, List.setIfInBounds_toArray, List.set_cons_zero, List.set_cons_succ]
          refine pass_over 5 69 rfl rfl (by kernel_rfl) (by kernel_rfl) (by kernel_rfl) (fun _ _ _ h => h) (by rfl) (by assumption) ?rr2_6
          simp only [Act.put, List.setIfInBounds_toArray, List.set_cons_zero, List.set_cons_succ]
          refine pass_over 6 70 rfl rfl (by kernel_rfl) (by kernel_rfl) (by kernel_rfl) (fun _ _ _ h => h) (by rfl) (by assumption) ?rr2_7
          simp only [Act.put, List.setIfInBounds_toArray, List.set_cons_zero, List.set_cons_succ]
          refine take_first 7 71 (v := ?vr2_8) rfl rfl (by kernel_rfl) (by kernel_rfl) (by kernel_rfl) (fun _ _ _ h => h) (by rfl) ?yr2_8 (by assumption) ?rr2_8
          case yr2_8 => (intro w hSw; (try dsimp only at hSw); go_simp; (try with_reducible rfl))
          simp only [Act.put, List.setIfInBounds_toArray, List.set_cons_zero, List.set_cons_succ]
          refine take_first 8 72 (v := ?vr2_9) rfl rfl (by kernel_rfl) (by kernel_rfl) (by kernel_rfl) (fun _ _ _ h => h) (by rfl) ?yr2_9 (by assumption) ?rr2_9
          case yr2_9 => (intro w hSw; (try dsimp only at hSw); go_simp; (try with_reducible rfl))
          simp only [Act.put, List.setIfInBounds_toArray, List.set_cons_zero, List.set_cons_succ]
          refine take_first 9 73 (v := ?vr2_10) rfl rfl (by kernel_rfl) (by kernel_rfl) (by kernel_rfl) (fun _ _ _ h => h) (by rfl) ?yr2_10 (by assumption) ?rr2_10
          case yr2_10 => (intro w hSw; (try dsimp only at hSw); go_simp; (try with_reducible rfl))
          simp only [Act.put, List.setIfInBounds_toArray, List.set_cons_zero, List.set_cons_succ]
          refine take_first 10 74 (v := ?vr2_11) rfl rfl (by kernel_rfl) (by kernel_rfl) (by kernel_rfl) (fun _ _ _ h => h) (by rfl) ?yr2_11 (by assumption) ?rr2_11
          case yr2_11 => (intro w hSw; (try dsimp only at hSw); go_simp; (try with_reducible rfl))
          simp only [Act.put, List.setIfInBounds_toArray, List.set_cons_zero, List.set_cons_succ]
          refine take_first 11 75 (v := ?vr2_12) rfl rfl (by kernel_rfl) (by kernel_rfl) (by kernel_rfl) (fun _ _ _ h => h) (by rfl) ?yr2_12 (by assumption) ?rr2_12
          case yr2_12 => (intro w hSw; (try dsimp only at hSw); go_simp; (try with_reducible rfl))
          simp only [Act.put, List.setIfInBounds_toArray, List.set_cons_zero, List.set_cons_succ]
          refine take_first 12 76 (v := ?vr2_13) rfl rfl (by kernel_rfl) (by kernel_rfl) (by kernel_rfl) (fun _ _ _ h => h) (by rfl) ?yr2_13 (by assumption) ?rr2_13
          case yr2_13 => (intro w hSw; (try dsimp only at hSw); go_simp; (try with_reducible rfl))
          simp only [Act.put, List.setIfInBounds_toArray, List.set_cons_zero, List.set_cons_succ]
          refine take_first 13 77 (v := ?vr2_14) rfl rfl (by kernel_rfl) (by kernel_rfl) (by kernel_rfl) (fun _ _ _ h => h) (by rfl) ?yr2_14 (by assumption) ?rr2_14
          case yr2_14 => (intro w hSw; (try dsimp only at hSw); go_simp; (try with_reducible rfl))
          simp only [Act.put, List.setIfInBounds_toArray, List.set_cons_zero, List.set_cons_succ]
          refine take_first 14 78 (v := ?vr2_15) rfl rfl (by kernel_rfl) (by kernel_rfl) (by kernel_rfl) (fun _ _ _ h => h) (by rfl) ?yr2_15 (by assumption) ?rr2_15
          case yr2_15 => (intro w hSw; (try dsimp only at hSw); go_simp; (try with_reducible rfl))
          simp only [Act.put, List.setIfInBounds_toArray, List.set_cons_zero, List.set_cons_succ]
          refine take_first 15 79 (v := ?vr2_16) rfl rfl (by kernel_rfl) (by kernel_rfl) (by kernel_rfl) (fun _ _ _ h => h) (by rfl) ?yr2_16 (by assumption) ?rr2_16
          case yr2_16 => (intro w hSw; (try dsimp only at hSw); go_simp; (try with_reducible rfl))
          simp only [Act.put, List.setIfInBounds_toArray, List.set_cons_zero, List.set_cons_succ]
          refine take_first 16 80 (v := ?vr2_17) rfl rfl (by kernel_rfl) (by kernel_rfl) (by kernel_rfl) (fun _ _ _ h => h) (by rfl) ?yr2_17 (by assumption) ?rr2_17
          case yr2_17 => (intro w hSw; (try dsimp only at hSw); go_simp; (try with_reducible rfl))
          simp only [Act.put, List.setIfInBounds_toArray, List.set_cons_zero, List.set_cons_succ]
          refine take_first 17 81 (v := ?vr2_18) rfl rfl (by kernel_rfl) (by kernel_rfl) (by kernel_rfl) (fun _ _ _ h => h) (by rfl) ?yr2_18 (by assumption) ?rr2_18
          case yr2_18 => (intro w hSw; (try dsimp only at hSw); go_simp; (try with_reducible rfl))
          simp only [Act.put, List.setIfInBounds_toArray, List.set_cons_zero, List.set_cons_succ]
          refine take_first 18 82 (v := ?vr2_19) rfl rfl (by kernel_rfl) (by kernel_rfl) (by kernel_rfl) (fun _ _ _ h => h) (by rfl) ?yr2_19 (by assumption) ?rr2_19
          case yr2_19 => (intro w hSw; (try dsimp only at hSw); go_simp; (try with_reducible rfl))
          simp only [Act.put, List.setIfInBounds_toArray, List.set_cons_zero, List.set_cons_succ]
          refine take_first 19 83 (v := ?vr2_20) rfl rfl (by kernel_rfl) (by kernel_rfl) (by kernel_rfl) (fun _ _ _ h => h) (by rfl) ?yr2_20 (by assumption) ?rr2_20
          case yr2_20 => (intro w hSw; (try dsimp only at hSw); go_simp; (try with_reducible rfl))
          simp only [Act.put, List.setIfInBounds_toArray, List.set_cons_zero, List.set_cons_succ]
          refine take_first 20 84 (v := ?vr2_21) rfl rfl (by kernel_rfl) (by kernel_rfl) (by kernel_rfl) (fun _ _ _ h => h) (by rfl) ?yr2_21 (by assumption) ?rr2_21
          case yr2_21 => (intro w hSw; (try dsimp only at hSw); go_simp; (try with_reducible rfl))
          simp only [Act.put, List.setIfInBounds_toArray, List.set_cons_zero, List.set_cons_succ]
          refine take_first 21 85 (v := ?vr2_22) rfl rfl (by kernel_rfl) (by kernel_rfl) (by kernel_rfl) (fun _ _ _ h => h) (by rfl) ?yr2_22 (by assumption) ?rr2_22
          case yr2_22 => (intro w hSw; (try dsimp only at hSw); go_simp; (try with_reducible rfl))
          simp only [Act.put, List.setIfInBounds_toArray, List.set_cons_zero, List.set_cons_succ]
          refine take_first 22 86 (v := ?vr2_23) rfl rfl (by kernel_rfl) (by kernel_rfl) (by kernel_rfl) (fun _ _ _ h => h) (by rfl) ?yr2_23 (by assumption) ?rr2_23
          case yr2_23 => (intro w hSw; (try dsimp only at hSw); go_simp; (try with_reducible rfl))
          simp only [Act.put, List.setIfInBounds_toArray, List.set_cons_zero, List.set_cons_succ]
          refine take_first 23 87 (v := ?vr2_24) rfl rfl (by kernel_rfl) (by kernel_rfl) (by kernel_rfl) (fun _ _ _ h => h) (by rfl) ?yr2_24 (by assumption) ?rr2_24
          case yr2_24 => (intro w hSw; (try dsimp only at hSw); go_simp; (try with_reducible rfl))
          simp only [Act.put, List.setIfInBounds_toArray, List.set_cons_zero, List.set_cons_succ]
          refine take_first 24 88 (v := ?vr2_25) rfl rfl (by kernel_rfl) (by kernel_rfl) (by kernel_rfl) (fun _ _ _ h => h) (by rfl) ?yr2_25 (by assumption) ?rr2_25
          case yr2_25 => (intro w hSw; (try dsimp only at hSw); go_simp; (try with_reducible rfl))
          simp only [Act.put, List.setIfInBounds_toArray, List.set_cons_zero, List.set_cons_succ]
          refine take_first 25 89 (v := ?vr2_26) rfl rfl (by kernel_rfl) (by kernel_rfl) (by kernel_rfl) (fun _ _ _ h => h) (by rfl) ?yr2_26 (by assumption) ?rr2_26
          case yr2_26 => (intro w hSw; (try dsimp only at hSw); go_simp; (try with_reducible rfl))
          simp only [Act.put, List.setIfInBounds_toArray, List.set_cons_zero, List.set_cons_succ]
          refine take_first 26 90 (v := ?vr2_27) rfl rfl (by kernel_rfl) (by kernel_rfl) (by kernel_rfl) (fun _ _ _ h => h) (by rfl) ?yr2_27 (by assumption) ?rr2_27
          case yr2_27 => (intro w hSw; (try dsimp only at hSw); go_simp; (try with_reducible rfl))
          simp only [Act.put, List.setIfInBounds_toArray, List.set_cons_zero, List.set_cons_succ]
          refine take_first 27 91 (v := ?vr2_28) rfl rfl (by kernel_rfl) (by kernel_rfl) (by kernel_rfl) (fun _ _ _ h => h) (by rfl) ?yr2_28 (by assumption) ?rr2_28
          case yr2_28 => (intro w hSw; (try dsimp only at hSw); go_simp; (try with_reducible rfl))
          simp only [Act.put, List.setIfInBounds_toArray, List.set_cons_zero, List.set_cons_succ]
          refine take_first 28 92 (v := ?vr2_29) rfl rfl (by kernel_rfl) (by kernel_rfl) (by kernel_rfl) (fun _ _ _ h => h) (by rfl) ?yr2_29 (by assumption) ?rr2_29
          case yr2_29 => (intro w hSw; (try dsimp only at hSw); go_simp; (try with_reducible rfl))
          simp only [Act.put, List.setIfInBounds_toArray, List.set_cons_zero, List.set_cons_succ]
          refine take_first 29 93 (v := ?vr2_30) rfl rfl (by kernel_rfl) (by kernel_rfl) (by kernel_rfl) (fun _ _ _ h => h) (by rfl) ?yr2_30 (by assumption) ?rr2_30
          case yr2_30 => (intro w hSw; (try dsimp only at hSw); go_simp; (try with_reducible rfl))
          simp only [Act.put, List.setIfInBounds_toArray, List.set_cons_zero, List.set_cons_succ]
          refine take_first 31 95 (v := ?vr2_31) rfl rfl (by kernel_rfl) (by kernel_rfl) (by kernel_rfl) (fun _ _ _ h => h) (by rfl) ?yr2_31 (by assumption) ?rr2_31
          case yr2_31 => (intro w hSw; (try dsimp only at hSw); go_simp; (try with_reducible rfl))
          simp only [Act.put, List.setIfInBounds_toArray, List.set_cons_zero, List.set_cons_succ]
          refine wpAnyH_ready (rs := [30]) (by kernel_rfl) (by simp) ?_
          refine AllReadyH.cons (o := _) rfl (fun Kr2_32 hKr2_32 => ?cr2_32) ?mr2_32
          case mr2_32 => exact AllReadyH.nil
          go_simp
          refine (implDiskFall_any _ _ ⟨x.notes.take kk, kk⟩ keep (diskSh.rmore (diskSh.rbelow HYd.out HL.out) HL.out.size)).mono ?_
          rintro e v18 ⟨cs6, rfl, ho, hb⟩
          rw [HAg.out] at ho
          obtain ⟨u6, rfl, hu6⟩ := disk_own.1 ho
          obtain ⟨A6, c6, hf6, -, -⟩ := hu6.row.form
          replace hf6 : u6 = .slice A6 kk c6 := hf6.trans (congrArg (fun n => Value.slice A6 n c6) hkl)
          subst hf6
          clear hu6
          have HRw := Lib.hid (show diskSh.rel v18 v18.heap.size [.slice A6 kk c6, .int .i64 (kk : Int)] ⟨x.notes.take kk, kk⟩ from diskSh.orel ho)
          clear ho
          replace HL := Lib.hid (HL.out.trans (hb.mono HL.out.size))
          clear hb
          have k18_ : v18.cell? ⟨w1.heap.size, 0, none⟩ = some (.slice A1 x.notes.length c1) ∧ v18.cell? ⟨w1.heap.size, 1, none⟩ = some (.int .i64 x.safe) ∧ v18.cell? ⟨w2.heap.size, 0, none⟩ = some (.slice A3 kk c3) ∧ v18.cell? ⟨w2.heap.size, 1, none⟩ = some (.int .i64 (kk : Int)) := (And.intro ((HXx.out.below HL.out HXx.out.1).of 0 _ rfl) (And.intro ((HXx.out.below HL.out HXx.out.1).of 1 _ rfl) (And.intro ((HXy.out.below HL.out HXy.out.1).of 0 _ rfl) ((HXy.out.below HL.out HXy.out.1).of 1 _ rfl))))
          go_wp2_with fail
          refine hKr2_32.out _ _ ?kr2_32 (fun hHeldr2_32 => ?dr2_32)
          case kr2_32 => (first | (dsimp only; (exact k18_)) | (exact k18_))
          clear hKr2_32 Kr2_32
          refine wpAnyH_ready (rs := [32]) (by kernel_rfl) (by simp) ?_
          refine AllReadyH.cons (o := _) rfl (fun Kr2_33 hKr2_33 => ?cr2_33) ?mr2_33
          case mr2_33 => exact AllReadyH.nil
          go_simp
          refine (jaDisk_same _ _ _ ⟨x.notes.take kk, kk⟩ HRw.out (diskSh.rmore (diskSh.rbelow HYd.out HL.out) HL.out.size)).mono ?_
          rintro e v19 ⟨rfl, hb⟩
          replace HL := Lib.hid (HL.out.trans (hb.mono HL.out.size))
          clear hb
          have k19_ : v19.cell? ⟨w1.heap.size, 0, none⟩ = some (.slice A1 x.notes.length c1) ∧ v19.cell? ⟨w1.heap.size, 1, none⟩ = some (.int .i64 x.safe) ∧ v19.cell? ⟨w2.heap.size, 0, none⟩ = some (.slice A3 kk c3) ∧ v19.cell? ⟨w2.heap.size, 1, none⟩ = some (.int .i64 (kk : Int)) := (And.intro ((HXx.out.below HL.out HXx.out.1).of 0 _ rfl) (And.intro ((HXx.out.below HL.out HXx.out.1).of 1 _ rfl) (And.intro ((HXy.out.below HL.out HXy.out.1).of 0 _ rfl) ((HXy.out.below HL.out HXy.out.1).of 1 _ rfl))))
          go_wp2_with fail
          refine hKr2_33.out _ _ ?kr2_33 (fun hHeldr2_33 => ?dr2_33)
          case kr2_33 => (first | (dsimp only; (exact k19_)) | (exact k19_))
          clear hKr2_33 Kr2_33
          refine take_first 33 97 (v := ?vr2_34) rfl rfl (by kernel_rfl) (by kernel_rfl) (by kernel_rfl) (fun _ _ _ h => h) (by rfl) ?yr2_34 (by assumption) ?rr2_34
          case yr2_34 => (intro w hSw; (try dsimp only at hSw); go_simp; (try with_reducible rfl))
          simp only [Act.put, List.setIfInBounds_toArray, List.set_cons_zero, List.set_cons_succ]
          refine take_first 34 2 (v := ?vr2_35) rfl rfl (by kernel_rfl) (by kernel_rfl) (by kernel_rfl) (fun _ _ _ h => h) (by rfl) ?yr2_35 (by assumption) ?rr2_35
          case yr2_35 => (intro w hSw; (try dsimp only at hSw); go_simp; (try with_reducible rfl))
          simp only [Act.put, List.setIfInBounds_toArray, List.set_cons_zero, List.set_cons_succ]
          refine wpAnyH_done (by kernel_rfl) ?er2_36 _
          go_wp2
          go_ret
          exact ⟨rfl, belowNext HB.out HL.out⟩

end Go.Proofs.Ytllmmhibmgpehaa

/- The walk of FnDiskAdd. By ldiskaddgen.py. -/
import Derived.Test.YtllmmhibmgpehaaXDrawDiskAdd
import Derived.Test.YtllmmhibmgpehaaXDiskAddI
import Derived.Test.YtllmmhibmgpehaaXSDisk
import Derived.Test.YtllmmhibmgpehaaXDiskOk
import Derived.Test.YtllmmhibmgpehaaXNoteOkS
import Derived.Test.YtllmmhibmgpehaaXJaNotes
import Derived.Test.YtllmmhibmgpehaaXDrawOpen
import Derived.Deep.CutRange
import Derived.Deep.DeepCutAuto
namespace Go.Proofs.Ytllmmhibmgpehaa
open Go.RowKit

set_option maxRecDepth 100000 in
set_option maxHeartbeats 4000000 in
theorem lawDiskAdd_any (w : World) (v : Value) (m : Nat) (hv : Code8 w v m) :
    Calls Try.prog 9 #[v] w fun e w' => e = .returned (.bool true) ∧ Below w.heap.size w w' := by
  have HV := Lib.hid hv
  obtain ⟨A, c, f, rfl, h1, h2, -, -⟩ := hv
  unfold maxLen at h2
  by_cases hn : 1048576 < m
  · clear HV
    go_enter Try.func9, Try.ntmps9
    go_wp2
    go_ret
    exact ⟨rfl, Below.refl _ _⟩
  have hn' : m ≤ 1048576 := by omega
  clear hn
  go_enter Try.func9, Try.ntmps9
  go_wp2_with fail
  refine (drawDiskAdd_any _ _ _ HV.out).mono ?_
  rintro e w1 ⟨cs, x, ns, n, b, rfl, hfd, hfn, hox, hon, hb1⟩
  obtain ⟨u1, rfl, hu1⟩ := disk_own.1 hox
  obtain ⟨A1, c1, rfl, -, -⟩ := hu1.row.form
  clear hu1
  obtain ⟨u2, v2, S2, S2', rfl, hu2, hv2, -, -, -⟩ := note_own.1 hon
  obtain ⟨A2, c2, rfl, -, -⟩ := hu2.row.form
  obtain ⟨B2, d2, rfl, -, -⟩ := hv2.row.form
  clear hu2 hv2
  have HRx := Lib.hid (diskSh.orel hox)
  have HRn := Lib.hid (noteSh.orel hon)
  have HB := Lib.hid hb1
  have HZ0 := Lib.hid hb1.size
  have hxl := hfd.1
  clear hox hon hb1 HV hfd hfn
  have hal := belowOne w1 (.cells #[.slice A1 x.notes.length c1, .int .i64 x.safe] 45)
  replace HB := Lib.hid (belowNext HB.out hal)
  replace HRx := Lib.hid (rel_call HRx.out hal (by have z0 := HZ0.out; omega))
  replace HRn := Lib.hid (rel_call HRn.out hal (by have z0 := HZ0.out; omega))
  have HZ1 := Lib.hid (allocSize w1 (.cells #[.slice A1 x.notes.length c1, .int .i64 x.safe] 45))
  clear hal
  have HXx := Lib.hid (Held.new w1 #[.slice A1 x.notes.length c1, .int .i64 x.safe] 45)
  have hal := belowOne (w1.alloc (.cells #[.slice A1 x.notes.length c1, .int .i64 x.safe] 45)) (.cells #[.int .i64 n.kind, .int .i64 n.tx, .slice A2 n.locks.length c2, .slice B2 n.writes.length d2] 26)
  replace HB := Lib.hid (belowNext HB.out hal)
  replace HXx := Lib.hid (HXx.out.below hal HXx.out.1)
  replace HRx := Lib.hid (rel_call HRx.out hal (by have z0 := HZ0.out; have z1 := HZ1.out; omega))
  replace HRn := Lib.hid (rel_call HRn.out hal (by have z0 := HZ0.out; have z1 := HZ1.out; omega))
  have HZ2 := Lib.hid (allocSize (w1.alloc (.cells #[.slice A1 x.notes.length c1, .int .i64 x.safe] 45)) (.cells #[.int .i64 n.kind, .int .i64 n.tx, .slice A2 n.locks.length c2, .slice B2 n.writes.length d2] 26))
  clear hal
  have HXn := Lib.hid (Held.new (w1.alloc (.cells #[.slice A1 x.notes.length c1, .int .i64 x.safe] 45)) #[.int .i64 n.kind, .int .i64 n.tx, .slice A2 n.locks.length c2, .slice B2 n.writes.length d2] 26)
  replace HXn := Lib.hid (show Held ((w1.alloc (.cells #[.slice A1 x.notes.length c1, .int .i64 x.safe] 45)).alloc (.cells #[.int .i64 n.kind, .int .i64 n.tx, .slice A2 n.locks.length c2, .slice B2 n.writes.length d2] 26)) (w1.heap.size + 1) [.int .i64 n.kind, .int .i64 n.tx, .slice A2 n.locks.length c2, .slice B2 n.writes.length d2] from by have h := HXn.out; rwa [allocSize] at h)
  have ax_0 := HXx.out.of 0 _ rfl
  have ax_1 := HXx.out.of 1 _ rfl
  have an_0 := HXn.out.of 0 _ rfl
  have an_1 := HXn.out.of 1 _ rfl
  have an_2 := HXn.out.of 2 _ rfl
  have an_3 := HXn.out.of 3 _ rfl
  go_wp2_with fail
  clear ax_0 ax_1 an_0 an_1 an_2 an_3
  refine (implDiskAdd_any _ _ _ x n b (diskSh.rmore HRx.out (by have z0 := HZ0.out; have z1 := HZ1.out; have z2 := HZ2.out; omega)) (noteSh.rmore HRn.out (by have z0 := HZ0.out; have z1 := HZ1.out; have z2 := HZ2.out; omega))).mono ?_
  rintro e w3 ⟨cs3, rfl, ho, hb⟩
  obtain ⟨y, hy⟩ : ∃ y, addD x n b = y := ⟨_, rfl⟩
  obtain ⟨ob, hob⟩ : ∃ o, addOk x n = o := ⟨_, rfl⟩
  rw [hy] at ho
  rw [hob]
  obtain ⟨u3, rfl, hu3⟩ := disk_own.1 ho
  obtain ⟨A3, c3, rfl, -, -⟩ := hu3.row.form
  clear hu3
  replace HB := Lib.hid (belowNext HB.out hb)
  replace HXx := Lib.hid (HXx.out.below hb HXx.out.1)
  replace HXn := Lib.hid (HXn.out.below hb HXn.out.1)
  replace HRx := Lib.hid (rel_call HRx.out hb (by have z0 := HZ0.out; have z1 := HZ1.out; have z2 := HZ2.out; omega))
  replace HRn := Lib.hid (rel_call HRn.out hb (by have z0 := HZ0.out; have z1 := HZ1.out; have z2 := HZ2.out; omega))
  have HZ4 := Lib.hid hb.size
  clear hb
  have HRy := Lib.hid (diskSh.orel ho)
  clear ho
  have hal := belowOne w3 (.cells #[.slice A3 y.notes.length c3, .int .i64 y.safe] 45)
  replace HB := Lib.hid (belowNext HB.out hal)
  replace HXx := Lib.hid (HXx.out.below hal HXx.out.1)
  replace HXn := Lib.hid (HXn.out.below hal HXn.out.1)
  replace HRx := Lib.hid (rel_call HRx.out hal (by have z0 := HZ0.out; have z1 := HZ1.out; have z2 := HZ2.out; have z4 := HZ4.out; omega))
  replace HRn := Lib.hid (rel_call HRn.out hal (by have z0 := HZ0.out; have z1 := HZ1.out; have z2 := HZ2.out; have z4 := HZ4.out; omega))
  replace HRy := Lib.hid (rel_call HRy.out hal (by have z0 := HZ0.out; have z1 := HZ1.out; have z2 := HZ2.out; have z4 := HZ4.out; omega))
  have HZ5 := Lib.hid (allocSize w3 (.cells #[.slice A3 y.notes.length c3, .int .i64 y.safe] 45))
  clear hal
  have HXy := Lib.hid (Held.new w3 #[.slice A3 y.notes.length c3, .int .i64 y.safe] 45)
  have ax_0 := HXx.out.of 0 _ rfl
  have ax_1 := HXx.out.of 1 _ rfl
  have an_0 := HXn.out.of 0 _ rfl
  have an_1 := HXn.out.of 1 _ rfl
  have an_2 := HXn.out.of 2 _ rfl
  have an_3 := HXn.out.of 3 _ rfl
  go_wp2_with fail
  clear ax_0 ax_1 an_0 an_1 an_2 an_3
  refine (specDiskAdd_any _ _ _ x n b (diskSh.rmore HRx.out (by have z0 := HZ0.out; have z1 := HZ1.out; have z2 := HZ2.out; have z4 := HZ4.out; have z5 := HZ5.out; omega)) (noteSh.rmore HRn.out (by have z0 := HZ0.out; have z1 := HZ1.out; have z2 := HZ2.out; have z4 := HZ4.out; have z5 := HZ5.out; omega))).mono ?_
  rintro e w6 ⟨cs4, rfl, ho, hb⟩
  rw [hy] at ho
  rw [hob]
  obtain ⟨u4, rfl, hu4⟩ := disk_own.1 ho
  obtain ⟨A4, c4, rfl, -, -⟩ := hu4.row.form
  clear hu4
  replace HB := Lib.hid (belowNext HB.out hb)
  replace HXx := Lib.hid (HXx.out.below hb HXx.out.1)
  replace HXn := Lib.hid (HXn.out.below hb HXn.out.1)
  replace HXy := Lib.hid (HXy.out.below hb HXy.out.1)
  replace HRx := Lib.hid (rel_call HRx.out hb (by have z0 := HZ0.out; have z1 := HZ1.out; have z2 := HZ2.out; have z4 := HZ4.out; have z5 := HZ5.out; omega))
  replace HRn := Lib.hid (rel_call HRn.out hb (by have z0 := HZ0.out; have z1 := HZ1.out; have z2 := HZ2.out; have z4 := HZ4.out; have z5 := HZ5.out; omega))
  replace HRy := Lib.hid (rel_call HRy.out hb (by have z0 := HZ0.out; have z1 := HZ1.out; have z2 := HZ2.out; have z4 := HZ4.out; have z5 := HZ5.out; omega))
  have HZ7 := Lib.hid hb.size
  clear hb
  have HRz := Lib.hid (diskSh.orel ho)
  clear ho
  have hal := belowOne w6 (.cells #[.slice A4 y.notes.length c4, .int .i64 y.safe] 45)
  replace HB := Lib.hid (belowNext HB.out hal)
  replace HXx := Lib.hid (HXx.out.below hal HXx.out.1)
  replace HXn := Lib.hid (HXn.out.below hal HXn.out.1)
  replace HXy := Lib.hid (HXy.out.below hal HXy.out.1)
  replace HRx := Lib.hid (rel_call HRx.out hal (by have z0 := HZ0.out; have z1 := HZ1.out; have z2 := HZ2.out; have z4 := HZ4.out; have z5 := HZ5.out; have z7 := HZ7.out; omega))
  replace HRn := Lib.hid (rel_call HRn.out hal (by have z0 := HZ0.out; have z1 := HZ1.out; have z2 := HZ2.out; have z4 := HZ4.out; have z5 := HZ5.out; have z7 := HZ7.out; omega))
  replace HRy := Lib.hid (rel_call HRy.out hal (by have z0 := HZ0.out; have z1 := HZ1.out; have z2 := HZ2.out; have z4 := HZ4.out; have z5 := HZ5.out; have z7 := HZ7.out; omega))
  replace HRz := Lib.hid (rel_call HRz.out hal (by have z0 := HZ0.out; have z1 := HZ1.out; have z2 := HZ2.out; have z4 := HZ4.out; have z5 := HZ5.out; have z7 := HZ7.out; omega))
  have HZ8 := Lib.hid (allocSize w6 (.cells #[.slice A4 y.notes.length c4, .int .i64 y.safe] 45))
  clear hal
  have HXz := Lib.hid (Held.new w6 #[.slice A4 y.notes.length c4, .int .i64 y.safe] 45)
  have hne : (ob != ob) = false := by simp
  have ay_0 := HXy.out.of 0 _ rfl
  have ay_1 := HXy.out.of 1 _ rfl
  have az_0 := HXz.out.of 0 _ rfl
  have az_1 := HXz.out.of 1 _ rfl
  go_wp2_with fail
  clear ay_0 ay_1 az_0 az_1
  refine (jaDisk_same _ _ _ y (diskSh.rmore HRy.out (by have z0 := HZ0.out; have z1 := HZ1.out; have z2 := HZ2.out; have z4 := HZ4.out; have z5 := HZ5.out; have z7 := HZ7.out; have z8 := HZ8.out; omega)) (diskSh.rmore HRz.out (by have z0 := HZ0.out; have z1 := HZ1.out; have z2 := HZ2.out; have z4 := HZ4.out; have z5 := HZ5.out; have z7 := HZ7.out; have z8 := HZ8.out; omega))).mono ?_
  rintro e w9 ⟨rfl, hb⟩
  replace HB := Lib.hid (belowNext HB.out hb)
  replace HXx := Lib.hid (HXx.out.below hb HXx.out.1)
  replace HXn := Lib.hid (HXn.out.below hb HXn.out.1)
  replace HXy := Lib.hid (HXy.out.below hb HXy.out.1)
  replace HXz := Lib.hid (HXz.out.below hb HXz.out.1)
  replace HRx := Lib.hid (rel_call HRx.out hb (by have z0 := HZ0.out; have z1 := HZ1.out; have z2 := HZ2.out; have z4 := HZ4.out; have z5 := HZ5.out; have z7 := HZ7.out; have z8 := HZ8.out; omega))
  replace HRn := Lib.hid (rel_call HRn.out hb (by have z0 := HZ0.out; have z1 := HZ1.out; have z2 := HZ2.out; have z4 := HZ4.out; have z5 := HZ5.out; have z7 := HZ7.out; have z8 := HZ8.out; omega))
  replace HRy := Lib.hid (rel_call HRy.out hb (by have z0 := HZ0.out; have z1 := HZ1.out; have z2 := HZ2.out; have z4 := HZ4.out; have z5 := HZ5.out; have z7 := HZ7.out; have z8 := HZ8.out; omega))
  replace HRz := Lib.hid (rel_call HRz.out hb (by have z0 := HZ0.out; have z1 := HZ1.out; have z2 := HZ2.out; have z4 := HZ4.out; have z5 := HZ5.out; have z7 := HZ7.out; have z8 := HZ8.out; omega))
  have HZ10 := Lib.hid hb.size
  clear hb
  clear HRz
  clear HXz
  have ax_0 := HXx.out.of 0 _ rfl
  have ax_1 := HXx.out.of 1 _ rfl
  go_wp2_with fail
  clear ax_0 ax_1
  refine (specDiskOk_any _ _ x (diskSh.rmore HRx.out (by have z0 := HZ0.out; have z1 := HZ1.out; have z2 := HZ2.out; have z4 := HZ4.out; have z5 := HZ5.out; have z7 := HZ7.out; have z8 := HZ8.out; have z10 := HZ10.out; omega))).mono ?_
  rintro e w11 ⟨rfl, hb⟩
  replace HB := Lib.hid (belowNext HB.out hb)
  replace HXx := Lib.hid (HXx.out.below hb HXx.out.1)
  replace HXn := Lib.hid (HXn.out.below hb HXn.out.1)
  replace HXy := Lib.hid (HXy.out.below hb HXy.out.1)
  replace HRx := Lib.hid (rel_call HRx.out hb (by have z0 := HZ0.out; have z1 := HZ1.out; have z2 := HZ2.out; have z4 := HZ4.out; have z5 := HZ5.out; have z7 := HZ7.out; have z8 := HZ8.out; have z10 := HZ10.out; omega))
  replace HRn := Lib.hid (rel_call HRn.out hb (by have z0 := HZ0.out; have z1 := HZ1.out; have z2 := HZ2.out; have z4 := HZ4.out; have z5 := HZ5.out; have z7 := HZ7.out; have z8 := HZ8.out; have z10 := HZ10.out; omega))
  replace HRy := Lib.hid (rel_call HRy.out hb (by have z0 := HZ0.out; have z1 := HZ1.out; have z2 := HZ2.out; have z4 := HZ4.out; have z5 := HZ5.out; have z7 := HZ7.out; have z8 := HZ8.out; have z10 := HZ10.out; omega))
  have HZ12 := Lib.hid hb.size
  clear hb
  cases hdx : diskB x with
  | false =>
    obtain ⟨e1, e2⟩ := addD_bad (x := x) (n := n) (b := b) (.inl hdx)
    rw [hy] at e1
    rw [hob] at e2
    subst e1 e2
    have hl0 : (((noDisk.notes.length : Nat) : Int) == 0) = true := by decide
    have ay_0 := HXy.out.of 0 _ rfl
    have ay_1 := HXy.out.of 1 _ rfl
    go_wp2_with fail
    clear ay_0 ay_1
    refine (jaOk_any _).mono ?_
    rintro e w13 ⟨rfl, hb⟩
    replace HB := Lib.hid (belowNext HB.out hb)
    replace HXx := Lib.hid (HXx.out.below hb HXx.out.1)
    replace HXn := Lib.hid (HXn.out.below hb HXn.out.1)
    replace HXy := Lib.hid (HXy.out.below hb HXy.out.1)
    replace HRx := Lib.hid (rel_call HRx.out hb (by have z0 := HZ0.out; have z1 := HZ1.out; have z2 := HZ2.out; have z4 := HZ4.out; have z5 := HZ5.out; have z7 := HZ7.out; have z8 := HZ8.out; have z10 := HZ10.out; have z12 := HZ12.out; omega))
    replace HRn := Lib.hid (rel_call HRn.out hb (by have z0 := HZ0.out; have z1 := HZ1.out; have z2 := HZ2.out; have z4 := HZ4.out; have z5 := HZ5.out; have z7 := HZ7.out; have z8 := HZ8.out; have z10 := HZ10.out; have z12 := HZ12.out; omega))
    replace HRy := Lib.hid (rel_call HRy.out hb (by have z0 := HZ0.out; have z1 := HZ1.out; have z2 := HZ2.out; have z4 := HZ4.out; have z5 := HZ5.out; have z7 := HZ7.out; have z8 := HZ8.out; have z10 := HZ10.out; have z12 := HZ12.out; omega))
    have HZ14 := Lib.hid hb.size
    clear hb
    go_wp2
    go_ret
    exact ⟨rfl, HB.out⟩
  | true =>
    have an_0 := HXn.out.of 0 _ rfl
    have an_1 := HXn.out.of 1 _ rfl
    have an_2 := HXn.out.of 2 _ rfl
    have an_3 := HXn.out.of 3 _ rfl
    go_wp2_with fail
    clear an_0 an_1 an_2 an_3
    refine (specNoteOk_any _ _ n (noteSh.rmore HRn.out (by have z0 := HZ0.out; have z1 := HZ1.out; have z2 := HZ2.out; have z4 := HZ4.out; have z5 := HZ5.out; have z7 := HZ7.out; have z8 := HZ8.out; have z10 := HZ10.out; have z12 := HZ12.out; omega))).mono ?_
    rintro e w15 ⟨rfl, hb⟩
    replace HB := Lib.hid (belowNext HB.out hb)
    replace HXx := Lib.hid (HXx.out.below hb HXx.out.1)
    replace HXn := Lib.hid (HXn.out.below hb HXn.out.1)
    replace HXy := Lib.hid (HXy.out.below hb HXy.out.1)
    replace HRx := Lib.hid (rel_call HRx.out hb (by have z0 := HZ0.out; have z1 := HZ1.out; have z2 := HZ2.out; have z4 := HZ4.out; have z5 := HZ5.out; have z7 := HZ7.out; have z8 := HZ8.out; have z10 := HZ10.out; have z12 := HZ12.out; omega))
    replace HRn := Lib.hid (rel_call HRn.out hb (by have z0 := HZ0.out; have z1 := HZ1.out; have z2 := HZ2.out; have z4 := HZ4.out; have z5 := HZ5.out; have z7 := HZ7.out; have z8 := HZ8.out; have z10 := HZ10.out; have z12 := HZ12.out; omega))
    replace HRy := Lib.hid (rel_call HRy.out hb (by have z0 := HZ0.out; have z1 := HZ1.out; have z2 := HZ2.out; have z4 := HZ4.out; have z5 := HZ5.out; have z7 := HZ7.out; have z8 := HZ8.out; have z10 := HZ10.out; have z12 := HZ12.out; omega))
    have HZ16 := Lib.hid hb.size
    clear hb
    cases hnx : noteB n with
    | false =>
      obtain ⟨e1, e2⟩ := addD_bad (x := x) (n := n) (b := b) (.inr hnx)
      rw [hy] at e1
      rw [hob] at e2
      subst e1 e2
      have hl0 : (((noDisk.notes.length : Nat) : Int) == 0) = true := by decide
      have ay_0 := HXy.out.of 0 _ rfl
      have ay_1 := HXy.out.of 1 _ rfl
      go_wp2_with fail
      clear ay_0 ay_1
      refine (jaOk_any _).mono ?_
      rintro e w17 ⟨rfl, hb⟩
      replace HB := Lib.hid (belowNext HB.out hb)
      replace HXx := Lib.hid (HXx.out.below hb HXx.out.1)
      replace HXn := Lib.hid (HXn.out.below hb HXn.out.1)
      replace HXy := Lib.hid (HXy.out.below hb HXy.out.1)
      replace HRx := Lib.hid (rel_call HRx.out hb (by have z0 := HZ0.out; have z1 := HZ1.out; have z2 := HZ2.out; have z4 := HZ4.out; have z5 := HZ5.out; have z7 := HZ7.out; have z8 := HZ8.out; have z10 := HZ10.out; have z12 := HZ12.out; have z16 := HZ16.out; omega))
      replace HRn := Lib.hid (rel_call HRn.out hb (by have z0 := HZ0.out; have z1 := HZ1.out; have z2 := HZ2.out; have z4 := HZ4.out; have z5 := HZ5.out; have z7 := HZ7.out; have z8 := HZ8.out; have z10 := HZ10.out; have z12 := HZ12.out; have z16 := HZ16.out; omega))
      replace HRy := Lib.hid (rel_call HRy.out hb (by have z0 := HZ0.out; have z1 := HZ1.out; have z2 := HZ2.out; have z4 := HZ4.out; have z5 := HZ5.out; have z7 := HZ7.out; have z8 := HZ8.out; have z10 := HZ10.out; have z12 := HZ12.out; have z16 := HZ16.out; omega))
      have HZ18 := Lib.hid hb.size
      clear hb
      go_wp2
      go_ret
      exact ⟨rfl, HB.out⟩
    | true =>
      have hx120 := (diskB_parts hdx).1
      by_cases hfull : x.notes.length = 120
      · have hf1 : ((x.notes.length : Int) == 120) = true := by simp [hfull]
        obtain ⟨e1, e2⟩ := addD_full (b := b) hdx hnx hfull
        clear hfull
        rw [hy] at e1
        rw [hob] at e2
        subst e1 e2
        have ax_0 := HXx.out.of 0 _ rfl
        have ax_1 := HXx.out.of 1 _ rfl
        have ay_0 := HXy.out.of 0 _ rfl
        have ay_1 := HXy.out.of 1 _ rfl
        go_wp2_with fail
        clear ax_0 ax_1 ay_0 ay_1
        refine (jaDisk_same _ _ _ _ (diskSh.rmore HRy.out (by have z0 := HZ0.out; have z1 := HZ1.out; have z2 := HZ2.out; have z4 := HZ4.out; have z5 := HZ5.out; have z7 := HZ7.out; have z8 := HZ8.out; have z10 := HZ10.out; have z12 := HZ12.out; have z16 := HZ16.out; omega)) (diskSh.rmore HRx.out (by have z0 := HZ0.out; have z1 := HZ1.out; have z2 := HZ2.out; have z4 := HZ4.out; have z5 := HZ5.out; have z7 := HZ7.out; have z8 := HZ8.out; have z10 := HZ10.out; have z12 := HZ12.out; have z16 := HZ16.out; omega))).mono ?_
        rintro e w19 ⟨rfl, hb⟩
        replace HB := Lib.hid (belowNext HB.out hb)
        replace HXx := Lib.hid (HXx.out.below hb HXx.out.1)
        replace HXn := Lib.hid (HXn.out.below hb HXn.out.1)
        replace HXy := Lib.hid (HXy.out.below hb HXy.out.1)
        replace HRx := Lib.hid (rel_call HRx.out hb (by have z0 := HZ0.out; have z1 := HZ1.out; have z2 := HZ2.out; have z4 := HZ4.out; have z5 := HZ5.out; have z7 := HZ7.out; have z8 := HZ8.out; have z10 := HZ10.out; have z12 := HZ12.out; have z16 := HZ16.out; omega))
        replace HRn := Lib.hid (rel_call HRn.out hb (by have z0 := HZ0.out; have z1 := HZ1.out; have z2 := HZ2.out; have z4 := HZ4.out; have z5 := HZ5.out; have z7 := HZ7.out; have z8 := HZ8.out; have z10 := HZ10.out; have z12 := HZ12.out; have z16 := HZ16.out; omega))
        replace HRy := Lib.hid (rel_call HRy.out hb (by have z0 := HZ0.out; have z1 := HZ1.out; have z2 := HZ2.out; have z4 := HZ4.out; have z5 := HZ5.out; have z7 := HZ7.out; have z8 := HZ8.out; have z10 := HZ10.out; have z12 := HZ12.out; have z16 := HZ16.out; omega))
        have HZ20 := Lib.hid hb.size
        clear hb
        go_wp2
        go_ret
        exact ⟨rfl, HB.out⟩
      · have hf1 : ((x.notes.length : Int) == 120) = false := by simp; omega
        obtain ⟨e1, e2⟩ := addD_yes (b := b) hdx hnx (by omega)
        rw [hy] at e1
        rw [hob] at e2
        obtain ⟨kk, hkk⟩ : ∃ k : Int, (if b = true then ((x.notes.length : Int) + 1) else x.safe) = k := ⟨_, rfl⟩
        rw [hkk] at e1
        subst e1 e2
        have hyok : diskB ⟨x.notes ++ [n], kk⟩ = true := hy ▸ diskB_add
        have hwm : IntKind.i64.wrap ((x.notes.length : Int) + 1) = (x.notes.length : Int) + 1 := IntWalk.i64_in _ (by omega)
        clear hy hob
        have ax_0 := HXx.out.of 0 _ rfl
        have ax_1 := HXx.out.of 1 _ rfl
        go_upto_if 75 with fail
        go_cut [10] from 76 to 79 (fun u wd => u = .int .i64 kk ∧ Below w15.heap.size w15 wd)
        case first =>
          cases b
          · obtain rfl : x.safe = kk := by simpa using hkk
            go_wp2
            go_meet
            case rel => exact ⟨rfl, Below.refl _ _⟩
          · obtain rfl : (x.notes.length : Int) + 1 = kk := by simpa using hkk
            go_wp2
            go_meet
            case rel => exact ⟨rfl, Below.refl _ _⟩
        case rest =>
          obtain ⟨rfl, hb⟩ := hcut
          clear ax_0 ax_1
          replace HB := Lib.hid (belowNext HB.out hb)
          replace HXx := Lib.hid (HXx.out.below hb HXx.out.1)
          replace HXn := Lib.hid (HXn.out.below hb HXn.out.1)
          replace HXy := Lib.hid (HXy.out.below hb HXy.out.1)
          replace HRx := Lib.hid (rel_call HRx.out hb (by have z0 := HZ0.out; have z1 := HZ1.out; have z2 := HZ2.out; have z4 := HZ4.out; have z5 := HZ5.out; have z7 := HZ7.out; have z8 := HZ8.out; have z10 := HZ10.out; have z12 := HZ12.out; have z16 := HZ16.out; omega))
          replace HRn := Lib.hid (rel_call HRn.out hb (by have z0 := HZ0.out; have z1 := HZ1.out; have z2 := HZ2.out; have z4 := HZ4.out; have z5 := HZ5.out; have z7 := HZ7.out; have z8 := HZ8.out; have z10 := HZ10.out; have z12 := HZ12.out; have z16 := HZ16.out; omega))
          replace HRy := Lib.hid (rel_call HRy.out hb (by have z0 := HZ0.out; have z1 := HZ1.out; have z2 := HZ2.out; have z4 := HZ4.out; have z5 := HZ5.out; have z7 := HZ7.out; have z8 := HZ8.out; have z10 := HZ10.out; have z12 := HZ12.out; have z16 := HZ16.out; omega))
          have HZ21 := Lib.hid hb.size
          clear hb
          clear hwm
          replace HXy := Lib.hid (show Held wc w3.heap.size [.slice A3 (x.notes.length + 1) c3, .int .i64 kk] from by have h := HXy.out; simpa only [List.length_append, List.length_singleton] using h)
          replace HRy := Lib.hid (show diskSh.rel wc w3.heap.size [.slice A3 (x.notes.length + 1) c3, .int .i64 kk] ⟨x.notes ++ [n], kk⟩ from by have h := HRy.out; simpa only [List.length_append, List.length_singleton] using h)
          have HYr := Lib.hid (show noteSh.Row wc wc.heap.size (.slice A3 (x.notes.length + 1) c3) (x.notes ++ [n]) from by obtain ⟨u, hu, hr⟩ := disk_rel.1 HRy.out; injection hu with hu _; subst hu; exact hr.more (by have z0 := HZ0.out; have z1 := HZ1.out; have z2 := HZ2.out; have z4 := HZ4.out; have z5 := HZ5.out; have z7 := HZ7.out; have z8 := HZ8.out; have z10 := HZ10.out; have z12 := HZ12.out; have z16 := HZ16.out; have z21 := HZ21.out; omega))
          have HXr := Lib.hid (show noteSh.Row wc wc.heap.size (.slice A1 x.notes.length c1) x.notes from by obtain ⟨u, hu, hr⟩ := disk_rel.1 HRx.out; injection hu with hu _; subst hu; exact hr.more (by have z0 := HZ0.out; have z1 := HZ1.out; have z2 := HZ2.out; have z4 := HZ4.out; have z5 := HZ5.out; have z7 := HZ7.out; have z8 := HZ8.out; have z10 := HZ10.out; have z12 := HZ12.out; have z16 := HZ16.out; have z21 := HZ21.out; omega))
          have HYd := Lib.hid (show diskSh.rel wc wc.heap.size [.slice A3 (x.notes.length + 1) c3, .int .i64 kk] ⟨x.notes ++ [n], kk⟩ from diskSh.rmore HRy.out (by have z0 := HZ0.out; have z1 := HZ1.out; have z2 := HZ2.out; have z4 := HZ4.out; have z5 := HZ5.out; have z7 := HZ7.out; have z8 := HZ8.out; have z10 := HZ10.out; have z12 := HZ12.out; have z16 := HZ16.out; have z21 := HZ21.out; omega))
          have HNr := Lib.hid (show noteSh.rel wc wc.heap.size [.int .i64 n.kind, .int .i64 n.tx, .slice A2 n.locks.length c2, .slice B2 n.writes.length d2] n from noteSh.rmore HRn.out (by have z0 := HZ0.out; have z1 := HZ1.out; have z2 := HZ2.out; have z4 := HZ4.out; have z5 := HZ5.out; have z7 := HZ7.out; have z8 := HZ8.out; have z10 := HZ10.out; have z12 := HZ12.out; have z16 := HZ16.out; have z21 := HZ21.out; omega))
          have HL := Lib.hid (Below.refl wc.heap.size wc)
          have hk1 : (kk == kk) = true := by simp
          clear HRx HRy HRn hkk
          replace HL := Lib.hid (show Below wc.heap.size wc wc.drew from HL.out.drew)
          go_wp2
          have k0_ : wc.drew.cell? ⟨w1.heap.size, 0, none⟩ = some (.slice A1 x.notes.length c1) ∧ wc.drew.cell? ⟨w1.heap.size, 1, none⟩ = some (.int .i64 x.safe) ∧ wc.drew.cell? ⟨w1.heap.size + 1, 0, none⟩ = some (.int .i64 n.kind) ∧ wc.drew.cell? ⟨w1.heap.size + 1, 1, none⟩ = some (.int .i64 n.tx) ∧ wc.drew.cell? ⟨w1.heap.size + 1, 2, none⟩ = some (.slice A2 n.locks.length c2) ∧ wc.drew.cell? ⟨w1.heap.size + 1, 3, none⟩ = some (.slice B2 n.writes.length d2) ∧ wc.drew.cell? ⟨w3.heap.size, 0, none⟩ = some (.slice A3 (x.notes.length + 1) c3) ∧ wc.drew.cell? ⟨w3.heap.size, 1, none⟩ = some (.int .i64 kk) := (And.intro ((HXx.out.below HL.out HXx.out.1).of 0 _ rfl) (And.intro ((HXx.out.below HL.out HXx.out.1).of 1 _ rfl) (And.intro ((HXn.out.below HL.out HXn.out.1).of 0 _ rfl) (And.intro ((HXn.out.below HL.out HXn.out.1).of 1 _ rfl) (And.intro ((HXn.out.below HL.out HXn.out.1).of 2 _ rfl) (And.intro ((HXn.out.below HL.out HXn.out.1).of 3 _ rfl) (And.intro ((HXy.out.below HL.out HXy.out.1).of 0 _ rfl) ((HXy.out.below HL.out HXy.out.1).of 1 _ rfl))))))))
          refine wp_region_held_drew (S := (fun w' => w'.cell? ⟨w1.heap.size, 0, none⟩ = some (.slice A1 x.notes.length c1) ∧ w'.cell? ⟨w1.heap.size, 1, none⟩ = some (.int .i64 x.safe) ∧ w'.cell? ⟨w1.heap.size + 1, 0, none⟩ = some (.int .i64 n.kind) ∧ w'.cell? ⟨w1.heap.size + 1, 1, none⟩ = some (.int .i64 n.tx) ∧ w'.cell? ⟨w1.heap.size + 1, 2, none⟩ = some (.slice A2 n.locks.length c2) ∧ w'.cell? ⟨w1.heap.size + 1, 3, none⟩ = some (.slice B2 n.writes.length d2) ∧ w'.cell? ⟨w3.heap.size, 0, none⟩ = some (.slice A3 (x.notes.length + 1) c3) ∧ w'.cell? ⟨w3.heap.size, 1, none⟩ = some (.int .i64 kk))) (by kernel_rfl) ?hSr (fun hHeldr => ?str)
          case hSr => (first | (dsimp only; (exact k0_)) | (exact k0_))
          refine take_first 0 80 (v := ?vr_1) rfl rfl (by kernel_rfl) (by kernel_rfl) (by kernel_rfl) (fun _ _ _ h => h) (by rfl) ?yr_1 (by assumption) ?rr_1
          case yr_1 => (intro w hSw; (try dsimp only at hSw); go_simp; (try with_reducible rfl))
          simp only [Act.put, List.setIfInBounds_toArray, List.set_cons_zero, List.set_cons_succ]
          refine take_first 1 81 (v := ?vr_2) rfl rfl (by kernel_rfl) (by kernel_rfl) (by kernel_rfl) (fun _ _ _ h => h) (by rfl) ?yr_2 (by assumption) ?rr_2
          case yr_2 => (intro w hSw; (try dsimp only at hSw); go_simp; (try with_reducible rfl))
          simp only [Act.put, List.setIfInBounds_toArray, List.set_cons_zero, List.set_cons_succ]
          refine take_first 2 82 (v := ?vr_3) rfl rfl (by kernel_rfl) (by kernel_rfl) (by kernel_rfl) (fun _ _ _ h => h) (by rfl) ?yr_3 (by assumption) ?rr_3
          case yr_3 => (intro w hSw; (try dsimp only at hSw); go_simp; (try with_reducible rfl))
          simp only [Act.put, List.setIfInBounds_toArray, List.set_cons_zero, List.set_cons_succ]
          refine wpAnyH_ready (rs := [3]) (by kernel_rfl) (by simp) ?_
          refine AllReadyH.cons (o := _) rfl (fun Kr_4 hKr_4 => ?cr_4) ?mr_4
          case mr_4 => exact AllReadyH.nil
          go_simp
          refine (implDiskOk_any _ _ ⟨x.notes ++ [n], kk⟩ (diskSh.rmore (diskSh.rbelow HYd.out HL.out) HL.out.size)).mono ?_
          rintro e v22 ⟨rfl, hb⟩
          rw [hyok]
          replace HL := Lib.hid (HL.out.trans (hb.mono HL.out.size))
          clear hb
          have k22_ : v22.cell? ⟨w1.heap.size, 0, none⟩ = some (.slice A1 x.notes.length c1) ∧ v22.cell? ⟨w1.heap.size, 1, none⟩ = some (.int .i64 x.safe) ∧ v22.cell? ⟨w1.heap.size + 1, 0, none⟩ = some (.int .i64 n.kind) ∧ v22.cell? ⟨w1.heap.size + 1, 1, none⟩ = some (.int .i64 n.tx) ∧ v22.cell? ⟨w1.heap.size + 1, 2, none⟩ = some (.slice A2 n.locks.length c2) ∧ v22.cell? ⟨w1.heap.size + 1, 3, none⟩ = some (.slice B2 n.writes.length d2) ∧ v22.cell? ⟨w3.heap.size, 0, none⟩ = some (.slice A3 (x.notes.length + 1) c3) ∧ v22.cell? ⟨w3.heap.size, 1, none⟩ = some (.int .i64 kk) := (And.intro ((HXx.out.below HL.out HXx.out.1).of 0 _ rfl) (And.intro ((HXx.out.below HL.out HXx.out.1).of 1 _ rfl) (And.intro ((HXn.out.below HL.out HXn.out.1).of 0 _ rfl) (And.intro ((HXn.out.below HL.out HXn.out.1).of 1 _ rfl) (And.intro ((HXn.out.below HL.out HXn.out.1).of 2 _ rfl) (And.intro ((HXn.out.below HL.out HXn.out.1).of 3 _ rfl) (And.intro ((HXy.out.below HL.out HXy.out.1).of 0 _ rfl) ((HXy.out.below HL.out HXy.out.1).of 1 _ rfl))))))))
          go_wp2_with fail
          refine hKr_4.out _ _ ?kr_4 (fun hHeldr_4 => ?dr_4)
          case kr_4 => (first | (dsimp only; (exact k22_)) | (exact k22_))
          clear hKr_4 Kr_4
          refine take_first 4 84 (v := ?vr_5) rfl rfl (by kernel_rfl) (by kernel_rfl) (by kernel_rfl) (fun _ _ _ h => h) (by rfl) ?yr_5 (by assumption) ?rr_5
          case yr_5 => (intro w hSw; (try dsimp only at hSw); go_simp; (try with_reducible rfl))
          simp only [Act.put, List.setIfInBounds_toArray, List.set_cons_zero, List.set_cons_succ]
          refine take_first 5 85 (v := ?vr_6) rfl rfl (by kernel_rfl) (by kernel_rfl) (by kernel_rfl) (fun _ _ _ h => h) (by rfl) ?yr_6 (by assumption) ?rr_6
          case yr_6 => (intro w hSw; (try dsimp only at hSw); go_simp; (try with_reducible rfl))
          simp only [Act.put, List.setIfInBounds_toArray, List.set_cons_zero, List.set_cons_succ]
          refine take_first 6 86 (v := ?vr_7) rfl rfl (by kernel_rfl) (by kernel_rfl) (by kernel_rfl) (fun _ _ _ h => h) (by rfl) ?yr_7 (by assumption) ?rr_7
          case yr_7 => (intro w hSw; (try dsimp only at hSw); go_simp; (try with_reducible rfl))
          simp only [Act.put, List.setIfInBounds_toArray, List.set_cons_zero, List.set_cons_succ]
          refine take_first 7 87 (v := ?vr_8) rfl rfl (by kernel_rfl) (by kernel_rfl) (by kernel_rfl) (fun _ _ _ h => h) (by rfl) ?yr_8 (by assumption) ?rr_8
          case yr_8 => (intro w hSw; (try dsimp only at hSw); go_simp; (try with_reducible rfl))
          simp only [Act.put, List.setIfInBounds_toArray, List.set_cons_zero, List.set_cons_succ]
          refine take_first 9 89 (v := ?vr_9) rfl rfl (by kernel_rfl) (by kernel_rfl) (by kernel_rfl) (fun _ _ _ h => h) (by rfl) ?yr_9 (by assumption) ?rr_9
          case yr_9 => (intro w hSw; (try dsimp only at hSw); go_simp; (try with_reducible rfl))
          simp only [Act.put, List.setIfInBounds_toArray, List.set_cons_zero, List.set_cons_succ]
          refine take_first 10 90 (v := ?vr_10) rfl rfl (by kernel_rfl) (by kernel_rfl) (by kernel_rfl) (fun _ _ _ h => h) (by rfl) ?yr_10 (by assumption) ?rr_10
          case yr_10 => (intro w hSw; (try dsimp only at hSw); go_simp; (try with_reducible rfl))
          simp only [Act.put, List.setIfInBounds_toArray, List.set_cons_zero, List.set_cons_succ]
          refine take_first 12 92 (v := ?vr_11) rfl rfl (by kernel_rfl) (by kernel_rfl) (by kernel_rfl) (fun _ _ _ h => h) (by rfl) ?yr_11 (by assumption) ?rr_11
          case yr_11 => (intro w hSw; (try dsimp only at hSw); go_simp; (try with_reducible rfl))
          simp only [Act.put, List.setIfInBounds_toArray, List.set_cons_zero, List.set_cons_succ]
          refine wpAnyH_ready (rs := [8, 13]) (by kernel_rfl) (by simp) ?_
          refine AllReadyH.cons (o := _) rfl (fun Kr_13 hKr_13 => ?cr_13) ?mr_13
          case cr_13 =>
            go_simp
            have HE := Lib.hid (Sh.Shal.empty (A := noteSh) (e := 26) (w := v22.alloc (.cells #[] 26)) (B := wc.heap.size) (g := v22.heap.size) (Go.Deep.blk_alloc_new v22 _) HL.out.size)
            replace HL := Lib.hid (show Below wc.heap.size wc (v22.alloc (.cells #[] 26)) from HL.out.alloc HL.out.size _)
            have k23_ : (v22.alloc (.cells #[] 26)).cell? ⟨w1.heap.size, 0, none⟩ = some (.slice A1 x.notes.length c1) ∧ (v22.alloc (.cells #[] 26)).cell? ⟨w1.heap.size, 1, none⟩ = some (.int .i64 x.safe) ∧ (v22.alloc (.cells #[] 26)).cell? ⟨w1.heap.size + 1, 0, none⟩ = some (.int .i64 n.kind) ∧ (v22.alloc (.cells #[] 26)).cell? ⟨w1.heap.size + 1, 1, none⟩ = some (.int .i64 n.tx) ∧ (v22.alloc (.cells #[] 26)).cell? ⟨w1.heap.size + 1, 2, none⟩ = some (.slice A2 n.locks.length c2) ∧ (v22.alloc (.cells #[] 26)).cell? ⟨w1.heap.size + 1, 3, none⟩ = some (.slice B2 n.writes.length d2) ∧ (v22.alloc (.cells #[] 26)).cell? ⟨w3.heap.size, 0, none⟩ = some (.slice A3 (x.notes.length + 1) c3) ∧ (v22.alloc (.cells #[] 26)).cell? ⟨w3.heap.size, 1, none⟩ = some (.int .i64 kk) := (And.intro ((HXx.out.below HL.out HXx.out.1).of 0 _ rfl) (And.intro ((HXx.out.below HL.out HXx.out.1).of 1 _ rfl) (And.intro ((HXn.out.below HL.out HXn.out.1).of 0 _ rfl) (And.intro ((HXn.out.below HL.out HXn.out.1).of 1 _ rfl) (And.intro ((HXn.out.below HL.out HXn.out.1).of 2 _ rfl) (And.intro ((HXn.out.below HL.out HXn.out.1).of 3 _ rfl) (And.intro ((HXy.out.below HL.out HXy.out.1).of 0 _ rfl) ((HXy.out.below HL.out HXy.out.1).of 1 _ rfl))))))))
            go_wp2_with fail
            refine hKr_13.out _ _ ?kr_13 (fun hHeldr_13 => ?dr_13)
            case kr_13 => (first | (dsimp only; (exact k23_)) | (exact k23_))
            clear hKr_13 Kr_13
            refine wpAnyH_ready (rs := [11, 13]) (by kernel_rfl) (by simp) ?_
            refine AllReadyH.cons (o := _) rfl (fun Kr_15 hKr_15 => ?cr_15) ?mr_15
            case cr_15 =>
              rw [if_pos (by rfl)]
              refine shalS_any noteSh 43 26 _ 64 Try.underlying43 infoNoteA rfl (by decide) (by omega) (.tmp 88) (.tmp 90) rfl wc.heap.size _ [] x.notes rfl HE.out HL.out.size _ _ _ rfl rfl (HXr.out.below HL.out) (by simp; omega) ?_
              intro va v24 hsa hba hga
              have HA5 := Lib.hid (show noteSh.Shal 26 v24 wc.heap.size va x.notes from hsa)
              replace HL := Lib.hid (HL.out.trans hba)
              clear hsa hba hga HE
              have k24_ : v24.cell? ⟨w1.heap.size, 0, none⟩ = some (.slice A1 x.notes.length c1) ∧ v24.cell? ⟨w1.heap.size, 1, none⟩ = some (.int .i64 x.safe) ∧ v24.cell? ⟨w1.heap.size + 1, 0, none⟩ = some (.int .i64 n.kind) ∧ v24.cell? ⟨w1.heap.size + 1, 1, none⟩ = some (.int .i64 n.tx) ∧ v24.cell? ⟨w1.heap.size + 1, 2, none⟩ = some (.slice A2 n.locks.length c2) ∧ v24.cell? ⟨w1.heap.size + 1, 3, none⟩ = some (.slice B2 n.writes.length d2) ∧ v24.cell? ⟨w3.heap.size, 0, none⟩ = some (.slice A3 (x.notes.length + 1) c3) ∧ v24.cell? ⟨w3.heap.size, 1, none⟩ = some (.int .i64 kk) := (And.intro ((HXx.out.below HL.out HXx.out.1).of 0 _ rfl) (And.intro ((HXx.out.below HL.out HXx.out.1).of 1 _ rfl) (And.intro ((HXn.out.below HL.out HXn.out.1).of 0 _ rfl) (And.intro ((HXn.out.below HL.out HXn.out.1).of 1 _ rfl) (And.intro ((HXn.out.below HL.out HXn.out.1).of 2 _ rfl) (And.intro ((HXn.out.below HL.out HXn.out.1).of 3 _ rfl) (And.intro ((HXy.out.below HL.out HXy.out.1).of 0 _ rfl) ((HXy.out.below HL.out HXy.out.1).of 1 _ rfl))))))))
              simp only [Act.put, List.setIfInBounds_toArray]
              refine hKr_15.out _ _ ?kr_15 (fun hHeldr_15 => ?dr_15)
              case kr_15 => (first | (dsimp only; (exact k24_)) | (exact k24_))
              clear hKr_15 Kr_15
              refine wpAnyH_ready (rs := [13]) (by kernel_rfl) (by simp) ?_
              refine AllReadyH.cons (o := _) rfl (fun Kr_16 hKr_16 => ?cr_16) ?mr_16
              case mr_16 => exact AllReadyH.nil
              go_simp
              have HS := Lib.hid (Held.new v24 #[.int .i64 n.kind, .int .i64 n.tx, .slice A2 n.locks.length c2, .slice B2 n.writes.length d2] 26)
              replace HA5 := Lib.hid (HA5.out.alloc HL.out.size (.cells #[.int .i64 n.kind, .int .i64 n.tx, .slice A2 n.locks.length c2, .slice B2 n.writes.length d2] 26))
              replace HL := Lib.hid (show Below wc.heap.size wc (v24.alloc (.cells #[.int .i64 n.kind, .int .i64 n.tx, .slice A2 n.locks.length c2, .slice B2 n.writes.length d2] 26)) from HL.out.alloc HL.out.size _)
              have k25_ : (v24.alloc (.cells #[.int .i64 n.kind, .int .i64 n.tx, .slice A2 n.locks.length c2, .slice B2 n.writes.length d2] 26)).cell? ⟨w1.heap.size, 0, none⟩ = some (.slice A1 x.notes.length c1) ∧ (v24.alloc (.cells #[.int .i64 n.kind, .int .i64 n.tx, .slice A2 n.locks.length c2, .slice B2 n.writes.length d2] 26)).cell? ⟨w1.heap.size, 1, none⟩ = some (.int .i64 x.safe) ∧ (v24.alloc (.cells #[.int .i64 n.kind, .int .i64 n.tx, .slice A2 n.locks.length c2, .slice B2 n.writes.length d2] 26)).cell? ⟨w1.heap.size + 1, 0, none⟩ = some (.int .i64 n.kind) ∧ (v24.alloc (.cells #[.int .i64 n.kind, .int .i64 n.tx, .slice A2 n.locks.length c2, .slice B2 n.writes.length d2] 26)).cell? ⟨w1.heap.size + 1, 1, none⟩ = some (.int .i64 n.tx) ∧ (v24.alloc (.cells #[.int .i64 n.kind, .int .i64 n.tx, .slice A2 n.locks.length c2, .slice B2 n.writes.length d2] 26)).cell? ⟨w1.heap.size + 1, 2, none⟩ = some (.slice A2 n.locks.length c2) ∧ (v24.alloc (.cells #[.int .i64 n.kind, .int .i64 n.tx, .slice A2 n.locks.length c2, .slice B2 n.writes.length d2] 26)).cell? ⟨w1.heap.size + 1, 3, none⟩ = some (.slice B2 n.writes.length d2) ∧ (v24.alloc (.cells #[.int .i64 n.kind, .int .i64 n.tx, .slice A2 n.locks.length c2, .slice B2 n.writes.length d2] 26)).cell? ⟨w3.heap.size, 0, none⟩ = some (.slice A3 (x.notes.length + 1) c3) ∧ (v24.alloc (.cells #[.int .i64 n.kind, .int .i64 n.tx, .slice A2 n.locks.length c2, .slice B2 n.writes.length d2] 26)).cell? ⟨w3.heap.size, 1, none⟩ = some (.int .i64 kk) := (And.intro ((HXx.out.below HL.out HXx.out.1).of 0 _ rfl) (And.intro ((HXx.out.below HL.out HXx.out.1).of 1 _ rfl) (And.intro ((HXn.out.below HL.out HXn.out.1).of 0 _ rfl) (And.intro ((HXn.out.below HL.out HXn.out.1).of 1 _ rfl) (And.intro ((HXn.out.below HL.out HXn.out.1).of 2 _ rfl) (And.intro ((HXn.out.below HL.out HXn.out.1).of 3 _ rfl) (And.intro ((HXy.out.below HL.out HXy.out.1).of 0 _ rfl) ((HXy.out.below HL.out HXy.out.1).of 1 _ rfl))))))))
              go_wp2_with fail
              refine hKr_16.out _ _ ?kr_16 (fun hHeldr_16 => ?dr_16)
              case kr_16 => (first | (dsimp only; (exact k25_)) | (exact k25_))
              clear hKr_16 Kr_16
              refine wpAnyH_ready (rs := [14]) (by kernel_rfl) (by simp) ?_
              refine AllReadyH.cons (o := _) rfl (fun Kr_17 hKr_17 => ?cr_17) ?mr_17
              case mr_17 => exact AllReadyH.nil
              rw [if_pos (by rfl)]
              refine shal1_any noteSh 43 26 _ 64 Try.underlying43 infoNoteA rfl (by decide) (by omega) (.tmp 91) (.tmp 93) rfl wc.heap.size _ x.notes rfl HA5.out HL.out.size _ 1 rfl n [.int .i64 n.kind, .int .i64 n.tx, .slice A2 n.locks.length c2, .slice B2 n.writes.length d2] (noteSh.rbelow HNr.out HL.out) HS.out.2.2 (by omega) ?_
              intro vb v26 hsb hbb
              replace HL := Lib.hid (HL.out.trans hbb)
              have HA7 := Lib.hid (hsb.row HL.out.size)
              clear hsb hbb HA5 HS
              have k26_ : v26.cell? ⟨w1.heap.size, 0, none⟩ = some (.slice A1 x.notes.length c1) ∧ v26.cell? ⟨w1.heap.size, 1, none⟩ = some (.int .i64 x.safe) ∧ v26.cell? ⟨w1.heap.size + 1, 0, none⟩ = some (.int .i64 n.kind) ∧ v26.cell? ⟨w1.heap.size + 1, 1, none⟩ = some (.int .i64 n.tx) ∧ v26.cell? ⟨w1.heap.size + 1, 2, none⟩ = some (.slice A2 n.locks.length c2) ∧ v26.cell? ⟨w1.heap.size + 1, 3, none⟩ = some (.slice B2 n.writes.length d2) ∧ v26.cell? ⟨w3.heap.size, 0, none⟩ = some (.slice A3 (x.notes.length + 1) c3) ∧ v26.cell? ⟨w3.heap.size, 1, none⟩ = some (.int .i64 kk) := (And.intro ((HXx.out.below HL.out HXx.out.1).of 0 _ rfl) (And.intro ((HXx.out.below HL.out HXx.out.1).of 1 _ rfl) (And.intro ((HXn.out.below HL.out HXn.out.1).of 0 _ rfl) (And.intro ((HXn.out.below HL.out HXn.out.1).of 1 _ rfl) (And.intro ((HXn.out.below HL.out HXn.out.1).of 2 _ rfl) (And.intro ((HXn.out.below HL.out HXn.out.1).of 3 _ rfl) (And.intro ((HXy.out.below HL.out HXy.out.1).of 0 _ rfl) ((HXy.out.below HL.out HXy.out.1).of 1 _ rfl))))))))
              simp only [Act.put, List.setIfInBounds_toArray]
              refine hKr_17.out _ _ ?kr_17 (fun hHeldr_17 => ?dr_17)
              case kr_17 => (first | (dsimp only; (exact k26_)) | (exact k26_))
              clear hKr_17 Kr_17
              refine wpAnyH_ready (rs := [15]) (by kernel_rfl) (by simp) ?_
              refine AllReadyH.cons (o := _) rfl (fun Kr_18 hKr_18 => ?cr_18) ?mr_18
              case mr_18 => exact AllReadyH.nil
              go_simp
              refine (jaNotes_same _ _ _ (x.notes ++ [n]) ((HYr.out.below HL.out).more HL.out.size) HA7.out).mono ?_
              rintro e v27 ⟨rfl, hb⟩
              replace HL := Lib.hid (HL.out.trans (hb.mono HL.out.size))
              clear hb HA7
              have k27_ : v27.cell? ⟨w1.heap.size, 0, none⟩ = some (.slice A1 x.notes.length c1) ∧ v27.cell? ⟨w1.heap.size, 1, none⟩ = some (.int .i64 x.safe) ∧ v27.cell? ⟨w1.heap.size + 1, 0, none⟩ = some (.int .i64 n.kind) ∧ v27.cell? ⟨w1.heap.size + 1, 1, none⟩ = some (.int .i64 n.tx) ∧ v27.cell? ⟨w1.heap.size + 1, 2, none⟩ = some (.slice A2 n.locks.length c2) ∧ v27.cell? ⟨w1.heap.size + 1, 3, none⟩ = some (.slice B2 n.writes.length d2) ∧ v27.cell? ⟨w3.heap.size, 0, none⟩ = some (.slice A3 (x.notes.length + 1) c3) ∧ v27.cell? ⟨w3.heap.size, 1, none⟩ = some (.int .i64 kk) := (And.intro ((HXx.out.below HL.out HXx.out.1).of 0 _ rfl) (And.intro ((HXx.out.below HL.out HXx.out.1).of 1 _ rfl) (And.intro ((HXn.out.below HL.out HXn.out.1).of 0 _ rfl) (And.intro ((HXn.out.below HL.out HXn.out.1).of 1 _ rfl) (And.intro ((HXn.out.below HL.out HXn.out.1).of 2 _ rfl) (And.intro ((HXn.out.below HL.out HXn.out.1).of 3 _ rfl) (And.intro ((HXy.out.below HL.out HXy.out.1).of 0 _ rfl) ((HXy.out.below HL.out HXy.out.1).of 1 _ rfl))))))))
              go_wp2_with fail
              refine hKr_18.out _ _ ?kr_18 (fun hHeldr_18 => ?dr_18)
              case kr_18 => (first | (dsimp only; (exact k27_)) | (exact k27_))
              clear hKr_18 Kr_18
              refine take_first 16 96 (v := ?vr_19) rfl rfl (by kernel_rfl) (by kernel_rfl) (by kernel_rfl) (fun _ _ _ h => h) (by rfl) ?yr_19 (by assumption) ?rr_19
              case yr_19 => (intro w hSw; (try dsimp only at hSw); go_simp; (try with_reducible rfl))
              simp only [Act.put, List.setIfInBounds_toArray, List.set_cons_zero, List.set_cons_succ]
              refine take_first 17 97 (v := ?vr_20) rfl rfl (by kernel_rfl) (by kernel_rfl) (by kernel_rfl) (fun _ _ _ h => h) (by rfl) ?yr_20 (by assumption) ?rr_20
              case yr_20 => (intro w hSw; (try dsimp only at hSw); go_simp; (try with_reducible rfl))
              simp only [Act.put, List.setIfInBounds_toArray, List.set_cons_zero, List.set_cons_succ]
              refine take_first 18 98 (v := ?vr_21) rfl rfl (by kernel_rfl) (by kernel_rfl) (by kernel_rfl) (fun _ _ _ h => h) (by rfl) ?yr_21 (by assumption) ?rr_21
              case yr_21 => (intro w hSw; (try dsimp only at hSw); go_simp; (try with_reducible rfl))
              simp only [Act.put, List.setIfInBounds_toArray, List.set_cons_zero, List.set_cons_succ]
              refine take_first 19 99 (v := ?vr_22) rfl rfl (by kernel_rfl) (by kernel_rfl) (by kernel_rfl) (fun _ _ _ h => h) (by rfl) ?yr_22 (by assumption) ?rr_22
              case yr_22 => (intro w hSw; (try dsimp only at hSw); go_simp; (try with_reducible rfl))
              simp only [Act.put, List.setIfInBounds_toArray, List.set_cons_zero, List.set_cons_succ]
              refine take_first 20 100 (v := ?vr_23) rfl rfl (by kernel_rfl) (by kernel_rfl) (by kernel_rfl) (fun _ _ _ h => h) (by rfl) ?yr_23 (by assumption) ?rr_23
              case yr_23 => (intro w hSw; (try dsimp only at hSw); go_simp; (try with_reducible rfl))
              simp only [Act.put, List.setIfInBounds_toArray, List.set_cons_zero, List.set_cons_succ]
              refine take_first 21 101 (v := ?vr_24) rfl rfl (by kernel_rfl) (by kernel_rfl) (by kernel_rfl) (fun _ _ _ h => h) (by rfl) ?yr_24 (by assumption) ?rr_24
              case yr_24 => (intro w hSw; (try dsimp only at hSw); go_simp; (try with_reducible rfl))
              simp only [Act.put, List.setIfInBounds_toArray, List.set_cons_zero, List.set_cons_succ]
              refine take_first 22 102 (v := ?vr_25) rfl rfl (by kernel_rfl) (by kernel_rfl) (by kernel_rfl) (fun _ _ _ h => h) (by rfl) ?yr_25 (by assumption) ?rr_25
              case yr_25 => (intro w hSw; (try dsimp only at hSw); go_simp; (try with_reducible rfl))
              simp only [Act.put, List.setIfInBounds_toArray, List.set_cons_zero, List.set_cons_succ]
              refine take_first 23 2 (v := ?vr_26) rfl rfl (by kernel_rfl) (by kernel_rfl) (by kernel_rfl) (fun _ _ _ h => h) (by rfl) ?yr_26 (by assumption) ?rr_26
              case yr_26 => (intro w hSw; (try dsimp only at hSw); go_simp; (try with_reducible rfl))
              simp only [Act.put, List.setIfInBounds_toArray, List.set_cons_zero, List.set_cons_succ]
              refine wpAnyH_done (by kernel_rfl) ?er_27 _
              go_wp2
              go_ret
              exact ⟨rfl, belowNext HB.out HL.out⟩
            refine AllReadyH.cons (o := _) rfl (fun Kr_28 hKr_28 => ?cr_28) ?mr_28
            case cr_28 =>
              go_simp
              have HS := Lib.hid (show Held ((v22.alloc (.cells #[] 26)).alloc (.cells #[.int .i64 n.kind, .int .i64 n.tx, .slice A2 n.locks.length c2, .slice B2 n.writes.length d2] 26)) (v22.heap.size + 1) [.int .i64 n.kind, .int .i64 n.tx, .slice A2 n.locks.length c2, .slice B2 n.writes.length d2] from by have h := Held.new (v22.alloc (.cells #[] 26)) #[.int .i64 n.kind, .int .i64 n.tx, .slice A2 n.locks.length c2, .slice B2 n.writes.length d2] 26; rwa [allocSize] at h)
              replace HE := Lib.hid (HE.out.alloc HL.out.size (.cells #[.int .i64 n.kind, .int .i64 n.tx, .slice A2 n.locks.length c2, .slice B2 n.writes.length d2] 26))
              replace HL := Lib.hid (show Below wc.heap.size wc ((v22.alloc (.cells #[] 26)).alloc (.cells #[.int .i64 n.kind, .int .i64 n.tx, .slice A2 n.locks.length c2, .slice B2 n.writes.length d2] 26)) from HL.out.alloc HL.out.size _)
              have k28_ : ((v22.alloc (.cells #[] 26)).alloc (.cells #[.int .i64 n.kind, .int .i64 n.tx, .slice A2 n.locks.length c2, .slice B2 n.writes.length d2] 26)).cell? ⟨w1.heap.size, 0, none⟩ = some (.slice A1 x.notes.length c1) ∧ ((v22.alloc (.cells #[] 26)).alloc (.cells #[.int .i64 n.kind, .int .i64 n.tx, .slice A2 n.locks.length c2, .slice B2 n.writes.length d2] 26)).cell? ⟨w1.heap.size, 1, none⟩ = some (.int .i64 x.safe) ∧ ((v22.alloc (.cells #[] 26)).alloc (.cells #[.int .i64 n.kind, .int .i64 n.tx, .slice A2 n.locks.length c2, .slice B2 n.writes.length d2] 26)).cell? ⟨w1.heap.size + 1, 0, none⟩ = some (.int .i64 n.kind) ∧ ((v22.alloc (.cells #[] 26)).alloc (.cells #[.int .i64 n.kind, .int .i64 n.tx, .slice A2 n.locks.length c2, .slice B2 n.writes.length d2] 26)).cell? ⟨w1.heap.size + 1, 1, none⟩ = some (.int .i64 n.tx) ∧ ((v22.alloc (.cells #[] 26)).alloc (.cells #[.int .i64 n.kind, .int .i64 n.tx, .slice A2 n.locks.length c2, .slice B2 n.writes.length d2] 26)).cell? ⟨w1.heap.size + 1, 2, none⟩ = some (.slice A2 n.locks.length c2) ∧ ((v22.alloc (.cells #[] 26)).alloc (.cells #[.int .i64 n.kind, .int .i64 n.tx, .slice A2 n.locks.length c2, .slice B2 n.writes.length d2] 26)).cell? ⟨w1.heap.size + 1, 3, none⟩ = some (.slice B2 n.writes.length d2) ∧ ((v22.alloc (.cells #[] 26)).alloc (.cells #[.int .i64 n.kind, .int .i64 n.tx, .slice A2 n.locks.length c2, .slice B2 n.writes.length d2] 26)).cell? ⟨w3.heap.size, 0, none⟩ = some (.slice A3 (x.notes.length + 1) c3) ∧ ((v22.alloc (.cells #[] 26)).alloc (.cells #[.int .i64 n.kind, .int .i64 n.tx, .slice A2 n.locks.length c2, .slice B2 n.writes.length d2] 26)).cell? ⟨w3.heap.size, 1, none⟩ = some (.int .i64 kk) := (And.intro ((HXx.out.below HL.out HXx.out.1).of 0 _ rfl) (And.intro ((HXx.out.below HL.out HXx.out.1).of 1 _ rfl) (And.intro ((HXn.out.below HL.out HXn.out.1).of 0 _ rfl) (And.intro ((HXn.out.below HL.out HXn.out.1).of 1 _ rfl) (And.intro ((HXn.out.below HL.out HXn.out.1).of 2 _ rfl) (And.intro ((HXn.out.below HL.out HXn.out.1).of 3 _ rfl) (And.intro ((HXy.out.below HL.out HXy.out.1).of 0 _ rfl) ((HXy.out.below HL.out HXy.out.1).of 1 _ rfl))))))))
              go_wp2_with fail
              refine hKr_28.out _ _ ?kr_28 (fun hHeldr_28 => ?dr_28)
              case kr_28 => (first | (dsimp only; (exact k28_)) | (exact k28_))
              clear hKr_28 Kr_28
              refine wpAnyH_ready (rs := [11]) (by kernel_rfl) (by simp) ?_
              refine AllReadyH.cons (o := _) rfl (fun Kr_29 hKr_29 => ?cr_29) ?mr_29
              case mr_29 => exact AllReadyH.nil
              rw [if_pos (by rfl)]
              refine shalS_any noteSh 43 26 _ 64 Try.underlying43 infoNoteA rfl (by decide) (by omega) (.tmp 88) (.tmp 90) rfl wc.heap.size _ [] x.notes rfl HE.out HL.out.size _ _ _ rfl rfl (HXr.out.below HL.out) (by simp; omega) ?_
              intro va v29 hsa hba hga
              have HA5 := Lib.hid (show noteSh.Shal 26 v29 wc.heap.size va x.notes from hsa)
              replace HS := Lib.hid (HS.out.outs (Outs.of_grown (S := fun k => k = v22.heap.size) hga (fun k e => (Option.some.inj e).symm)) (by simp))
              replace HL := Lib.hid (HL.out.trans hba)
              clear hsa hba hga HE
              have k29_ : v29.cell? ⟨w1.heap.size, 0, none⟩ = some (.slice A1 x.notes.length c1) ∧ v29.cell? ⟨w1.heap.size, 1, none⟩ = some (.int .i64 x.safe) ∧ v29.cell? ⟨w1.heap.size + 1, 0, none⟩ = some (.int .i64 n.kind) ∧ v29.cell? ⟨w1.heap.size + 1, 1, none⟩ = some (.int .i64 n.tx) ∧ v29.cell? ⟨w1.heap.size + 1, 2, none⟩ = some (.slice A2 n.locks.length c2) ∧ v29.cell? ⟨w1.heap.size + 1, 3, none⟩ = some (.slice B2 n.writes.length d2) ∧ v29.cell? ⟨w3.heap.size, 0, none⟩ = some (.slice A3 (x.notes.length + 1) c3) ∧ v29.cell? ⟨w3.heap.size, 1, none⟩ = some (.int .i64 kk) := (And.intro ((HXx.out.below HL.out HXx.out.1).of 0 _ rfl) (And.intro ((HXx.out.below HL.out HXx.out.1).of 1 _ rfl) (And.intro ((HXn.out.below HL.out HXn.out.1).of 0 _ rfl) (And.intro ((HXn.out.below HL.out HXn.out.1).of 1 _ rfl) (And.intro ((HXn.out.below HL.out HXn.out.1).of 2 _ rfl) (And.intro ((HXn.out.below HL.out HXn.out.1).of 3 _ rfl) (And.intro ((HXy.out.below HL.out HXy.out.1).of 0 _ rfl) ((HXy.out.below HL.out HXy.out.1).of 1 _ rfl))))))))
              simp only [Act.put, List.setIfInBounds_toArray]
              refine hKr_29.out _ _ ?kr_29 (fun hHeldr_29 => ?dr_29)
              case kr_29 => (first | (dsimp only; (exact k29_)) | (exact k29_))
              clear hKr_29 Kr_29
              refine wpAnyH_ready (rs := [14]) (by kernel_rfl) (by simp) ?_
              refine AllReadyH.cons (o := _) rfl (fun Kr_30 hKr_30 => ?cr_30) ?mr_30
              case mr_30 => exact AllReadyH.nil
              rw [if_pos (by rfl)]
              refine shal1_any noteSh 43 26 _ 64 Try.underlying43 infoNoteA rfl (by decide) (by omega) (.tmp 91) (.tmp 93) rfl wc.heap.size _ x.notes rfl HA5.out HL.out.size _ 1 rfl n [.int .i64 n.kind, .int .i64 n.tx, .slice A2 n.locks.length c2, .slice B2 n.writes.length d2] (noteSh.rbelow HNr.out HL.out) HS.out.2.2 (by omega) ?_
              intro vb v30 hsb hbb
              replace HL := Lib.hid (HL.out.trans hbb)
              have HA7 := Lib.hid (hsb.row HL.out.size)
              clear hsb hbb HA5 HS
              have k30_ : v30.cell? ⟨w1.heap.size, 0, none⟩ = some (.slice A1 x.notes.length c1) ∧ v30.cell? ⟨w1.heap.size, 1, none⟩ = some (.int .i64 x.safe) ∧ v30.cell? ⟨w1.heap.size + 1, 0, none⟩ = some (.int .i64 n.kind) ∧ v30.cell? ⟨w1.heap.size + 1, 1, none⟩ = some (.int .i64 n.tx) ∧ v30.cell? ⟨w1.heap.size + 1, 2, none⟩ = some (.slice A2 n.locks.length c2) ∧ v30.cell? ⟨w1.heap.size + 1, 3, none⟩ = some (.slice B2 n.writes.length d2) ∧ v30.cell? ⟨w3.heap.size, 0, none⟩ = some (.slice A3 (x.notes.length + 1) c3) ∧ v30.cell? ⟨w3.heap.size, 1, none⟩ = some (.int .i64 kk) := (And.intro ((HXx.out.below HL.out HXx.out.1).of 0 _ rfl) (And.intro ((HXx.out.below HL.out HXx.out.1).of 1 _ rfl) (And.intro ((HXn.out.below HL.out HXn.out.1).of 0 _ rfl) (And.intro ((HXn.out.below HL.out HXn.out.1).of 1 _ rfl) (And.intro ((HXn.out.below HL.out HXn.out.1).of 2 _ rfl) (And.intro ((HXn.out.below HL.out HXn.out.1).of 3 _ rfl) (And.intro ((HXy.out.below HL.out HXy.out.1).of 0 _ rfl) ((HXy.out.below HL.out HXy.out.1).of 1 _ rfl))))))))
              simp only [Act.put]
              refine hKr_30.out _ _ ?kr_30 (fun hHeldr_30 => ?dr_30)
              case kr_30 => (first | (dsimp only; (exact k30_)) | (exact k30_))
              clear hKr_30 Kr_30
              refine wpAnyH_ready (rs := [15]) (by kernel_rfl) (by simp) ?_
              refine AllReadyH.cons (o := _) rfl (fun Kr_31 hKr_31 => ?cr_31) ?mr_31
              case mr_31 => exact AllReadyH.nil
              go_simp
              refine (jaNotes_same _ _ _ (x.notes ++ [n]) ((HYr.out.below HL.out).more HL.out.size) HA7.out).mono ?_
              rintro e v31 ⟨rfl, hb⟩
              replace HL := Lib.hid (HL.out.trans (hb.mono HL.out.size))
              clear hb HA7
              have k31_ : v31.cell? ⟨w1.heap.size, 0, none⟩ = some (.slice A1 x.notes.length c1) ∧ v31.cell? ⟨w1.heap.size, 1, none⟩ = some (.int .i64 x.safe) ∧ v31.cell? ⟨w1.heap.size + 1, 0, none⟩ = some (.int .i64 n.kind) ∧ v31.cell? ⟨w1.heap.size + 1, 1, none⟩ = some (.int .i64 n.tx) ∧ v31.cell? ⟨w1.heap.size + 1, 2, none⟩ = some (.slice A2 n.locks.length c2) ∧ v31.cell? ⟨w1.heap.size + 1, 3, none⟩ = some (.slice B2 n.writes.length d2) ∧ v31.cell? ⟨w3.heap.size, 0, none⟩ = some (.slice A3 (x.notes.length + 1) c3) ∧ v31.cell? ⟨w3.heap.size, 1, none⟩ = some (.int .i64 kk) := (And.intro ((HXx.out.below HL.out HXx.out.1).of 0 _ rfl) (And.intro ((HXx.out.below HL.out HXx.out.1).of 1 _ rfl) (And.intro ((HXn.out.below HL.out HXn.out.1).of 0 _ rfl) (And.intro ((HXn.out.below HL.out HXn.out.1).of 1 _ rfl) (And.intro ((HXn.out.below HL.out HXn.out.1).of 2 _ rfl) (And.intro ((HXn.out.below HL.out HXn.out.1).of 3 _ rfl) (And.intro ((HXy.out.below HL.out HXy.out.1).of 0 _ rfl) ((HXy.out.below HL.out HXy.out.1).of 1 _ rfl))))))))
              go_wp2_with fail
              refine hKr_31.out _ _ ?kr_31 (fun hHeldr_31 => ?dr_31)
              case kr_31 => (first | (dsimp only; (exact k31_)) | (exact k31_))
              clear hKr_31 Kr_31
              refine take_first 16 96 (v := ?vr_32) rfl rfl (by kernel_rfl) (by kernel_rfl) (by kernel_rfl) (fun _ _ _ h => h) (by rfl) ?yr_32 (by assumption) ?rr_32
              case yr_32 => (intro w hSw; (try dsimp only at hSw); go_simp; (try with_reducible rfl))
              simp only [Act.put, List.setIfInBounds_toArray, List.set_cons_zero, List.set_cons_succ]
              refine take_first 17 97 (v := ?vr_33) rfl rfl (by kernel_rfl) (by kernel_rfl) (by kernel_rfl) (fun _ _ _ h => h) (by rfl) ?yr_33 (by assumption) ?rr_33
              case yr_33 => (intro w hSw; (try dsimp only at hSw); go_simp; (try with_reducible rfl))
              simp only [Act.put, List.setIfInBounds_toArray, List.set_cons_zero, List.set_cons_succ]
              refine take_first 18 98 (v := ?vr_34) rfl rfl (by kernel_rfl) (by kernel_rfl) (by kernel_rfl) (fun _ _ _ h => h) (by rfl) ?yr_34 (by assumption) ?rr_34
              case yr_34 => (intro w hSw; (try dsimp only at hSw); go_simp; (try with_reducible rfl))
              simp only [Act.put, List.setIfInBounds_toArray, List.set_cons_zero, List.set_cons_succ]
              refine take_first 19 99 (v := ?vr_35) rfl rfl (by kernel_rfl) (by kernel_rfl) (by kernel_rfl) (fun _ _ _ h => h) (by rfl) ?yr_35 (by assumption) ?rr_35
              case yr_35 => (intro w hSw; (try dsimp only at hSw); go_simp; (try with_reducible rfl))
              simp only [Act.put, List.setIfInBounds_toArray, List.set_cons_zero, List.set_cons_succ]
              refine take_first 20 100 (v := ?vr_36) rfl rfl (by kernel_rfl) (by kernel_rfl) (by kernel_rfl) (fun _ _ _ h => h) (by rfl) ?yr_36 (by assumption) ?rr_36
              case yr_36 => (intro w hSw; (try dsimp only at hSw); go_simp; (try with_reducible rfl))
              simp only [Act.put, List.setIfInBounds_toArray, List.set_cons_zero, List.set_cons_succ]
              refine take_first 21 101 (v := ?vr_37) rfl rfl (by kernel_rfl) (by kernel_rfl) (by kernel_rfl) (fun _ _ _ h => h) (by rfl) ?yr_37 (by assumption) ?rr_37
              case yr_37 => (intro w hSw; (try dsimp only at hSw); go_simp; (try with_reducible rfl))
              simp only [Act.put, List.setIfInBounds_toArray, List.set_cons_zero, List.set_cons_succ]
              refine take_first 22 102 (v := ?vr_38) rfl rfl (by kernel_rfl) (by kernel_rfl) (by kernel_rfl) (fun _ _ _ h => h) (by rfl) ?yr_38 (by assumption) ?rr_38
              case yr_38 => (intro w hSw; (try dsimp only at hSw); go_simp; (try with_reducible rfl))
              simp only [Act.put, List.setIfInBounds_toArray, List.set_cons_zero, List.set_cons_succ]
              refine take_first 23 2 (v := ?vr_39) rfl rfl (by kernel_rfl) (by kernel_rfl) (by kernel_rfl) (fun _ _ _ h => h) (by rfl) ?yr_39 (by assumption) ?rr_39
              case yr_39 => (intro w hSw; (try dsimp only at hSw); go_simp; (try with_reducible rfl))
              simp only [Act.put, List.setIfInBounds_toArray, List.set_cons_zero, List.set_cons_succ]
              refine wpAnyH_done (by kernel_rfl) ?er_40 _
              go_wp2
              go_ret
              exact ⟨rfl, belowNext HB.out HL.out⟩
            exact AllReadyH.nil
          refine AllReadyH.cons (o := _) rfl (fun Kr_41 hKr_41 => ?cr_41) ?mr_41
          case cr_41 =>
            go_simp
            have HS := Lib.hid (Held.new v22 #[.int .i64 n.kind, .int .i64 n.tx, .slice A2 n.locks.length c2, .slice B2 n.writes.length d2] 26)
            replace HL := Lib.hid (show Below wc.heap.size wc (v22.alloc (.cells #[.int .i64 n.kind, .int .i64 n.tx, .slice A2 n.locks.length c2, .slice B2 n.writes.length d2] 26)) from HL.out.alloc HL.out.size _)
            have k32_ : (v22.alloc (.cells #[.int .i64 n.kind, .int .i64 n.tx, .slice A2 n.locks.length c2, .slice B2 n.writes.length d2] 26)).cell? ⟨w1.heap.size, 0, none⟩ = some (.slice A1 x.notes.length c1) ∧ (v22.alloc (.cells #[.int .i64 n.kind, .int .i64 n.tx, .slice A2 n.locks.length c2, .slice B2 n.writes.length d2] 26)).cell? ⟨w1.heap.size, 1, none⟩ = some (.int .i64 x.safe) ∧ (v22.alloc (.cells #[.int .i64 n.kind, .int .i64 n.tx, .slice A2 n.locks.length c2, .slice B2 n.writes.length d2] 26)).cell? ⟨w1.heap.size + 1, 0, none⟩ = some (.int .i64 n.kind) ∧ (v22.alloc (.cells #[.int .i64 n.kind, .int .i64 n.tx, .slice A2 n.locks.length c2, .slice B2 n.writes.length d2] 26)).cell? ⟨w1.heap.size + 1, 1, none⟩ = some (.int .i64 n.tx) ∧ (v22.alloc (.cells #[.int .i64 n.kind, .int .i64 n.tx, .slice A2 n.locks.length c2, .slice B2 n.writes.length d2] 26)).cell? ⟨w1.heap.size + 1, 2, none⟩ = some (.slice A2 n.locks.length c2) ∧ (v22.alloc (.cells #[.int .i64 n.kind, .int .i64 n.tx, .slice A2 n.locks.length c2, .slice B2 n.writes.length d2] 26)).cell? ⟨w1.heap.size + 1, 3, none⟩ = some (.slice B2 n.writes.length d2) ∧ (v22.alloc (.cells #[.int .i64 n.kind, .int .i64 n.tx, .slice A2 n.locks.length c2, .slice B2 n.writes.length d2] 26)).cell? ⟨w3.heap.size, 0, none⟩ = some (.slice A3 (x.notes.length + 1) c3) ∧ (v22.alloc (.cells #[.int .i64 n.kind, .int .i64 n.tx, .slice A2 n.locks.length c2, .slice B2 n.writes.length d2] 26)).cell? ⟨w3.heap.size, 1, none⟩ = some (.int .i64 kk) := (And.intro ((HXx.out.below HL.out HXx.out.1).of 0 _ rfl) (And.intro ((HXx.out.below HL.out HXx.out.1).of 1 _ rfl) (And.intro ((HXn.out.below HL.out HXn.out.1).of 0 _ rfl) (And.intro ((HXn.out.below HL.out HXn.out.1).of 1 _ rfl) (And.intro ((HXn.out.below HL.out HXn.out.1).of 2 _ rfl) (And.intro ((HXn.out.below HL.out HXn.out.1).of 3 _ rfl) (And.intro ((HXy.out.below HL.out HXy.out.1).of 0 _ rfl) ((HXy.out.below HL.out HXy.out.1).of 1 _ rfl))))))))
            go_wp2_with fail
            refine hKr_41.out _ _ ?kr_41 (fun hHeldr_41 => ?dr_41)
            case kr_41 => (first | (dsimp only; (exact k32_)) | (exact k32_))
            clear hKr_41 Kr_41
            refine wpAnyH_ready (rs := [8]) (by kernel_rfl) (by simp) ?_
            refine AllReadyH.cons (o := _) rfl (fun Kr_42 hKr_42 => ?cr_42) ?mr_42
            case mr_42 => exact AllReadyH.nil
            go_simp
            have HE := Lib.hid (show noteSh.Shal 26 ((v22.alloc (.cells #[.int .i64 n.kind, .int .i64 n.tx, .slice A2 n.locks.length c2, .slice B2 n.writes.length d2] 26)).alloc (.cells #[] 26)) wc.heap.size (.slice (some ⟨v22.heap.size + 1, 0, none⟩) 0 0) [] from by have h := Sh.Shal.empty (A := noteSh) (e := 26) (w := (v22.alloc (.cells #[.int .i64 n.kind, .int .i64 n.tx, .slice A2 n.locks.length c2, .slice B2 n.writes.length d2] 26)).alloc (.cells #[] 26)) (B := wc.heap.size) (g := (v22.alloc (.cells #[.int .i64 n.kind, .int .i64 n.tx, .slice A2 n.locks.length c2, .slice B2 n.writes.length d2] 26)).heap.size) (Go.Deep.blk_alloc_new (v22.alloc (.cells #[.int .i64 n.kind, .int .i64 n.tx, .slice A2 n.locks.length c2, .slice B2 n.writes.length d2] 26)) _) HL.out.size; rwa [allocSize] at h)
            replace HS := Lib.hid (HS.out.after (.cells #[] 26))
            replace HL := Lib.hid (show Below wc.heap.size wc ((v22.alloc (.cells #[.int .i64 n.kind, .int .i64 n.tx, .slice A2 n.locks.length c2, .slice B2 n.writes.length d2] 26)).alloc (.cells #[] 26)) from HL.out.alloc HL.out.size _)
            have k33_ : ((v22.alloc (.cells #[.int .i64 n.kind, .int .i64 n.tx, .slice A2 n.locks.length c2, .slice B2 n.writes.length d2] 26)).alloc (.cells #[] 26)).cell? ⟨w1.heap.size, 0, none⟩ = some (.slice A1 x.notes.length c1) ∧ ((v22.alloc (.cells #[.int .i64 n.kind, .int .i64 n.tx, .slice A2 n.locks.length c2, .slice B2 n.writes.length d2] 26)).alloc (.cells #[] 26)).cell? ⟨w1.heap.size, 1, none⟩ = some (.int .i64 x.safe) ∧ ((v22.alloc (.cells #[.int .i64 n.kind, .int .i64 n.tx, .slice A2 n.locks.length c2, .slice B2 n.writes.length d2] 26)).alloc (.cells #[] 26)).cell? ⟨w1.heap.size + 1, 0, none⟩ = some (.int .i64 n.kind) ∧ ((v22.alloc (.cells #[.int .i64 n.kind, .int .i64 n.tx, .slice A2 n.locks.length c2, .slice B2 n.writes.length d2] 26)).alloc (.cells #[] 26)).cell? ⟨w1.heap.size + 1, 1, none⟩ = some (.int .i64 n.tx) ∧ ((v22.alloc (.cells #[.int .i64 n.kind, .int .i64 n.tx, .slice A2 n.locks.length c2, .slice B2 n.writes.length d2] 26)).alloc (.cells #[] 26)).cell? ⟨w1.heap.size + 1, 2, none⟩ = some (.slice A2 n.locks.length c2) ∧ ((v22.alloc (.cells #[.int .i64 n.kind, .int .i64 n.tx, .slice A2 n.locks.length c2, .slice B2 n.writes.length d2] 26)).alloc (.cells #[] 26)).cell? ⟨w1.heap.size + 1, 3, none⟩ = some (.slice B2 n.writes.length d2) ∧ ((v22.alloc (.cells #[.int .i64 n.kind, .int .i64 n.tx, .slice A2 n.locks.length c2, .slice B2 n.writes.length d2] 26)).alloc (.cells #[] 26)).cell? ⟨w3.heap.size, 0, none⟩ = some (.slice A3 (x.notes.length + 1) c3) ∧ ((v22.alloc (.cells #[.int .i64 n.kind, .int .i64 n.tx, .slice A2 n.locks.length c2, .slice B2 n.writes.length d2] 26)).alloc (.cells #[] 26)).cell? ⟨w3.heap.size, 1, none⟩ = some (.int .i64 kk) := (And.intro ((HXx.out.below HL.out HXx.out.1).of 0 _ rfl) (And.intro ((HXx.out.below HL.out HXx.out.1).of 1 _ rfl) (And.intro ((HXn.out.below HL.out HXn.out.1).of 0 _ rfl) (And.intro ((HXn.out.below HL.out HXn.out.1).of 1 _ rfl) (And.intro ((HXn.out.below HL.out HXn.out.1).of 2 _ rfl) (And.intro ((HXn.out.below HL.out HXn.out.1).of 3 _ rfl) (And.intro ((HXy.out.below HL.out HXy.out.1).of 0 _ rfl) ((HXy.out.below HL.out HXy.out.1).of 1 _ rfl))))))))
            go_wp2_with fail
            refine hKr_42.out _ _ ?kr_42 (fun hHeldr_42 => ?dr_42)
            case kr_42 => (first | (dsimp only; (exact k33_)) | (exact k33_))
            clear hKr_42 Kr_42
            refine wpAnyH_ready (rs := [11]) (by kernel_rfl) (by simp) ?_
            refine AllReadyH.cons (o := _) rfl (fun Kr_43 hKr_43 => ?cr_43) ?mr_43
            case mr_43 => exact AllReadyH.nil
            rw [if_pos (by rfl)]
            refine shalS_any noteSh 43 26 _ 64 Try.underlying43 infoNoteA rfl (by decide) (by omega) (.tmp 88) (.tmp 90) rfl wc.heap.size _ [] x.notes rfl HE.out HL.out.size _ _ _ rfl rfl (HXr.out.below HL.out) (by simp; omega) ?_
            intro va v34 hsa hba hga
            have HA5 := Lib.hid (show noteSh.Shal 26 v34 wc.heap.size va x.notes from hsa)
            replace HS := Lib.hid (HS.out.outs (Outs.of_grown (S := fun k => k = v22.heap.size + 1) hga (fun k e => (Option.some.inj e).symm)) (by simp))
            replace HL := Lib.hid (HL.out.trans hba)
            clear hsa hba hga HE
            have k34_ : v34.cell? ⟨w1.heap.size, 0, none⟩ = some (.slice A1 x.notes.length c1) ∧ v34.cell? ⟨w1.heap.size, 1, none⟩ = some (.int .i64 x.safe) ∧ v34.cell? ⟨w1.heap.size + 1, 0, none⟩ = some (.int .i64 n.kind) ∧ v34.cell? ⟨w1.heap.size + 1, 1, none⟩ = some (.int .i64 n.tx) ∧ v34.cell? ⟨w1.heap.size + 1, 2, none⟩ = some (.slice A2 n.locks.length c2) ∧ v34.cell? ⟨w1.heap.size + 1, 3, none⟩ = some (.slice B2 n.writes.length d2) ∧ v34.cell? ⟨w3.heap.size, 0, none⟩ = some (.slice A3 (x.notes.length + 1) c3) ∧ v34.cell? ⟨w3.heap.size, 1, none⟩ = some (.int .i64 kk) := (And.intro ((HXx.out.below HL.out HXx.out.1).of 0 _ rfl) (And.intro ((HXx.out.below HL.out HXx.out.1).of 1 _ rfl) (And.intro ((HXn.out.below HL.out HXn.out.1).of 0 _ rfl) (And.intro ((HXn.out.below HL.out HXn.out.1).of 1 _ rfl) (And.intro ((HXn.out.below HL.out HXn.out.1).of 2 _ rfl) (And.intro ((HXn.out.below HL.out HXn.out.1).of 3 _ rfl) (And.intro ((HXy.out.below HL.out HXy.out.1).of 0 _ rfl) ((HXy.out.below HL.out HXy.out.1).of 1 _ rfl))))))))
            simp only [Act.put, List.setIfInBounds_toArray]
            refine hKr_43.out _ _ ?kr_43 (fun hHeldr_43 => ?dr_43)
            case kr_43 => (first | (dsimp only; (exact k34_)) | (exact k34_))
            clear hKr_43 Kr_43
            refine wpAnyH_ready (rs := [14]) (by kernel_rfl) (by simp) ?_
            refine AllReadyH.cons (o := _) rfl (fun Kr_44 hKr_44 => ?cr_44) ?mr_44
            case mr_44 => exact AllReadyH.nil
            rw [if_pos (by rfl)]
            refine shal1_any noteSh 43 26 _ 64 Try.underlying43 infoNoteA rfl (by decide) (by omega) (.tmp 91) (.tmp 93) rfl wc.heap.size _ x.notes rfl HA5.out HL.out.size _ 1 rfl n [.int .i64 n.kind, .int .i64 n.tx, .slice A2 n.locks.length c2, .slice B2 n.writes.length d2] (noteSh.rbelow HNr.out HL.out) HS.out.2.2 (by omega) ?_
            intro vb v35 hsb hbb
            replace HL := Lib.hid (HL.out.trans hbb)
            have HA7 := Lib.hid (hsb.row HL.out.size)
            clear hsb hbb HA5 HS
            have k35_ : v35.cell? ⟨w1.heap.size, 0, none⟩ = some (.slice A1 x.notes.length c1) ∧ v35.cell? ⟨w1.heap.size, 1, none⟩ = some (.int .i64 x.safe) ∧ v35.cell? ⟨w1.heap.size + 1, 0, none⟩ = some (.int .i64 n.kind) ∧ v35.cell? ⟨w1.heap.size + 1, 1, none⟩ = some (.int .i64 n.tx) ∧ v35.cell? ⟨w1.heap.size + 1, 2, none⟩ = some (.slice A2 n.locks.length c2) ∧ v35.cell? ⟨w1.heap.size + 1, 3, none⟩ = some (.slice B2 n.writes.length d2) ∧ v35.cell? ⟨w3.heap.size, 0, none⟩ = some (.slice A3 (x.notes.length + 1) c3) ∧ v35.cell? ⟨w3.heap.size, 1, none⟩ = some (.int .i64 kk) := (And.intro ((HXx.out.below HL.out HXx.out.1).of 0 _ rfl) (And.intro ((HXx.out.below HL.out HXx.out.1).of 1 _ rfl) (And.intro ((HXn.out.below HL.out HXn.out.1).of 0 _ rfl) (And.intro ((HXn.out.below HL.out HXn.out.1).of 1 _ rfl) (And.intro ((HXn.out.below HL.out HXn.out.1).of 2 _ rfl) (And.intro ((HXn.out.below HL.out HXn.out.1).of 3 _ rfl) (And.intro ((HXy.out.below HL.out HXy.out.1).of 0 _ rfl) ((HXy.out.below HL.out HXy.out.1).of 1 _ rfl))))))))
            simp only [Act.put]
            refine hKr_44.out _ _ ?kr_44 (fun hHeldr_44 => ?dr_44)
            case kr_44 => (first | (dsimp only; (exact k35_)) | (exact k35_))
            clear hKr_44 Kr_44
            refine wpAnyH_ready (rs := [15]) (by kernel_rfl) (by simp) ?_
            refine AllReadyH.cons (o := _) rfl (fun Kr_45 hKr_45 => ?cr_45) ?mr_45
            case mr_45 => exact AllReadyH.nil
            go_simp
            refine (jaNotes_same _ _ _ (x.notes ++ [n]) ((HYr.out.below HL.out).more HL.out.size) HA7.out).mono ?_
            rintro e v36 ⟨rfl, hb⟩
            replace HL := Lib.hid (HL.out.trans (hb.mono HL.out.size))
            clear hb HA7
            have k36_ : v36.cell? ⟨w1.heap.size, 0, none⟩ = some (.slice A1 x.notes.length c1) ∧ v36.cell? ⟨w1.heap.size, 1, none⟩ = some (.int .i64 x.safe) ∧ v36.cell? ⟨w1.heap.size + 1, 0, none⟩ = some (.int .i64 n.kind) ∧ v36.cell? ⟨w1.heap.size + 1, 1, none⟩ = some (.int .i64 n.tx) ∧ v36.cell? ⟨w1.heap.size + 1, 2, none⟩ = some (.slice A2 n.locks.length c2) ∧ v36.cell? ⟨w1.heap.size + 1, 3, none⟩ = some (.slice B2 n.writes.length d2) ∧ v36.cell? ⟨w3.heap.size, 0, none⟩ = some (.slice A3 (x.notes.length + 1) c3) ∧ v36.cell? ⟨w3.heap.size, 1, none⟩ = some (.int .i64 kk) := (And.intro ((HXx.out.below HL.out HXx.out.1).of 0 _ rfl) (And.intro ((HXx.out.below HL.out HXx.out.1).of 1 _ rfl) (And.intro ((HXn.out.below HL.out HXn.out.1).of 0 _ rfl) (And.intro ((HXn.out.below HL.out HXn.out.1).of 1 _ rfl) (And.intro ((HXn.out.below HL.out HXn.out.1).of 2 _ rfl) (And.intro ((HXn.out.below HL.out HXn.out.1).of 3 _ rfl) (And.intro ((HXy.out.below HL.out HXy.out.1).of 0 _ rfl) ((HXy.out.below HL.out HXy.out.1).of 1 _ rfl))))))))
            go_wp2_with fail
            refine hKr_45.out _ _ ?kr_45 (fun hHeldr_45 => ?dr_45)
            case kr_45 => (first | (dsimp only; (exact k36_)) | (exact k36_))
            clear hKr_45 Kr_45
            refine take_first 16 96 (v := ?vr_46) rfl rfl (by kernel_rfl) (by kernel_rfl) (by kernel_rfl) (fun _ _ _ h => h) (by rfl) ?yr_46 (by assumption) ?rr_46
            case yr_46 => (intro w hSw; (try dsimp only at hSw); go_simp; (try with_reducible rfl))
            simp only [Act.put, List.setIfInBounds_toArray, List.set_cons_zero, List.set_cons_succ]
            refine take_first 17 97 (v := ?vr_47) rfl rfl (by kernel_rfl) (by kernel_rfl) (by kernel_rfl) (fun _ _ _ h => h) (by rfl) ?yr_47 (by assumption) ?rr_47
            case yr_47 => (intro w hSw; (try dsimp only at hSw); go_simp; (try with_reducible rfl))
            simp only [Act.put, List.setIfInBounds_toArray, List.set_cons_zero, List.set_cons_succ]
            refine take_first 18 98 (v := ?vr_48) rfl rfl (by kernel_rfl) (by kernel_rfl) (by kernel_rfl) (fun _ _ _ h => h) (by rfl) ?yr_48 (by assumption) ?rr_48
            case yr_48 => (intro w hSw; (try dsimp only at hSw); go_simp; (try with_reducible rfl))
            simp only [Act.put, List.setIfInBounds_toArray, List.set_cons_zero, List.set_cons_succ]
            refine take_first 19 99 (v := ?vr_49) rfl rfl (by kernel_rfl) (by kernel_rfl) (by kernel_rfl) (fun _ _ _ h => h) (by rfl) ?yr_49 (by assumption) ?rr_49
            case yr_49 => (intro w hSw; (try dsimp only at hSw); go_simp; (try with_reducible rfl))
            simp only [Act.put, List.setIfInBounds_toArray, List.set_cons_zero, List.set_cons_succ]
            refine take_first 20 100 (v := ?vr_50) rfl rfl (by kernel_rfl) (by kernel_rfl) (by kernel_rfl) (fun _ _ _ h => h) (by rfl) ?yr_50 (by assumption) ?rr_50
            case yr_50 => (intro w hSw; (try dsimp only at hSw); go_simp; (try with_reducible rfl))
            simp only [Act.put, List.setIfInBounds_toArray, List.set_cons_zero, List.set_cons_succ]
            refine take_first 21 101 (v := ?vr_51) rfl rfl (by kernel_rfl) (by kernel_rfl) (by kernel_rfl) (fun _ _ _ h => h) (by rfl) ?yr_51 (by assumption) ?rr_51
            case yr_51 => (intro w hSw; (try dsimp only at hSw); go_simp; (try with_reducible rfl))
            simp only [Act.put, List.setIfInBounds_toArray, List.set_cons_zero, List.set_cons_succ]
            refine take_first 22 102 (v := ?vr_52) rfl rfl (by kernel_rfl) (by kernel_rfl) (by kernel_rfl) (fun _ _ _ h => h) (by rfl) ?yr_52 (by assumption) ?rr_52
            case yr_52 => (intro w hSw; (try dsimp only at hSw); go_simp; (try with_reducible rfl))
            simp only [Act.put, List.setIfInBounds_toArray, List.set_cons_zero, List.set_cons_succ]
            refine take_first 23 2 (v := ?vr_53) rfl rfl (by kernel_rfl) (by kernel_rfl) (by kernel_rfl) (fun _ _ _ h => h) (by rfl) ?yr_53 (by assumption) ?rr_53
            case yr_53 => (intro w hSw; (try dsimp only at hSw); go_simp; (try with_reducible rfl))
            simp only [Act.put, List.setIfInBounds_toArray, List.set_cons_zero, List.set_cons_succ]
            refine wpAnyH_done (by kernel_rfl) ?er_54 _
            go_wp2
            go_ret
            exact ⟨rfl, belowNext HB.out HL.out⟩
          exact AllReadyH.nil

end Go.Proofs.Ytllmmhibmgpehaa

/- The walk of FnDiskSafe. By ldisksafegen.py. -/
import Derived.Test.YtkamlibfcakblaaXDrawDiskAdd
import Derived.Test.YtkamlibfcakblaaXDiskAddI
import Derived.Test.YtkamlibfcakblaaXDiskFallI
import Derived.Test.YtkamlibfcakblaaXSDisk
import Derived.Test.YtkamlibfcakblaaXJaNotes
import Derived.Test.YtkamlibfcakblaaXDrawOpen
import Derived.Deep.CutRange
import Derived.Deep.DeepCutAuto
namespace Go.Proofs.Ytkamlibfcakblaa
open Go.RowKit

theorem run_field_notes (w : World) (a b : Value) : (Instr.field 25 (.agg #[a, b]) 0).run Try.prog w = .ok a w := by
  simp [Instr.field, run_underlying Try.underlying25, go_sem, asAgg, Result.andThen]
attribute [local go_sem] run_field_notes

/-- A note that is added safe stays behind a fall that leaves nothing; one that is not goes, and stays if one is left. -/
theorem fall_all {x : Disk} {k : Int} (h : diskB x = true) (hk : (leftD x k : Int) = x.notes.length) : (fallD x k).notes = x.notes := by
  rw [fallD_yes h]
  show x.notes.take (leftD x k) = x.notes
  have e : leftD x k = x.notes.length := by omega
  rw [e, List.take_length]
theorem safe_facts {x : Disk} {n : Note} (hx : diskB x = true) (hn : noteB n = true) (hl : x.notes.length < 120) :
    fallD (addD x n true) 0 = addD x n true ∧ ((fallD (addD x n false) 0).notes.length : Int) = x.safe ∧ (fallD (addD x n false) ((x.notes.length : Int) - x.safe + 1)).notes = (addD x n false).notes := by
  have hy := diskB_add (x := x) (n := n) (b := true)
  have hu := diskB_add (x := x) (n := n) (b := false)
  obtain ⟨-, p0, p1, -⟩ := diskB_parts hx
  have l1 := leftD_le (k := 0) hy
  have l2 := leftD_le (k := 0) hu
  have l3 := leftD_le (k := (x.notes.length : Int) - x.safe + 1) hu
  have ey := (addD_yes (b := true) hx hn hl).1
  have eu := (addD_yes (b := false) hx hn hl).1
  rw [ey] at l1
  rw [eu] at l2 l3
  simp only [List.length_append, List.length_singleton, if_true, Bool.false_eq_true, if_false] at l1 l2 l3
  refine ⟨?_, ?_, ?_⟩
  · rw [fallD_yes hy, ey]
    simp only [if_true]
    have e : leftD ⟨x.notes ++ [n], (x.notes.length : Int) + 1⟩ 0 = x.notes.length + 1 := by omega
    rw [e]
    congr 1
    exact List.take_of_length_le (by simp)
  · rw [fallD_yes hu, eu]
    simp only [Bool.false_eq_true, if_false, List.length_take, List.length_append, List.length_singleton]
    omega
  · refine fall_all hu ?_
    rw [eu]
    simp only [Bool.false_eq_true, if_false, List.length_append, List.length_singleton]
    omega

set_option maxRecDepth 100000 in
set_option maxHeartbeats 4000000 in
theorem lawDiskSafe_any (w : World) (v : Value) (m : Nat) (hv : Code8 w v m) :
    Calls Try.prog 5 #[v] w fun e w' => e = .returned (.bool true) ∧ Below w.heap.size w w' := by
  have HV := Lib.hid hv
  obtain ⟨A, c, f, rfl, h1, h2, -, -⟩ := hv
  unfold maxLen at h2
  by_cases hn : 1048576 < m
  · clear HV
    go_enter Try.func5, Try.ntmps5
    go_wp2
    go_ret
    exact ⟨rfl, Below.refl _ _⟩
  have hn' : m ≤ 1048576 := by omega
  clear hn
  go_enter Try.func5, Try.ntmps5
  go_wp2_with fail
  refine (drawDiskAdd_any _ _ _ HV.out).mono ?_
  rintro e w1 ⟨cs, x, ns, n, b, rfl, hfd, hfn, hox, hon, hb1⟩
  obtain ⟨u1, rfl, hu1⟩ := disk_own.1 hox
  obtain ⟨A1, c1, rfl, -, -⟩ := hu1.row.form
  clear hu1
  obtain ⟨u2, v2, S2, S2', rfl, hu2, hv2, -, -, -⟩ := note_own.1 hon
  obtain ⟨A2, c2, rfl, -, -⟩ := hu2.row.form
  obtain ⟨B2, d2, rfl, -, -⟩ := hv2.row.form
  clear hu2 hv2
  have HRx := Lib.hid (diskSh.orel hox)
  have HRn := Lib.hid (noteSh.orel hon)
  have HB := Lib.hid hb1
  have HZ0 := Lib.hid hb1.size
  have hxl := hfd.1
  clear hox hon hb1 HV hfd hfn
  have hal := belowOne w1 (.cells #[.slice A1 x.notes.length c1, .int .i64 x.safe] 25)
  replace HB := Lib.hid (belowNext HB.out hal)
  replace HRx := Lib.hid (rel_call HRx.out hal (by have z0 := HZ0.out; omega))
  replace HRn := Lib.hid (rel_call HRn.out hal (by have z0 := HZ0.out; omega))
  have HZ1 := Lib.hid (allocSize w1 (.cells #[.slice A1 x.notes.length c1, .int .i64 x.safe] 25))
  clear hal
  have HXx := Lib.hid (Held.new w1 #[.slice A1 x.notes.length c1, .int .i64 x.safe] 25)
  have hal := belowOne (w1.alloc (.cells #[.slice A1 x.notes.length c1, .int .i64 x.safe] 25)) (.cells #[.int .i64 n.kind, .int .i64 n.tx, .slice A2 n.locks.length c2, .slice B2 n.writes.length d2] 36)
  replace HB := Lib.hid (belowNext HB.out hal)
  replace HXx := Lib.hid (HXx.out.below hal HXx.out.1)
  replace HRx := Lib.hid (rel_call HRx.out hal (by have z0 := HZ0.out; have z1 := HZ1.out; omega))
  replace HRn := Lib.hid (rel_call HRn.out hal (by have z0 := HZ0.out; have z1 := HZ1.out; omega))
  have HZ2 := Lib.hid (allocSize (w1.alloc (.cells #[.slice A1 x.notes.length c1, .int .i64 x.safe] 25)) (.cells #[.int .i64 n.kind, .int .i64 n.tx, .slice A2 n.locks.length c2, .slice B2 n.writes.length d2] 36))
  clear hal
  have HXn := Lib.hid (Held.new (w1.alloc (.cells #[.slice A1 x.notes.length c1, .int .i64 x.safe] 25)) #[.int .i64 n.kind, .int .i64 n.tx, .slice A2 n.locks.length c2, .slice B2 n.writes.length d2] 36)
  replace HXn := Lib.hid (show Held ((w1.alloc (.cells #[.slice A1 x.notes.length c1, .int .i64 x.safe] 25)).alloc (.cells #[.int .i64 n.kind, .int .i64 n.tx, .slice A2 n.locks.length c2, .slice B2 n.writes.length d2] 36)) (w1.heap.size + 1) [.int .i64 n.kind, .int .i64 n.tx, .slice A2 n.locks.length c2, .slice B2 n.writes.length d2] from by have h := HXn.out; rwa [allocSize] at h)
  have ax_0 := HXx.out.of 0 _ rfl
  have ax_1 := HXx.out.of 1 _ rfl
  have an_0 := HXn.out.of 0 _ rfl
  have an_1 := HXn.out.of 1 _ rfl
  have an_2 := HXn.out.of 2 _ rfl
  have an_3 := HXn.out.of 3 _ rfl
  go_wp2_with fail
  clear ax_0 ax_1 an_0 an_1 an_2 an_3
  refine (implDiskAdd_any _ _ _ x n true (diskSh.rmore HRx.out (by have z0 := HZ0.out; have z1 := HZ1.out; have z2 := HZ2.out; omega)) (noteSh.rmore HRn.out (by have z0 := HZ0.out; have z1 := HZ1.out; have z2 := HZ2.out; omega))).mono ?_
  rintro e w3 ⟨cs3, rfl, ho, hb⟩
  obtain ⟨y, hyy⟩ : ∃ y, addD x n true = y := ⟨_, rfl⟩
  obtain ⟨ob, hob⟩ : ∃ o, addOk x n = o := ⟨_, rfl⟩
  rw [hyy] at ho
  rw [hob]
  obtain ⟨u3, rfl, hu3⟩ := disk_own.1 ho
  obtain ⟨A3, c3, rfl, -, -⟩ := hu3.row.form
  clear hu3
  replace HB := Lib.hid (belowNext HB.out hb)
  replace HXx := Lib.hid (HXx.out.below hb HXx.out.1)
  replace HXn := Lib.hid (HXn.out.below hb HXn.out.1)
  replace HRx := Lib.hid (rel_call HRx.out hb (by have z0 := HZ0.out; have z1 := HZ1.out; have z2 := HZ2.out; omega))
  replace HRn := Lib.hid (rel_call HRn.out hb (by have z0 := HZ0.out; have z1 := HZ1.out; have z2 := HZ2.out; omega))
  have HZ4 := Lib.hid hb.size
  clear hb
  have HRy := Lib.hid (diskSh.orel ho)
  clear ho
  have hal := belowOne w3 (.cells #[.slice A3 y.notes.length c3, .int .i64 y.safe] 25)
  replace HB := Lib.hid (belowNext HB.out hal)
  replace HXx := Lib.hid (HXx.out.below hal HXx.out.1)
  replace HXn := Lib.hid (HXn.out.below hal HXn.out.1)
  replace HRx := Lib.hid (rel_call HRx.out hal (by have z0 := HZ0.out; have z1 := HZ1.out; have z2 := HZ2.out; have z4 := HZ4.out; omega))
  replace HRn := Lib.hid (rel_call HRn.out hal (by have z0 := HZ0.out; have z1 := HZ1.out; have z2 := HZ2.out; have z4 := HZ4.out; omega))
  replace HRy := Lib.hid (rel_call HRy.out hal (by have z0 := HZ0.out; have z1 := HZ1.out; have z2 := HZ2.out; have z4 := HZ4.out; omega))
  have HZ5 := Lib.hid (allocSize w3 (.cells #[.slice A3 y.notes.length c3, .int .i64 y.safe] 25))
  clear hal
  have HXy := Lib.hid (Held.new w3 #[.slice A3 y.notes.length c3, .int .i64 y.safe] 25)
  have ax_0 := HXx.out.of 0 _ rfl
  have ax_1 := HXx.out.of 1 _ rfl
  have an_0 := HXn.out.of 0 _ rfl
  have an_1 := HXn.out.of 1 _ rfl
  have an_2 := HXn.out.of 2 _ rfl
  have an_3 := HXn.out.of 3 _ rfl
  go_wp2_with fail
  clear ax_0 ax_1 an_0 an_1 an_2 an_3
  refine (specDiskAdd_any _ _ _ x n true (diskSh.rmore HRx.out (by have z0 := HZ0.out; have z1 := HZ1.out; have z2 := HZ2.out; have z4 := HZ4.out; have z5 := HZ5.out; omega)) (noteSh.rmore HRn.out (by have z0 := HZ0.out; have z1 := HZ1.out; have z2 := HZ2.out; have z4 := HZ4.out; have z5 := HZ5.out; omega))).mono ?_
  rintro e w6 ⟨cs4, rfl, ho, hb⟩
  rw [hyy] at ho
  rw [hob]
  obtain ⟨u4, rfl, hu4⟩ := disk_own.1 ho
  obtain ⟨A4, c4, rfl, -, -⟩ := hu4.row.form
  clear hu4
  replace HB := Lib.hid (belowNext HB.out hb)
  replace HXx := Lib.hid (HXx.out.below hb HXx.out.1)
  replace HXn := Lib.hid (HXn.out.below hb HXn.out.1)
  replace HXy := Lib.hid (HXy.out.below hb HXy.out.1)
  replace HRx := Lib.hid (rel_call HRx.out hb (by have z0 := HZ0.out; have z1 := HZ1.out; have z2 := HZ2.out; have z4 := HZ4.out; have z5 := HZ5.out; omega))
  replace HRn := Lib.hid (rel_call HRn.out hb (by have z0 := HZ0.out; have z1 := HZ1.out; have z2 := HZ2.out; have z4 := HZ4.out; have z5 := HZ5.out; omega))
  replace HRy := Lib.hid (rel_call HRy.out hb (by have z0 := HZ0.out; have z1 := HZ1.out; have z2 := HZ2.out; have z4 := HZ4.out; have z5 := HZ5.out; omega))
  have HZ7 := Lib.hid hb.size
  clear hb
  have HRz := Lib.hid (diskSh.orel ho)
  clear ho
  have hal := belowOne w6 (.cells #[.slice A4 y.notes.length c4, .int .i64 y.safe] 25)
  replace HB := Lib.hid (belowNext HB.out hal)
  replace HXx := Lib.hid (HXx.out.below hal HXx.out.1)
  replace HXn := Lib.hid (HXn.out.below hal HXn.out.1)
  replace HXy := Lib.hid (HXy.out.below hal HXy.out.1)
  replace HRx := Lib.hid (rel_call HRx.out hal (by have z0 := HZ0.out; have z1 := HZ1.out; have z2 := HZ2.out; have z4 := HZ4.out; have z5 := HZ5.out; have z7 := HZ7.out; omega))
  replace HRn := Lib.hid (rel_call HRn.out hal (by have z0 := HZ0.out; have z1 := HZ1.out; have z2 := HZ2.out; have z4 := HZ4.out; have z5 := HZ5.out; have z7 := HZ7.out; omega))
  replace HRy := Lib.hid (rel_call HRy.out hal (by have z0 := HZ0.out; have z1 := HZ1.out; have z2 := HZ2.out; have z4 := HZ4.out; have z5 := HZ5.out; have z7 := HZ7.out; omega))
  replace HRz := Lib.hid (rel_call HRz.out hal (by have z0 := HZ0.out; have z1 := HZ1.out; have z2 := HZ2.out; have z4 := HZ4.out; have z5 := HZ5.out; have z7 := HZ7.out; omega))
  have HZ8 := Lib.hid (allocSize w6 (.cells #[.slice A4 y.notes.length c4, .int .i64 y.safe] 25))
  clear hal
  have HXz := Lib.hid (Held.new w6 #[.slice A4 y.notes.length c4, .int .i64 y.safe] 25)
  have hne : (ob != ob) = false := by simp
  have ay_0 := HXy.out.of 0 _ rfl
  have ay_1 := HXy.out.of 1 _ rfl
  have az_0 := HXz.out.of 0 _ rfl
  have az_1 := HXz.out.of 1 _ rfl
  go_wp2_with fail
  clear ay_0 ay_1 az_0 az_1
  refine (jaDisk_same _ _ _ y (diskSh.rmore HRy.out (by have z0 := HZ0.out; have z1 := HZ1.out; have z2 := HZ2.out; have z4 := HZ4.out; have z5 := HZ5.out; have z7 := HZ7.out; have z8 := HZ8.out; omega)) (diskSh.rmore HRz.out (by have z0 := HZ0.out; have z1 := HZ1.out; have z2 := HZ2.out; have z4 := HZ4.out; have z5 := HZ5.out; have z7 := HZ7.out; have z8 := HZ8.out; omega))).mono ?_
  rintro e w9 ⟨rfl, hb⟩
  replace HB := Lib.hid (belowNext HB.out hb)
  replace HXx := Lib.hid (HXx.out.below hb HXx.out.1)
  replace HXn := Lib.hid (HXn.out.below hb HXn.out.1)
  replace HXy := Lib.hid (HXy.out.below hb HXy.out.1)
  replace HXz := Lib.hid (HXz.out.below hb HXz.out.1)
  replace HRx := Lib.hid (rel_call HRx.out hb (by have z0 := HZ0.out; have z1 := HZ1.out; have z2 := HZ2.out; have z4 := HZ4.out; have z5 := HZ5.out; have z7 := HZ7.out; have z8 := HZ8.out; omega))
  replace HRn := Lib.hid (rel_call HRn.out hb (by have z0 := HZ0.out; have z1 := HZ1.out; have z2 := HZ2.out; have z4 := HZ4.out; have z5 := HZ5.out; have z7 := HZ7.out; have z8 := HZ8.out; omega))
  replace HRy := Lib.hid (rel_call HRy.out hb (by have z0 := HZ0.out; have z1 := HZ1.out; have z2 := HZ2.out; have z4 := HZ4.out; have z5 := HZ5.out; have z7 := HZ7.out; have z8 := HZ8.out; omega))
  replace HRz := Lib.hid (rel_call HRz.out hb (by have z0 := HZ0.out; have z1 := HZ1.out; have z2 := HZ2.out; have z4 := HZ4.out; have z5 := HZ5.out; have z7 := HZ7.out; have z8 := HZ8.out; omega))
  have HZ10 := Lib.hid hb.size
  clear hb
  clear HRz
  clear HXz
  cases hoc : ob with
  | false =>
    rw [hoc] at hne
    clear hoc hob hyy
    have ay_0 := HXy.out.of 0 _ rfl
    have ay_1 := HXy.out.of 1 _ rfl
    go_wp2_with fail
    clear ay_0 ay_1
    refine (jaOk_any _).mono ?_
    rintro e w11 ⟨rfl, hb⟩
    replace HB := Lib.hid (belowNext HB.out hb)
    replace HXx := Lib.hid (HXx.out.below hb HXx.out.1)
    replace HXn := Lib.hid (HXn.out.below hb HXn.out.1)
    replace HXy := Lib.hid (HXy.out.below hb HXy.out.1)
    replace HRx := Lib.hid (rel_call HRx.out hb (by have z0 := HZ0.out; have z1 := HZ1.out; have z2 := HZ2.out; have z4 := HZ4.out; have z5 := HZ5.out; have z7 := HZ7.out; have z8 := HZ8.out; have z10 := HZ10.out; omega))
    replace HRn := Lib.hid (rel_call HRn.out hb (by have z0 := HZ0.out; have z1 := HZ1.out; have z2 := HZ2.out; have z4 := HZ4.out; have z5 := HZ5.out; have z7 := HZ7.out; have z8 := HZ8.out; have z10 := HZ10.out; omega))
    replace HRy := Lib.hid (rel_call HRy.out hb (by have z0 := HZ0.out; have z1 := HZ1.out; have z2 := HZ2.out; have z4 := HZ4.out; have z5 := HZ5.out; have z7 := HZ7.out; have z8 := HZ8.out; have z10 := HZ10.out; omega))
    have HZ12 := Lib.hid hb.size
    clear hb
    go_wp2
    go_ret
    exact ⟨rfl, HB.out⟩
  | true =>
    rw [hoc] at hob hne
    have hxok : diskB x = true := by
      cases h : diskB x with
      | true => rfl
      | false => rw [(addD_bad (b := true) (.inl h : diskB x = false ∨ noteB n = false)).2] at hob; cases hob
    have hnok : noteB n = true := by
      cases h : noteB n with
      | true => rfl
      | false => rw [(addD_bad (b := true) (.inr h : diskB x = false ∨ noteB n = false)).2] at hob; cases hob
    have hx120 := (diskB_parts hxok).1
    have hlt : x.notes.length < 120 := by
      rcases Nat.lt_or_ge x.notes.length 120 with h | h
      · exact h
      · rw [(addD_full (b := true) hxok hnok (by omega)).2] at hob; cases hob
    obtain ⟨-, hs0, hs1, -⟩ := diskB_parts hxok
    have HF := Lib.hid (safe_facts hxok hnok hlt)
    clear hoc
    have ax_0 := HXx.out.of 0 _ rfl
    have ax_1 := HXx.out.of 1 _ rfl
    have an_0 := HXn.out.of 0 _ rfl
    have an_1 := HXn.out.of 1 _ rfl
    have an_2 := HXn.out.of 2 _ rfl
    have an_3 := HXn.out.of 3 _ rfl
    go_wp2_with fail
    clear ax_0 ax_1 an_0 an_1 an_2 an_3
    refine (implDiskAdd_any _ _ _ x n false (diskSh.rmore HRx.out (by have z0 := HZ0.out; have z1 := HZ1.out; have z2 := HZ2.out; have z4 := HZ4.out; have z5 := HZ5.out; have z7 := HZ7.out; have z8 := HZ8.out; have z10 := HZ10.out; omega)) (noteSh.rmore HRn.out (by have z0 := HZ0.out; have z1 := HZ1.out; have z2 := HZ2.out; have z4 := HZ4.out; have z5 := HZ5.out; have z7 := HZ7.out; have z8 := HZ8.out; have z10 := HZ10.out; omega))).mono ?_
    rintro e w13 ⟨cs5, rfl, ho, hb⟩
    obtain ⟨u, hyu⟩ : ∃ y, addD x n false = y := ⟨_, rfl⟩
    rw [hyu] at ho
    rw [hob]
    obtain ⟨u5, rfl, hu5⟩ := disk_own.1 ho
    obtain ⟨A5, c5, rfl, -, -⟩ := hu5.row.form
    clear hu5
    replace HB := Lib.hid (belowNext HB.out hb)
    replace HXx := Lib.hid (HXx.out.below hb HXx.out.1)
    replace HXn := Lib.hid (HXn.out.below hb HXn.out.1)
    replace HXy := Lib.hid (HXy.out.below hb HXy.out.1)
    replace HRx := Lib.hid (rel_call HRx.out hb (by have z0 := HZ0.out; have z1 := HZ1.out; have z2 := HZ2.out; have z4 := HZ4.out; have z5 := HZ5.out; have z7 := HZ7.out; have z8 := HZ8.out; have z10 := HZ10.out; omega))
    replace HRn := Lib.hid (rel_call HRn.out hb (by have z0 := HZ0.out; have z1 := HZ1.out; have z2 := HZ2.out; have z4 := HZ4.out; have z5 := HZ5.out; have z7 := HZ7.out; have z8 := HZ8.out; have z10 := HZ10.out; omega))
    replace HRy := Lib.hid (rel_call HRy.out hb (by have z0 := HZ0.out; have z1 := HZ1.out; have z2 := HZ2.out; have z4 := HZ4.out; have z5 := HZ5.out; have z7 := HZ7.out; have z8 := HZ8.out; have z10 := HZ10.out; omega))
    have HZ14 := Lib.hid hb.size
    clear hb
    have HRu := Lib.hid (diskSh.orel ho)
    clear ho
    have hal := belowOne w13 (.cells #[.slice A5 u.notes.length c5, .int .i64 u.safe] 25)
    replace HB := Lib.hid (belowNext HB.out hal)
    replace HXx := Lib.hid (HXx.out.below hal HXx.out.1)
    replace HXn := Lib.hid (HXn.out.below hal HXn.out.1)
    replace HXy := Lib.hid (HXy.out.below hal HXy.out.1)
    replace HRx := Lib.hid (rel_call HRx.out hal (by have z0 := HZ0.out; have z1 := HZ1.out; have z2 := HZ2.out; have z4 := HZ4.out; have z5 := HZ5.out; have z7 := HZ7.out; have z8 := HZ8.out; have z10 := HZ10.out; have z14 := HZ14.out; omega))
    replace HRn := Lib.hid (rel_call HRn.out hal (by have z0 := HZ0.out; have z1 := HZ1.out; have z2 := HZ2.out; have z4 := HZ4.out; have z5 := HZ5.out; have z7 := HZ7.out; have z8 := HZ8.out; have z10 := HZ10.out; have z14 := HZ14.out; omega))
    replace HRy := Lib.hid (rel_call HRy.out hal (by have z0 := HZ0.out; have z1 := HZ1.out; have z2 := HZ2.out; have z4 := HZ4.out; have z5 := HZ5.out; have z7 := HZ7.out; have z8 := HZ8.out; have z10 := HZ10.out; have z14 := HZ14.out; omega))
    replace HRu := Lib.hid (rel_call HRu.out hal (by have z0 := HZ0.out; have z1 := HZ1.out; have z2 := HZ2.out; have z4 := HZ4.out; have z5 := HZ5.out; have z7 := HZ7.out; have z8 := HZ8.out; have z10 := HZ10.out; have z14 := HZ14.out; omega))
    have HZ15 := Lib.hid (allocSize w13 (.cells #[.slice A5 u.notes.length c5, .int .i64 u.safe] 25))
    clear hal
    have HXu := Lib.hid (Held.new w13 #[.slice A5 u.notes.length c5, .int .i64 u.safe] 25)
    rw [hyy, hyu] at HF
    obtain ⟨z, hz⟩ : ∃ z, fallD u 0 = z := ⟨_, rfl⟩
    obtain ⟨o, hfo⟩ : ∃ o, fallD u ((x.notes.length : Int) - x.safe + 1) = o := ⟨_, rfl⟩
    rw [hz, hfo] at HF
    have HFy := Lib.hid HF.out.1
    have HFo := Lib.hid HF.out.2.2
    have hzl : ((z.notes.length : Int) == x.safe) = true := by have := HF.out.2.1; simp; omega
    have HZz := Lib.hid hz
    have HOo := Lib.hid hfo
    have hw1 : IntKind.i64.wrap ((x.notes.length : Int) - x.safe) = (x.notes.length : Int) - x.safe := IntWalk.i64_in _ (by omega)
    have hw2 : IntKind.i64.wrap ((x.notes.length : Int) - x.safe + 1) = (x.notes.length : Int) - x.safe + 1 := IntWalk.i64_in _ (by omega)
    clear hyy hyu hob hz hfo hxok hnok hlt HF
    have ax_0 := HXx.out.of 0 _ rfl
    have ax_1 := HXx.out.of 1 _ rfl
    have au_0 := HXu.out.of 0 _ rfl
    have au_1 := HXu.out.of 1 _ rfl
    go_wp2_with fail
    clear ax_0 ax_1 au_0 au_1
    refine (implDiskFall_any _ _ u ((x.notes.length : Int) - x.safe + 1) (diskSh.rmore HRu.out (by have z0 := HZ0.out; have z1 := HZ1.out; have z2 := HZ2.out; have z4 := HZ4.out; have z5 := HZ5.out; have z7 := HZ7.out; have z8 := HZ8.out; have z10 := HZ10.out; have z14 := HZ14.out; have z15 := HZ15.out; omega))).mono ?_
    rintro e w16 ⟨cs6, rfl, ho, hb⟩
    rw [HOo.out] at ho
    obtain ⟨u6, rfl, hu6⟩ := disk_own.1 ho
    obtain ⟨A6, c6, rfl, -, -⟩ := hu6.row.form
    clear hu6
    replace HB := Lib.hid (belowNext HB.out hb)
    replace HXx := Lib.hid (HXx.out.below hb HXx.out.1)
    replace HXn := Lib.hid (HXn.out.below hb HXn.out.1)
    replace HXy := Lib.hid (HXy.out.below hb HXy.out.1)
    replace HXu := Lib.hid (HXu.out.below hb HXu.out.1)
    replace HRx := Lib.hid (rel_call HRx.out hb (by have z0 := HZ0.out; have z1 := HZ1.out; have z2 := HZ2.out; have z4 := HZ4.out; have z5 := HZ5.out; have z7 := HZ7.out; have z8 := HZ8.out; have z10 := HZ10.out; have z14 := HZ14.out; have z15 := HZ15.out; omega))
    replace HRn := Lib.hid (rel_call HRn.out hb (by have z0 := HZ0.out; have z1 := HZ1.out; have z2 := HZ2.out; have z4 := HZ4.out; have z5 := HZ5.out; have z7 := HZ7.out; have z8 := HZ8.out; have z10 := HZ10.out; have z14 := HZ14.out; have z15 := HZ15.out; omega))
    replace HRy := Lib.hid (rel_call HRy.out hb (by have z0 := HZ0.out; have z1 := HZ1.out; have z2 := HZ2.out; have z4 := HZ4.out; have z5 := HZ5.out; have z7 := HZ7.out; have z8 := HZ8.out; have z10 := HZ10.out; have z14 := HZ14.out; have z15 := HZ15.out; omega))
    replace HRu := Lib.hid (rel_call HRu.out hb (by have z0 := HZ0.out; have z1 := HZ1.out; have z2 := HZ2.out; have z4 := HZ4.out; have z5 := HZ5.out; have z7 := HZ7.out; have z8 := HZ8.out; have z10 := HZ10.out; have z14 := HZ14.out; have z15 := HZ15.out; omega))
    have HZ17 := Lib.hid hb.size
    clear hb
    have HRo := Lib.hid (diskSh.orel ho)
    clear ho hw1 hw2
    have hal := belowOne w16 (.cells #[.slice A6 o.notes.length c6, .int .i64 o.safe] 25)
    replace HB := Lib.hid (belowNext HB.out hal)
    replace HXx := Lib.hid (HXx.out.below hal HXx.out.1)
    replace HXn := Lib.hid (HXn.out.below hal HXn.out.1)
    replace HXy := Lib.hid (HXy.out.below hal HXy.out.1)
    replace HXu := Lib.hid (HXu.out.below hal HXu.out.1)
    replace HRx := Lib.hid (rel_call HRx.out hal (by have z0 := HZ0.out; have z1 := HZ1.out; have z2 := HZ2.out; have z4 := HZ4.out; have z5 := HZ5.out; have z7 := HZ7.out; have z8 := HZ8.out; have z10 := HZ10.out; have z14 := HZ14.out; have z15 := HZ15.out; have z17 := HZ17.out; omega))
    replace HRn := Lib.hid (rel_call HRn.out hal (by have z0 := HZ0.out; have z1 := HZ1.out; have z2 := HZ2.out; have z4 := HZ4.out; have z5 := HZ5.out; have z7 := HZ7.out; have z8 := HZ8.out; have z10 := HZ10.out; have z14 := HZ14.out; have z15 := HZ15.out; have z17 := HZ17.out; omega))
    replace HRy := Lib.hid (rel_call HRy.out hal (by have z0 := HZ0.out; have z1 := HZ1.out; have z2 := HZ2.out; have z4 := HZ4.out; have z5 := HZ5.out; have z7 := HZ7.out; have z8 := HZ8.out; have z10 := HZ10.out; have z14 := HZ14.out; have z15 := HZ15.out; have z17 := HZ17.out; omega))
    replace HRu := Lib.hid (rel_call HRu.out hal (by have z0 := HZ0.out; have z1 := HZ1.out; have z2 := HZ2.out; have z4 := HZ4.out; have z5 := HZ5.out; have z7 := HZ7.out; have z8 := HZ8.out; have z10 := HZ10.out; have z14 := HZ14.out; have z15 := HZ15.out; have z17 := HZ17.out; omega))
    replace HRo := Lib.hid (rel_call HRo.out hal (by have z0 := HZ0.out; have z1 := HZ1.out; have z2 := HZ2.out; have z4 := HZ4.out; have z5 := HZ5.out; have z7 := HZ7.out; have z8 := HZ8.out; have z10 := HZ10.out; have z14 := HZ14.out; have z15 := HZ15.out; have z17 := HZ17.out; omega))
    have HZ18 := Lib.hid (allocSize w16 (.cells #[.slice A6 o.notes.length c6, .int .i64 o.safe] 25))
    clear hal
    have HXo := Lib.hid (Held.new w16 #[.slice A6 o.notes.length c6, .int .i64 o.safe] 25)
    have HYd := Lib.hid (show diskSh.rel (w16.alloc (.cells #[.slice A6 o.notes.length c6, .int .i64 o.safe] 25)) (w16.alloc (.cells #[.slice A6 o.notes.length c6, .int .i64 o.safe] 25)).heap.size [.slice A3 y.notes.length c3, .int .i64 y.safe] y from (diskSh.rmore HRy.out (by have z0 := HZ0.out; have z1 := HZ1.out; have z2 := HZ2.out; have z4 := HZ4.out; have z5 := HZ5.out; have z7 := HZ7.out; have z8 := HZ8.out; have z10 := HZ10.out; have z14 := HZ14.out; have z15 := HZ15.out; have z17 := HZ17.out; have z18 := HZ18.out; omega)))
    have HUd := Lib.hid (show diskSh.rel (w16.alloc (.cells #[.slice A6 o.notes.length c6, .int .i64 o.safe] 25)) (w16.alloc (.cells #[.slice A6 o.notes.length c6, .int .i64 o.safe] 25)).heap.size [.slice A5 u.notes.length c5, .int .i64 u.safe] u from (diskSh.rmore HRu.out (by have z0 := HZ0.out; have z1 := HZ1.out; have z2 := HZ2.out; have z4 := HZ4.out; have z5 := HZ5.out; have z7 := HZ7.out; have z8 := HZ8.out; have z10 := HZ10.out; have z14 := HZ14.out; have z15 := HZ15.out; have z17 := HZ17.out; have z18 := HZ18.out; omega)))
    have HUr := Lib.hid (show noteSh.Row (w16.alloc (.cells #[.slice A6 o.notes.length c6, .int .i64 o.safe] 25)) (w16.alloc (.cells #[.slice A6 o.notes.length c6, .int .i64 o.safe] 25)).heap.size (.slice A5 u.notes.length c5) u.notes from by obtain ⟨k, hk, hr⟩ := disk_rel.1 HUd.out; injection hk with hk _; subst hk; exact hr)
    have HOr := Lib.hid (show noteSh.Row (w16.alloc (.cells #[.slice A6 o.notes.length c6, .int .i64 o.safe] 25)) (w16.alloc (.cells #[.slice A6 o.notes.length c6, .int .i64 o.safe] 25)).heap.size (.slice A6 o.notes.length c6) u.notes from by obtain ⟨k, hk, hr⟩ := disk_rel.1 HRo.out; injection hk with hk _; subst hk; exact Eq.mp (congrArg (fun l => noteSh.Row (w16.alloc (.cells #[.slice A6 o.notes.length c6, .int .i64 o.safe] 25)) (w16.alloc (.cells #[.slice A6 o.notes.length c6, .int .i64 o.safe] 25)).heap.size (.slice A6 o.notes.length c6) l) HFo.out) (hr.more (by have z0 := HZ0.out; have z1 := HZ1.out; have z2 := HZ2.out; have z4 := HZ4.out; have z5 := HZ5.out; have z7 := HZ7.out; have z8 := HZ8.out; have z10 := HZ10.out; have z14 := HZ14.out; have z15 := HZ15.out; have z17 := HZ17.out; have z18 := HZ18.out; omega)))
    clear HRx HRy HRn HRu HRo HFo HOo
    go_wp2
    have HL := Lib.hid (show Below (w16.alloc (.cells #[.slice A6 o.notes.length c6, .int .i64 o.safe] 25)).heap.size (w16.alloc (.cells #[.slice A6 o.notes.length c6, .int .i64 o.safe] 25)) (w16.alloc (.cells #[.slice A6 o.notes.length c6, .int .i64 o.safe] 25)).drew from (Below.refl _ _).drew)
    have k0_ : (w16.alloc (.cells #[.slice A6 o.notes.length c6, .int .i64 o.safe] 25)).drew.cell? ⟨w1.heap.size, 0, none⟩ = some (.slice A1 x.notes.length c1) ∧ (w16.alloc (.cells #[.slice A6 o.notes.length c6, .int .i64 o.safe] 25)).drew.cell? ⟨w1.heap.size, 1, none⟩ = some (.int .i64 x.safe) ∧ (w16.alloc (.cells #[.slice A6 o.notes.length c6, .int .i64 o.safe] 25)).drew.cell? ⟨w3.heap.size, 0, none⟩ = some (.slice A3 y.notes.length c3) ∧ (w16.alloc (.cells #[.slice A6 o.notes.length c6, .int .i64 o.safe] 25)).drew.cell? ⟨w3.heap.size, 1, none⟩ = some (.int .i64 y.safe) ∧ (w16.alloc (.cells #[.slice A6 o.notes.length c6, .int .i64 o.safe] 25)).drew.cell? ⟨w13.heap.size, 0, none⟩ = some (.slice A5 u.notes.length c5) ∧ (w16.alloc (.cells #[.slice A6 o.notes.length c6, .int .i64 o.safe] 25)).drew.cell? ⟨w13.heap.size, 1, none⟩ = some (.int .i64 u.safe) ∧ (w16.alloc (.cells #[.slice A6 o.notes.length c6, .int .i64 o.safe] 25)).drew.cell? ⟨w16.heap.size, 0, none⟩ = some (.slice A6 o.notes.length c6) ∧ (w16.alloc (.cells #[.slice A6 o.notes.length c6, .int .i64 o.safe] 25)).drew.cell? ⟨w16.heap.size, 1, none⟩ = some (.int .i64 o.safe) := (And.intro ((HXx.out.below HL.out HXx.out.1).of 0 _ rfl) (And.intro ((HXx.out.below HL.out HXx.out.1).of 1 _ rfl) (And.intro ((HXy.out.below HL.out HXy.out.1).of 0 _ rfl) (And.intro ((HXy.out.below HL.out HXy.out.1).of 1 _ rfl) (And.intro ((HXu.out.below HL.out HXu.out.1).of 0 _ rfl) (And.intro ((HXu.out.below HL.out HXu.out.1).of 1 _ rfl) (And.intro ((HXo.out.below HL.out HXo.out.1).of 0 _ rfl) ((HXo.out.below HL.out HXo.out.1).of 1 _ rfl))))))))
    refine wp_region_held_drew (S := (fun w' => w'.cell? ⟨w1.heap.size, 0, none⟩ = some (.slice A1 x.notes.length c1) ∧ w'.cell? ⟨w1.heap.size, 1, none⟩ = some (.int .i64 x.safe) ∧ w'.cell? ⟨w3.heap.size, 0, none⟩ = some (.slice A3 y.notes.length c3) ∧ w'.cell? ⟨w3.heap.size, 1, none⟩ = some (.int .i64 y.safe) ∧ w'.cell? ⟨w13.heap.size, 0, none⟩ = some (.slice A5 u.notes.length c5) ∧ w'.cell? ⟨w13.heap.size, 1, none⟩ = some (.int .i64 u.safe) ∧ w'.cell? ⟨w16.heap.size, 0, none⟩ = some (.slice A6 o.notes.length c6) ∧ w'.cell? ⟨w16.heap.size, 1, none⟩ = some (.int .i64 o.safe))) (by kernel_rfl) ?hSr (fun hHeldr => ?str)
    case hSr => (first | (dsimp only; (exact k0_)) | (exact k0_))
    refine take_first 0 61 (v := ?vr_1) rfl rfl (by kernel_rfl) (by kernel_rfl) (by kernel_rfl) (fun _ _ _ h => h) (by rfl) ?yr_1 (by assumption) ?rr_1
    case yr_1 => (intro w hSw; (try dsimp only at hSw); go_simp; (try with_reducible rfl))
    simp only [Act.put, List.setIfInBounds_toArray, List.set_cons_zero, List.set_cons_succ]
    refine take_first 2 63 (v := ?vr_2) rfl rfl (by kernel_rfl) (by kernel_rfl) (by kernel_rfl) (fun _ _ _ h => h) (by rfl) ?yr_2 (by assumption) ?rr_2
    case yr_2 => (intro w hSw; (try dsimp only at hSw); go_simp; (try with_reducible rfl))
    simp only [Act.put, List.setIfInBounds_toArray, List.set_cons_zero, List.set_cons_succ]
    refine wpAnyH_ready (rs := [1]) (by kernel_rfl) (by simp) ?_
    refine AllReadyH.cons (o := _) rfl (fun Kr_3 hKr_3 => ?cr_3) ?mr_3
    case mr_3 => exact AllReadyH.nil
    go_simp
    refine (implDiskFall_any _ _ y 0 (diskSh.rmore (diskSh.rbelow HYd.out HL.out) HL.out.size)).mono ?_
    rintro e v19 ⟨cs7, rfl, ho, hb⟩
    rw [HFy.out] at ho
    obtain ⟨u7, rfl, hu7⟩ := disk_own.1 ho
    obtain ⟨A7, c7, rfl, -, -⟩ := hu7.row.form
    clear hu7
    have HRw := Lib.hid (diskSh.orel ho)
    clear ho
    replace HL := Lib.hid (HL.out.trans (hb.mono HL.out.size))
    clear hb
    have k19_ : v19.cell? ⟨w1.heap.size, 0, none⟩ = some (.slice A1 x.notes.length c1) ∧ v19.cell? ⟨w1.heap.size, 1, none⟩ = some (.int .i64 x.safe) ∧ v19.cell? ⟨w3.heap.size, 0, none⟩ = some (.slice A3 y.notes.length c3) ∧ v19.cell? ⟨w3.heap.size, 1, none⟩ = some (.int .i64 y.safe) ∧ v19.cell? ⟨w13.heap.size, 0, none⟩ = some (.slice A5 u.notes.length c5) ∧ v19.cell? ⟨w13.heap.size, 1, none⟩ = some (.int .i64 u.safe) ∧ v19.cell? ⟨w16.heap.size, 0, none⟩ = some (.slice A6 o.notes.length c6) ∧ v19.cell? ⟨w16.heap.size, 1, none⟩ = some (.int .i64 o.safe) := (And.intro ((HXx.out.below HL.out HXx.out.1).of 0 _ rfl) (And.intro ((HXx.out.below HL.out HXx.out.1).of 1 _ rfl) (And.intro ((HXy.out.below HL.out HXy.out.1).of 0 _ rfl) (And.intro ((HXy.out.below HL.out HXy.out.1).of 1 _ rfl) (And.intro ((HXu.out.below HL.out HXu.out.1).of 0 _ rfl) (And.intro ((HXu.out.below HL.out HXu.out.1).of 1 _ rfl) (And.intro ((HXo.out.below HL.out HXo.out.1).of 0 _ rfl) ((HXo.out.below HL.out HXo.out.1).of 1 _ rfl))))))))
    go_wp2_with fail
    refine hKr_3.out _ _ ?kr_3 (fun hHeldr_3 => ?dr_3)
    case kr_3 => (first | (dsimp only; (exact k19_)) | (exact k19_))
    clear hKr_3 Kr_3
    refine wpAnyH_ready (rs := [3]) (by kernel_rfl) (by simp) ?_
    refine AllReadyH.cons (o := _) rfl (fun Kr_4 hKr_4 => ?cr_4) ?mr_4
    case mr_4 => exact AllReadyH.nil
    go_simp
    refine (jaDisk_same _ _ _ y HRw.out (diskSh.rmore (diskSh.rbelow HYd.out HL.out) HL.out.size)).mono ?_
    rintro e v20 ⟨rfl, hb⟩
    clear HRw
    replace HL := Lib.hid (HL.out.trans (hb.mono HL.out.size))
    clear hb
    have k20_ : v20.cell? ⟨w1.heap.size, 0, none⟩ = some (.slice A1 x.notes.length c1) ∧ v20.cell? ⟨w1.heap.size, 1, none⟩ = some (.int .i64 x.safe) ∧ v20.cell? ⟨w3.heap.size, 0, none⟩ = some (.slice A3 y.notes.length c3) ∧ v20.cell? ⟨w3.heap.size, 1, none⟩ = some (.int .i64 y.safe) ∧ v20.cell? ⟨w13.heap.size, 0, none⟩ = some (.slice A5 u.notes.length c5) ∧ v20.cell? ⟨w13.heap.size, 1, none⟩ = some (.int .i64 u.safe) ∧ v20.cell? ⟨w16.heap.size, 0, none⟩ = some (.slice A6 o.notes.length c6) ∧ v20.cell? ⟨w16.heap.size, 1, none⟩ = some (.int .i64 o.safe) := (And.intro ((HXx.out.below HL.out HXx.out.1).of 0 _ rfl) (And.intro ((HXx.out.below HL.out HXx.out.1).of 1 _ rfl) (And.intro ((HXy.out.below HL.out HXy.out.1).of 0 _ rfl) (And.intro ((HXy.out.below HL.out HXy.out.1).of 1 _ rfl) (And.intro ((HXu.out.below HL.out HXu.out.1).of 0 _ rfl) (And.intro ((HXu.out.below HL.out HXu.out.1).of 1 _ rfl) (And.intro ((HXo.out.below HL.out HXo.out.1).of 0 _ rfl) ((HXo.out.below HL.out HXo.out.1).of 1 _ rfl))))))))
    go_wp2_with fail
    refine hKr_4.out _ _ ?kr_4 (fun hHeldr_4 => ?dr_4)
    case kr_4 => (first | (dsimp only; (exact k20_)) | (exact k20_))
    clear hKr_4 Kr_4
    refine take_first 4 65 (v := ?vr_5) rfl rfl (by kernel_rfl) (by kernel_rfl) (by kernel_rfl) (fun _ _ _ h => h) (by rfl) ?yr_5 (by assumption) ?rr_5
    case yr_5 => (intro w hSw; (try dsimp only at hSw); go_simp; (try with_reducible rfl))
    simp only [Act.put, List.setIfInBounds_toArray, List.set_cons_zero, List.set_cons_succ]
    refine take_first 5 66 (v := ?vr_6) rfl rfl (by kernel_rfl) (by kernel_rfl) (by kernel_rfl) (fun _ _ _ h => h) (by rfl) ?yr_6 (by assumption) ?rr_6
    case yr_6 => (intro w hSw; (try dsimp only at hSw); go_simp; (try with_reducible rfl))
    simp only [Act.put, List.setIfInBounds_toArray, List.set_cons_zero, List.set_cons_succ]
    refine take_first 9 70 (v := ?vr_7) rfl rfl (by kernel_rfl) (by kernel_rfl) (by kernel_rfl) (fun _ _ _ h => h) (by rfl) ?yr_7 (by assumption) ?rr_7
    case yr_7 => (intro w hSw; (try dsimp only at hSw); go_simp; (try with_reducible rfl))
    simp only [Act.put, List.setIfInBounds_toArray, List.set_cons_zero, List.set_cons_succ]
    refine take_first 10 71 (v := ?vr_8) rfl rfl (by kernel_rfl) (by kernel_rfl) (by kernel_rfl) (fun _ _ _ h => h) (by rfl) ?yr_8 (by assumption) ?rr_8
    case yr_8 => (intro w hSw; (try dsimp only at hSw); go_simp; (try with_reducible rfl))
    simp only [Act.put, List.setIfInBounds_toArray, List.set_cons_zero, List.set_cons_succ]
    refine wpAnyH_ready (rs := [6]) (by kernel_rfl) (by simp) ?_
    refine AllReadyH.cons (o := _) rfl (fun Kr_9 hKr_9 => ?cr_9) ?mr_9
    case mr_9 => exact AllReadyH.nil
    go_simp
    refine (implDiskFall_any _ _ u 0 (diskSh.rmore (diskSh.rbelow HUd.out HL.out) HL.out.size)).mono ?_
    rintro e v21 ⟨cs8, rfl, ho, hb⟩
    rw [HZz.out] at ho
    obtain ⟨u8, rfl, hu8⟩ := disk_own.1 ho
    obtain ⟨A8, c8, rfl, -, -⟩ := hu8.row.form
    clear hu8
    clear ho
    replace HL := Lib.hid (HL.out.trans (hb.mono HL.out.size))
    clear hb
    have k21_ : v21.cell? ⟨w1.heap.size, 0, none⟩ = some (.slice A1 x.notes.length c1) ∧ v21.cell? ⟨w1.heap.size, 1, none⟩ = some (.int .i64 x.safe) ∧ v21.cell? ⟨w3.heap.size, 0, none⟩ = some (.slice A3 y.notes.length c3) ∧ v21.cell? ⟨w3.heap.size, 1, none⟩ = some (.int .i64 y.safe) ∧ v21.cell? ⟨w13.heap.size, 0, none⟩ = some (.slice A5 u.notes.length c5) ∧ v21.cell? ⟨w13.heap.size, 1, none⟩ = some (.int .i64 u.safe) ∧ v21.cell? ⟨w16.heap.size, 0, none⟩ = some (.slice A6 o.notes.length c6) ∧ v21.cell? ⟨w16.heap.size, 1, none⟩ = some (.int .i64 o.safe) := (And.intro ((HXx.out.below HL.out HXx.out.1).of 0 _ rfl) (And.intro ((HXx.out.below HL.out HXx.out.1).of 1 _ rfl) (And.intro ((HXy.out.below HL.out HXy.out.1).of 0 _ rfl) (And.intro ((HXy.out.below HL.out HXy.out.1).of 1 _ rfl) (And.intro ((HXu.out.below HL.out HXu.out.1).of 0 _ rfl) (And.intro ((HXu.out.below HL.out HXu.out.1).of 1 _ rfl) (And.intro ((HXo.out.below HL.out HXo.out.1).of 0 _ rfl) ((HXo.out.below HL.out HXo.out.1).of 1 _ rfl))))))))
    go_wp2_with fail
    refine hKr_9.out _ _ ?kr_9 (fun hHeldr_9 => ?dr_9)
    case kr_9 => (first | (dsimp only; (exact k21_)) | (exact k21_))
    clear hKr_9 Kr_9
    refine take_first 7 68 (v := ?vr_10) rfl rfl (by kernel_rfl) (by kernel_rfl) (by kernel_rfl) (fun _ _ _ h => h) (by rfl) ?yr_10 (by assumption) ?rr_10
    case yr_10 => (intro w hSw; (try dsimp only at hSw); go_simp; (try with_reducible rfl))
    simp only [Act.put, List.setIfInBounds_toArray, List.set_cons_zero, List.set_cons_succ]
    refine take_first 8 69 (v := ?vr_11) rfl rfl (by kernel_rfl) (by kernel_rfl) (by kernel_rfl) (fun _ _ _ h => h) (by rfl) ?yr_11 (by assumption) ?rr_11
    case yr_11 => (intro w hSw; (try dsimp only at hSw); go_simp; (try with_reducible rfl))
    simp only [Act.put, List.setIfInBounds_toArray, List.set_cons_zero, List.set_cons_succ]
    refine take_first 11 72 (v := ?vr_12) rfl rfl (by kernel_rfl) (by kernel_rfl) (by kernel_rfl) (fun _ _ _ h => h) (by rfl) ?yr_12 (by assumption) ?rr_12
    case yr_12 => (intro w hSw; (try dsimp only at hSw); go_simp; (try with_reducible rfl))
    simp only [Act.put, List.setIfInBounds_toArray, List.set_cons_zero, List.set_cons_succ]
    refine take_first 12 73 (v := ?vr_13) rfl rfl (by kernel_rfl) (by kernel_rfl) (by kernel_rfl) (fun _ _ _ h => h) (by rfl) ?yr_13 (by assumption) ?rr_13
    case yr_13 => (intro w hSw; (try dsimp only at hSw); go_simp; (try with_reducible rfl))
    simp only [Act.put, List.setIfInBounds_toArray, List.set_cons_zero, List.set_cons_succ]
    refine take_first 13 74 (v := ?vr_14) rfl rfl (by kernel_rfl) (by kernel_rfl) (by kernel_rfl) (fun _ _ _ h => h) (by rfl) ?yr_14 (by assumption) ?rr_14
    case yr_14 => (intro w hSw; (try dsimp only at hSw); go_simp; (try with_reducible rfl))
    simp only [Act.put, List.setIfInBounds_toArray, List.set_cons_zero, List.set_cons_succ]
    refine take_first 14 75 (v := ?vr_15) rfl rfl (by kernel_rfl) (by kernel_rfl) (by kernel_rfl) (fun _ _ _ h => h) (by rfl) ?yr_15 (by assumption) ?rr_15
    case yr_15 => (intro w hSw; (try dsimp only at hSw); go_simp; (try with_reducible rfl))
    simp only [Act.put, List.setIfInBounds_toArray, List.set_cons_zero, List.set_cons_succ]
    refine take_first 15 76 (v := ?vr_16) rfl rfl (by kernel_rfl) (by kernel_rfl) (by kernel_rfl) (fun _ _ _ h => h) (by rfl) ?yr_16 (by assumption) ?rr_16
    case yr_16 => (intro w hSw; (try dsimp only at hSw); go_simp; (try with_reducible rfl))
    simp only [Act.put, List.setIfInBounds_toArray, List.set_cons_zero, List.set_cons_succ]
    refine take_first 16 77 (v := ?vr_17) rfl rfl (by kernel_rfl) (by kernel_rfl) (by kernel_rfl) (fun _ _ _ h => h) (by rfl) ?yr_17 (by assumption) ?rr_17
    case yr_17 => (intro w hSw; (try dsimp only at hSw); go_simp; (try with_reducible rfl))
    simp only [Act.put, List.setIfInBounds_toArray, List.set_cons_zero, List.set_cons_succ]
    refine take_first 17 78 (v := ?vr_18) rfl rfl (by kernel_rfl) (by kernel_rfl) (by kernel_rfl) (fun _ _ _ h => h) (by rfl) ?yr_18 (by assumption) ?rr_18
    case yr_18 => (intro w hSw; (try dsimp only at hSw); go_simp; (try with_reducible rfl))
    simp only [Act.put, List.setIfInBounds_toArray, List.set_cons_zero, List.set_cons_succ]
    refine wpAnyH_ready (rs := [18]) (by kernel_rfl) (by simp) ?_
    refine AllReadyH.cons (o := _) rfl (fun Kr_19 hKr_19 => ?cr_19) ?mr_19
    case mr_19 => exact AllReadyH.nil
    go_simp
    refine (jaNotes_same _ _ _ u.notes ((HOr.out.below HL.out).more HL.out.size) ((HUr.out.below HL.out).more HL.out.size)).mono ?_
    rintro e v22 ⟨rfl, hb⟩
    replace HL := Lib.hid (HL.out.trans (hb.mono HL.out.size))
    clear hb
    have k22_ : v22.cell? ⟨w1.heap.size, 0, none⟩ = some (.slice A1 x.notes.length c1) ∧ v22.cell? ⟨w1.heap.size, 1, none⟩ = some (.int .i64 x.safe) ∧ v22.cell? ⟨w3.heap.size, 0, none⟩ = some (.slice A3 y.notes.length c3) ∧ v22.cell? ⟨w3.heap.size, 1, none⟩ = some (.int .i64 y.safe) ∧ v22.cell? ⟨w13.heap.size, 0, none⟩ = some (.slice A5 u.notes.length c5) ∧ v22.cell? ⟨w13.heap.size, 1, none⟩ = some (.int .i64 u.safe) ∧ v22.cell? ⟨w16.heap.size, 0, none⟩ = some (.slice A6 o.notes.length c6) ∧ v22.cell? ⟨w16.heap.size, 1, none⟩ = some (.int .i64 o.safe) := (And.intro ((HXx.out.below HL.out HXx.out.1).of 0 _ rfl) (And.intro ((HXx.out.below HL.out HXx.out.1).of 1 _ rfl) (And.intro ((HXy.out.below HL.out HXy.out.1).of 0 _ rfl) (And.intro ((HXy.out.below HL.out HXy.out.1).of 1 _ rfl) (And.intro ((HXu.out.below HL.out HXu.out.1).of 0 _ rfl) (And.intro ((HXu.out.below HL.out HXu.out.1).of 1 _ rfl) (And.intro ((HXo.out.below HL.out HXo.out.1).of 0 _ rfl) ((HXo.out.below HL.out HXo.out.1).of 1 _ rfl))))))))
    go_wp2_with fail
    refine hKr_19.out _ _ ?kr_19 (fun hHeldr_19 => ?dr_19)
    case kr_19 => (first | (dsimp only; (exact k22_)) | (exact k22_))
    clear hKr_19 Kr_19
    refine take_first 19 80 (v := ?vr_20) rfl rfl (by kernel_rfl) (by kernel_rfl) (by kernel_rfl) (fun _ _ _ h => h) (by rfl) ?yr_20 (by assumption) ?rr_20
    case yr_20 => (intro w hSw; (try dsimp only at hSw); go_simp; (try with_reducible rfl))
    simp only [Act.put, List.setIfInBounds_toArray, List.set_cons_zero, List.set_cons_succ]
    refine take_first 20 2 (v := ?vr_21) rfl rfl (by kernel_rfl) (by kernel_rfl) (by kernel_rfl) (fun _ _ _ h => h) (by rfl) ?yr_21 (by assumption) ?rr_21
    case yr_21 => (intro w hSw; (try dsimp only at hSw); go_simp; (try with_reducible rfl))
    simp only [Act.put, List.setIfInBounds_toArray, List.set_cons_zero, List.set_cons_succ]
    refine wpAnyH_done (by kernel_rfl) ?er_22 _
    go_wp2
    go_ret
    exact ⟨rfl, belowNext HB.out HL.out⟩

end Go.Proofs.Ytkamlibfcakblaa

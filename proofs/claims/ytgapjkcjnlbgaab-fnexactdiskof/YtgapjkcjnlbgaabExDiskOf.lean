/- The walk of FnExactDiskOf. By exgen.py. -/
import Derived.Test.YtgapjkcjnlbgaabHLogDisk
import Derived.Test.YtgapjkcjnlbgaabDiskOf
namespace Go.Proofs.Ytgapjkcjnlbgaab
open Go.RowKit

set_option maxRecDepth 100000 in
set_option maxHeartbeats 1000000 in
theorem exDiskOf_any (w : World) (cs : List Value) (x : Disk) (h : diskSh.rel w w.heap.size cs x) (tx : Int) :
    Calls Try.prog 7 #[.agg cs.toArray, .int .i64 tx] w fun e w' => e = .returned (.bool true) ∧ Below w.heap.size w w' := by
  have HH := Lib.hid fun W (hb : Below w.heap.size w W) => diskSh.rmore (diskSh.rbelow h hb) hb.size
  obtain ⟨u0, rfl, hu0⟩ := disk_rel.1 h
  obtain ⟨A0, c0, rfl, -, -⟩ := hu0.form
  clear h hu0
  have HB := Lib.hid (Held.new w #[.slice A0 x.notes.length c0, .int .i64 x.safe] 36)
  have HW := Lib.hid (belowOne w (.cells #[.slice A0 x.notes.length c0, .int .i64 x.safe] 36))
  go_enter Try.func7, Try.ntmps7
  by_cases hbig : (1048576 : Int) < (diskSh.wt x : Int)
  · have hl := less_no hbig
    go_wp2_with fail
    refine (szLogDisk_any _ _ x (HH.out _ HW.out) _ (by omega) (by omega)).mono ?_
    rintro e w1 ⟨rfl, hb⟩
    rw [hl]
    clear hl
    go_wp2
    go_ret
    exact ⟨rfl, belowNext HW.out hb⟩
  have hl := less_yes (show (diskSh.wt x : Int) ≤ 1048576 by omega)
  have hsm : diskSh.wt x ≤ 1048576 := by omega
  go_wp2_with fail
  refine (szLogDisk_any _ _ x (HH.out _ HW.out) _ (by omega) (by omega)).mono ?_
  rintro e w1 ⟨rfl, hb⟩
  rw [hl]
  have hneg : 0 ≤ 1048576 - (diskSh.wt x : Int) := by omega
  replace HB := Lib.hid (HB.out.below hb HB.out.1)
  replace HW := Lib.hid (belowNext HW.out hb)
  clear hb hl hbig
  have a0 := HB.out.of 0 _ rfl
  have a1 := HB.out.of 1 _ rfl
  go_wp2_with fail
  refine (toLogDisk_any _ _ x (HH.out _ HW.out) hsm).mono ?_
  rintro e w2 ⟨cs2, rfl, ho, hb⟩
  have HO := Lib.hid (diskSh.orel ho)
  replace HB := Lib.hid (HB.out.below hb HB.out.1)
  replace HW := Lib.hid (belowNext HW.out hb)
  clear hb ho a0 a1
  go_wp2_with fail
  refine (specDiskOf_any _ _ x tx HO.out).mono ?_
  rintro e w3 ⟨rfl, hb⟩
  replace HB := Lib.hid (HB.out.below hb HB.out.1)
  replace HW := Lib.hid (belowNext HW.out hb)
  clear hb HO
  have a0 := HB.out.of 0 _ rfl
  have a1 := HB.out.of 1 _ rfl
  go_wp2_with fail
  refine (toLogDisk_any _ _ x (HH.out _ HW.out) hsm).mono ?_
  rintro e w4 ⟨cs4, rfl, ho, hb⟩
  have ho4 := diskSh.orel ho
  have HO := Lib.hid fun W (hb : Below w4.heap.size w4 W) => diskSh.rmore (diskSh.rbelow ho4 hb) hb.size
  obtain ⟨v0, rfl, hv0⟩ := disk_rel.1 ho4
  obtain ⟨X0, d0, rfl, -, -⟩ := hv0.form
  replace HB := Lib.hid (HB.out.below hb HB.out.1)
  replace HW := Lib.hid (belowNext HW.out hb)
  clear hb ho ho4 hv0 a0 a1
  have HX := Lib.hid (Held.new w4 #[.slice X0 x.notes.length d0, .int .i64 x.safe] 41)
  have HY := Lib.hid (belowOne w4 (.cells #[.slice X0 x.notes.length d0, .int .i64 x.safe] 41))
  have hz4 := HB.out.1
  replace HB := Lib.hid (HB.out.after (.cells #[.slice X0 x.notes.length d0, .int .i64 x.safe] 41))
  replace HW := Lib.hid (belowNext HW.out (belowOne w4 (.cells #[.slice X0 x.notes.length d0, .int .i64 x.safe] 41)))
  go_wp2_with fail
  refine (implDiskOf_any _ _ x tx (HO.out _ HY.out)).mono ?_
  rintro e w6 ⟨rfl, hb⟩
  replace HB := Lib.hid (HB.out.below hb HB.out.1)
  replace HX := Lib.hid (HX.out.below hb HX.out.1)
  replace HW := Lib.hid (belowNext HW.out hb)
  replace HY := Lib.hid (belowNext HY.out hb)
  clear hb
  have hz6 : w.heap.size < w6.heap.size := HB.out.1
  have hz7 : w4.heap.size < w6.heap.size := HX.out.1
  have HS := Lib.hid fun (y : World) (hy : Below w6.heap.size w6 y) => And.intro (HB.out.below hy hz6) (HX.out.below hy hz7)
  have a0 := HB.out.of 0 _ rfl
  have a1 := HB.out.of 1 _ rfl
  have b0 := HX.out.of 0 _ rfl
  have b1 := HX.out.of 1 _ rfl
  have hb0 := (Below.refl w6.heap.size w6).drew
  go_wp2
  go_region_held3 (fun w' => w'.cell? ⟨w.heap.size, 0, none⟩ = some (.slice A0 x.notes.length c0) ∧ w'.cell? ⟨w.heap.size, 1, none⟩ = some (.int .i64 x.safe) ∧ w'.cell? ⟨w4.heap.size, 0, none⟩ = some (.slice X0 x.notes.length d0) ∧ w'.cell? ⟨w4.heap.size, 1, none⟩ = some (.int .i64 x.safe))
    (first | exact ⟨(HS.out _ hq9).1.of 0 _ rfl, (HS.out _ hq9).1.of 1 _ rfl, (HS.out _ hq9).2.of 0 _ rfl, (HS.out _ hq9).2.of 1 _ rfl⟩ | exact ⟨(HS.out _ hq8).1.of 0 _ rfl, (HS.out _ hq8).1.of 1 _ rfl, (HS.out _ hq8).2.of 0 _ rfl, (HS.out _ hq8).2.of 1 _ rfl⟩ | exact ⟨(HS.out _ hb0).1.of 0 _ rfl, (HS.out _ hb0).1.of 1 _ rfl, (HS.out _ hb0).2.of 0 _ rfl, (HS.out _ hb0).2.of 1 _ rfl⟩)
    (first
      | (go_at_call 20; refine (toLogDisk_any _ _ x (HH.out _ (belowNext HW.out hb0)) hsm).mono ?_; rintro e w8 ⟨cs8, rfl, ho8, hb8⟩; have hq8 := belowNext hb0 hb8; have HR := Lib.hid (diskSh.orel ho8); clear ho8 hb8)
      | (go_at_call 22; refine (eqLogDisk_same _ _ _ x (HO.out _ (belowNext HY.out hq8)) HR.out).mono ?_; rintro e w9 ⟨rfl, hb9⟩; have hq9 := belowNext hq8 hb9; clear hb9))
  go_wp2
  go_ret
  exact ⟨rfl, belowNext HW.out hq9⟩

end Go.Proofs.Ytgapjkcjnlbgaab

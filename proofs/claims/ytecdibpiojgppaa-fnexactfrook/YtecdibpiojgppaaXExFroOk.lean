/- The walk of FnExactFroOk. As exgen.py writes them. -/
import Derived.Test.YtecdibpiojgppaaXHFroState
import Derived.Test.YtecdibpiojgppaaXFroOkS
namespace Go.Proofs.Ytecdibpiojgppaa
open Go.RowKit

set_option maxRecDepth 100000 in
set_option maxHeartbeats 1000000 in
theorem exFroOk_any (w : World) (cs : List Value) (x : Fro) (h : froSh.rel w w.heap.size cs x) :
    Calls Try.prog 5 #[.agg cs.toArray] w fun e w' => e = .returned (.bool true) ∧ Below w.heap.size w w' := by
  have HH := Lib.hid fun W (hb : Below w.heap.size w W) => froSh.rmore (froSh.rbelow h hb) hb.size
  obtain ⟨u0, u2, rfl, hu0, hu2⟩ := fro_rel.1 h
  obtain ⟨A0, c0, rfl, -, -⟩ := hu0.form
  obtain ⟨A2, c2, rfl, -, -⟩ := hu2.form
  clear h hu0 hu2
  have HB := Lib.hid (Held.new w #[.slice A0 x.disk.notes.length c0, .int .i64 x.disk.safe, .slice A2 x.way.length c2] 49)
  have HW := Lib.hid (belowOne w (.cells #[.slice A0 x.disk.notes.length c0, .int .i64 x.disk.safe, .slice A2 x.way.length c2] 49))
  go_enter Try.func5, Try.ntmps5
  by_cases hbig : (1048576 : Int) < (froSh.wt x : Int)
  · have hl := less_no hbig
    go_wp2_with fail
    refine (szFroState_any _ _ x (HH.out _ HW.out) _ (by omega) (by omega)).mono ?_
    rintro e w1 ⟨rfl, hb⟩
    rw [hl]
    clear hl
    go_wp2
    go_ret
    exact ⟨rfl, belowNext HW.out hb⟩
  have hl := less_yes (show (froSh.wt x : Int) ≤ 1048576 by omega)
  have hsm : froSh.wt x ≤ 1048576 := by omega
  go_wp2_with fail
  refine (szFroState_any _ _ x (HH.out _ HW.out) _ (by omega) (by omega)).mono ?_
  rintro e w1 ⟨rfl, hb⟩
  rw [hl]
  have hneg : 0 ≤ 1048576 - (froSh.wt x : Int) := by omega
  replace HB := Lib.hid (HB.out.below hb HB.out.1)
  replace HW := Lib.hid (belowNext HW.out hb)
  clear hb hl hbig
  have a0 := HB.out.of 0 _ rfl
  have a1 := HB.out.of 1 _ rfl
  have a2 := HB.out.of 2 _ rfl
  go_wp2_with fail
  refine (toFroState_any _ _ x (HH.out _ HW.out) hsm).mono ?_
  rintro e w2 ⟨cs2, rfl, ho, hb⟩
  have HO := Lib.hid (froSh.orel ho)
  replace HB := Lib.hid (HB.out.below hb HB.out.1)
  replace HW := Lib.hid (belowNext HW.out hb)
  clear hb ho a0 a1 a2
  go_wp2_with fail
  refine (specFroOk_any _ _ x HO.out).mono ?_
  rintro e w3 ⟨rfl, hb⟩
  replace HB := Lib.hid (HB.out.below hb HB.out.1)
  replace HW := Lib.hid (belowNext HW.out hb)
  clear hb HO
  have a0 := HB.out.of 0 _ rfl
  have a1 := HB.out.of 1 _ rfl
  have a2 := HB.out.of 2 _ rfl
  go_wp2_with fail
  refine (toFroState_any _ _ x (HH.out _ HW.out) hsm).mono ?_
  rintro e w4 ⟨cs4, rfl, ho, hb⟩
  have ho4 := froSh.orel ho
  have HO := Lib.hid fun W (hb : Below w4.heap.size w4 W) => froSh.rmore (froSh.rbelow ho4 hb) hb.size
  obtain ⟨v0, v2, rfl, hv0, hv2⟩ := fro_rel.1 ho4
  obtain ⟨X0, d0, rfl, -, -⟩ := hv0.form
  obtain ⟨X2, d2, rfl, -, -⟩ := hv2.form
  replace HB := Lib.hid (HB.out.below hb HB.out.1)
  replace HW := Lib.hid (belowNext HW.out hb)
  clear hb ho ho4 hv0 hv2 a0 a1 a2
  have HX := Lib.hid (Held.new w4 #[.slice X0 x.disk.notes.length d0, .int .i64 x.disk.safe, .slice X2 x.way.length d2] 57)
  have HY := Lib.hid (belowOne w4 (.cells #[.slice X0 x.disk.notes.length d0, .int .i64 x.disk.safe, .slice X2 x.way.length d2] 57))
  have hz4 := HB.out.1
  replace HB := Lib.hid (HB.out.after (.cells #[.slice X0 x.disk.notes.length d0, .int .i64 x.disk.safe, .slice X2 x.way.length d2] 57))
  replace HW := Lib.hid (belowNext HW.out (belowOne w4 (.cells #[.slice X0 x.disk.notes.length d0, .int .i64 x.disk.safe, .slice X2 x.way.length d2] 57)))
  go_wp2_with fail
  refine (implFroOk_any _ _ x (HO.out _ HY.out)).mono ?_
  rintro e w6 ⟨rfl, hb⟩
  replace HB := Lib.hid (HB.out.below hb HB.out.1)
  replace HX := Lib.hid (HX.out.below hb HX.out.1)
  replace HW := Lib.hid (belowNext HW.out hb)
  replace HY := Lib.hid (belowNext HY.out hb)
  clear hb
  have hz6 : w.heap.size < w6.heap.size := HB.out.1
  have hz7 : w4.heap.size < w6.heap.size := HX.out.1
  have HS := Lib.hid fun (y : World) (hy : Below w6.heap.size w6 y) => And.intro (HB.out.below hy hz6) (HX.out.below hy hz7)
  have a0 := HB.out.of 0 _ rfl
  have a1 := HB.out.of 1 _ rfl
  have a2 := HB.out.of 2 _ rfl
  have b0 := HX.out.of 0 _ rfl
  have b1 := HX.out.of 1 _ rfl
  have b2 := HX.out.of 2 _ rfl
  have hb0 := (Below.refl w6.heap.size w6).drew
  go_wp2
  go_region_held3 (fun w' => w'.cell? ⟨w.heap.size, 0, none⟩ = some (.slice A0 x.disk.notes.length c0) ∧ w'.cell? ⟨w.heap.size, 1, none⟩ = some (.int .i64 x.disk.safe) ∧ w'.cell? ⟨w.heap.size, 2, none⟩ = some (.slice A2 x.way.length c2) ∧ w'.cell? ⟨w4.heap.size, 0, none⟩ = some (.slice X0 x.disk.notes.length d0) ∧ w'.cell? ⟨w4.heap.size, 1, none⟩ = some (.int .i64 x.disk.safe) ∧ w'.cell? ⟨w4.heap.size, 2, none⟩ = some (.slice X2 x.way.length d2))
    (first | exact ⟨(HS.out _ hq9).1.of 0 _ rfl, (HS.out _ hq9).1.of 1 _ rfl, (HS.out _ hq9).1.of 2 _ rfl, (HS.out _ hq9).2.of 0 _ rfl, (HS.out _ hq9).2.of 1 _ rfl, (HS.out _ hq9).2.of 2 _ rfl⟩ | exact ⟨(HS.out _ hq8).1.of 0 _ rfl, (HS.out _ hq8).1.of 1 _ rfl, (HS.out _ hq8).1.of 2 _ rfl, (HS.out _ hq8).2.of 0 _ rfl, (HS.out _ hq8).2.of 1 _ rfl, (HS.out _ hq8).2.of 2 _ rfl⟩ | exact ⟨(HS.out _ hb0).1.of 0 _ rfl, (HS.out _ hb0).1.of 1 _ rfl, (HS.out _ hb0).1.of 2 _ rfl, (HS.out _ hb0).2.of 0 _ rfl, (HS.out _ hb0).2.of 1 _ rfl, (HS.out _ hb0).2.of 2 _ rfl⟩)
    (first
      | (go_at_call 25; refine (toFroState_any _ _ x (HH.out _ (belowNext HW.out hb0)) hsm).mono ?_; rintro e w8 ⟨cs8, rfl, ho8, hb8⟩; have hq8 := belowNext hb0 hb8; have HR := Lib.hid (froSh.orel ho8); clear ho8 hb8)
      | (go_at_call 27; refine (eqFroState_same _ _ _ x (HO.out _ (belowNext HY.out hq8)) HR.out).mono ?_; rintro e w9 ⟨rfl, hb9⟩; have hq9 := belowNext hq8 hb9; clear hb9))
  go_wp2
  go_ret
  exact ⟨rfl, belowNext HW.out hq9⟩

end Go.Proofs.Ytecdibpiojgppaa

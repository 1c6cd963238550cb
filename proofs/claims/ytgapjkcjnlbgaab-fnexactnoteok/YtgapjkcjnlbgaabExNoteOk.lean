/- The walk of FnExactNoteOk. By exgen.py. -/
import Derived.Test.YtgapjkcjnlbgaabHLogNote
import Derived.Test.YtgapjkcjnlbgaabNoteOkS
namespace Go.Proofs.Ytgapjkcjnlbgaab
open Go.RowKit

set_option maxRecDepth 100000 in
set_option maxHeartbeats 1000000 in
theorem exNoteOk_any (w : World) (cs : List Value) (x : Note) (h : noteSh.rel w w.heap.size cs x) :
    Calls Try.prog 3 #[.agg cs.toArray] w fun e w' => e = .returned (.bool true) ∧ Below w.heap.size w w' := by
  have HH := Lib.hid fun W (hb : Below w.heap.size w W) => noteSh.rmore (noteSh.rbelow h hb) hb.size
  obtain ⟨u2, u3, rfl, hu2, hu3⟩ := note_rel.1 h
  obtain ⟨A2, c2, rfl, -, -⟩ := hu2.form
  obtain ⟨A3, c3, rfl, -, -⟩ := hu3.form
  clear h hu2 hu3
  have HB := Lib.hid (Held.new w #[.int .i64 x.kind, .int .i64 x.tx, .slice A2 x.locks.length c2, .slice A3 x.writes.length c3] 25)
  have HW := Lib.hid (belowOne w (.cells #[.int .i64 x.kind, .int .i64 x.tx, .slice A2 x.locks.length c2, .slice A3 x.writes.length c3] 25))
  go_enter Try.func3, Try.ntmps3
  by_cases hbig : (1048576 : Int) < (noteSh.wt x : Int)
  · have hl := less_no hbig
    go_wp2_with fail
    refine (szLogNote_any _ _ x (HH.out _ HW.out) _ (by omega) (by omega)).mono ?_
    rintro e w1 ⟨rfl, hb⟩
    rw [hl]
    clear hl
    go_wp2
    go_ret
    exact ⟨rfl, belowNext HW.out hb⟩
  have hl := less_yes (show (noteSh.wt x : Int) ≤ 1048576 by omega)
  have hsm : noteSh.wt x ≤ 1048576 := by omega
  go_wp2_with fail
  refine (szLogNote_any _ _ x (HH.out _ HW.out) _ (by omega) (by omega)).mono ?_
  rintro e w1 ⟨rfl, hb⟩
  rw [hl]
  have hneg : 0 ≤ 1048576 - (noteSh.wt x : Int) := by omega
  replace HB := Lib.hid (HB.out.below hb HB.out.1)
  replace HW := Lib.hid (belowNext HW.out hb)
  clear hb hl hbig
  have a0 := HB.out.of 0 _ rfl
  have a1 := HB.out.of 1 _ rfl
  have a2 := HB.out.of 2 _ rfl
  have a3 := HB.out.of 3 _ rfl
  go_wp2_with fail
  refine (toLogNote_any _ _ x (HH.out _ HW.out) hsm).mono ?_
  rintro e w2 ⟨cs2, rfl, ho, hb⟩
  have HO := Lib.hid (noteSh.orel ho)
  replace HB := Lib.hid (HB.out.below hb HB.out.1)
  replace HW := Lib.hid (belowNext HW.out hb)
  clear hb ho a0 a1 a2 a3
  go_wp2_with fail
  refine (specNoteOk_any _ _ x HO.out).mono ?_
  rintro e w3 ⟨rfl, hb⟩
  replace HB := Lib.hid (HB.out.below hb HB.out.1)
  replace HW := Lib.hid (belowNext HW.out hb)
  clear hb HO
  have a0 := HB.out.of 0 _ rfl
  have a1 := HB.out.of 1 _ rfl
  have a2 := HB.out.of 2 _ rfl
  have a3 := HB.out.of 3 _ rfl
  go_wp2_with fail
  refine (toLogNote_any _ _ x (HH.out _ HW.out) hsm).mono ?_
  rintro e w4 ⟨cs4, rfl, ho, hb⟩
  have ho4 := noteSh.orel ho
  have HO := Lib.hid fun W (hb : Below w4.heap.size w4 W) => noteSh.rmore (noteSh.rbelow ho4 hb) hb.size
  obtain ⟨v2, v3, rfl, hv2, hv3⟩ := note_rel.1 ho4
  obtain ⟨X2, d2, rfl, -, -⟩ := hv2.form
  obtain ⟨X3, d3, rfl, -, -⟩ := hv3.form
  replace HB := Lib.hid (HB.out.below hb HB.out.1)
  replace HW := Lib.hid (belowNext HW.out hb)
  clear hb ho ho4 hv2 hv3 a0 a1 a2 a3
  have HX := Lib.hid (Held.new w4 #[.int .i64 x.kind, .int .i64 x.tx, .slice X2 x.locks.length d2, .slice X3 x.writes.length d3] 30)
  have HY := Lib.hid (belowOne w4 (.cells #[.int .i64 x.kind, .int .i64 x.tx, .slice X2 x.locks.length d2, .slice X3 x.writes.length d3] 30))
  have hz4 := HB.out.1
  replace HB := Lib.hid (HB.out.after (.cells #[.int .i64 x.kind, .int .i64 x.tx, .slice X2 x.locks.length d2, .slice X3 x.writes.length d3] 30))
  replace HW := Lib.hid (belowNext HW.out (belowOne w4 (.cells #[.int .i64 x.kind, .int .i64 x.tx, .slice X2 x.locks.length d2, .slice X3 x.writes.length d3] 30)))
  go_wp2_with fail
  refine (implNoteOk_any _ _ x (HO.out _ HY.out)).mono ?_
  rintro e w6 ⟨rfl, hb⟩
  replace HB := Lib.hid (HB.out.below hb HB.out.1)
  replace HX := Lib.hid (HX.out.below hb HX.out.1)
  replace HW := Lib.hid (belowNext HW.out hb)
  replace HY := Lib.hid (belowNext HY.out hb)
  clear hb
  have hz6 : w.heap.size < w6.heap.size := HB.out.1
  have hz7 : w4.heap.size < w6.heap.size := HX.out.1
  have HS := Lib.hid fun (y : World) (hy : Below w6.heap.size w6 y) => And.intro (HB.out.below hy hz6) (HX.out.below hy hz7)
  have a0 := HB.out.of 0 _ rfl
  have a1 := HB.out.of 1 _ rfl
  have a2 := HB.out.of 2 _ rfl
  have a3 := HB.out.of 3 _ rfl
  have b0 := HX.out.of 0 _ rfl
  have b1 := HX.out.of 1 _ rfl
  have b2 := HX.out.of 2 _ rfl
  have b3 := HX.out.of 3 _ rfl
  have hb0 := (Below.refl w6.heap.size w6).drew
  go_wp2
  go_region_held3 (fun w' => w'.cell? ⟨w.heap.size, 0, none⟩ = some (.int .i64 x.kind) ∧ w'.cell? ⟨w.heap.size, 1, none⟩ = some (.int .i64 x.tx) ∧ w'.cell? ⟨w.heap.size, 2, none⟩ = some (.slice A2 x.locks.length c2) ∧ w'.cell? ⟨w.heap.size, 3, none⟩ = some (.slice A3 x.writes.length c3) ∧ w'.cell? ⟨w4.heap.size, 0, none⟩ = some (.int .i64 x.kind) ∧ w'.cell? ⟨w4.heap.size, 1, none⟩ = some (.int .i64 x.tx) ∧ w'.cell? ⟨w4.heap.size, 2, none⟩ = some (.slice X2 x.locks.length d2) ∧ w'.cell? ⟨w4.heap.size, 3, none⟩ = some (.slice X3 x.writes.length d3))
    (first | exact ⟨(HS.out _ hq9).1.of 0 _ rfl, (HS.out _ hq9).1.of 1 _ rfl, (HS.out _ hq9).1.of 2 _ rfl, (HS.out _ hq9).1.of 3 _ rfl, (HS.out _ hq9).2.of 0 _ rfl, (HS.out _ hq9).2.of 1 _ rfl, (HS.out _ hq9).2.of 2 _ rfl, (HS.out _ hq9).2.of 3 _ rfl⟩ | exact ⟨(HS.out _ hq8).1.of 0 _ rfl, (HS.out _ hq8).1.of 1 _ rfl, (HS.out _ hq8).1.of 2 _ rfl, (HS.out _ hq8).1.of 3 _ rfl, (HS.out _ hq8).2.of 0 _ rfl, (HS.out _ hq8).2.of 1 _ rfl, (HS.out _ hq8).2.of 2 _ rfl, (HS.out _ hq8).2.of 3 _ rfl⟩ | exact ⟨(HS.out _ hb0).1.of 0 _ rfl, (HS.out _ hb0).1.of 1 _ rfl, (HS.out _ hb0).1.of 2 _ rfl, (HS.out _ hb0).1.of 3 _ rfl, (HS.out _ hb0).2.of 0 _ rfl, (HS.out _ hb0).2.of 1 _ rfl, (HS.out _ hb0).2.of 2 _ rfl, (HS.out _ hb0).2.of 3 _ rfl⟩)
    (first
      | (go_at_call 15; refine (toLogNote_any _ _ x (HH.out _ (belowNext HW.out hb0)) hsm).mono ?_; rintro e w8 ⟨cs8, rfl, ho8, hb8⟩; have hq8 := belowNext hb0 hb8; have HR := Lib.hid (noteSh.orel ho8); clear ho8 hb8)
      | (go_at_call 17; refine (eqLogNote_same _ _ _ x (HO.out _ (belowNext HY.out hq8)) HR.out).mono ?_; rintro e w9 ⟨rfl, hb9⟩; have hq9 := belowNext hq8 hb9; clear hb9))
  go_wp2
  go_ret
  exact ⟨rfl, belowNext HW.out hq9⟩

end Go.Proofs.Ytgapjkcjnlbgaab

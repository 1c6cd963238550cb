/- The walk of FnExactPlcOk. -/
import Derived.Test.YtfmddejgoojghaaXPlcOkS
import Derived.Test.YtfmddejgoojghaaXDel
import Derived.Test.YtfmddejgoojghaaXSmall
namespace Go.Proofs.Ytfmddejgoojghaa
open Go.RowKit


set_option maxRecDepth 100000 in
set_option maxHeartbeats 1000000 in
theorem exPlcOk_any (w : World) (p : Int) (v : Value) (its : List Item) (hv : Items w w.heap.size v its) :
    Calls Try.prog 5 #[.int .i64 p, .agg #[v]] w fun e w' => e = .returned (.bool true) ∧ Below w.heap.size w w' := by
  obtain ⟨A, c, rfl, hc2, hc1⟩ := hv.form
  have HBx := Lib.hid (Held.new w #[.slice A its.length c] 38)
  have HVx := Lib.hid (hv.alloc (Nat.le_refl _) (.cells #[.slice A its.length c] 38))
  have HWx := Lib.hid (belowOne w (.cells #[.slice A its.length c] 38))
  clear hv
  go_enter Try.func5, Try.ntmps5
  go_wp2_with fail
  refine (szStoStore_any _ _ _ (HVx.out.more (by simp)) _ (by omega) (by omega)).mono ?_
  rintro e w1 ⟨r, rfl, hr0, hr1, hr2, hb1⟩
  have HB1 := Lib.hid (HBx.out.below hb1 HBx.out.1)
  have HV1 := Lib.hid (HVx.out.below (hb1.mono (by simp)))
  have HW1 := Lib.hid (belowNext HWx.out hb1)
  have HR1 := Lib.hid hr2
  clear hb1 HBx HVx HWx hr2
  have hz1 : w.heap.size < w1.heap.size := HB1.out.1
  have c0 := HB1.out.of 0 _ rfl
  by_cases hneg : r < 0
  · go_wp2
    go_ret
    exact ⟨rfl, HW1.out⟩
  · obtain ⟨hlen, hshort⟩ := HR1.out (by omega)
    have HSh := Lib.hid hshort
    clear HR1 hshort
    go_wp2_with fail
    refine (toStoStore_any _ _ _ (HV1.out.more (by omega)) hlen HSh.out).mono ?_
    rintro e w2 ⟨g2, rfl, hg2, hm2, hb2⟩
    have HB2 := Lib.hid (HB1.out.below hb2 hz1)
    have HV2 := Lib.hid (HV1.out.below (hb2.mono (by omega)))
    have HW2 := Lib.hid (belowNext HW1.out hb2)
    have HM2 := Lib.hid (hm2.items (smallMax hlen))
    clear hb2 HB1 HV1 HW1 hm2 c0 hg2
    go_wp2_with fail
    refine (specPlcOk_any _ _ _ _ HM2.out).mono ?_
    rintro e w3 ⟨rfl, hb3⟩
    have HB3 := Lib.hid (HB2.out.below hb3 HB2.out.1)
    have HV3 := Lib.hid (HV2.out.below (hb3.mono (Nat.le_of_lt HB2.out.1)))
    have HW3 := Lib.hid (belowNext HW2.out hb3)
    have hz3 : w.heap.size < w3.heap.size := HB3.out.1
    clear hb3 HB2 HV2 HW2 HM2 hz1
    have c0 := HB3.out.of 0 _ rfl
    go_wp2_with fail
    refine (toStoStore_any _ _ _ (HV3.out.more (by omega)) hlen HSh.out).mono ?_
    rintro e w4 ⟨g4, rfl, hg4, hm4, hb4⟩
    have HB4 := Lib.hid (HB3.out.below hb4 hz3)
    have HV4 := Lib.hid (HV3.out.below (hb4.mono (by omega)))
    have HW4 := Lib.hid (belowNext HW3.out hb4)
    have HI4 := Lib.hid (hm4.items (smallMax hlen))
    clear hb4 HB3 HV3 HW3 hm4 c0 hg4
    have HX5 := Lib.hid (Held.new w4 #[.slice (some ⟨g4, 0, none⟩) its.length its.length] 43)
    have HB5 := Lib.hid (HB4.out.after (.cells #[.slice (some ⟨g4, 0, none⟩) its.length its.length] 43))
    have HV5 := Lib.hid (HV4.out.alloc (Nat.le_of_lt HB4.out.1) (.cells #[.slice (some ⟨g4, 0, none⟩) its.length its.length] 43))
    have HW5 := Lib.hid (HW4.out.alloc (Nat.le_of_lt HB4.out.1) (.cells #[.slice (some ⟨g4, 0, none⟩) its.length its.length] 43))
    have HI5 := Lib.hid (HI4.out.alloc (Nat.le_refl _) (.cells #[.slice (some ⟨g4, 0, none⟩) its.length its.length] 43))
    clear HB4 HV4 HW4 HI4
    go_wp2_with fail
    refine (implPlcOk_any _ _ _ _ (HI5.out.more (by simp))).mono ?_
    rintro e w6 ⟨rfl, hb6⟩
    have HX6 := Lib.hid (HX5.out.below hb6 HX5.out.1)
    have HB6 := Lib.hid (HB5.out.below hb6 HB5.out.1)
    have HV6 := Lib.hid (HV5.out.below (hb6.mono (Nat.le_of_lt HB5.out.1)))
    have HW6 := Lib.hid (HW5.out.trans (hb6.mono (Nat.le_of_lt HB5.out.1)))
    have HI6 := Lib.hid (HI5.out.below (hb6.mono (by simp)))
    clear hb6 HX5 HB5 HV5 HW5 HI5 hz3
    have hz6 : w.heap.size < w6.heap.size := HB6.out.1
    have hz6' : w4.heap.size < w6.heap.size := HX6.out.1
    have c0 := HB6.out.of 0 _ rfl
    have x0 := HX6.out.of 0 _ rfl
    go_wp2
    go_region_held3 (fun w' => w'.cell? ⟨w.heap.size, 0, none⟩ = some (.slice A its.length c) ∧ w'.cell? ⟨w4.heap.size, 0, none⟩ = some (.slice (some ⟨g4, 0, none⟩) its.length its.length))
      (first | exact ⟨e0, z0⟩ | exact ⟨d0, y0⟩ | exact ⟨c0, x0⟩)
      (first
        | (go_at_call 22; refine (toStoStore_any _ _ _ (Items.more (B := w.heap.size) (by exact HV6.out) (by exact Nat.le_of_lt hz6)) hlen HSh.out).mono ?_; rintro e w7 ⟨g7, rfl, hg7, hm7, hb7⟩; have HB7 := Lib.hid (HB6.out.onward hb7 rfl); have HX7 := Lib.hid (HX6.out.onward hb7 rfl); have HI7 := Lib.hid (HI6.out.onward hb7 rfl (Nat.le_of_lt hz6')); have HR7 := Lib.hid (hm7.items (smallMax hlen)); have HW7 := Lib.hid hb7; clear hm7 hb7 hg7; have d0 := HB7.out.of 0 _ rfl; have y0 := HX7.out.of 0 _ rfl)
        | (go_at_call 24; refine (eqStoStore_same _ _ _ _ HI7.out HR7.out).mono ?_; rintro e w8 ⟨rfl, hb8⟩; have HB8 := Lib.hid (HB7.out.onward hb8 rfl); have HX8 := Lib.hid (HX7.out.onward hb8 rfl); have HW8 := Lib.hid hb8; clear hb8; have e0 := HB8.out.of 0 _ rfl; have z0 := HX8.out.of 0 _ rfl))
    go_wp2
    go_ret
    exact ⟨rfl, (HW6.out.drew.trans (HW7.out.mono (Nat.le_of_lt hz6))).trans (HW8.out.mono (Nat.le_of_lt HB7.out.1))⟩

end Go.Proofs.Ytfmddejgoojghaa

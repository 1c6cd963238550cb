/- The walk of FnExactOpOk. -/
import Derived.Test.YtmkombbjjmmgjaaOpOk
namespace Go.Proofs.Ytmkombbjjmmgjaa
open Go.RowKit

set_option maxRecDepth 100000 in
theorem toOpOp_any (w : World) (o : Op) :
    Calls Try.prog 15 #[.agg #[.int .i64 o.kind, .int .i64 o.who, .int .i64 o.inn, .int .i64 o.code, .int .i64 o.sec, .int .i64 o.fam, .int .i64 o.gen]] w fun e w' => e = .returned (opV o) ∧ Below w.heap.size w w' := by
  go_enter Try.func15, Try.ntmps15
  go_wp2
  refine bodyPost_ret (v := .agg #[.int .i64 o.kind, .int .i64 o.who, .int .i64 o.inn, .int .i64 o.code, .int .i64 o.sec, .int .i64 o.fam, .int .i64 o.gen]) (by simp [results, Try.results15, go_sem]) rfl ⟨rfl, ?_⟩
  exact belowThree _ _ _ _

set_option maxRecDepth 100000 in
theorem exOpOk_any (w : World) (o : Op) :
    Calls Try.prog 4 #[opV o] w fun e w' => e = .returned (.bool true) ∧ Below w.heap.size w w' := by
  have HX := Lib.hid (Held.new w #[.int .i64 o.kind, .int .i64 o.who, .int .i64 o.inn, .int .i64 o.code, .int .i64 o.sec, .int .i64 o.fam, .int .i64 o.gen] 25)
  have HB := Lib.hid (belowOne w (.cells #[.int .i64 o.kind, .int .i64 o.who, .int .i64 o.inn, .int .i64 o.code, .int .i64 o.sec, .int .i64 o.fam, .int .i64 o.gen] 25))
  go_enter Try.func4, Try.ntmps4
  go_wp2_with fail
  refine (toOpOp_any _ _).mono ?_
  rintro e w1 ⟨rfl, hb⟩
  replace HX := Lib.hid (HX.out.below hb HX.out.1)
  replace HB := Lib.hid (belowNext HB.out hb)
  clear hb
  go_wp2_with fail
  refine (specOpOk_any _ _).mono ?_
  rintro e w2 ⟨rfl, hb⟩
  replace HX := Lib.hid (HX.out.below hb HX.out.1)
  replace HB := Lib.hid (belowNext HB.out hb)
  clear hb
  have x0 := HX.out.of 0 _ rfl
  have x1 := HX.out.of 1 _ rfl
  have x2 := HX.out.of 2 _ rfl
  have x3 := HX.out.of 3 _ rfl
  have x4 := HX.out.of 4 _ rfl
  have x5 := HX.out.of 5 _ rfl
  have x6 := HX.out.of 6 _ rfl
  go_wp2_with fail
  refine (toOpOp_any _ _).mono ?_
  rintro e w3 ⟨rfl, hb⟩
  replace HB := Lib.hid (belowNext HB.out hb)
  clear hb x0 x1 x2 x3 x4 x5 x6
  go_wp2_with fail
  refine (implOpOk_any _ _).mono ?_
  rintro e w4 ⟨rfl, hb⟩
  replace HB := Lib.hid (belowNext HB.out hb)
  clear hb
  go_wp2
  go_ret
  exact ⟨rfl, HB.out⟩

end Go.Proofs.Ytmkombbjjmmgjaa

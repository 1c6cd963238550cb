/- The walk of FnExactMsgOk. -/
import Derived.Test.YtlmcpkijcadalaaMsgS
import Derived.Test.YtlmcpkijcadalaaExOpOk
import Derived.Test.YtlmcpkijcadalaaDrawBox
namespace Go.Proofs.Ytlmcpkijcadalaa
open Go.RowKit

set_option maxRecDepth 100000 in
set_option maxHeartbeats 2000000 in
theorem toMsgMsg_any (w : World) (m : Msg) :
    Calls Try.prog 16 #[msgV m] w fun e w' => e = .returned (msgV m) ∧ Below w.heap.size w w' := by
  have HX := Lib.hid (Held.new2 w (.cells (msgC m).toArray 25) (.cells #[.int .i64 0, .int .i64 0, .int .i64 0, .int .i64 0, .int .i64 0, .int .i64 0, .int .i64 0, .int .i64 0, .int .i64 0, .int .i64 0, .int .i64 0] 29) #[.int .i64 m.kind, .int .i64 m.to_, .int .i64 m.frm, .int .i64 m.tx, .int .i64 0, .int .i64 0, .int .i64 0, .int .i64 0, .int .i64 0, .int .i64 0, .int .i64 0] 29)
  have HY := Lib.hid ((Held.new1 w (.cells (msgC m).toArray 25) #[.int .i64 0, .int .i64 0, .int .i64 0, .int .i64 0, .int .i64 0, .int .i64 0, .int .i64 0, .int .i64 0, .int .i64 0, .int .i64 0, .int .i64 0] 29).after (.cells #[.int .i64 m.kind, .int .i64 m.to_, .int .i64 m.frm, .int .i64 m.tx, .int .i64 0, .int .i64 0, .int .i64 0, .int .i64 0, .int .i64 0, .int .i64 0, .int .i64 0] 29))
  have HB := Lib.hid (belowThree w (.cells (msgC m).toArray 25) (.cells #[.int .i64 0, .int .i64 0, .int .i64 0, .int .i64 0, .int .i64 0, .int .i64 0, .int .i64 0, .int .i64 0, .int .i64 0, .int .i64 0, .int .i64 0] 29) (.cells #[.int .i64 m.kind, .int .i64 m.to_, .int .i64 m.frm, .int .i64 m.tx, .int .i64 0, .int .i64 0, .int .i64 0, .int .i64 0, .int .i64 0, .int .i64 0, .int .i64 0] 29))
  go_enter Try.func16, Try.ntmps16
  go_wp2_with fail
  refine (toOpOp_any _ m.op).mono ?_
  rintro e w1 ⟨rfl, hb⟩
  have HX1 := Lib.hid (HX.out.below hb HX.out.1)
  have HY1 := Lib.hid (HY.out.below hb HY.out.1)
  have HB1 := Lib.hid (belowNext HB.out hb)
  clear hb HX HY HB
  have x0 := HX1.out.of 0 _ rfl
  have x1 := HX1.out.of 1 _ rfl
  have x2 := HX1.out.of 2 _ rfl
  have x3 := HX1.out.of 3 _ rfl
  have fx := HX1.out.2.1
  have fy := HY1.out.2.1
  have x4 := HX1.out.of 4 _ rfl
  have x5 := HX1.out.of 5 _ rfl
  have x6 := HX1.out.of 6 _ rfl
  have x7 := HX1.out.of 7 _ rfl
  have x8 := HX1.out.of 8 _ rfl
  have x9 := HX1.out.of 9 _ rfl
  have x10 := HX1.out.of 10 _ rfl
  have y0 := HY1.out.of 0 _ rfl
  have y1 := HY1.out.of 1 _ rfl
  have y2 := HY1.out.of 2 _ rfl
  have y3 := HY1.out.of 3 _ rfl
  have y4 := HY1.out.of 4 _ rfl
  have y5 := HY1.out.of 5 _ rfl
  have y6 := HY1.out.of 6 _ rfl
  have y7 := HY1.out.of 7 _ rfl
  have y8 := HY1.out.of 8 _ rfl
  have y9 := HY1.out.of 9 _ rfl
  have y10 := HY1.out.of 10 _ rfl
  go_wp2
  refine bodyPost_ret (v := msgV m) (by simp [results, Try.results16, go_sem, y0, y1, y2, y3, y4, y5, y6, y7, y8, y9, y10]) rfl ⟨rfl, ?_⟩
  repeat (refine Below.setCell ?_ (show w.heap.size ≤ _ by dsimp only; omega) _)
  exact HB1.out

set_option maxRecDepth 100000 in
set_option maxHeartbeats 1000000 in
theorem exMsgOk_any (w : World) (m : Msg) :
    Calls Try.prog 3 #[msgV m] w fun e w' => e = .returned (.bool true) ∧ Below w.heap.size w w' := by
  have HX := Lib.hid (Held.new w (msgC m).toArray 25)
  have HB := Lib.hid (belowOne w (.cells (msgC m).toArray 25))
  go_enter Try.func3, Try.ntmps3
  go_wp2_with fail
  refine (toMsgMsg_any _ m).mono ?_
  rintro e w1 ⟨rfl, hb⟩
  replace HX := Lib.hid (HX.out.below hb HX.out.1)
  replace HB := Lib.hid (belowNext HB.out hb)
  clear hb
  go_wp2_with fail
  refine (specMsgOk_any _ m).mono ?_
  rintro e w2 ⟨rfl, hb⟩
  replace HX := Lib.hid (HX.out.below hb HX.out.1)
  replace HB := Lib.hid (belowNext HB.out hb)
  clear hb
  have x0 := HX.out.of 0 _ rfl
  have x1 := HX.out.of 1 _ rfl
  have x2 := HX.out.of 2 _ rfl
  have x3 := HX.out.of 3 _ rfl
  have x4 := HX.out.of 4 _ rfl
  have x5 := HX.out.of 5 _ rfl
  have x6 := HX.out.of 6 _ rfl
  have x7 := HX.out.of 7 _ rfl
  have x8 := HX.out.of 8 _ rfl
  have x9 := HX.out.of 9 _ rfl
  have x10 := HX.out.of 10 _ rfl
  go_wp2_with fail
  refine (toMsgMsg_any _ m).mono ?_
  rintro e w3 ⟨rfl, hb⟩
  replace HB := Lib.hid (belowNext HB.out hb)
  clear hb x0 x1 x2 x3 x4 x5 x6 x7 x8 x9 x10
  go_wp2_with fail
  refine (implMsgOk_any _ m).mono ?_
  rintro e w4 ⟨rfl, hb⟩
  replace HB := Lib.hid (belowNext HB.out hb)
  clear hb
  go_wp2
  go_ret
  exact ⟨rfl, HB.out⟩

end Go.Proofs.Ytlmcpkijcadalaa

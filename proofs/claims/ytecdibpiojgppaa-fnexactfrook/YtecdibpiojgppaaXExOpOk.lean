/- The walk of FnExactOpOk. -/
import Derived.Test.YtecdibpiojgppaaXOpOk
namespace Go.Proofs.Ytecdibpiojgppaa
open Go.RowKit

set_option maxRecDepth 100000 in
theorem toOpOp_any (w : World) (o : Op) :
    Calls Try.prog 169 #[.agg #[.int .i64 o.kind, .int .i64 o.who, .int .i64 o.inn, .int .i64 o.code, .int .i64 o.sec, .int .i64 o.fam, .int .i64 o.gen]] w fun e w' => e = .returned (opV o) ∧ Below w.heap.size w w' := by
  go_enter Try.func169, Try.ntmps169
  go_wp2
  refine bodyPost_ret (v := .agg #[.int .i64 o.kind, .int .i64 o.who, .int .i64 o.inn, .int .i64 o.code, .int .i64 o.sec, .int .i64 o.fam, .int .i64 o.gen]) (by simp [results, Try.results169, go_sem]) rfl ⟨rfl, ?_⟩
  exact belowThree _ _ _ _

end Go.Proofs.Ytecdibpiojgppaa

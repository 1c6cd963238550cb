/- The walk of FnExactSecSum. -/
import Derived.Test.YtmkombbjjmmgjaaSecSum
import Derived.Test.YtmkombbjjmmgjaaMem
namespace Go.Proofs.Ytmkombbjjmmgjaa
open Go.RowKit

theorem exSecSum_any (w : World) (n : Int) :
    Calls Try.prog 3 #[.int .i64 n] w fun e w' => e = .returned (.bool true) ∧ Below w.heap.size w w' := by
  go_enter Try.func3, Try.ntmps3
  go_wp2_with fail
  refine (specSecSum_any _ _).mono ?_
  rintro e w' ⟨rfl, rfl⟩
  go_wp2_with fail
  refine (implSecSum_any _ _).mono ?_
  rintro e w' ⟨rfl, rfl⟩
  go_wp2
  go_ret
  exact ⟨rfl, Below.refl _ _⟩

end Go.Proofs.Ytmkombbjjmmgjaa

/- A secret is drawn. -/
import Derived.Test.YtmkombbjjmmgjaaOpen
namespace Go.Proofs.Ytmkombbjjmmgjaa
open Go.RowKit

set_option maxRecDepth 100000 in
theorem drawSecSum_any (w : World) (v : Value) (n : Nat) (hv : Code8 w v n) :
    Calls Try.prog 27 #[v] w fun e w' => ∃ m : Int, e = .returned (.int .i64 m) ∧ -1 ≤ m ∧ m ≤ 100 ∧ Below w.heap.size w w' := by
  go_enter Try.func27, Try.ntmps27
  go_wp2_with fail
  refine (l20Open_any _ _ _ hv).mono ?_
  rintro e w1 ⟨rfl, hr, hb1⟩
  have HB := Lib.hid hb1
  clear hb1 hv
  go_wp2_with fail
  refine (pick_any _ _ _ _ hr (by omega) (by omega) (by omega)).mono ?_
  rintro e w2 ⟨m, rfl, h0, h1, -, hg⟩
  have HB2 := Lib.hid (HB.out.trans ((Below.refl w.heap.size w1).grown hg HB.out.size (fun b hb => by injection hb with hb; omega)))
  have h2 : m < 102 := h1 (by omega)
  clear hg hr h1
  go_wp2
  go_ret
  exact ⟨m - 1, rfl, by omega, by omega, HB2.out⟩

end Go.Proofs.Ytmkombbjjmmgjaa

/- The walk of FnSecSum. -/
import Derived.Test.YtmkombbjjmmgjaaDrawSec
import Derived.Test.YtmkombbjjmmgjaaSecSum
import Derived.Test.YtmkombbjjmmgjaaJaOk
namespace Go.Proofs.Ytmkombbjjmmgjaa
open Go.RowKit

theorem secS_in {n : Int} (h : 0 ≤ n) (h' : n ≤ 99) : 0 ≤ secS n ∧ secS n ≤ 9999 ∧ secS n ≠ n := by
  rw [secS_yes h h']; omega
theorem secS_inj {a b : Int} (h : 0 ≤ a) (h' : a ≤ 99) (k : 0 ≤ b) (k' : b ≤ 99) : (secS b == secS a) = (a == b) := by
  rw [Bool.eq_iff_iff, secS_yes h h', secS_yes k k']; simp; omega

set_option maxRecDepth 100000 in
set_option maxHeartbeats 1000000 in
theorem lawSecSum_any (w : World) (v : Value) (n : Nat) (hv : Code8 w v n) (u : Value) (m : Nat) (hu : Code8 w u m) :
    Calls Try.prog 7 #[v, u] w fun e w' => e = .returned (.bool true) ∧ Below w.heap.size w w' := by
  have HV := Lib.hid hv
  have HU := Lib.hid hu
  obtain ⟨A, c, f, rfl, h1, h2, -, -⟩ := hv
  obtain ⟨A', c', f', rfl, h3, h4, -, -⟩ := hu
  unfold maxLen at h2 h4
  by_cases hn : 1048576 < n
  · clear HV HU
    go_enter Try.func7, Try.ntmps7
    go_wp2
    go_ret
    exact ⟨rfl, Below.refl _ _⟩
  have hn' : n ≤ 1048576 := by omega
  clear hn
  by_cases hm : 1048576 < m
  · clear HV HU
    go_enter Try.func7, Try.ntmps7
    go_wp2
    go_ret
    exact ⟨rfl, Below.refl _ _⟩
  have hm' : m ≤ 1048576 := by omega
  clear hm
  go_enter Try.func7, Try.ntmps7
  go_wp2_with fail
  refine (drawSecSum_any _ _ _ HV.out).mono ?_
  rintro e w1 ⟨a, rfl, a0, a1, hb⟩
  have HB := Lib.hid hb
  have HU1 := Lib.hid (HU.out.below hb)
  clear hb HU HV
  go_wp2_with fail
  refine (drawSecSum_any _ _ _ HU1.out).mono ?_
  rintro e w2 ⟨b, rfl, b0, b1, hb⟩
  replace HB := Lib.hid (belowNext HB.out hb)
  clear hb HU1
  go_wp2_with fail
  refine (implSecSum_any _ _).mono ?_
  rintro e w3 ⟨rfl, rfl⟩
  go_wp2_with fail
  refine (specSecSum_any _ _).mono ?_
  rintro e w3 ⟨rfl, rfl⟩
  by_cases ha : a < 0 ∨ 99 < a
  · have hs := secS_no ha
    rw [hs]
    clear hs
    rcases ha with ha | ha
    all_goals
      go_wp2_with (go_at_call 28; refine (jaOk_any _).mono ?_; rintro e w4 ⟨rfl, hb4⟩; have HB4 := Lib.hid (belowNext HB.out hb4); clear hb4)
      go_ret
      exact ⟨rfl, HB4.out⟩
  have ha0 : 0 ≤ a := by omega
  have ha1 : a ≤ 99 := by omega
  clear ha a0 a1
  obtain ⟨q0, q1, q2⟩ := secS_in ha0 ha1
  have q3 : (secS a != a) = true := by simpa using q2
  by_cases hb : b < 0 ∨ 99 < b
  · rcases hb with hb | hb
    all_goals
      go_wp2
      go_ret
      exact ⟨rfl, HB.out⟩
  have hb0 : 0 ≤ b := by omega
  have hb1 : b ≤ 99 := by omega
  clear hb b0 b1
  have hi := secS_inj ha0 ha1 hb0 hb1
  clear q2
  go_wp2_with (go_at_call 13; refine (implSecSum_any _ _).mono ?_; rintro e w4 ⟨rfl, rfl⟩)
  go_ret
  exact ⟨rfl, HB.out⟩

end Go.Proofs.Ytmkombbjjmmgjaa

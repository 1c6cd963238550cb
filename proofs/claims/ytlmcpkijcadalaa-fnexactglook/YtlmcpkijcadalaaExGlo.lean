/- The walks of FnExactGloNew and FnExactGloOk. -/
import Derived.Test.YtlmcpkijcadalaaGlo
import Derived.Test.YtlmcpkijcadalaaMStoStore
import Derived.Test.YtlmcpkijcadalaaMarkWt
namespace Go.Proofs.Ytlmcpkijcadalaa
open Go.RowKit

theorem newG_wt : stosSh.wt newG = 3 := rfl
theorem newG_cnt : cntL stoSh.cnt newG = 0 := rfl
set_option maxRecDepth 100000 in
set_option maxHeartbeats 1000000 in
theorem exGloOk_any (w : World) (v : Value) (xs : List Sto) (hv : stoSh.Row w w.heap.size v xs) :
    Calls Try.prog 13 #[v] w fun e w' => e = .returned (.bool true) ∧ Below w.heap.size w w' := by
  obtain ⟨A, c, rfl, hc2, hc1⟩ := hv.form
  have HV := Lib.hid fun W (h : Below w.heap.size w W) => (hv.below h).more h.size
  clear hv
  by_cases hwt : stosSh.wt xs ≤ 1048576
  · have hl := less_yes (left := 1048576) (n := (stosSh.wt xs : Int)) (by omega)
    go_enter Try.func13, Try.ntmps13
    go_wp2_with fail
    refine (szStoStoreS_sh _ _ xs (HV.out _ (Below.refl _ _)) _ (by omega) (by omega)).mono ?_
    rintro e w1 ⟨rfl, hb1⟩
    rw [hl]
    have HB1 := Lib.hid hb1
    clear hb1 hl
    go_wp2_with fail
    refine (toStoStoreS_sh _ _ xs (HV.out _ HB1.out) hwt).mono ?_
    rintro e w2 ⟨u2, rfl, ho2, hb2⟩
    have HB2 := Lib.hid (belowNext HB1.out hb2)
    have HO2 := Lib.hid ho2.row
    clear hb2 ho2 HB1
    go_wp2_with fail
    refine (specGloOk_any _ _ xs HO2.out).mono ?_
    rintro e w3 ⟨rfl, hb3⟩
    have HB3 := Lib.hid (belowNext HB2.out hb3)
    clear hb3 HB2 HO2
    go_wp2_with fail
    refine (toStoStoreS_sh _ _ xs (HV.out _ HB3.out) hwt).mono ?_
    rintro e w4 ⟨u4, rfl, ho4, hb4⟩
    have HB4 := Lib.hid (belowNext HB3.out hb4)
    have HO4 := Lib.hid ho4.row
    clear hb4 ho4 HB3
    go_wp2_with fail
    refine (implGloOk_any _ _ xs HO4.out).mono ?_
    rintro e w5 ⟨rfl, hb5⟩
    have HB5 := Lib.hid (belowNext HB4.out hb5)
    have HO5 := Lib.hid ((HO4.out.below hb5).more hb5.size)
    clear hb5 HB4 HO4
    cases hg : gloB xs
    all_goals (
      go_wp2_with fail
      refine (toStoStoreS_sh _ _ xs (HV.out _ HB5.out) hwt).mono ?_
      rintro e w6 ⟨u6, rfl, ho6, hb6⟩
      have HB6 := Lib.hid (belowNext HB5.out hb6)
      have HO6 := Lib.hid ((HO5.out.below hb6).more hb6.size)
      have HP6 := Lib.hid ho6.row
      clear hb6 ho6
      go_wp2_with fail
      refine (eqStoStoreS_alike _ _ _ xs HO6.out HP6.out).mono ?_
      rintro e w7 ⟨rfl, hb7⟩
      have HB7 := Lib.hid (belowNext HB6.out hb7)
      clear hb7
      go_wp2
      go_ret
      exact ⟨rfl, HB7.out⟩)
  · have hl := less_no (left := 1048576) (n := (stosSh.wt xs : Int)) (by omega)
    go_enter Try.func13, Try.ntmps13
    go_wp2_with fail
    refine (szStoStoreS_sh _ _ xs (HV.out _ (Below.refl _ _)) _ (by omega) (by omega)).mono ?_
    rintro e w1 ⟨rfl, hb1⟩
    rw [hl]
    go_wp2
    go_ret
    exact ⟨rfl, hb1⟩

end Go.Proofs.Ytlmcpkijcadalaa

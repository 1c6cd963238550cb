/- The model's places are the call's own. By drawppgen.py. -/
import Derived.Test.YtecdibpiojgppaaGreatXExOpOk
import Derived.Test.YtecdibpiojgppaaGreatXIntsOne
namespace Go.Proofs.YtecdibpiojgppaaGreat
open Go.RowKit

set_option maxRecDepth 100000 in
theorem specOpPlaces_own (w : World) (o : Op) : Calls Tryz.prog 45 #[opV o] w fun e w' => ∃ u, e = .returned u ∧ OwnInts w' w.heap.size u (placesP o) ∧ Below w.heap.size w w' := by
  have HB := Lib.hid (belowOne w (.cells #[.int .i64 o.kind, .int .i64 o.who, .int .i64 o.inn, .int .i64 o.code, .int .i64 o.sec, .int .i64 o.fam, .int .i64 o.gen] 25))
  have HX := Lib.hid (Held.new w #[.int .i64 o.kind, .int .i64 o.who, .int .i64 o.inn, .int .i64 o.code, .int .i64 o.sec, .int .i64 o.fam, .int .i64 o.gen] 25)
  rcases ho : opB o
  · have HP := Lib.hid (show placesP o = [] by unfold placesP; rw [ho]; rfl)
    go_enter Tryz.func45, Tryz.ntmps45
    go_wp2_with fail
    refine (specOpOk_any _ _).mono ?_
    rintro e w1 ⟨rfl, hb⟩
    rw [ho]
    replace HB := Lib.hid (belowNext HB.out hb)
    clear hb HX
    go_wp2
    rw [HP.out]
    go_ret
    exact ⟨_, rfl, OwnInts.lit w1 w.heap.size HB.out.size [] (by unfold maxLen; simp), belowNext HB.out (belowOne _ _)⟩
  have HP := Lib.hid (show placesP o = upto o 4 by unfold placesP; rw [ho]; rfl)
  have HK := Lib.hid (opK_kind ho)
  go_enter Tryz.func45, Tryz.ntmps45
  go_wp2_with fail
  refine (specOpOk_any _ _).mono ?_
  rintro e w1 ⟨rfl, hb⟩
  rw [ho]
  replace HB := Lib.hid (belowNext HB.out hb)
  replace HX := Lib.hid (HX.out.below hb HX.out.1)
  clear hb ho
  have x0 := HX.out.of 0 _ rfl
  have hz : w.heap.size < w1.heap.size := HX.out.1
  by_cases h1 : o.kind = 1
  · have t1 : (o.kind == 1) = true := by rw [h1]; rfl
    have HQ := Lib.hid (HP.out.trans (upto_1 h1))
    have e2 : (o.kind == 2) = false := by rw [h1]; rfl
    have e5 : (o.kind == 5) = false := by rw [h1]; rfl
    clear h1
    go_wp2
    rw [HQ.out]
    go_ret
    exact ⟨_, rfl, OwnInts.lit w1 w.heap.size HB.out.size [1, 3] (by unfold maxLen; simp), belowNext HB.out (belowOne _ _)⟩
  by_cases h2 : o.kind = 2
  · have t2 : (o.kind == 2) = true := by rw [h2]; rfl
    have HQ := Lib.hid (HP.out.trans (upto_2 (.inl h2)))
    have e1 : (o.kind == 1) = false := by rw [h2]; rfl
    have e5 : (o.kind == 5) = false := by rw [h2]; rfl
    clear h2
    go_wp2
    rw [HQ.out]
    go_ret
    exact ⟨_, rfl, OwnInts.lit w1 w.heap.size HB.out.size [1, 2, 3] (by unfold maxLen; simp), belowNext HB.out (belowOne _ _)⟩
  by_cases h3 : o.kind = 3
  · have t3 : (o.kind == 3) = true := by rw [h3]; rfl
    have HQ := Lib.hid (HP.out.trans (upto_3 (.inl h3)))
    have e1 : (o.kind == 1) = false := by rw [h3]; rfl
    have e2 : (o.kind == 2) = false := by rw [h3]; rfl
    have e5 : (o.kind == 5) = false := by rw [h3]; rfl
    clear h3
    go_wp2
    rw [HQ.out]
    go_ret
    exact ⟨_, rfl, OwnInts.lit w1 w.heap.size HB.out.size [2, 3] (by unfold maxLen; simp), belowNext HB.out (belowOne _ _)⟩
  by_cases h4 : o.kind = 4
  · have t4 : (o.kind == 4) = true := by rw [h4]; rfl
    have HQ := Lib.hid (HP.out.trans (upto_3 (.inr h4)))
    have e1 : (o.kind == 1) = false := by rw [h4]; rfl
    have e2 : (o.kind == 2) = false := by rw [h4]; rfl
    have e5 : (o.kind == 5) = false := by rw [h4]; rfl
    clear h4
    go_wp2
    rw [HQ.out]
    go_ret
    exact ⟨_, rfl, OwnInts.lit w1 w.heap.size HB.out.size [2, 3] (by unfold maxLen; simp), belowNext HB.out (belowOne _ _)⟩
  by_cases h5 : o.kind = 5
  · have t5 : (o.kind == 5) = true := by rw [h5]; rfl
    have HQ := Lib.hid (HP.out.trans (upto_2 (.inr h5)))
    have e1 : (o.kind == 1) = false := by rw [h5]; rfl
    have e2 : (o.kind == 2) = false := by rw [h5]; rfl
    clear h5
    go_wp2
    rw [HQ.out]
    go_ret
    exact ⟨_, rfl, OwnInts.lit w1 w.heap.size HB.out.size [1, 2, 3] (by unfold maxLen; simp), belowNext HB.out (belowOne _ _)⟩
  exact absurd HK.out (by omega)

end Go.Proofs.YtecdibpiojgppaaGreat

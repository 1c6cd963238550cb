/- OpPlaces of the model; the walk of FnExactOpPlaces. -/
import Derived.Test.YtmkombbjjmmgjaaOpPlaces
import Derived.Test.YtmkombbjjmmgjaaExOpOk
import Derived.Test.YtmkombbjjmmgjaaMark
namespace Go.Proofs.Ytmkombbjjmmgjaa
open Go.RowKit

theorem upto_1 {o : Op} (h : o.kind = 1) : upto o 4 = [1, 3] := by simp [upto, hereB, h, List.filter]
theorem upto_2 {o : Op} (h : o.kind = 2 ∨ o.kind = 5) : upto o 4 = [1, 2, 3] := by rcases h with h | h <;> simp [upto, hereB, h, List.filter]
theorem upto_3 {o : Op} (h : o.kind = 3 ∨ o.kind = 4) : upto o 4 = [2, 3] := by rcases h with h | h <;> simp [upto, hereB, h, List.filter]
theorem intsMade (w : World) (xs : List Int) (cells : Array Value) (hc : cells.toList = xs.map (Value.int .i64)) (hl : xs.length ≤ maxLen) : Ints (w.alloc (.cells cells 3)) (w.alloc (.cells cells 3)).heap.size (.slice (some ⟨w.heap.size, 0, none⟩) xs.length xs.length) xs :=
  ints_row.1 (ints_lit w xs cells hc hl).row

set_option maxRecDepth 100000 in
set_option maxHeartbeats 2000000 in
theorem specOpPlaces_any (w : World) (o : Op) : Calls Try.prog 17 #[opV o] w fun e w' => ∃ u, e = .returned u ∧ Ints w' w'.heap.size u (placesP o) ∧ Below w.heap.size w w' := by
  have HB := Lib.hid (belowOne w (.cells #[.int .i64 o.kind, .int .i64 o.who, .int .i64 o.inn, .int .i64 o.code, .int .i64 o.sec, .int .i64 o.fam, .int .i64 o.gen] 27))
  have HX := Lib.hid (Held.new w #[.int .i64 o.kind, .int .i64 o.who, .int .i64 o.inn, .int .i64 o.code, .int .i64 o.sec, .int .i64 o.fam, .int .i64 o.gen] 27)
  rcases ho : opB o
  · have HP := Lib.hid (show placesP o = [] by unfold placesP; rw [ho]; rfl)
    go_enter Try.func17, Try.ntmps17
    go_wp2_with fail
    refine (specOpOk_any _ _).mono ?_
    rintro e w1 ⟨rfl, hb⟩
    rw [ho]
    replace HB := Lib.hid (belowNext HB.out hb)
    clear hb HX
    go_wp2
    rw [HP.out]
    go_ret
    exact ⟨_, rfl, intsMade w1 [] #[] rfl (by unfold maxLen; simp), belowNext HB.out (belowOne _ _)⟩
  have HP := Lib.hid (show placesP o = upto o 4 by unfold placesP; rw [ho]; rfl)
  have HK := Lib.hid (opK_kind ho)
  go_enter Try.func17, Try.ntmps17
  go_wp2_with fail
  refine (specOpOk_any _ _).mono ?_
  rintro e w1 ⟨rfl, hb⟩
  rw [ho]
  replace HB := Lib.hid (belowNext HB.out hb)
  replace HX := Lib.hid (HX.out.below hb HX.out.1)
  clear hb ho
  have x0 := HX.out.of 0 _ rfl
  have hz : w.heap.size < w1.heap.size := HX.out.1
  by_cases h1 : o.kind = 1
  · have t1 : (o.kind == 1) = true := by rw [h1]; rfl
    have HQ := Lib.hid (HP.out.trans (upto_1 h1))
    have e2 : (o.kind == 2) = false := by rw [h1]; rfl
    have e5 : (o.kind == 5) = false := by rw [h1]; rfl
    clear h1
    go_wp2
    rw [HQ.out]
    go_ret
    exact ⟨_, rfl, intsMade w1 [1, 3] #[.int .i64 1, .int .i64 3] rfl (by unfold maxLen; simp), belowNext HB.out (belowOne _ _)⟩
  by_cases h2 : o.kind = 2
  · have t2 : (o.kind == 2) = true := by rw [h2]; rfl
    have HQ := Lib.hid (HP.out.trans (upto_2 (.inl h2)))
    have e1 : (o.kind == 1) = false := by rw [h2]; rfl
    have e5 : (o.kind == 5) = false := by rw [h2]; rfl
    clear h2
    go_wp2
    rw [HQ.out]
    go_ret
    exact ⟨_, rfl, intsMade w1 [1, 2, 3] #[.int .i64 1, .int .i64 2, .int .i64 3] rfl (by unfold maxLen; simp), belowNext HB.out (belowOne _ _)⟩
  by_cases h3 : o.kind = 3
  · have t3 : (o.kind == 3) = true := by rw [h3]; rfl
    have HQ := Lib.hid (HP.out.trans (upto_3 (.inl h3)))
    have e1 : (o.kind == 1) = false := by rw [h3]; rfl
    have e2 : (o.kind == 2) = false := by rw [h3]; rfl
    have e5 : (o.kind == 5) = false := by rw [h3]; rfl
    clear h3
    go_wp2
    rw [HQ.out]
    go_ret
    exact ⟨_, rfl, intsMade w1 [2, 3] #[.int .i64 2, .int .i64 3] rfl (by unfold maxLen; simp), belowNext HB.out (belowOne _ _)⟩
  by_cases h4 : o.kind = 4
  · have t4 : (o.kind == 4) = true := by rw [h4]; rfl
    have HQ := Lib.hid (HP.out.trans (upto_3 (.inr h4)))
    have e1 : (o.kind == 1) = false := by rw [h4]; rfl
    have e2 : (o.kind == 2) = false := by rw [h4]; rfl
    have e5 : (o.kind == 5) = false := by rw [h4]; rfl
    clear h4
    go_wp2
    rw [HQ.out]
    go_ret
    exact ⟨_, rfl, intsMade w1 [2, 3] #[.int .i64 2, .int .i64 3] rfl (by unfold maxLen; simp), belowNext HB.out (belowOne _ _)⟩
  by_cases h5 : o.kind = 5
  · have t5 : (o.kind == 5) = true := by rw [h5]; rfl
    have HQ := Lib.hid (HP.out.trans (upto_2 (.inr h5)))
    have e1 : (o.kind == 1) = false := by rw [h5]; rfl
    have e2 : (o.kind == 2) = false := by rw [h5]; rfl
    clear h5
    go_wp2
    rw [HQ.out]
    go_ret
    exact ⟨_, rfl, intsMade w1 [1, 2, 3] #[.int .i64 1, .int .i64 2, .int .i64 3] rfl (by unfold maxLen; simp), belowNext HB.out (belowOne _ _)⟩
  exact absurd HK.out (by omega)

theorem placesP_len (o : Op) : (placesP o).length ≤ 3 := by
  unfold placesP
  split
  · exact upto_len o 4
  · simp

set_option maxRecDepth 100000 in
set_option maxHeartbeats 2000000 in
theorem exOpPlaces_any (w : World) (o : Op) :
    Calls Try.prog 5 #[opV o] w fun e w' => e = .returned (.bool true) ∧ Below w.heap.size w w' := by
  have hlen := placesP_len o
  obtain ⟨X, hX⟩ : ∃ X, placesP o = X := ⟨_, rfl⟩
  rw [hX] at hlen
  have HE := Lib.hid hX
  clear hX
  have HX := Lib.hid (Held.new w #[.int .i64 o.kind, .int .i64 o.who, .int .i64 o.inn, .int .i64 o.code, .int .i64 o.sec, .int .i64 o.fam, .int .i64 o.gen] 25)
  have HB := Lib.hid (belowOne w (.cells #[.int .i64 o.kind, .int .i64 o.who, .int .i64 o.inn, .int .i64 o.code, .int .i64 o.sec, .int .i64 o.fam, .int .i64 o.gen] 25))
  go_enter Try.func5, Try.ntmps5
  go_wp2_with fail
  refine (toOpOp_any _ _).mono ?_
  rintro e w1 ⟨rfl, hb⟩
  replace HX := Lib.hid (HX.out.below hb HX.out.1)
  replace HB := Lib.hid (belowNext HB.out hb)
  clear hb
  go_wp2_with fail
  refine (specOpPlaces_any _ _).mono ?_
  rintro e w2 ⟨u0, rfl, hu, hb⟩
  replace HX := Lib.hid (HX.out.below hb HX.out.1)
  replace HB := Lib.hid (belowNext HB.out hb)
  rw [HE.out] at hu
  have HU := Lib.hid hu
  clear hu
  clear hb
  have x0 := HX.out.of 0 _ rfl
  have x1 := HX.out.of 1 _ rfl
  have x2 := HX.out.of 2 _ rfl
  have x3 := HX.out.of 3 _ rfl
  have x4 := HX.out.of 4 _ rfl
  have x5 := HX.out.of 5 _ rfl
  have x6 := HX.out.of 6 _ rfl
  go_wp2_with fail
  refine (toOpOp_any _ _).mono ?_
  rintro e w3 ⟨rfl, hb⟩
  replace HX := Lib.hid (HX.out.below hb HX.out.1)
  replace HB := Lib.hid (belowNext HB.out hb)
  replace HU := Lib.hid ((HU.out.below hb).more hb.size)
  clear hb
  clear x0 x1 x2 x3 x4 x5 x6
  go_wp2_with fail
  have HW3 := Lib.hid (show w.heap.size < w3.heap.size from HX.out.1)
  refine (implOpPlaces_any _ _).mono ?_
  rintro e w4 ⟨u1, rfl, ho, hb⟩
  replace HX := Lib.hid (HX.out.below hb HX.out.1)
  replace HB := Lib.hid (belowNext HB.out hb)
  rw [HE.out] at ho
  replace HU := Lib.hid (HU.out.below hb)
  have HO := Lib.hid ho
  have hz34 : w3.heap.size ≤ w4.heap.size := hb.size
  clear ho
  clear hb
  have hz3 : w.heap.size < w4.heap.size := HX.out.1
  go_wp2_with fail
  refine (eqIntS_any _ w4.heap.size _ _ X X HO.out.ints (HU.out.more hz34)).mono ?_
  rintro e w' ⟨rfl, n, rfl⟩
  replace HX := Lib.hid (show Held (w4.drewN n) w.heap.size _ from HX.out)
  replace HB := Lib.hid (belowDraws HB.out n)
  replace HU := Lib.hid (show Ints (w4.drewN n) w3.heap.size u0 X from HU.out)
  replace HO := Lib.hid (show OwnInts (w4.drewN n) w3.heap.size u1 X from HO.out)
  have hz34 : w3.heap.size ≤ (w4.drewN n).heap.size := hz34
  have hz3 : w.heap.size < (w4.drewN n).heap.size := hz3
  generalize w4.drewN n = w5 at *
  have hw3 : w.heap.size < w3.heap.size := HW3.out
  go_wp2_with fail
  refine (markIntS_any _ _ _ _ HO.out 1 (by omega) (by omega) (by omega)).mono ?_
  rintro e w6 ⟨ys, rfl, hyl, hym, hyo, hyg, hyz⟩
  have hb6 : Below w3.heap.size w5 w6 := belowGrown hyg (ownLo HO.out) (by omega)
  replace HX := Lib.hid (HX.out.below hb6 hw3)
  replace HB := Lib.hid (HB.out.trans (hb6.mono (by omega)))
  replace HU := Lib.hid (HU.out.below hb6)
  replace HO := Lib.hid hyo
  have HY := Lib.hid (show Marked ys 1 ys.length from hyl.symm ▸ hym)
  have HYl := Lib.hid hyl
  have hyl1 : ys.length ≤ 1048576 := by omega
  have hz6 : w3.heap.size ≤ w6.heap.size := Nat.le_trans hz34 hb6.size
  clear hyl hym hyo hyg hyz hb6 hz34 hz3
  rw [← HYl.out]
  go_wp2_with fail
  refine (heldIntS_any _ _ _ _ HO.out.ints 1 (by omega) (by omega) hyl1 HY.out).mono ?_
  rintro e w' ⟨rfl, rfl⟩
  have x0 := HX.out.of 0 _ rfl
  have x1 := HX.out.of 1 _ rfl
  have x2 := HX.out.of 2 _ rfl
  have x3 := HX.out.of 3 _ rfl
  have x4 := HX.out.of 4 _ rfl
  have x5 := HX.out.of 5 _ rfl
  have x6 := HX.out.of 6 _ rfl
  go_wp2_with fail
  refine (toOpOp_any _ _).mono ?_
  rintro e w7 ⟨rfl, hb⟩
  replace HB := Lib.hid (belowNext HB.out hb)
  replace HU := Lib.hid (HU.out.below (hb.mono hz6))
  replace HO := Lib.hid (HO.out.below hb)
  have hz7 : w3.heap.size ≤ w7.heap.size := Nat.le_trans hz6 hb.size
  clear hb x0 x1 x2 x3 x4 x5 x6 HX hz6
  go_wp2_with fail
  refine (implOpPlaces_any _ _).mono ?_
  rintro e w8 ⟨u2, rfl, ho2, hb⟩
  rw [HE.out] at ho2
  replace HB := Lib.hid (belowNext HB.out hb)
  replace HU := Lib.hid (HU.out.below (hb.mono hz7))
  replace HO := Lib.hid (HO.out.below hb)
  have HP := Lib.hid ho2.ints
  have hz8 : w3.heap.size ≤ w8.heap.size := Nat.le_trans hz7 hb.size
  clear hb ho2 hz7
  go_wp2_with fail
  refine (eqIntS_any _ w8.heap.size _ _ X X HP.out (HU.out.more hz8)).mono ?_
  rintro e w' ⟨rfl, n3, rfl⟩
  go_wp2_with fail
  refine (heldIntS_any _ _ _ _ (show Ints (w8.drewN n3) w8.heap.size u1 ys from HO.out.ints) 1 (by omega) (by omega) hyl1 HY.out).mono ?_
  rintro e w' ⟨rfl, rfl⟩
  go_wp2
  go_ret
  exact ⟨rfl, belowDraws HB.out _⟩

end Go.Proofs.Ytmkombbjjmmgjaa

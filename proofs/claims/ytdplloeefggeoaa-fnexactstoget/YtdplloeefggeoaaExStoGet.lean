/- The walk of FnExactStoGet. -/
import Derived.Test.YtdplloeefggeoaaGet
import Derived.Test.YtdplloeefggeoaaSmall
import Derived.Test.YtdplloeefggeoaaMarkSto
namespace Go.Proofs.Ytdplloeefggeoaa
open Go.RowKit

theorem ownLo {w : World} {lo : Nat} {v : Value} {xs : List Int} (h : OwnInts w lo v xs) : ∀ b, v.ownBlock = some b → lo ≤ b := fun b hb => (h.lt b hb).1
theorem belowGrown {B : Nat} {w w' : World} {v : Value} (hg : w.grownBy w' v.ownBlock) (h : ∀ b, v.ownBlock = some b → B ≤ b) (hB : B ≤ w.heap.size) : Below B w w' := (Below.refl B w).grown hg hB h
theorem lookV_short {its : List Item} (hs : Short its its.length) (key : ByteArray) : (lookV its key).length ≤ 1048576 := by
  unfold lookV
  split
  · rename_i x hx
    have hm := List.mem_of_find?_eq_some hx
    obtain ⟨j, hj, rfl⟩ := List.getElem_of_mem hm
    exact (hs j _ hj (List.getElem?_eq_getElem hj)).2
  · simp
theorem getV_short {its : List Item} (hs : Short its its.length) (key : ByteArray) : (getV its key).length ≤ 1048576 := by
  unfold getV
  split
  · exact lookV_short hs key
  · simp

set_option maxRecDepth 100000 in
set_option maxHeartbeats 1000000 in
theorem exStoGet_any (w : World) (v : Value) (its : List Item) (key : ByteArray) (hv : Items w w.heap.size v its) (hkey : key.size ≤ maxLen) :
    Calls Try.prog 10 #[.agg #[v], .string key] w fun e w' => e = .returned (.bool true) ∧ Below w.heap.size w w' := by
  obtain ⟨A, c, rfl, hc2, hc1⟩ := hv.form
  unfold maxLen at hkey
  have HBx := Lib.hid (Held.new w #[.slice A its.length c] 50)
  have HVx := Lib.hid (hv.alloc (Nat.le_refl _) (.cells #[.slice A its.length c] 50))
  have HWx := Lib.hid (belowOne w (.cells #[.slice A its.length c] 50))
  clear hv
  by_cases hk1 : 1048576 < key.size
  · go_enter Try.func10, Try.ntmps10
    go_wp2
    go_ret
    exact ⟨rfl, HWx.out⟩
  · have hk2 : key.size ≤ 1048576 := by omega
    clear hk1
    go_enter Try.func10, Try.ntmps10
    go_wp2_with fail
    refine (szStoStore_any _ _ _ (HVx.out.more (by simp)) _ (by omega) (by omega)).mono ?_
    rintro e w1 ⟨r, rfl, hr0, hr1, hr2, hb1⟩
    have HB1 := Lib.hid (HBx.out.below hb1 HBx.out.1)
    have HV1 := Lib.hid (HVx.out.below (hb1.mono (by simp)))
    have HW1 := Lib.hid (belowNext HWx.out hb1)
    have HR1 := Lib.hid hr2
    clear hb1 HBx HVx HWx hr2
    have hz1 : w.heap.size < w1.heap.size := HB1.out.1
    have c0 := HB1.out.of 0 _ rfl
    by_cases hneg : r < 0
    · go_wp2
      go_ret
      exact ⟨rfl, HW1.out⟩
    · obtain ⟨hlen, hshort⟩ := HR1.out (by omega)
      have HSh := Lib.hid hshort
      have hgl := getV_short hshort key
      obtain ⟨X, hX⟩ : ∃ X, getV its key = X := ⟨_, rfl⟩
      obtain ⟨ok, hok⟩ : ∃ ok, getOk its key = ok := ⟨_, rfl⟩
      rw [hX] at hgl
      have HX := Lib.hid hX
      have HOk := Lib.hid hok
      clear HR1 hshort hX hok
      go_wp2_with fail
      refine (toStoStore_any _ _ _ (HV1.out.more (by omega)) hlen HSh.out).mono ?_
      rintro e w2 ⟨g2, rfl, hg2, hm2, hb2⟩
      have HB2 := Lib.hid (HB1.out.below hb2 hz1)
      have HV2 := Lib.hid (HV1.out.below (hb2.mono (by omega)))
      have HW2 := Lib.hid (belowNext HW1.out hb2)
      have HM2 := Lib.hid (hm2.items (smallMax hlen))
      clear hb2 HB1 HV1 HW1 hm2 c0 hg2
      go_wp2_with fail
      refine (specStoGet_any _ _ _ _ HM2.out HSh.out).mono ?_
      rintro e w3 ⟨u0, rfl, ho3, hb3⟩
      rw [HX.out] at ho3
      rw [HOk.out]
      have HB3 := Lib.hid (HB2.out.below hb3 HB2.out.1)
      have HV3 := Lib.hid (HV2.out.below (hb3.mono (Nat.le_of_lt HB2.out.1)))
      have HW3 := Lib.hid (belowNext HW2.out hb3)
      have HU3 := Lib.hid ho3.ints
      have hz3 : w.heap.size < w3.heap.size := HB3.out.1
      clear hb3 HB2 HV2 HW2 HM2 hz1 ho3
      have c0 := HB3.out.of 0 _ rfl
      go_wp2_with fail
      refine (toStoStore_any _ _ _ (HV3.out.more (by omega)) hlen HSh.out).mono ?_
      rintro e w4 ⟨g4, rfl, hg4, hm4, hb4⟩
      have HB4 := Lib.hid (HB3.out.below hb4 hz3)
      have HV4 := Lib.hid (HV3.out.below (hb4.mono (by omega)))
      have HW4 := Lib.hid (belowNext HW3.out hb4)
      have HU4 := Lib.hid (HU3.out.below hb4)
      have HT4 := Lib.hid (hm4.tree hg4 (smallMax hlen))
      have hz34 : w3.heap.size ≤ w4.heap.size := hb4.size
      clear hb4 HB3 HV3 HW3 HU3 hm4 c0 hg4
      have HX5 := Lib.hid (Held.new w4 #[.slice (some ⟨g4, 0, none⟩) its.length its.length] 25)
      have HB5 := Lib.hid (HB4.out.after (.cells #[.slice (some ⟨g4, 0, none⟩) its.length its.length] 25))
      have HV5 := Lib.hid (HV4.out.alloc (Nat.le_of_lt HB4.out.1) (.cells #[.slice (some ⟨g4, 0, none⟩) its.length its.length] 25))
      have HW5 := Lib.hid (HW4.out.alloc (Nat.le_of_lt HB4.out.1) (.cells #[.slice (some ⟨g4, 0, none⟩) its.length its.length] 25))
      have HU5 := Lib.hid (HU4.out.alloc hz34 (.cells #[.slice (some ⟨g4, 0, none⟩) its.length its.length] 25))
      have HT5 := Lib.hid (HT4.out.below (belowOne w4 (.cells #[.slice (some ⟨g4, 0, none⟩) its.length its.length] 25)))
      clear HB4 HV4 HW4 HU4 HT4
      go_wp2_with fail
      refine (implStoGet_any _ _ _ _ HT5.out.items).mono ?_
      rintro e w6 ⟨u1, rfl, ho6, hb6⟩
      rw [HX.out] at ho6
      rw [HOk.out]
      have HX6 := Lib.hid (HX5.out.below hb6 HX5.out.1)
      have HB6 := Lib.hid (HB5.out.below hb6 HB5.out.1)
      have HV6 := Lib.hid (HV5.out.below (hb6.mono (Nat.le_of_lt HB5.out.1)))
      have HW6 := Lib.hid (HW5.out.trans (hb6.mono (Nat.le_of_lt HB5.out.1)))
      have HU6 := Lib.hid (HU5.out.below (hb6.mono (by simp; omega)))
      have HT6 := Lib.hid (HT5.out.below hb6)
      have HO6 := Lib.hid (ho6.less (lo' := w4.heap.size) (by simp))
      clear hb6 HX5 HB5 HV5 HW5 HU5 HT5 ho6
      have hz6 : w.heap.size < w6.heap.size := HB6.out.1
      have hz6' : w4.heap.size < w6.heap.size := HX6.out.1
      have c0 := HB6.out.of 0 _ rfl
      have x0 := HX6.out.of 0 _ rfl
      go_wp2_with (go_at_call 31; refine (eqIntS_any _ w6.heap.size _ _ X X HO6.out.ints (HU6.out.more (by omega))).mono ?_; rintro e w' ⟨rfl, n, rfl⟩)
      have HX7 := Lib.hid (show Held (w6.drewN n) w4.heap.size _ from HX6.out)
      have HB7 := Lib.hid (show Held (w6.drewN n) w.heap.size _ from HB6.out)
      have HV7 := Lib.hid (show Items (w6.drewN n) w.heap.size _ its from HV6.out)
      have HW7 := Lib.hid (belowDraws HW6.out n)
      have HU7 := Lib.hid (show Ints (w6.drewN n) w3.heap.size u0 X from HU6.out)
      have HT7 := Lib.hid (show Tree (w6.drewN n) w3.heap.size w4.heap.size _ its from HT6.out)
      have HO7 := Lib.hid (show OwnInts (w6.drewN n) w4.heap.size u1 X from HO6.out)
      clear HX6 HB6 HV6 HW6 HU6 HT6 HO6 hz6 hz6' c0 x0
      generalize w6.drewN n = w7 at *
      have hz7 : w.heap.size < w7.heap.size := HB7.out.1
      have hz7' : w4.heap.size < w7.heap.size := HX7.out.1
      have c0 := HB7.out.of 0 _ rfl
      have x0 := HX7.out.of 0 _ rfl
      go_region_held3 (fun w' => w'.cell? ⟨w.heap.size, 0, none⟩ = some (.slice A its.length c) ∧ w'.cell? ⟨w4.heap.size, 0, none⟩ = some (.slice (some ⟨g4, 0, none⟩) its.length its.length))
        (first | exact ⟨e0, z0⟩ | exact ⟨d0, y0⟩ | exact ⟨c0, x0⟩)
        (first
          | (go_at_call 29; refine (toStoStore_any _ _ _ (Items.more (B := w.heap.size) (by exact HV7.out) (by exact Nat.le_of_lt hz7)) hlen HSh.out).mono ?_; rintro e w8 ⟨g8, rfl, hg8, hm8, hb8⟩; have HB8 := Lib.hid (HB7.out.onward hb8 rfl); have HX8 := Lib.hid (HX7.out.onward hb8 rfl); have HI8 := Lib.hid (HT7.out.items.onward hb8 rfl (Nat.le_refl _)); have HR8 := Lib.hid (hm8.items (smallMax hlen)); have HS8 := Lib.hid hb8; clear hm8 hb8 hg8; have d0 := HB8.out.of 0 _ rfl; have y0 := HX8.out.of 0 _ rfl)
          | (go_at_call 30; refine (eqStoStore_same _ _ _ _ HI8.out HR8.out).mono ?_; rintro e w9 ⟨rfl, hb9⟩; have HB9 := Lib.hid (HB8.out.onward hb9 rfl); have HX9 := Lib.hid (HX8.out.onward hb9 rfl); have HS9 := Lib.hid hb9; clear hb9; have e0 := HB9.out.of 0 _ rfl; have z0 := HX9.out.of 0 _ rfl))
      have hb79 : Below w7.heap.size w7 w9 := by
        have h1 : Below w7.heap.size w7 w8 := (Below.refl _ w7).drew.trans HS8.out
        exact belowNext h1 HS9.out
      have HV9 := Lib.hid (HV7.out.below (hb79.mono (Nat.le_of_lt hz7)))
      have HW9 := Lib.hid (belowNext HW7.out hb79)
      have HU9 := Lib.hid (HU7.out.below (hb79.mono (by omega)))
      have HT9 := Lib.hid (HT7.out.below hb79)
      have HO9 := Lib.hid (HO7.out.below hb79)
      have hz9 : w.heap.size < w9.heap.size := HB9.out.1
      have hz9' : w4.heap.size < w9.heap.size := HX9.out.1
      clear hb79 HB7 HX7 HV7 HW7 HU7 HT7 HO7 HB8 HX8 HI8 HR8 HS8 HS9 c0 x0 d0 y0 e0 hz7 hz7'
      go_wp2_with fail
      refine (markStoStore_any _ _ _ _ _ HT9.out (by omega) hlen HSh.out).mono ?_
      rintro e w10 ⟨its2, rfl, -, -, -, -, hout⟩
      have hkb := kAt_bound HSh.out 1 its.length
      have HB10 := Lib.hid (HB9.out.out hout (.inl (by omega)))
      have HV10 := Lib.hid (HV9.out.below ((hout.below (by omega)).mono (by omega)))
      have HW10 := Lib.hid (HW9.out.trans ((hout.below (by omega)).mono (by omega)))
      have HU10 := Lib.hid (HU9.out.below (hout.below (by omega)))
      have HO10 := Lib.hid (HO9.out.out hout (fun g hg => .inr (ownLo HO9.out g hg)))
      have hz10 : w4.heap.size < w10.heap.size := Nat.lt_of_lt_of_le hz9' hout.size
      clear hout HB9 HX9 HV9 HW9 HU9 HT9 HO9 z0 hz9 hz9'
      go_wp2_with fail
      refine (eqIntS_any _ w10.heap.size _ _ X X HO10.out.ints (HU10.out.more (by omega))).mono ?_
      rintro e w' ⟨rfl, n2, rfl⟩
      have HB11 := Lib.hid (show Held (w10.drewN n2) w.heap.size _ from HB10.out)
      have HV11 := Lib.hid (show Items (w10.drewN n2) w.heap.size _ its from HV10.out)
      have HW11 := Lib.hid (belowDraws HW10.out n2)
      have HU11 := Lib.hid (show Ints (w10.drewN n2) w3.heap.size u0 X from HU10.out)
      have HO11 := Lib.hid (show OwnInts (w10.drewN n2) w4.heap.size u1 X from HO10.out)
      have hz11 : w4.heap.size < (w10.drewN n2).heap.size := hz10
      clear HB10 HV10 HW10 HU10 HO10 hz10
      generalize w10.drewN n2 = w11 at *
      clear hkb
      go_wp2_with fail
      refine (markIntS_any _ _ _ _ HO11.out 1 (by omega) (by omega) hgl).mono ?_
      rintro e w12 ⟨ys, rfl, hyl, hym, hyo, hyg, hyz⟩
      have hb12 : Below w4.heap.size w11 w12 := belowGrown hyg (ownLo HO11.out) (by omega)
      have HB12 := Lib.hid (HB11.out.below hb12 (by omega))
      have HV12 := Lib.hid (HV11.out.below (hb12.mono (by omega)))
      have HW12 := Lib.hid (HW11.out.trans (hb12.mono (by omega)))
      have HU12 := Lib.hid (HU11.out.below (hb12.mono (by omega)))
      have HO12 := Lib.hid hyo
      have HY := Lib.hid (show Marked ys 1 ys.length from hyl.symm ▸ hym)
      have HYl := Lib.hid hyl
      have hyl1 : ys.length ≤ 1048576 := by omega
      have hz12 : w4.heap.size < w12.heap.size := by omega
      clear hyl hym hyo hyg hyz hb12 HB11 HV11 HW11 HU11 HO11 hz11
      rw [← HYl.out]
      go_wp2_with fail
      refine (heldIntS_any _ _ _ _ HO12.out.ints 1 (by omega) (by omega) hyl1 HY.out).mono ?_
      rintro e w' ⟨rfl, rfl⟩
      have c0 := HB12.out.of 0 _ rfl
      go_wp2_with fail
      refine (toStoStore_any _ _ _ (HV12.out.more (by omega)) hlen HSh.out).mono ?_
      rintro e w13 ⟨g13, rfl, hg13, hm13, hb13⟩
      have HW13 := Lib.hid (belowNext HW12.out hb13)
      have HU13 := Lib.hid (HU12.out.below (hb13.mono (by omega)))
      have HM13 := Lib.hid (hm13.items (smallMax hlen))
      have HO13 := Lib.hid (HO12.out.below hb13)
      have hz13 : w4.heap.size < w13.heap.size := Nat.lt_of_lt_of_le hz12 hb13.size
      clear hb13 hm13 hg13 HB12 HV12 HW12 HU12 HO12 hz12 c0
      go_wp2_with fail
      refine (implStoGet_any _ _ _ _ HM13.out).mono ?_
      rintro e w14 ⟨u2, rfl, ho14, hb14⟩
      rw [HX.out] at ho14
      rw [HOk.out]
      have HW14 := Lib.hid (belowNext HW13.out hb14)
      have HU14 := Lib.hid (HU13.out.below (hb14.mono (by omega)))
      have HO14 := Lib.hid (HO13.out.below hb14)
      have HP14 := Lib.hid ho14.ints
      have hz14 : w4.heap.size < w14.heap.size := Nat.lt_of_lt_of_le hz13 hb14.size
      clear hb14 ho14 HW13 HU13 HM13 HO13 hz13
      go_wp2_with fail
      refine (eqIntS_any _ w14.heap.size _ _ X X HP14.out (HU14.out.more (by omega))).mono ?_
      rintro e w' ⟨rfl, n3, rfl⟩
      go_wp2_with fail
      refine (heldIntS_any _ _ _ _ (show Ints (w14.drewN n3) w14.heap.size u1 ys from HO14.out.ints) 1 (by omega) (by omega) hyl1 HY.out).mono ?_
      rintro e w' ⟨rfl, rfl⟩
      go_wp2
      go_ret
      exact ⟨rfl, belowDraws HW14.out _⟩

end Go.Proofs.Ytdplloeefggeoaa

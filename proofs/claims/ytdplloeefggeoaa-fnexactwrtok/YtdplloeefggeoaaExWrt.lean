/- The helpers of the exact laws over writes: a count, a copy, a comparison. -/
import Derived.Test.YtdplloeefggeoaaWrt
import Derived.Test.YtdplloeefggeoaaExItems
import Derived.Deep.RegionHeld3
namespace Go.Proofs.Ytdplloeefggeoaa
open Go.RowKit

theorem szStoWrite_any (w : World) (key : ByteArray) (del : Bool) (v : Value) (xs : List Int) (hk : key.size ≤ maxLen) (hv : Ints w w.heap.size v xs) (left : Int) (h0 : 0 ≤ left) (h1 : left ≤ 1048576) :
    Calls Try.prog 35 #[.agg #[.string key, .bool del, v], .int .i64 left] w fun e w' =>
      e = .returned (.int .i64 (lessTwo left key.size xs.length)) ∧ Below w.heap.size w w' := by
  obtain ⟨A, c, rfl, hc2, hc1⟩ := hv.form
  have HV := Lib.hid fun o => hv.alloc (Nat.le_refl _) o
  clear hv
  unfold maxLen at hc2 hk
  by_cases h : left < (key.size : Int)
  · go_enter Try.func35, Try.ntmps35
    go_wp2
    go_ret
    exact ⟨ret_int (by rw [lessTwo_no h]), (Below.refl _ _).alloc (Nat.le_refl _) _⟩
  · have h2 : (key.size : Int) ≤ left := by omega
    clear h
    by_cases h3 : left - (key.size : Int) < (xs.length : Int)
    · have hl := less_no h3
      clear h3
      go_enter Try.func35, Try.ntmps35
      go_wp2_with (go_at_call 68; refine (szIntS_any _ _ _ _ (HV.out _) _ (by omega) (by omega)).mono ?_; rintro e w' ⟨rfl, rfl⟩)
      go_ret
      exact ⟨ret_int (by rw [lessTwo_yes h2, hl]), (Below.refl _ _).alloc (Nat.le_refl _) _⟩
    · have hl := less_yes (left := left - (key.size : Int)) (n := (xs.length : Int)) (by omega)
      have hx : (xs.length : Int) ≤ left - (key.size : Int) := by omega
      clear h3
      go_enter Try.func35, Try.ntmps35
      go_wp2_with (go_at_call 68; refine (szIntS_any _ _ _ _ (HV.out _) _ (by omega) (by omega)).mono ?_; rintro e w' ⟨rfl, rfl⟩)
      go_ret
      exact ⟨ret_int (by rw [lessTwo_yes h2, hl]), (Below.refl _ _).alloc (Nat.le_refl _) _⟩

theorem toStoWrite_any (w : World) (key : ByteArray) (del : Bool) (v : Value) (xs : List Int) (hv : Ints w w.heap.size v xs) (hl : xs.length ≤ 1048576) :
    Calls Try.prog 36 #[.agg #[.string key, .bool del, v]] w fun e w' =>
      ∃ g, e = .returned (.agg #[.string key, .bool del, .slice (some ⟨g, 0, none⟩) xs.length xs.length]) ∧ w.heap.size ≤ g ∧ w'.rowIs g 3 xs.length (fun j => .int .i64 (nth xs j)) ∧ Below w.heap.size w w' := by
  obtain ⟨A, c, rfl, hc2, hc1⟩ := hv.form
  have HV := Lib.hid fun o1 o2 o3 => (((hv.alloc (Nat.le_refl _) o1).alloc (by simp) o2).alloc (by simp; omega) o3).more (B' := (((w.alloc o1).alloc o2).alloc o3).heap.size) (by simp; omega)
  clear hv
  unfold maxLen at hc2
  go_enter Try.func36, Try.ntmps36
  go_wp2_with fail
  refine (toIntS_any _ _ xs (HV.out _ _ _) hl).mono ?_
  rintro e w1 ⟨rfl, hr, hb, hz⟩
  simp at hr hb hz ⊢
  obtain ⟨hc, hf⟩ := oldCells hb
  have HR := Lib.hid hr
  have HB := Lib.hid hb
  have hz1 : w.heap.size + 3 < w1.heap.size := by omega
  clear hr hb hz
  go_wp2
  refine bodyPost_ret (v := .agg #[.string key, .bool del, .slice (some ⟨w.heap.size + 1 + 1 + 1, 0, none⟩) xs.length xs.length]) (by simp [results, Try.results36, go_sem, hc]) rfl ⟨_, rfl, by omega, ?_, ?_⟩
  · refine ((((HR.out).setOther ?_ _).setOther ?_ _).setOther ?_ _).setOther ?_ _ <;> simp <;> omega
  · refine ((((Below.trans (b := _) ?_ (HB.out.mono (by omega))).setCell ?_ _).setCell ?_ _).setCell ?_ _).setCell ?_ _
    · exact (((Below.refl _ _).alloc (Nat.le_refl _) _).alloc (by simp) _).alloc (by simp; omega) _
    all_goals first | (simp; done) | (simp; omega)

theorem eqStoWrite_any (w : World) (key key' : ByteArray) (del del' : Bool) (v u : Value) (xs ys : List Int) (hv : Ints w w.heap.size v xs) (hu : Ints w w.heap.size u ys) :
    Calls Try.prog 37 #[.agg #[.string key, .bool del, v], .agg #[.string key', .bool del', u]] w fun e w' =>
      e = .returned (.bool ((key.toList == key'.toList) && (del == del') && decide (xs = ys))) ∧ Below w.heap.size w w' := by
  obtain ⟨A, c, rfl, hc2, hc1⟩ := hv.form
  obtain ⟨A', c', rfl, hc2', hc1'⟩ := hu.form
  have HV := Lib.hid fun o1 o2 => (hv.alloc (Nat.le_refl _) o1).alloc (by simp) o2
  have HU := Lib.hid fun o1 o2 => (hu.alloc (Nat.le_refl _) o1).alloc (by simp) o2
  clear hv hu
  unfold maxLen at hc2 hc2'
  go_enter Try.func37, Try.ntmps37
  go_wp2_with (go_at_call 31; refine (eqIntS_any _ _ _ _ _ _ (HV.out _ _) (HU.out _ _)).mono ?_; rintro e w' ⟨rfl, n, rfl⟩)
  all_goals go_ret
  all_goals refine ⟨ret_bool (by simp_all), ?_⟩
  all_goals first | exact belowTwo _ _ _ | exact belowDraws (belowTwo _ _ _) _

set_option maxHeartbeats 400000 in
theorem exWrtOk_any (w : World) (key : ByteArray) (del : Bool) (v : Value) (xs : List Int) (hk : key.size ≤ maxLen) (hv : Ints w w.heap.size v xs) :
    Calls Try.prog 11 #[.agg #[.string key, .bool del, v]] w fun e w' => e = .returned (.bool true) ∧ Below w.heap.size w w' := by
  obtain ⟨A, c, rfl, hc2, hc1⟩ := hv.form
  have HBx := Lib.hid (Held.new w #[.string key, .bool del, .slice A xs.length c] 57)
  have HVx := Lib.hid (hv.alloc (Nat.le_refl _) (.cells #[.string key, .bool del, .slice A xs.length c] 57))
  have HWx := Lib.hid (belowOne w (.cells #[.string key, .bool del, .slice A xs.length c] 57))
  clear hv
  go_enter Try.func11, Try.ntmps11
  go_wp2_with fail
  refine (szStoWrite_any _ _ _ _ _ hk (HVx.out.more (by simp)) _ (by omega) (by omega)).mono ?_
  rintro e w1 ⟨rfl, hb1⟩
  have HB1 := Lib.hid (HBx.out.below hb1 HBx.out.1)
  have HV1 := Lib.hid (HVx.out.below (hb1.mono (by simp)))
  have HW1 := Lib.hid (HWx.out.trans (hb1.mono (by simp)))
  clear hb1 HBx HVx HWx
  have hz1 : w.heap.size < w1.heap.size := HB1.out.1
  have c0 := HB1.out.of 0 _ rfl
  have c1 := HB1.out.of 1 _ rfl
  have c2 := HB1.out.of 2 _ rfl
  by_cases hneg : lessTwo 1048576 (key.size : Int) (xs.length : Int) < 0
  · go_wp2
    go_ret
    exact ⟨rfl, HW1.out⟩
  · have hlen : xs.length ≤ 1048576 := by
      unfold lessTwo less at hneg
      split at hneg
      · omega
      · split at hneg <;> omega
    have hlm : xs.length ≤ maxLen := by unfold maxLen; omega
    go_wp2_with fail
    refine (toStoWrite_any _ _ _ _ _ (HV1.out.more (by omega)) hlen).mono ?_
    rintro e w2 ⟨g2, rfl, hg2, hr2, hb2⟩
    have HB2 := Lib.hid (HB1.out.below hb2 hz1)
    have HV2 := Lib.hid (HV1.out.below (hb2.mono (by omega)))
    have HW2 := Lib.hid (HW1.out.trans (hb2.mono (by omega)))
    have HR2 := Lib.hid hr2
    clear hb2 HB1 HV1 HW1 hr2 c0 c1 c2
    go_wp2_with fail
    refine (specWrtOk_any _ _ _ _ _ hk (Ints.ofRow HR2.out hlm)).mono ?_
    rintro e w3 ⟨rfl, hb3⟩
    have HB3 := Lib.hid (HB2.out.below hb3 HB2.out.1)
    have HV3 := Lib.hid (HV2.out.below (hb3.mono (Nat.le_of_lt HB2.out.1)))
    have HW3 := Lib.hid (HW2.out.trans (hb3.mono (Nat.le_of_lt HB2.out.1)))
    have hz3 : w.heap.size < w3.heap.size := HB3.out.1
    clear hb3 HB2 HV2 HW2 HR2 hg2 hz1
    have c0 := HB3.out.of 0 _ rfl
    have c1 := HB3.out.of 1 _ rfl
    have c2 := HB3.out.of 2 _ rfl
    go_wp2_with fail
    refine (toStoWrite_any _ _ _ _ _ (HV3.out.more (by omega)) hlen).mono ?_
    rintro e w4 ⟨g4, rfl, hg4, hr4, hb4⟩
    have HB4 := Lib.hid (HB3.out.below hb4 hz3)
    have HV4 := Lib.hid (HV3.out.below (hb4.mono (by omega)))
    have HW4 := Lib.hid (HW3.out.trans (hb4.mono (by omega)))
    have HR4 := Lib.hid hr4
    have hg4' : g4 < w4.heap.size := hr4.lt
    clear hb4 HB3 HV3 HW3 hr4 c0 c1 c2
    have HX5 := Lib.hid (Held.new w4 #[.string key, .bool del, .slice (some ⟨g4, 0, none⟩) xs.length xs.length] 45)
    have HB5 := Lib.hid (HB4.out.after (.cells #[.string key, .bool del, .slice (some ⟨g4, 0, none⟩) xs.length xs.length] 45))
    have HV5 := Lib.hid (HV4.out.alloc (Nat.le_of_lt HB4.out.1) (.cells #[.string key, .bool del, .slice (some ⟨g4, 0, none⟩) xs.length xs.length] 45))
    have HW5 := Lib.hid (HW4.out.alloc (Nat.le_of_lt HB4.out.1) (.cells #[.string key, .bool del, .slice (some ⟨g4, 0, none⟩) xs.length xs.length] 45))
    have HI5 := Lib.hid ((Ints.ofRow HR4.out hlm).alloc (Nat.le_refl _) (.cells #[.string key, .bool del, .slice (some ⟨g4, 0, none⟩) xs.length xs.length] 45))
    clear HB4 HV4 HW4 HR4
    go_wp2_with fail
    refine (implWrtOk_any _ _ _ _ _ hk (HI5.out.more (by simp))).mono ?_
    rintro e w6 ⟨rfl, hb6⟩
    have HX6 := Lib.hid (HX5.out.below hb6 HX5.out.1)
    have HB6 := Lib.hid (HB5.out.below hb6 HB5.out.1)
    have HV6 := Lib.hid (HV5.out.below (hb6.mono (Nat.le_of_lt HB5.out.1)))
    have HW6 := Lib.hid (HW5.out.trans (hb6.mono (Nat.le_of_lt HB5.out.1)))
    have HI6 := Lib.hid (HI5.out.below (hb6.mono (by simp)))
    clear hb6 HX5 HB5 HV5 HW5 HI5 hg4 hg4' hz3
    have hz6 : w.heap.size < w6.heap.size := HB6.out.1
    have hz6' : w4.heap.size < w6.heap.size := HX6.out.1
    have c0 := HB6.out.of 0 _ rfl
    have c1 := HB6.out.of 1 _ rfl
    have c2 := HB6.out.of 2 _ rfl
    have x0 := HX6.out.of 0 _ rfl
    have x1 := HX6.out.of 1 _ rfl
    have x2 := HX6.out.of 2 _ rfl
    go_wp2
    go_region_held3 (fun w' => w'.cell? ⟨w.heap.size, 0, none⟩ = some (.string key) ∧ w'.cell? ⟨w.heap.size, 1, none⟩ = some (.bool del) ∧ w'.cell? ⟨w.heap.size, 2, none⟩ = some (.slice A xs.length c) ∧ w'.cell? ⟨w4.heap.size, 0, none⟩ = some (.string key) ∧ w'.cell? ⟨w4.heap.size, 1, none⟩ = some (.bool del) ∧ w'.cell? ⟨w4.heap.size, 2, none⟩ = some (.slice (some ⟨g4, 0, none⟩) xs.length xs.length))
      (first | exact ⟨e0, e1, e2, z0, z1, z2⟩ | exact ⟨d0, d1, d2, y0, y1, y2⟩ | exact ⟨c0, c1, c2, x0, x1, x2⟩)
      (first
        | (go_at_call 36; refine (toStoWrite_any _ _ _ _ _ (Ints.more (B := w.heap.size) (by exact HV6.out) (by exact Nat.le_of_lt hz6)) hlen).mono ?_; rintro e w7 ⟨g7, rfl, hg7, hr7, hb7⟩; have HB7 := Lib.hid (HB6.out.onward hb7 rfl); have HX7 := Lib.hid (HX6.out.onward hb7 rfl); have HI7 := Lib.hid (HI6.out.onward hb7 rfl (Nat.le_of_lt hz6')); have HR7 := Lib.hid (Ints.ofRow hr7 hlm); have HW7 := Lib.hid hb7; clear hr7 hb7 hg7; have d0 := HB7.out.of 0 _ rfl; have d1 := HB7.out.of 1 _ rfl; have d2 := HB7.out.of 2 _ rfl; have y0 := HX7.out.of 0 _ rfl; have y1 := HX7.out.of 1 _ rfl; have y2 := HX7.out.of 2 _ rfl)
        | (go_at_call 37; refine (eqStoWrite_any _ _ _ _ _ _ _ xs xs HI7.out HR7.out).mono ?_; rintro e w8 ⟨rfl, hb8⟩; have HB8 := Lib.hid (HB7.out.onward hb8 rfl); have HX8 := Lib.hid (HX7.out.onward hb8 rfl); have HW8 := Lib.hid hb8; clear hb8; have e0 := HB8.out.of 0 _ rfl; have e1 := HB8.out.of 1 _ rfl; have e2 := HB8.out.of 2 _ rfl; have z0 := HX8.out.of 0 _ rfl; have z1 := HX8.out.of 1 _ rfl; have z2 := HX8.out.of 2 _ rfl))
    go_wp2
    go_ret
    exact ⟨rfl, (HW6.out.drew.trans (HW7.out.mono (Nat.le_of_lt hz6))).trans (HW8.out.mono (Nat.le_of_lt HB7.out.1))⟩

end Go.Proofs.Ytdplloeefggeoaa

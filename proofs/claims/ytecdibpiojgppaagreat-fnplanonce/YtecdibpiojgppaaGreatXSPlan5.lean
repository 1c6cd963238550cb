/- The model's plans, all of them. By spgen5.py. -/
import Derived.Test.YtecdibpiojgppaaGreatXSPlan3
import Derived.Test.YtecdibpiojgppaaGreatXSPlan4
import Derived.Test.YtecdibpiojgppaaGreatXExOpOk
namespace Go.Proofs.YtecdibpiojgppaaGreat
open Go.RowKit

set_option maxRecDepth 100000 in
set_option maxHeartbeats 8000000 in
theorem specMay2_any (w : World) (o : Op) (v : Value) (its : List Item) (hv : Items w w.heap.size v its) (hs : stoB its = true) (ho : opB o = true) (hk : o.kind = 2) :
    Calls Tryz.prog 87 #[.agg #[v], opV o] w (PlannedAg (mayP2 its o) w) := by
  obtain ⟨A, c, rfl, hc2, hc1⟩ := hv.form
  obtain ⟨b0, b1, b2, b3, b4, b5, b6, b7, b8, b9, b10, b11⟩ := opB_parts ho
  have HV := Lib.hid hv
  have HS := Lib.hid (Ps3.start w o (.slice A its.length c))
  have HK := Lib.hid (keyN_dig 99 b5)
  have HSh := Lib.hid (sto_short' hs)
  have hds : (digS o.code).size ≤ 1 := Nat.le_of_eq (digS_size _)
  have hk2 : (o.kind == 2) = true := by rw [hk]; rfl
  clear hv ho hk
  go_enter Tryz.func87, Tryz.ntmps87
  have o0 := HS.out.op.of 0 _ rfl
  have o3 := HS.out.op.of 3 _ rfl
  go_wp2_with fail
  clear o3 o0
  refine (l3Digit_any _ _ b4 b5).mono ?_
  rintro e w1 ⟨rfl, hb⟩
  replace HS := Lib.hid (HS.out.call hb)
  clear hb
  have s0 := HS.out.sto.of 0 _ rfl
  go_wp2_with fail
  rw [← HK.out]
  clear s0 hds
  refine (l1Get_any _ _ its _ ((HV.out.below HS.out.bel).more HS.out.bel.size) HSh.out).mono ?_
  rintro e w2 ⟨u, rfl, -, hb⟩
  replace HS := Lib.hid (HS.out.call hb)
  clear hb
  obtain ⟨hz0, hz1, hz2⟩ := HS.out.size
  rcases hlk : lookOk its (keyN 99 o.code)
  case true =>
    have HP := Lib.hid (show mayP2 its o = noP [keyN 99 o.code] by unfold mayP2; rw [hlk, if_pos rfl])
    have HRow : Hid (strSh.Row (w2.alloc (.cells #[.string (keyN 99 o.code)] 9)) (w2.alloc (.cells #[.string (keyN 99 o.code)] 9)).heap.size (.slice (some ⟨w2.heap.size, 0, none⟩) 1 1) [keyN 99 o.code]) := Lib.hid (by
      have h := (strs_lit w2 [keyN 99 o.code] #[.string (keyN 99 o.code)] rfl (by simp [keyN_max]) (by unfold maxLen; simp)).row
      exact h)
    have HT := Lib.hid (HS.out.call (belowOne w2 (.cells #[.string (keyN 99 o.code)] 9)))
    have hzq : w.heap.size + 1 + 1 < (w2.alloc (.cells #[.string (keyN 99 o.code)] 9)).heap.size := HT.out.size.2.2
    have HZQ := Lib.hid hzq
    clear hzq
    go_wp2_with fail
    refine (specNo_any _ _ [keyN 99 o.code] HRow.out (by simp)).mono ?_
    rintro e wq ⟨ua, ub, rfl, ho, hb⟩
    replace HT := Lib.hid (HT.out.call hb)
    obtain ⟨Aa, ca, Ab, cb, rfl, rfl⟩ := planForm ho
    have HO := Lib.hid ho
    clear hb ho HRow
    have p0 := HT.out.pl.of 0 _ rfl
    have p1 := HT.out.pl.of 1 _ rfl
    have p2 := HT.out.pl.of 2 _ rfl
    have fr := HT.out.pl.2.1
    go_wp2
    clear p0 p1 p2 fr
    have HQ := HT.out.pl.put3 (.bool (noP [keyN 99 o.code]).ok) (.slice Aa (noP [keyN 99 o.code]).locks.length ca) (.slice Ab (noP [keyN 99 o.code]).writes.length cb)
    have q0 := HQ.of 0 _ rfl
    have q1 := HQ.of 1 _ rfl
    have q2 := HQ.of 2 _ rfl
    rw [HP.out]
    exact bodyPost_ret (v := .agg #[.bool (noP [keyN 99 o.code]).ok, .slice Aa (noP [keyN 99 o.code]).locks.length ca, .slice Ab (noP [keyN 99 o.code]).writes.length cb]) (by simp only [results, Tryz.results87, go_sem]; simp [go_sem, q0, q1, q2]) rfl (HT.out.put HO.out HZQ.out _ rfl)
  have HP := Lib.hid (show mayP2 its o = ⟨true, [keyN 99 o.code], [⟨keyN 99 o.code, false, [o.who, secS o.sec]⟩]⟩ by unfold mayP2; rw [hlk, if_neg (by decide)])
  have KS := Lib.hid fun W (h : Below w2.heap.size w2 W) => And.intro ((HS.out.call h).op.of 1 _ rfl) ((HS.out.call h).op.of 4 _ rfl)
  have KP := Lib.hid (show ∀ (W W' : World) (x y z : Value), Below w2.heap.size w2 W → Below (put3 W (w.heap.size + 1 + 1) x y z).heap.size (put3 W (w.heap.size + 1 + 1) x y z) W' → W'.cell? ⟨w.heap.size + 1, 1, none⟩ = some (.int .i64 o.who) ∧ W'.cell? ⟨w.heap.size + 1, 4, none⟩ = some (.int .i64 o.sec) from fun W W' x y z h h' => by
    have hz := h.size
    exact ⟨(h'.cell (p := ⟨w.heap.size + 1, 1, none⟩) (by show w.heap.size + 1 < _; rw [put3_size]; omega)).trans ((World.cell?_of_block (a := ⟨w.heap.size + 1, 1, none⟩) (put3_far _ _ _ _ _ (by show w.heap.size + 1 ≠ _; omega))).trans (KS.out _ h).1), (h'.cell (p := ⟨w.heap.size + 1, 4, none⟩) (by show w.heap.size + 1 < _; rw [put3_size]; omega)).trans ((World.cell?_of_block (a := ⟨w.heap.size + 1, 4, none⟩) (put3_far _ _ _ _ _ (by show w.heap.size + 1 ≠ _; omega))).trans (KS.out _ h).2)⟩)
  have p0 := HS.out.pl.of 0 _ rfl
  have p1 := HS.out.pl.of 1 _ rfl
  have p2 := HS.out.pl.of 2 _ rfl
  have fr := HS.out.pl.2.1
  go_upto_region 7 with fail
  refine wp_region_held_drew (S := (fun w' => w'.cell? ⟨w.heap.size + 1, 1, none⟩ = some (.int .i64 o.who) ∧ w'.cell? ⟨w.heap.size + 1, 4, none⟩ = some (.int .i64 o.sec))) (by kernel_rfl) ?hSr (fun hHeldr => ?str)
  case hSr => (first | (dsimp only; (exact KS.out _ (Below.refl _ _).drew)) | (exact KS.out _ (Below.refl _ _).drew))
  refine take_first 0 26 (v := ?vr_1) rfl rfl (by kernel_rfl) (by kernel_rfl) (by kernel_rfl) (fun _ _ _ h => h) (by rfl) ?yr_1 (by assumption) ?rr_1
  case yr_1 => (intro w hSw; (try dsimp only at hSw); go_simp; (try with_reducible rfl))
  simp only [Act.put, List.setIfInBounds_toArray, List.set_cons_zero, List.set_cons_succ]
  refine take_first 2 28 (v := ?vr_2) rfl rfl (by kernel_rfl) (by kernel_rfl) (by kernel_rfl) (fun _ _ _ h => h) (by rfl) ?yr_2 (by assumption) ?rr_2
  case yr_2 => (intro w hSw; (try dsimp only at hSw); go_simp; (try with_reducible rfl))
  simp only [Act.put, List.setIfInBounds_toArray, List.set_cons_zero, List.set_cons_succ]
  refine take_first 3 29 (v := ?vr_3) rfl rfl (by kernel_rfl) (by kernel_rfl) (by kernel_rfl) (fun _ _ _ h => h) (by rfl) ?yr_3 (by assumption) ?rr_3
  case yr_3 => (intro w hSw; (try dsimp only at hSw); go_simp; (try with_reducible rfl))
  simp only [Act.put, List.setIfInBounds_toArray, List.set_cons_zero, List.set_cons_succ]
  refine take_first 4 30 (v := ?vr_4) rfl rfl (by kernel_rfl) (by kernel_rfl) (by kernel_rfl) (fun _ _ _ h => h) (by rfl) ?yr_4 (by assumption) ?rr_4
  case yr_4 => (intro w hSw; (try dsimp only at hSw); go_simp; (try with_reducible rfl))
  simp only [Act.put, List.setIfInBounds_toArray, List.set_cons_zero, List.set_cons_succ]
  refine take_first 5 31 (v := ?vr_5) rfl rfl (by kernel_rfl) (by kernel_rfl) (by kernel_rfl) (fun _ _ _ h => h) (by rfl) ?yr_5 (by assumption) ?rr_5
  case yr_5 => (intro w hSw; (try dsimp only at hSw); go_simp; (try with_reducible rfl))
  simp only [Act.put, List.setIfInBounds_toArray, List.set_cons_zero, List.set_cons_succ]
  refine take_first 6 32 (v := ?vr_6) rfl rfl (by kernel_rfl) (by kernel_rfl) (by kernel_rfl) (fun _ _ _ h => h) (by rfl) ?yr_6 (by assumption) ?rr_6
  case yr_6 => (intro w hSw; (try dsimp only at hSw); go_simp; (try with_reducible rfl))
  simp only [Act.put, List.setIfInBounds_toArray, List.set_cons_zero, List.set_cons_succ]
  refine wpAnyH_ready (rs := [1, 7]) (by kernel_rfl) (by simp) ?_
  refine AllReadyH.cons (o := _) rfl (fun Kr_8 hKr_8 => ?cr_8) ?mr_8
  case cr_8 =>
    go_simp
    skip
    go_wp2_with fail
    refine hKr_8.out _ _ ?kr_8 (fun hHeldr_8 => ?dr_8)
    case kr_8 => (first | (dsimp only; (exact KS.out _ (belowOne _ _).drew)) | (exact KS.out _ (belowOne _ _).drew))
    clear hKr_8 Kr_8
    refine wpAnyH_ready (rs := [7]) (by kernel_rfl) (by simp) ?_
    refine AllReadyH.cons (o := _) rfl (fun Kr_10 hKr_10 => ?cr_10) ?mr_10
    case mr_10 => exact AllReadyH.nil
    go_simp
    refine (specSecSum_any _ _).mono ?_
    rintro e w5 ⟨rfl, rfl⟩
    go_wp2_with fail
    refine hKr_10.out _ _ ?kr_10 (fun hHeldr_10 => ?dr_10)
    case kr_10 => (first | (dsimp only; (exact KS.out _ (belowOne _ _).drew)) | (exact KS.out _ (belowOne _ _).drew))
    clear hKr_10 Kr_10
    refine wpAnyH_ready (rs := [8]) (by kernel_rfl) (by simp) ?_
    refine AllReadyH.cons (o := _) rfl (fun Kr_11 hKr_11 => ?cr_11) ?mr_11
    case mr_11 => exact AllReadyH.nil
    go_simp
    skip
    go_wp2_with fail
    refine hKr_11.out _ _ ?kr_11 (fun hHeldr_11 => ?dr_11)
    case kr_11 => (first | (dsimp only; (exact KS.out _ (belowTwo _ _ _).drew)) | (exact KS.out _ (belowTwo _ _ _).drew))
    clear hKr_11 Kr_11
    refine take_first 9 35 (v := ?vr_12) rfl rfl (by kernel_rfl) (by kernel_rfl) (by kernel_rfl) (fun _ _ _ h => h) (by rfl) ?yr_12 (by assumption) ?rr_12
    case yr_12 => (intro w hSw; (try dsimp only at hSw); go_simp; (try with_reducible rfl))
    simp only [Act.put, List.setIfInBounds_toArray, List.set_cons_zero, List.set_cons_succ]
    refine wpAnyH_ready (rs := [10]) (by kernel_rfl) (by simp) ?_
    refine AllReadyH.cons (o := _) rfl (fun Kr_13 hKr_13 => ?cr_13) ?mr_13
    case mr_13 => exact AllReadyH.nil
    go_simp
    skip
    go_wp2_with fail
    refine hKr_13.out _ _ ?kr_13 (fun hHeldr_13 => ?dr_13)
    case kr_13 => (first | (dsimp only; (exact KS.out _ (belowThree _ _ _ _).drew)) | (exact KS.out _ (belowThree _ _ _ _).drew))
    clear hKr_13 Kr_13
    refine take_first 11 37 (v := ?vr_14) rfl rfl (by kernel_rfl) (by kernel_rfl) (by kernel_rfl) (fun _ _ _ h => h) (by rfl) ?yr_14 (by assumption) ?rr_14
    case yr_14 => (intro w hSw; (try dsimp only at hSw); go_simp; (try with_reducible rfl))
    simp only [Act.put, List.setIfInBounds_toArray, List.set_cons_zero, List.set_cons_succ]
    refine wpAnyH_ready (rs := [12]) (by kernel_rfl) (by simp) ?_
    refine AllReadyH.cons (o := _) rfl (fun Kr_15 hKr_15 => ?cr_15) ?mr_15
    case mr_15 => exact AllReadyH.nil
    go_simp
    skip
    go_wp2_with fail
    refine hKr_15.out _ _ ?kr_15 (fun hHeldr_15 => ?dr_15)
    case kr_15 => (first | (dsimp only; (exact KP.out w2 _ _ _ _ (Below.refl _ _) (belowThree _ _ _ _).drew)) | (exact KP.out w2 _ _ _ _ (Below.refl _ _) (belowThree _ _ _ _).drew))
    clear hKr_15 Kr_15
    refine wpAnyH_done (by kernel_rfl) ?er_1 _
    go_wp2
    clear p0 p1 p2 fr
    have h0 := strs_lit (put3 w2 (w.heap.size + 1 + 1) (.bool true) (.slice (some ⟨w2.heap.size, 0, none⟩) 1 1) (.slice (some ⟨w2.heap.size + 1 + 1, 0, none⟩) 1 1)) [keyN 99 o.code] #[.string (keyN 99 o.code)] rfl (by simp [keyN_max]) (by unfold maxLen; simp)
    rw [put3_size] at h0
    have h1 := ints_lit ((put3 w2 (w.heap.size + 1 + 1) (.bool true) (.slice (some ⟨w2.heap.size, 0, none⟩) 1 1) (.slice (some ⟨w2.heap.size + 1 + 1, 0, none⟩) 1 1)).alloc (.cells #[.string (keyN 99 o.code)] 9)) [o.who, secS o.sec] #[.int .i64 (o.who), .int .i64 (secS o.sec)] rfl (by unfold maxLen; simp)
    rw [alloc_size, put3_size] at h1
    have h2 := wrs_lit1 (((put3 w2 (w.heap.size + 1 + 1) (.bool true) (.slice (some ⟨w2.heap.size, 0, none⟩) 1 1) (.slice (some ⟨w2.heap.size + 1 + 1, 0, none⟩) 1 1)).alloc (.cells #[.string (keyN 99 o.code)] 9)).alloc (.cells #[.int .i64 (o.who), .int .i64 (secS o.sec)] 3)) _ (keyN 99 o.code) false (.slice (some ⟨w2.heap.size + 1, 0, none⟩) 2 2) [o.who, secS o.sec] (keyN_max _ _) h1 (fun b hb => by rw [alloc_size, alloc_size, put3_size]; omega)
    rw [alloc_size, alloc_size, put3_size] at h2
    have HQ := (show Held ((((put3 w2 (w.heap.size + 1 + 1) (.bool true) (.slice (some ⟨w2.heap.size, 0, none⟩) 1 1) (.slice (some ⟨w2.heap.size + 1 + 1, 0, none⟩) 1 1)).alloc (.cells #[.string (keyN 99 o.code)] 9)).alloc (.cells #[.int .i64 (o.who), .int .i64 (secS o.sec)] 3)).alloc (.cells #[.string (keyN 99 o.code), .bool false, .slice (some ⟨w2.heap.size + 1, 0, none⟩) 2 2] 77)).drew _ _ from ((((HS.out.pl.put3 (.bool true) (.slice (some ⟨w2.heap.size, 0, none⟩) 1 1) (.slice (some ⟨w2.heap.size + 1 + 1, 0, none⟩) 1 1)).after (.cells #[.string (keyN 99 o.code)] 9)).after (.cells #[.int .i64 (o.who), .int .i64 (secS o.sec)] 3)).after (.cells #[.string (keyN 99 o.code), .bool false, .slice (some ⟨w2.heap.size + 1, 0, none⟩) 2 2] 77)))
    have q0 := HQ.of 0 _ rfl
    have q1 := HQ.of 1 _ rfl
    have q2 := HQ.of 2 _ rfl
    rw [HP.out]
    refine bodyPost_ret (v := .agg #[.bool true, .slice (some ⟨w2.heap.size, 0, none⟩) 1 1, .slice (some ⟨w2.heap.size + 1 + 1, 0, none⟩) 1 1]) (by simp only [results, Tryz.results87, go_sem]; simp [go_sem, q0, q1, q2]) rfl ⟨_, _, rfl, planSh.okeep (planOwn (w0 := w) (W := ((((put3 w2 (w.heap.size + 1 + 1) (.bool true) (.slice (some ⟨w2.heap.size, 0, none⟩) 1 1) (.slice (some ⟨w2.heap.size + 1 + 1, 0, none⟩) 1 1)).alloc (.cells #[.string (keyN 99 o.code)] 9)).alloc (.cells #[.int .i64 (o.who), .int .i64 (secS o.sec)] 3)).alloc (.cells #[.string (keyN 99 o.code), .bool false, .slice (some ⟨w2.heap.size + 1, 0, none⟩) 2 2] 77))) (pl := ⟨true, [keyN 99 o.code], [⟨keyN 99 o.code, false, [o.who, secS o.sec]⟩]⟩) (w2.heap.size) ((h0.below (belowOne _ _)).below (belowOne _ _)) h2 (fun b hb => by first | omega | (rcases hb with h | h <;> first | exact h.elim | omega | (rcases h with h | h <;> first | exact h.elim | omega))) (fun b hb => by first | omega | (rcases hb with h | h <;> first | exact h.elim | omega | (rcases h with h | h <;> first | exact h.elim | omega))) (fun b h1 h2 => by first | omega | (rcases h2 with h | h <;> first | exact h.elim | omega | (rcases h with h | h <;> first | exact h.elim | omega))) (by omega)) fun _ _ _ => rfl, (((((belowPut3 HS.out.bel (w.heap.size + 1 + 1) (by omega) _ _ _).alloc (by rw [put3_size]; omega) _).alloc (by rw [alloc_size, put3_size]; omega) _).alloc (by rw [alloc_size, alloc_size, put3_size]; omega) _)).drew⟩
  refine AllReadyH.cons (o := _) rfl (fun Kr_9 hKr_9 => ?cr_9) ?mr_9
  case cr_9 =>
    go_simp
    refine (specSecSum_any _ _).mono ?_
    rintro e w5 ⟨rfl, rfl⟩
    go_wp2_with fail
    refine hKr_9.out _ _ ?kr_9 (fun hHeldr_9 => ?dr_9)
    case kr_9 => (first | (dsimp only; (exact KS.out _ (Below.refl _ _).drew)) | (exact KS.out _ (Below.refl _ _).drew))
    clear hKr_9 Kr_9
    refine wpAnyH_ready (rs := [1, 8]) (by kernel_rfl) (by simp) ?_
    refine AllReadyH.cons (o := _) rfl (fun Kr_17 hKr_17 => ?cr_17) ?mr_17
    case cr_17 =>
      go_simp
      skip
      go_wp2_with fail
      refine hKr_17.out _ _ ?kr_17 (fun hHeldr_17 => ?dr_17)
      case kr_17 => (first | (dsimp only; (exact KS.out _ (belowOne _ _).drew)) | (exact KS.out _ (belowOne _ _).drew))
      clear hKr_17 Kr_17
      refine wpAnyH_ready (rs := [8]) (by kernel_rfl) (by simp) ?_
      refine AllReadyH.cons (o := _) rfl (fun Kr_19 hKr_19 => ?cr_19) ?mr_19
      case mr_19 => exact AllReadyH.nil
      go_simp
      skip
      go_wp2_with fail
      refine hKr_19.out _ _ ?kr_19 (fun hHeldr_19 => ?dr_19)
      case kr_19 => (first | (dsimp only; (exact KS.out _ (belowTwo _ _ _).drew)) | (exact KS.out _ (belowTwo _ _ _).drew))
      clear hKr_19 Kr_19
      refine take_first 9 35 (v := ?vr_20) rfl rfl (by kernel_rfl) (by kernel_rfl) (by kernel_rfl) (fun _ _ _ h => h) (by rfl) ?yr_20 (by assumption) ?rr_20
      case yr_20 => (intro w hSw; (try dsimp only at hSw); go_simp; (try with_reducible rfl))
      simp only [Act.put, List.setIfInBounds_toArray, List.set_cons_zero, List.set_cons_succ]
      refine wpAnyH_ready (rs := [10]) (by kernel_rfl) (by simp) ?_
      refine AllReadyH.cons (o := _) rfl (fun Kr_21 hKr_21 => ?cr_21) ?mr_21
      case mr_21 => exact AllReadyH.nil
      go_simp
      skip
      go_wp2_with fail
      refine hKr_21.out _ _ ?kr_21 (fun hHeldr_21 => ?dr_21)
      case kr_21 => (first | (dsimp only; (exact KS.out _ (belowThree _ _ _ _).drew)) | (exact KS.out _ (belowThree _ _ _ _).drew))
      clear hKr_21 Kr_21
      refine take_first 11 37 (v := ?vr_22) rfl rfl (by kernel_rfl) (by kernel_rfl) (by kernel_rfl) (fun _ _ _ h => h) (by rfl) ?yr_22 (by assumption) ?rr_22
      case yr_22 => (intro w hSw; (try dsimp only at hSw); go_simp; (try with_reducible rfl))
      simp only [Act.put, List.setIfInBounds_toArray, List.set_cons_zero, List.set_cons_succ]
      refine wpAnyH_ready (rs := [12]) (by kernel_rfl) (by simp) ?_
      refine AllReadyH.cons (o := _) rfl (fun Kr_23 hKr_23 => ?cr_23) ?mr_23
      case mr_23 => exact AllReadyH.nil
      go_simp
      skip
      go_wp2_with fail
      refine hKr_23.out _ _ ?kr_23 (fun hHeldr_23 => ?dr_23)
      case kr_23 => (first | (dsimp only; (exact KP.out w2 _ _ _ _ (Below.refl _ _) (belowThree _ _ _ _).drew)) | (exact KP.out w2 _ _ _ _ (Below.refl _ _) (belowThree _ _ _ _).drew))
      clear hKr_23 Kr_23
      refine wpAnyH_done (by kernel_rfl) ?er_7_1 _
      go_wp2
      clear p0 p1 p2 fr
      have h0 := strs_lit (put3 w2 (w.heap.size + 1 + 1) (.bool true) (.slice (some ⟨w2.heap.size, 0, none⟩) 1 1) (.slice (some ⟨w2.heap.size + 1 + 1, 0, none⟩) 1 1)) [keyN 99 o.code] #[.string (keyN 99 o.code)] rfl (by simp [keyN_max]) (by unfold maxLen; simp)
      rw [put3_size] at h0
      have h1 := ints_lit ((put3 w2 (w.heap.size + 1 + 1) (.bool true) (.slice (some ⟨w2.heap.size, 0, none⟩) 1 1) (.slice (some ⟨w2.heap.size + 1 + 1, 0, none⟩) 1 1)).alloc (.cells #[.string (keyN 99 o.code)] 9)) [o.who, secS o.sec] #[.int .i64 (o.who), .int .i64 (secS o.sec)] rfl (by unfold maxLen; simp)
      rw [alloc_size, put3_size] at h1
      have h2 := wrs_lit1 (((put3 w2 (w.heap.size + 1 + 1) (.bool true) (.slice (some ⟨w2.heap.size, 0, none⟩) 1 1) (.slice (some ⟨w2.heap.size + 1 + 1, 0, none⟩) 1 1)).alloc (.cells #[.string (keyN 99 o.code)] 9)).alloc (.cells #[.int .i64 (o.who), .int .i64 (secS o.sec)] 3)) _ (keyN 99 o.code) false (.slice (some ⟨w2.heap.size + 1, 0, none⟩) 2 2) [o.who, secS o.sec] (keyN_max _ _) h1 (fun b hb => by rw [alloc_size, alloc_size, put3_size]; omega)
      rw [alloc_size, alloc_size, put3_size] at h2
      have HQ := (show Held ((((put3 w2 (w.heap.size + 1 + 1) (.bool true) (.slice (some ⟨w2.heap.size, 0, none⟩) 1 1) (.slice (some ⟨w2.heap.size + 1 + 1, 0, none⟩) 1 1)).alloc (.cells #[.string (keyN 99 o.code)] 9)).alloc (.cells #[.int .i64 (o.who), .int .i64 (secS o.sec)] 3)).alloc (.cells #[.string (keyN 99 o.code), .bool false, .slice (some ⟨w2.heap.size + 1, 0, none⟩) 2 2] 77)).drew _ _ from ((((HS.out.pl.put3 (.bool true) (.slice (some ⟨w2.heap.size, 0, none⟩) 1 1) (.slice (some ⟨w2.heap.size + 1 + 1, 0, none⟩) 1 1)).after (.cells #[.string (keyN 99 o.code)] 9)).after (.cells #[.int .i64 (o.who), .int .i64 (secS o.sec)] 3)).after (.cells #[.string (keyN 99 o.code), .bool false, .slice (some ⟨w2.heap.size + 1, 0, none⟩) 2 2] 77)))
      have q0 := HQ.of 0 _ rfl
      have q1 := HQ.of 1 _ rfl
      have q2 := HQ.of 2 _ rfl
      rw [HP.out]
      refine bodyPost_ret (v := .agg #[.bool true, .slice (some ⟨w2.heap.size, 0, none⟩) 1 1, .slice (some ⟨w2.heap.size + 1 + 1, 0, none⟩) 1 1]) (by simp only [results, Tryz.results87, go_sem]; simp [go_sem, q0, q1, q2]) rfl ⟨_, _, rfl, planSh.okeep (planOwn (w0 := w) (W := ((((put3 w2 (w.heap.size + 1 + 1) (.bool true) (.slice (some ⟨w2.heap.size, 0, none⟩) 1 1) (.slice (some ⟨w2.heap.size + 1 + 1, 0, none⟩) 1 1)).alloc (.cells #[.string (keyN 99 o.code)] 9)).alloc (.cells #[.int .i64 (o.who), .int .i64 (secS o.sec)] 3)).alloc (.cells #[.string (keyN 99 o.code), .bool false, .slice (some ⟨w2.heap.size + 1, 0, none⟩) 2 2] 77))) (pl := ⟨true, [keyN 99 o.code], [⟨keyN 99 o.code, false, [o.who, secS o.sec]⟩]⟩) (w2.heap.size) ((h0.below (belowOne _ _)).below (belowOne _ _)) h2 (fun b hb => by first | omega | (rcases hb with h | h <;> first | exact h.elim | omega | (rcases h with h | h <;> first | exact h.elim | omega))) (fun b hb => by first | omega | (rcases hb with h | h <;> first | exact h.elim | omega | (rcases h with h | h <;> first | exact h.elim | omega))) (fun b h1 h2 => by first | omega | (rcases h2 with h | h <;> first | exact h.elim | omega | (rcases h with h | h <;> first | exact h.elim | omega))) (by omega)) fun _ _ _ => rfl, (((((belowPut3 HS.out.bel (w.heap.size + 1 + 1) (by omega) _ _ _).alloc (by rw [put3_size]; omega) _).alloc (by rw [alloc_size, put3_size]; omega) _).alloc (by rw [alloc_size, alloc_size, put3_size]; omega) _)).drew⟩
    refine AllReadyH.cons (o := _) rfl (fun Kr_18 hKr_18 => ?cr_18) ?mr_18
    case cr_18 =>
      go_simp
      skip
      go_wp2_with fail
      refine hKr_18.out _ _ ?kr_18 (fun hHeldr_18 => ?dr_18)
      case kr_18 => (first | (dsimp only; (exact KS.out _ (belowOne _ _).drew)) | (exact KS.out _ (belowOne _ _).drew))
      clear hKr_18 Kr_18
      refine take_first 9 35 (v := ?vr_24) rfl rfl (by kernel_rfl) (by kernel_rfl) (by kernel_rfl) (fun _ _ _ h => h) (by rfl) ?yr_24 (by assumption) ?rr_24
      case yr_24 => (intro w hSw; (try dsimp only at hSw); go_simp; (try with_reducible rfl))
      simp only [Act.put, List.setIfInBounds_toArray, List.set_cons_zero, List.set_cons_succ]
      refine wpAnyH_ready (rs := [1, 10]) (by kernel_rfl) (by simp) ?_
      refine AllReadyH.cons (o := _) rfl (fun Kr_26 hKr_26 => ?cr_26) ?mr_26
      case cr_26 =>
        go_simp
        skip
        go_wp2_with fail
        refine hKr_26.out _ _ ?kr_26 (fun hHeldr_26 => ?dr_26)
        case kr_26 => (first | (dsimp only; (exact KS.out _ (belowTwo _ _ _).drew)) | (exact KS.out _ (belowTwo _ _ _).drew))
        clear hKr_26 Kr_26
        refine wpAnyH_ready (rs := [10]) (by kernel_rfl) (by simp) ?_
        refine AllReadyH.cons (o := _) rfl (fun Kr_28 hKr_28 => ?cr_28) ?mr_28
        case mr_28 => exact AllReadyH.nil
        go_simp
        skip
        go_wp2_with fail
        refine hKr_28.out _ _ ?kr_28 (fun hHeldr_28 => ?dr_28)
        case kr_28 => (first | (dsimp only; (exact KS.out _ (belowThree _ _ _ _).drew)) | (exact KS.out _ (belowThree _ _ _ _).drew))
        clear hKr_28 Kr_28
        refine take_first 11 37 (v := ?vr_29) rfl rfl (by kernel_rfl) (by kernel_rfl) (by kernel_rfl) (fun _ _ _ h => h) (by rfl) ?yr_29 (by assumption) ?rr_29
        case yr_29 => (intro w hSw; (try dsimp only at hSw); go_simp; (try with_reducible rfl))
        simp only [Act.put, List.setIfInBounds_toArray, List.set_cons_zero, List.set_cons_succ]
        refine wpAnyH_ready (rs := [12]) (by kernel_rfl) (by simp) ?_
        refine AllReadyH.cons (o := _) rfl (fun Kr_30 hKr_30 => ?cr_30) ?mr_30
        case mr_30 => exact AllReadyH.nil
        go_simp
        skip
        go_wp2_with fail
        refine hKr_30.out _ _ ?kr_30 (fun hHeldr_30 => ?dr_30)
        case kr_30 => (first | (dsimp only; (exact KP.out w2 _ _ _ _ (Below.refl _ _) (belowThree _ _ _ _).drew)) | (exact KP.out w2 _ _ _ _ (Below.refl _ _) (belowThree _ _ _ _).drew))
        clear hKr_30 Kr_30
        refine wpAnyH_done (by kernel_rfl) ?er_7_8_1 _
        go_wp2
        clear p0 p1 p2 fr
        have h0 := ints_lit (put3 w2 (w.heap.size + 1 + 1) (.bool true) (.slice (some ⟨w2.heap.size + 1, 0, none⟩) 1 1) (.slice (some ⟨w2.heap.size + 1 + 1, 0, none⟩) 1 1)) [o.who, secS o.sec] #[.int .i64 (o.who), .int .i64 (secS o.sec)] rfl (by unfold maxLen; simp)
        rw [put3_size] at h0
        have h1 := strs_lit ((put3 w2 (w.heap.size + 1 + 1) (.bool true) (.slice (some ⟨w2.heap.size + 1, 0, none⟩) 1 1) (.slice (some ⟨w2.heap.size + 1 + 1, 0, none⟩) 1 1)).alloc (.cells #[.int .i64 (o.who), .int .i64 (secS o.sec)] 3)) [keyN 99 o.code] #[.string (keyN 99 o.code)] rfl (by simp [keyN_max]) (by unfold maxLen; simp)
        rw [alloc_size, put3_size] at h1
        have h2 := wrs_lit1 (((put3 w2 (w.heap.size + 1 + 1) (.bool true) (.slice (some ⟨w2.heap.size + 1, 0, none⟩) 1 1) (.slice (some ⟨w2.heap.size + 1 + 1, 0, none⟩) 1 1)).alloc (.cells #[.int .i64 (o.who), .int .i64 (secS o.sec)] 3)).alloc (.cells #[.string (keyN 99 o.code)] 9)) _ (keyN 99 o.code) false (.slice (some ⟨w2.heap.size, 0, none⟩) 2 2) [o.who, secS o.sec] (keyN_max _ _) (h0.below (belowOne _ _)) (fun b hb => by rw [alloc_size, alloc_size, put3_size]; omega)
        rw [alloc_size, alloc_size, put3_size] at h2
        have HQ := (show Held ((((put3 w2 (w.heap.size + 1 + 1) (.bool true) (.slice (some ⟨w2.heap.size + 1, 0, none⟩) 1 1) (.slice (some ⟨w2.heap.size + 1 + 1, 0, none⟩) 1 1)).alloc (.cells #[.int .i64 (o.who), .int .i64 (secS o.sec)] 3)).alloc (.cells #[.string (keyN 99 o.code)] 9)).alloc (.cells #[.string (keyN 99 o.code), .bool false, .slice (some ⟨w2.heap.size, 0, none⟩) 2 2] 77)).drew _ _ from ((((HS.out.pl.put3 (.bool true) (.slice (some ⟨w2.heap.size + 1, 0, none⟩) 1 1) (.slice (some ⟨w2.heap.size + 1 + 1, 0, none⟩) 1 1)).after (.cells #[.int .i64 (o.who), .int .i64 (secS o.sec)] 3)).after (.cells #[.string (keyN 99 o.code)] 9)).after (.cells #[.string (keyN 99 o.code), .bool false, .slice (some ⟨w2.heap.size, 0, none⟩) 2 2] 77)))
        have q0 := HQ.of 0 _ rfl
        have q1 := HQ.of 1 _ rfl
        have q2 := HQ.of 2 _ rfl
        rw [HP.out]
        refine bodyPost_ret (v := .agg #[.bool true, .slice (some ⟨w2.heap.size + 1, 0, none⟩) 1 1, .slice (some ⟨w2.heap.size + 1 + 1, 0, none⟩) 1 1]) (by simp only [results, Tryz.results87, go_sem]; simp [go_sem, q0, q1, q2]) rfl ⟨_, _, rfl, planSh.okeep (planOwn (w0 := w) (W := ((((put3 w2 (w.heap.size + 1 + 1) (.bool true) (.slice (some ⟨w2.heap.size + 1, 0, none⟩) 1 1) (.slice (some ⟨w2.heap.size + 1 + 1, 0, none⟩) 1 1)).alloc (.cells #[.int .i64 (o.who), .int .i64 (secS o.sec)] 3)).alloc (.cells #[.string (keyN 99 o.code)] 9)).alloc (.cells #[.string (keyN 99 o.code), .bool false, .slice (some ⟨w2.heap.size, 0, none⟩) 2 2] 77))) (pl := ⟨true, [keyN 99 o.code], [⟨keyN 99 o.code, false, [o.who, secS o.sec]⟩]⟩) (w2.heap.size) (h1.below (belowOne _ _)) h2 (fun b hb => by first | omega | (rcases hb with h | h <;> first | exact h.elim | omega | (rcases h with h | h <;> first | exact h.elim | omega))) (fun b hb => by first | omega | (rcases hb with h | h <;> first | exact h.elim | omega | (rcases h with h | h <;> first | exact h.elim | omega))) (fun b h1 h2 => by first | omega | (rcases h2 with h | h <;> first | exact h.elim | omega | (rcases h with h | h <;> first | exact h.elim | omega))) (by omega)) fun _ _ _ => rfl, (((((belowPut3 HS.out.bel (w.heap.size + 1 + 1) (by omega) _ _ _).alloc (by rw [put3_size]; omega) _).alloc (by rw [alloc_size, put3_size]; omega) _).alloc (by rw [alloc_size, alloc_size, put3_size]; omega) _)).drew⟩
      refine AllReadyH.cons (o := _) rfl (fun Kr_27 hKr_27 => ?cr_27) ?mr_27
      case cr_27 =>
        go_simp
        skip
        go_wp2_with fail
        refine hKr_27.out _ _ ?kr_27 (fun hHeldr_27 => ?dr_27)
        case kr_27 => (first | (dsimp only; (exact KS.out _ (belowTwo _ _ _).drew)) | (exact KS.out _ (belowTwo _ _ _).drew))
        clear hKr_27 Kr_27
        refine wpAnyH_ready (rs := [1]) (by kernel_rfl) (by simp) ?_
        refine AllReadyH.cons (o := _) rfl (fun Kr_31 hKr_31 => ?cr_31) ?mr_31
        case mr_31 => exact AllReadyH.nil
        go_simp
        skip
        go_wp2_with fail
        refine hKr_31.out _ _ ?kr_31 (fun hHeldr_31 => ?dr_31)
        case kr_31 => (first | (dsimp only; (exact KS.out _ (belowThree _ _ _ _).drew)) | (exact KS.out _ (belowThree _ _ _ _).drew))
        clear hKr_31 Kr_31
        refine take_first 11 37 (v := ?vr_32) rfl rfl (by kernel_rfl) (by kernel_rfl) (by kernel_rfl) (fun _ _ _ h => h) (by rfl) ?yr_32 (by assumption) ?rr_32
        case yr_32 => (intro w hSw; (try dsimp only at hSw); go_simp; (try with_reducible rfl))
        simp only [Act.put, List.setIfInBounds_toArray, List.set_cons_zero, List.set_cons_succ]
        refine wpAnyH_ready (rs := [12]) (by kernel_rfl) (by simp) ?_
        refine AllReadyH.cons (o := _) rfl (fun Kr_33 hKr_33 => ?cr_33) ?mr_33
        case mr_33 => exact AllReadyH.nil
        go_simp
        skip
        go_wp2_with fail
        refine hKr_33.out _ _ ?kr_33 (fun hHeldr_33 => ?dr_33)
        case kr_33 => (first | (dsimp only; (exact KP.out w2 _ _ _ _ (Below.refl _ _) (belowThree _ _ _ _).drew)) | (exact KP.out w2 _ _ _ _ (Below.refl _ _) (belowThree _ _ _ _).drew))
        clear hKr_33 Kr_33
        refine wpAnyH_done (by kernel_rfl) ?er_7_8_10 _
        go_wp2
        clear p0 p1 p2 fr
        have h0 := ints_lit (put3 w2 (w.heap.size + 1 + 1) (.bool true) (.slice (some ⟨w2.heap.size + 1 + 1, 0, none⟩) 1 1) (.slice (some ⟨w2.heap.size + 1, 0, none⟩) 1 1)) [o.who, secS o.sec] #[.int .i64 (o.who), .int .i64 (secS o.sec)] rfl (by unfold maxLen; simp)
        rw [put3_size] at h0
        have h1 := wrs_lit1 ((put3 w2 (w.heap.size + 1 + 1) (.bool true) (.slice (some ⟨w2.heap.size + 1 + 1, 0, none⟩) 1 1) (.slice (some ⟨w2.heap.size + 1, 0, none⟩) 1 1)).alloc (.cells #[.int .i64 (o.who), .int .i64 (secS o.sec)] 3)) _ (keyN 99 o.code) false (.slice (some ⟨w2.heap.size, 0, none⟩) 2 2) [o.who, secS o.sec] (keyN_max _ _) h0 (fun b hb => by rw [alloc_size, put3_size]; omega)
        rw [alloc_size, put3_size] at h1
        have h2 := strs_lit (((put3 w2 (w.heap.size + 1 + 1) (.bool true) (.slice (some ⟨w2.heap.size + 1 + 1, 0, none⟩) 1 1) (.slice (some ⟨w2.heap.size + 1, 0, none⟩) 1 1)).alloc (.cells #[.int .i64 (o.who), .int .i64 (secS o.sec)] 3)).alloc (.cells #[.string (keyN 99 o.code), .bool false, .slice (some ⟨w2.heap.size, 0, none⟩) 2 2] 77)) [keyN 99 o.code] #[.string (keyN 99 o.code)] rfl (by simp [keyN_max]) (by unfold maxLen; simp)
        rw [alloc_size, alloc_size, put3_size] at h2
        have HQ := (show Held ((((put3 w2 (w.heap.size + 1 + 1) (.bool true) (.slice (some ⟨w2.heap.size + 1 + 1, 0, none⟩) 1 1) (.slice (some ⟨w2.heap.size + 1, 0, none⟩) 1 1)).alloc (.cells #[.int .i64 (o.who), .int .i64 (secS o.sec)] 3)).alloc (.cells #[.string (keyN 99 o.code), .bool false, .slice (some ⟨w2.heap.size, 0, none⟩) 2 2] 77)).alloc (.cells #[.string (keyN 99 o.code)] 9)).drew _ _ from ((((HS.out.pl.put3 (.bool true) (.slice (some ⟨w2.heap.size + 1 + 1, 0, none⟩) 1 1) (.slice (some ⟨w2.heap.size + 1, 0, none⟩) 1 1)).after (.cells #[.int .i64 (o.who), .int .i64 (secS o.sec)] 3)).after (.cells #[.string (keyN 99 o.code), .bool false, .slice (some ⟨w2.heap.size, 0, none⟩) 2 2] 77)).after (.cells #[.string (keyN 99 o.code)] 9)))
        have q0 := HQ.of 0 _ rfl
        have q1 := HQ.of 1 _ rfl
        have q2 := HQ.of 2 _ rfl
        rw [HP.out]
        refine bodyPost_ret (v := .agg #[.bool true, .slice (some ⟨w2.heap.size + 1 + 1, 0, none⟩) 1 1, .slice (some ⟨w2.heap.size + 1, 0, none⟩) 1 1]) (by simp only [results, Tryz.results87, go_sem]; simp [go_sem, q0, q1, q2]) rfl ⟨_, _, rfl, planSh.okeep (planOwn (w0 := w) (W := ((((put3 w2 (w.heap.size + 1 + 1) (.bool true) (.slice (some ⟨w2.heap.size + 1 + 1, 0, none⟩) 1 1) (.slice (some ⟨w2.heap.size + 1, 0, none⟩) 1 1)).alloc (.cells #[.int .i64 (o.who), .int .i64 (secS o.sec)] 3)).alloc (.cells #[.string (keyN 99 o.code), .bool false, .slice (some ⟨w2.heap.size, 0, none⟩) 2 2] 77)).alloc (.cells #[.string (keyN 99 o.code)] 9))) (pl := ⟨true, [keyN 99 o.code], [⟨keyN 99 o.code, false, [o.who, secS o.sec]⟩]⟩) (w2.heap.size) h2 (h1.below (belowOne _ _)) (fun b hb => by first | omega | (rcases hb with h | h <;> first | exact h.elim | omega | (rcases h with h | h <;> first | exact h.elim | omega))) (fun b hb => by first | omega | (rcases hb with h | h <;> first | exact h.elim | omega | (rcases h with h | h <;> first | exact h.elim | omega))) (fun b h1 h2 => by first | omega | (rcases h2 with h | h <;> first | exact h.elim | omega | (rcases h with h | h <;> first | exact h.elim | omega))) (by omega)) fun _ _ _ => rfl, (((((belowPut3 HS.out.bel (w.heap.size + 1 + 1) (by omega) _ _ _).alloc (by rw [put3_size]; omega) _).alloc (by rw [alloc_size, put3_size]; omega) _).alloc (by rw [alloc_size, alloc_size, put3_size]; omega) _)).drew⟩
      exact AllReadyH.nil
    exact AllReadyH.nil
  exact AllReadyH.nil

theorem Ps3.seven {w0 W : World} {o : Op} {v x y z : Value} (h : Ps3 w0 o v x y z W) : W.cell? ⟨w0.heap.size + 1, 0, none⟩ = some (.int .i64 o.kind) ∧ W.cell? ⟨w0.heap.size + 1, 1, none⟩ = some (.int .i64 o.who) ∧ W.cell? ⟨w0.heap.size + 1, 2, none⟩ = some (.int .i64 o.inn) ∧ W.cell? ⟨w0.heap.size + 1, 3, none⟩ = some (.int .i64 o.code) ∧ W.cell? ⟨w0.heap.size + 1, 4, none⟩ = some (.int .i64 o.sec) ∧ W.cell? ⟨w0.heap.size + 1, 5, none⟩ = some (.int .i64 o.fam) ∧ W.cell? ⟨w0.heap.size + 1, 6, none⟩ = some (.int .i64 o.gen) :=
  ⟨h.op.of 0 _ rfl, h.op.of 1 _ rfl, h.op.of 2 _ rfl, h.op.of 3 _ rfl, h.op.of 4 _ rfl, h.op.of 5 _ rfl, h.op.of 6 _ rfl⟩

set_option maxRecDepth 100000 in
set_option maxHeartbeats 2000000 in
theorem specMay3_any (w : World) (o : Op) (v : Value) (its : List Item) (hv : Items w w.heap.size v its) (hs : stoB its = true) (ho : opB o = true) (hf : formB 2 its = true) (hk : o.kind = 3) :
    Calls Tryz.prog 87 #[.agg #[v], opV o] w (PlannedAg (mayP3 its o) w) := by
  obtain ⟨A, c, rfl, hc2, hc1⟩ := hv.form
  have HV := Lib.hid hv
  have HS := Lib.hid (Ps3.start w o (.slice A its.length c))
  have HO' := Lib.hid ho
  have hk2 : (o.kind == 2) = false := by rw [hk]; rfl
  have hk3 : (o.kind == 3) = true := by rw [hk]; rfl
  have hk4 : (o.kind == 4) = false := by rw [hk]; rfl
  clear hv ho hk
  go_enter Tryz.func87, Tryz.ntmps87
  have s0 := HS.out.sto.of 0 _ rfl
  obtain ⟨q0, q1, q2, q3, q4, q5, q6⟩ := HS.out.seven
  go_wp2_with fail
  clear s0 q0 q1 q2 q3 q4 q5 q6
  refine (specTrade_any _ o _ its ((HV.out.below HS.out.bel).more HS.out.bel.size) hs HO'.out hf).mono ?_
  rintro e wq ⟨ua, ub, rfl, ho, hb⟩
  have HZQ := Lib.hid HS.out.size.2.2
  replace HS := Lib.hid (HS.out.call hb)
  obtain ⟨Aa, ca, Ab, cb, rfl, rfl⟩ := planForm ho
  have HO := Lib.hid ho
  clear hb ho
  have p0 := HS.out.pl.of 0 _ rfl
  have p1 := HS.out.pl.of 1 _ rfl
  have p2 := HS.out.pl.of 2 _ rfl
  have fr := HS.out.pl.2.1
  go_wp2
  clear p0 p1 p2 fr
  have HQ := HS.out.pl.put3 (.bool (mayP3 its o).ok) (.slice Aa (mayP3 its o).locks.length ca) (.slice Ab (mayP3 its o).writes.length cb)
  have q0 := HQ.of 0 _ rfl
  have q1 := HQ.of 1 _ rfl
  have q2 := HQ.of 2 _ rfl
  exact bodyPost_ret (v := .agg #[.bool (mayP3 its o).ok, .slice Aa (mayP3 its o).locks.length ca, .slice Ab (mayP3 its o).writes.length cb]) (by simp only [results, Tryz.results87, go_sem]; simp [go_sem, q0, q1, q2]) rfl (HS.out.put HO.out HZQ.out _ rfl)

set_option maxRecDepth 100000 in
set_option maxHeartbeats 2000000 in
theorem specMay4_any (w : World) (o : Op) (v : Value) (its : List Item) (hv : Items w w.heap.size v its) (hs : stoB its = true) (ho : opB o = true) (hf : formB 2 its = true) (hk : o.kind = 4) :
    Calls Tryz.prog 87 #[.agg #[v], opV o] w (PlannedAg (mayP4 its o) w) := by
  obtain ⟨A, c, rfl, hc2, hc1⟩ := hv.form
  have HV := Lib.hid hv
  have HS := Lib.hid (Ps3.start w o (.slice A its.length c))
  have HO' := Lib.hid ho
  have hk2 : (o.kind == 2) = false := by rw [hk]; rfl
  have hk3 : (o.kind == 3) = false := by rw [hk]; rfl
  have hk4 : (o.kind == 4) = true := by rw [hk]; rfl
  clear hv ho hk
  go_enter Tryz.func87, Tryz.ntmps87
  have s0 := HS.out.sto.of 0 _ rfl
  obtain ⟨q0, q1, q2, q3, q4, q5, q6⟩ := HS.out.seven
  go_wp2_with fail
  clear s0 q0 q1 q2 q3 q4 q5 q6
  refine (specNext_any _ o _ its ((HV.out.below HS.out.bel).more HS.out.bel.size) hs HO'.out hf).mono ?_
  rintro e wq ⟨ua, ub, rfl, ho, hb⟩
  have HZQ := Lib.hid HS.out.size.2.2
  replace HS := Lib.hid (HS.out.call hb)
  obtain ⟨Aa, ca, Ab, cb, rfl, rfl⟩ := planForm ho
  have HO := Lib.hid ho
  clear hb ho
  have p0 := HS.out.pl.of 0 _ rfl
  have p1 := HS.out.pl.of 1 _ rfl
  have p2 := HS.out.pl.of 2 _ rfl
  have fr := HS.out.pl.2.1
  go_wp2
  clear p0 p1 p2 fr
  have HQ := HS.out.pl.put3 (.bool (mayP4 its o).ok) (.slice Aa (mayP4 its o).locks.length ca) (.slice Ab (mayP4 its o).writes.length cb)
  have q0 := HQ.of 0 _ rfl
  have q1 := HQ.of 1 _ rfl
  have q2 := HQ.of 2 _ rfl
  exact bodyPost_ret (v := .agg #[.bool (mayP4 its o).ok, .slice Aa (mayP4 its o).locks.length ca, .slice Ab (mayP4 its o).writes.length cb]) (by simp only [results, Tryz.results87, go_sem]; simp [go_sem, q0, q1, q2]) rfl (HS.out.put HO.out HZQ.out _ rfl)

set_option maxRecDepth 100000 in
set_option maxHeartbeats 2000000 in
theorem specMay5_any (w : World) (o : Op) (v : Value) (its : List Item) (hv : Items w w.heap.size v its) (hs : stoB its = true) (ho : opB o = true) (hf : formB 2 its = true) (hk : o.kind = 5) :
    Calls Tryz.prog 87 #[.agg #[v], opV o] w (PlannedAg (mayP5 its o) w) := by
  obtain ⟨A, c, rfl, hc2, hc1⟩ := hv.form
  have HV := Lib.hid hv
  have HS := Lib.hid (Ps3.start w o (.slice A its.length c))
  have HO' := Lib.hid ho
  have hk2 : (o.kind == 2) = false := by rw [hk]; rfl
  have hk3 : (o.kind == 3) = false := by rw [hk]; rfl
  have hk4 : (o.kind == 4) = false := by rw [hk]; rfl
  clear hv ho hk
  go_enter Tryz.func87, Tryz.ntmps87
  have s0 := HS.out.sto.of 0 _ rfl
  obtain ⟨q0, q1, q2, q3, q4, q5, q6⟩ := HS.out.seven
  go_wp2_with fail
  clear s0 q0 q1 q2 q3 q4 q5 q6
  refine (specOut_any _ o _ its ((HV.out.below HS.out.bel).more HS.out.bel.size) hs HO'.out hf).mono ?_
  rintro e wq ⟨ua, ub, rfl, ho, hb⟩
  have HZQ := Lib.hid HS.out.size.2.2
  replace HS := Lib.hid (HS.out.call hb)
  obtain ⟨Aa, ca, Ab, cb, rfl, rfl⟩ := planForm ho
  have HO := Lib.hid ho
  clear hb ho
  have p0 := HS.out.pl.of 0 _ rfl
  have p1 := HS.out.pl.of 1 _ rfl
  have p2 := HS.out.pl.of 2 _ rfl
  have fr := HS.out.pl.2.1
  go_wp2
  clear p0 p1 p2 fr
  have HQ := HS.out.pl.put3 (.bool (mayP5 its o).ok) (.slice Aa (mayP5 its o).locks.length ca) (.slice Ab (mayP5 its o).writes.length cb)
  have q0 := HQ.of 0 _ rfl
  have q1 := HQ.of 1 _ rfl
  have q2 := HQ.of 2 _ rfl
  exact bodyPost_ret (v := .agg #[.bool (mayP5 its o).ok, .slice Aa (mayP5 its o).locks.length ca, .slice Ab (mayP5 its o).writes.length cb]) (by simp only [results, Tryz.results87, go_sem]; simp [go_sem, q0, q1, q2]) rfl (HS.out.put HO.out HZQ.out _ rfl)

/-- What all kinds plan at the place that keeps who may what. -/
theorem specMay_any (w : World) (o : Op) (v : Value) (its : List Item) (hv : Items w w.heap.size v its) (hs : stoB its = true) (ho : opB o = true) (hf : formB 2 its = true) (hh : hereB o.kind 2 = true) (tx : Int) :
    Calls Tryz.prog 87 #[.agg #[v], opV o] w (PlannedAg (planP its 2 tx o) w) := by
  have hk := opK_kind ho
  have h1 : o.kind ≠ 1 := fun e => by rw [e] at hh; exact absurd hh (by decide)
  rcases hk with hk | hk | hk | hk | hk
  · exact absurd hk h1
  · rw [show planP its 2 tx o = mayP2 its o by simp [planP, hk]]; exact specMay2_any w o v its hv hs ho hk
  · rw [show planP its 2 tx o = mayP3 its o by simp [planP, hk]]; exact specMay3_any w o v its hv hs ho hf hk
  · rw [show planP its 2 tx o = mayP4 its o by simp [planP, hk]]; exact specMay4_any w o v its hv hs ho hf hk
  · rw [show planP its 2 tx o = mayP5 its o by simp [planP, hk]]; exact specMay5_any w o v its hv hs ho hf hk
/-- What all kinds plan at the place that keeps who is in. -/
theorem specIn_any (w : World) (o : Op) (v : Value) (its : List Item) (hv : Items w w.heap.size v its) (hs : stoB its = true) (ho : opB o = true) (hh : hereB o.kind 1 = true) (tx : Int) :
    Calls Tryz.prog 86 #[.agg #[v], opV o] w (PlannedAg (planP its 1 tx o) w) := by
  have hk := opK_kind ho
  have h3 : o.kind ≠ 3 := fun e => by rw [e] at hh; exact absurd hh (by decide)
  have h4 : o.kind ≠ 4 := fun e => by rw [e] at hh; exact absurd hh (by decide)
  rcases hk with hk | hk | hk | hk | hk
  · rw [show planP its 1 tx o = inP1 its o by simp [planP, hk]]; exact specIn1_any w o v its hv hs ho hk
  · rw [show planP its 1 tx o = inP2 its o by simp [planP, hk]]; exact specIn2_any w o v its hv hs ho hk
  · exact absurd hk h3
  · exact absurd hk h4
  · rw [show planP its 1 tx o = inP5 its o by simp [planP, hk]]; exact specIn5_any w o v its hv hs ho hk

end Go.Proofs.YtecdibpiojgppaaGreat

/- The model's plans: a trade. By spgen4.py. -/
import Derived.Test.YtecdibpiojgppaaGreatXSPlan2
namespace Go.Proofs.YtecdibpiojgppaaGreat
open Go.RowKit

theorem specSec' (w : World) (n : Int) : Calls Tryz.prog 108 #[.int .i64 n] w fun e w' => e = .returned (.int .i64 (secS n)) ∧ w' = w := (specSecSum_any n w).mono fun _ _ ⟨a, b⟩ => ⟨a, b.symm⟩

set_option maxRecDepth 100000 in
set_option maxHeartbeats 8000000 in
theorem specTrade_any (w : World) (o : Op) (v : Value) (its : List Item) (hv : Items w w.heap.size v its) (hs : stoB its = true) (ho : opB o = true) (hf : formB 2 its = true) :
    Calls Tryz.prog 109 #[.agg #[v], opV o] w (PlannedAg (mayP3 its o) w) := by
  obtain ⟨A, c, rfl, hc2, hc1⟩ := hv.form
  obtain ⟨b0, b1, b2, b3, b4, b5, b6, b7, b8, b9, b10, b11⟩ := opB_parts ho
  have HV := Lib.hid hv
  have HS := Lib.hid (Ps3.start w o (.slice A its.length c))
  have HK := Lib.hid (keyN_dig 99 b5)
  have HK2 := Lib.hid (keyN_dig 102 b9)
  have HSh := Lib.hid (sto_short' hs)
  have hds : (digS o.code).size ≤ 1 := Nat.le_of_eq (digS_size _)
  have hds2 : (digS o.fam).size ≤ 1 := Nat.le_of_eq (digS_size _)
  clear hv ho
  go_enter Tryz.func109, Tryz.ntmps109
  have o3 := HS.out.op.of 3 _ rfl
  go_wp2_with fail
  clear o3
  refine (l3Digit_any _ _ b4 b5).mono ?_
  rintro e w1 ⟨rfl, hb⟩
  replace HS := Lib.hid (HS.out.call hb)
  clear hb
  have o5 := HS.out.op.of 5 _ rfl
  go_wp2_with fail
  clear o5
  rw [← HK.out]
  clear hds
  refine (l3Digit_any _ _ b8 b9).mono ?_
  rintro e w2 ⟨rfl, hb⟩
  replace HS := Lib.hid (HS.out.call hb)
  have HR2 := Lib.hid HS.out.size.2.2
  clear hb
  have s0 := HS.out.sto.of 0 _ rfl
  go_wp2_with fail
  rw [← HK2.out]
  clear s0 hds2
  refine (l1Get_any _ _ its _ ((HV.out.below HS.out.bel).more HS.out.bel.size) HSh.out).mono ?_
  rintro e w3 ⟨u, rfl, hu, hb⟩
  replace HS := Lib.hid (HS.out.call hb)
  have HU := Lib.hid hu
  clear hb hu
  have s0 := HS.out.sto.of 0 _ rfl
  go_wp2_with fail
  clear s0
  refine (l1Get_any _ _ its _ ((HV.out.below HS.out.bel).more HS.out.bel.size) HSh.out).mono ?_
  rintro e w4 ⟨u', rfl, hu, hb⟩
  replace HS := Lib.hid (HS.out.call hb)
  replace HU := Lib.hid (HU.out.below hb)
  clear hb hu
  obtain ⟨hz0, hz1, hz2⟩ := HS.out.size
  rcases hlk : lookOk its (keyN 99 o.code)
  · have HP := Lib.hid (show mayP3 its o = noP [keyN 99 o.code, keyN 102 o.fam] by unfold mayP3; rw [if_neg (by simp [tradeB, hlk])])
    go_wp2
    go_quiet (fail)
    replace HS := Lib.hid (HS.out.drewN nq)
    clear hz0 hz1 hz2 
    generalize w4.drewN nq = w5 at *
    have HRow : Hid (strSh.Row (w5.alloc (.cells #[.string (keyN 99 o.code), .string (keyN 102 o.fam)] 9)) (w5.alloc (.cells #[.string (keyN 99 o.code), .string (keyN 102 o.fam)] 9)).heap.size (.slice (some ⟨w5.heap.size, 0, none⟩) 2 2) [keyN 99 o.code, keyN 102 o.fam]) := Lib.hid (by
      have h := (strs_lit w5 [keyN 99 o.code, keyN 102 o.fam] #[.string (keyN 99 o.code), .string (keyN 102 o.fam)] rfl (by simp [keyN_max]) (by unfold maxLen; simp)).row
      exact h)
    have HT := Lib.hid (HS.out.call (belowOne w5 (.cells #[.string (keyN 99 o.code), .string (keyN 102 o.fam)] 9)))
    have hzq : w.heap.size + 1 + 1 < (w5.alloc (.cells #[.string (keyN 99 o.code), .string (keyN 102 o.fam)] 9)).heap.size := HT.out.size.2.2
    have HZQ := Lib.hid hzq
    clear hzq
    go_wp2_with fail
    refine (specNo_any _ _ [keyN 99 o.code, keyN 102 o.fam] HRow.out (by simp)).mono ?_
    rintro e wq ⟨ua, ub, rfl, ho, hb⟩
    replace HT := Lib.hid (HT.out.call hb)
    obtain ⟨Aa, ca, Ab, cb, rfl, rfl⟩ := planForm ho
    have HO := Lib.hid ho
    clear hb ho HRow
    have p0 := HT.out.pl.of 0 _ rfl
    have p1 := HT.out.pl.of 1 _ rfl
    have p2 := HT.out.pl.of 2 _ rfl
    have fr := HT.out.pl.2.1
    go_wp2
    clear p0 p1 p2 fr
    have HQ := HT.out.pl.put3 (.bool (noP [keyN 99 o.code, keyN 102 o.fam]).ok) (.slice Aa (noP [keyN 99 o.code, keyN 102 o.fam]).locks.length ca) (.slice Ab (noP [keyN 99 o.code, keyN 102 o.fam]).writes.length cb)
    have q0 := HQ.of 0 _ rfl
    have q1 := HQ.of 1 _ rfl
    have q2 := HQ.of 2 _ rfl
    rw [HP.out]
    exact bodyPost_ret (v := .agg #[.bool (noP [keyN 99 o.code, keyN 102 o.fam]).ok, .slice Aa (noP [keyN 99 o.code, keyN 102 o.fam]).locks.length ca, .slice Ab (noP [keyN 99 o.code, keyN 102 o.fam]).writes.length cb]) (by simp only [results, Tryz.results109, go_sem]; simp [go_sem, q0, q1, q2]) rfl (HT.out.put HO.out HZQ.out _ rfl)
  rcases hlf : lookOk its (keyN 102 o.fam)
  case true =>
    have HP := Lib.hid (show mayP3 its o = noP [keyN 99 o.code, keyN 102 o.fam] by unfold mayP3; rw [if_neg (by simp [tradeB, hlf])])
    go_wp2
    go_quiet (fail)
    replace HS := Lib.hid (HS.out.drewN nq)
    clear hz0 hz1 hz2 
    generalize w4.drewN nq = w5 at *
    have HRow : Hid (strSh.Row (w5.alloc (.cells #[.string (keyN 99 o.code), .string (keyN 102 o.fam)] 9)) (w5.alloc (.cells #[.string (keyN 99 o.code), .string (keyN 102 o.fam)] 9)).heap.size (.slice (some ⟨w5.heap.size, 0, none⟩) 2 2) [keyN 99 o.code, keyN 102 o.fam]) := Lib.hid (by
      have h := (strs_lit w5 [keyN 99 o.code, keyN 102 o.fam] #[.string (keyN 99 o.code), .string (keyN 102 o.fam)] rfl (by simp [keyN_max]) (by unfold maxLen; simp)).row
      exact h)
    have HT := Lib.hid (HS.out.call (belowOne w5 (.cells #[.string (keyN 99 o.code), .string (keyN 102 o.fam)] 9)))
    have hzq : w.heap.size + 1 + 1 < (w5.alloc (.cells #[.string (keyN 99 o.code), .string (keyN 102 o.fam)] 9)).heap.size := HT.out.size.2.2
    have HZQ := Lib.hid hzq
    clear hzq
    go_wp2_with fail
    refine (specNo_any _ _ [keyN 99 o.code, keyN 102 o.fam] HRow.out (by simp)).mono ?_
    rintro e wq ⟨ua, ub, rfl, ho, hb⟩
    replace HT := Lib.hid (HT.out.call hb)
    obtain ⟨Aa, ca, Ab, cb, rfl, rfl⟩ := planForm ho
    have HO := Lib.hid ho
    clear hb ho HRow
    have p0 := HT.out.pl.of 0 _ rfl
    have p1 := HT.out.pl.of 1 _ rfl
    have p2 := HT.out.pl.of 2 _ rfl
    have fr := HT.out.pl.2.1
    go_wp2
    clear p0 p1 p2 fr
    have HQ := HT.out.pl.put3 (.bool (noP [keyN 99 o.code, keyN 102 o.fam]).ok) (.slice Aa (noP [keyN 99 o.code, keyN 102 o.fam]).locks.length ca) (.slice Ab (noP [keyN 99 o.code, keyN 102 o.fam]).writes.length cb)
    have q0 := HQ.of 0 _ rfl
    have q1 := HQ.of 1 _ rfl
    have q2 := HQ.of 2 _ rfl
    rw [HP.out]
    exact bodyPost_ret (v := .agg #[.bool (noP [keyN 99 o.code, keyN 102 o.fam]).ok, .slice Aa (noP [keyN 99 o.code, keyN 102 o.fam]).locks.length ca, .slice Ab (noP [keyN 99 o.code, keyN 102 o.fam]).writes.length cb]) (by simp only [results, Tryz.results109, go_sem]; simp [go_sem, q0, q1, q2]) rfl (HT.out.put HO.out HZQ.out _ rfl)
  obtain ⟨hl2, hw0, hw9⟩ := code_found hs hf hlk
  obtain ⟨XS, hXS⟩ : ∃ xs, lookV its (keyN 99 o.code) = xs := ⟨_, rfl⟩
  rw [hXS] at hl2 hw0 hw9
  have HX := Lib.hid hXS
  have hI := HU.out.ints
  rw [hXS] at hI
  obtain ⟨A2, cc, rfl, hd2, hd1⟩ := hI.form
  unfold maxLen at hd2
  obtain ⟨b, off, rfl, hb2, v0, v1⟩ := ints_two hI hl2
  have o4 := HS.out.op.of 4 _ rfl
  have HbR : Hid (b ≠ w.heap.size + 1 + 1) := Lib.hid (by have h1 := ownLo HU.out b rfl; have h2 := HR2.out; omega)
  have HT3 := Lib.hid (show tradeB its o = (nth XS 1 == secS o.sec) by unfold tradeB; rw [hlk, hlf, HX.out]; rfl)
  have n1 : (1 : Int) < (XS.length : Int) := by omega
  have n2 : 1 < XS.length := by omega
  have n3 : (0 : Int) < (XS.length : Int) := by omega
  have n4 : 0 < XS.length := by omega
  have HL2 := Lib.hid hl2
  clear hI hXS HU hl2
  by_cases hsec : nth XS 1 = secS o.sec
  case neg =>
    have HP := Lib.hid (show mayP3 its o = noP [keyN 99 o.code, keyN 102 o.fam] by unfold mayP3; rw [if_neg (by rw [HT3.out]; simpa using hsec)])
    have t1 : (nth XS 1 != secS o.sec) = true := by simp [hsec]
    clear hsec
    go_wp2
    go_quiet ((go_at_call 108; exact Calls.quiet_of_same (specSec' _ _)))
    replace HS := Lib.hid (HS.out.drewN nq)
    clear hz0 hz1 hz2 v0 v1 o4
    generalize w4.drewN nq = w5 at *
    have HRow : Hid (strSh.Row (w5.alloc (.cells #[.string (keyN 99 o.code), .string (keyN 102 o.fam)] 9)) (w5.alloc (.cells #[.string (keyN 99 o.code), .string (keyN 102 o.fam)] 9)).heap.size (.slice (some ⟨w5.heap.size, 0, none⟩) 2 2) [keyN 99 o.code, keyN 102 o.fam]) := Lib.hid (by
      have h := (strs_lit w5 [keyN 99 o.code, keyN 102 o.fam] #[.string (keyN 99 o.code), .string (keyN 102 o.fam)] rfl (by simp [keyN_max]) (by unfold maxLen; simp)).row
      exact h)
    have HT := Lib.hid (HS.out.call (belowOne w5 (.cells #[.string (keyN 99 o.code), .string (keyN 102 o.fam)] 9)))
    have hzq : w.heap.size + 1 + 1 < (w5.alloc (.cells #[.string (keyN 99 o.code), .string (keyN 102 o.fam)] 9)).heap.size := HT.out.size.2.2
    have HZQ := Lib.hid hzq
    clear hzq
    go_wp2_with fail
    refine (specNo_any _ _ [keyN 99 o.code, keyN 102 o.fam] HRow.out (by simp)).mono ?_
    rintro e wq ⟨ua, ub, rfl, ho, hb⟩
    replace HT := Lib.hid (HT.out.call hb)
    obtain ⟨Aa, ca, Ab, cb, rfl, rfl⟩ := planForm ho
    have HO := Lib.hid ho
    clear hb ho HRow
    have p0 := HT.out.pl.of 0 _ rfl
    have p1 := HT.out.pl.of 1 _ rfl
    have p2 := HT.out.pl.of 2 _ rfl
    have fr := HT.out.pl.2.1
    go_wp2
    clear p0 p1 p2 fr
    have HQ := HT.out.pl.put3 (.bool (noP [keyN 99 o.code, keyN 102 o.fam]).ok) (.slice Aa (noP [keyN 99 o.code, keyN 102 o.fam]).locks.length ca) (.slice Ab (noP [keyN 99 o.code, keyN 102 o.fam]).writes.length cb)
    have q0 := HQ.of 0 _ rfl
    have q1 := HQ.of 1 _ rfl
    have q2 := HQ.of 2 _ rfl
    rw [HP.out]
    exact bodyPost_ret (v := .agg #[.bool (noP [keyN 99 o.code, keyN 102 o.fam]).ok, .slice Aa (noP [keyN 99 o.code, keyN 102 o.fam]).locks.length ca, .slice Ab (noP [keyN 99 o.code, keyN 102 o.fam]).writes.length cb]) (by simp only [results, Tryz.results109, go_sem]; simp [go_sem, q0, q1, q2]) rfl (HT.out.put HO.out HZQ.out _ rfl)
  have t1 : (nth XS 1 != secS o.sec) = false := by simp [hsec]
  have HP := Lib.hid (show mayP3 its o = ⟨true, [keyN 99 o.code, keyN 102 o.fam, keyN 117 (nth XS 0)], [⟨keyN 99 o.code, true, []⟩, ⟨keyN 102 o.fam, false, [nth XS 0, 1, 1]⟩]⟩ by unfold mayP3; rw [if_pos (by rw [HT3.out]; simpa using hsec), HX.out])
  clear hsec HT3
  go_wp2
  go_quiet ((go_at_call 108; exact Calls.quiet_of_same (specSec' _ _)))
  replace HS := Lib.hid (HS.out.drewN nq)
  replace v0 : (w4.drewN nq).cell? ⟨b, off, none⟩ = some (.int .i64 (nth XS 0)) := v0
  replace hb2 : b < (w4.drewN nq).heap.size := hb2
  clear hz0 hz1 hz2 v1 o4 t1
  generalize w4.drewN nq = w5 at *
  have hbR := HbR.out
  have HLo := Lib.hid HS.out.size.2.2
  have KS := Lib.hid fun W (h : Below w5.heap.size w5 W) => (h.cell (p := ⟨b, off, none⟩) hb2).trans v0
  have hdu : (digS (nth XS 0)).size ≤ 1 := Nat.le_of_eq (digS_size _)
  have hdv : ¬ (9223372036854775807 < 1 + (digS (nth XS 0)).size) := by omega
  have HKU := Lib.hid (keyN_dig 117 hw9)
  go_upto_region 7 with fail
  clear v0
  refine wp_region_held_drew (S := (fun w' => w'.cell? ⟨b, off, none⟩ = some (.int .i64 (nth XS 0)))) (by kernel_rfl) ?hSr (fun hHeldr => ?str)
  case hSr => (first | (dsimp only; (exact KS.out _ (Below.refl _ _).drew)) | (exact KS.out _ (Below.refl _ _).drew))
  refine take_first 0 49 (v := ?vr_1) rfl rfl (by kernel_rfl) (by kernel_rfl) (by kernel_rfl) (fun _ _ _ h => h) (by rfl) ?yr_1 (by assumption) ?rr_1
  case yr_1 => (intro w hSw; (try dsimp only at hSw); go_simp; (try with_reducible rfl))
  simp only [Act.put, List.setIfInBounds_toArray, List.set_cons_zero, List.set_cons_succ]
  refine take_first 1 50 (v := ?vr_2) rfl rfl (by kernel_rfl) (by kernel_rfl) (by kernel_rfl) (fun _ _ _ h => h) (by rfl) ?yr_2 (by assumption) ?rr_2
  case yr_2 => (intro w hSw; (try dsimp only at hSw); go_simp; (try with_reducible rfl))
  simp only [Act.put, List.setIfInBounds_toArray, List.set_cons_zero, List.set_cons_succ]
  refine take_first 2 51 (v := ?vr_3) rfl rfl (by kernel_rfl) (by kernel_rfl) (by kernel_rfl) (fun _ _ _ h => h) (by rfl) ?yr_3 (by assumption) ?rr_3
  case yr_3 => (intro w hSw; (try dsimp only at hSw); go_simp; (try with_reducible rfl))
  simp only [Act.put, List.setIfInBounds_toArray, List.set_cons_zero, List.set_cons_succ]
  refine take_first 3 52 (v := ?vr_4) rfl rfl (by kernel_rfl) (by kernel_rfl) (by kernel_rfl) (fun _ _ _ h => h) (by rfl) ?yr_4 (by assumption) ?rr_4
  case yr_4 => (intro w hSw; (try dsimp only at hSw); go_simp; (try with_reducible rfl))
  simp only [Act.put, List.setIfInBounds_toArray, List.set_cons_zero, List.set_cons_succ]
  refine take_first 4 53 (v := ?vr_5) rfl rfl (by kernel_rfl) (by kernel_rfl) (by kernel_rfl) (fun _ _ _ h => h) (by rfl) ?yr_5 (by assumption) ?rr_5
  case yr_5 => (intro w hSw; (try dsimp only at hSw); go_simp; (try with_reducible rfl))
  simp only [Act.put, List.setIfInBounds_toArray, List.set_cons_zero, List.set_cons_succ]
  refine take_first 8 57 (v := ?vr_6) rfl rfl (by kernel_rfl) (by kernel_rfl) (by kernel_rfl) (fun _ _ _ h => h) (by rfl) ?yr_6 (by assumption) ?rr_6
  case yr_6 => (intro w hSw; (try dsimp only at hSw); go_simp; (try with_reducible rfl))
  simp only [Act.put, List.setIfInBounds_toArray, List.set_cons_zero, List.set_cons_succ]
  refine take_first 9 58 (v := ?vr_7) rfl rfl (by kernel_rfl) (by kernel_rfl) (by kernel_rfl) (fun _ _ _ h => h) (by rfl) ?yr_7 (by assumption) ?rr_7
  case yr_7 => (intro w hSw; (try dsimp only at hSw); go_simp; (try with_reducible rfl))
  simp only [Act.put, List.setIfInBounds_toArray, List.set_cons_zero, List.set_cons_succ]
  refine take_first 10 59 (v := ?vr_8) rfl rfl (by kernel_rfl) (by kernel_rfl) (by kernel_rfl) (fun _ _ _ h => h) (by rfl) ?yr_8 (by assumption) ?rr_8
  case yr_8 => (intro w hSw; (try dsimp only at hSw); go_simp; (try with_reducible rfl))
  simp only [Act.put, List.setIfInBounds_toArray, List.set_cons_zero, List.set_cons_succ]
  refine take_first 11 60 (v := ?vr_9) rfl rfl (by kernel_rfl) (by kernel_rfl) (by kernel_rfl) (fun _ _ _ h => h) (by rfl) ?yr_9 (by assumption) ?rr_9
  case yr_9 => (intro w hSw; (try dsimp only at hSw); go_simp; (try with_reducible rfl))
  simp only [Act.put, List.setIfInBounds_toArray, List.set_cons_zero, List.set_cons_succ]
  refine take_first 12 61 (v := ?vr_10) rfl rfl (by kernel_rfl) (by kernel_rfl) (by kernel_rfl) (fun _ _ _ h => h) (by rfl) ?yr_10 (by assumption) ?rr_10
  case yr_10 => (intro w hSw; (try dsimp only at hSw); go_simp; (try with_reducible rfl))
  simp only [Act.put, List.setIfInBounds_toArray, List.set_cons_zero, List.set_cons_succ]
  refine take_first 13 62 (v := ?vr_11) rfl rfl (by kernel_rfl) (by kernel_rfl) (by kernel_rfl) (fun _ _ _ h => h) (by rfl) ?yr_11 (by assumption) ?rr_11
  case yr_11 => (intro w hSw; (try dsimp only at hSw); go_simp; (try with_reducible rfl))
  simp only [Act.put, List.setIfInBounds_toArray, List.set_cons_zero, List.set_cons_succ]
  refine wpAnyH_ready (rs := [5, 14]) (by kernel_rfl) (by simp) ?_
  refine AllReadyH.cons (o := _) rfl (fun Kr_13 hKr_13 => ?cr_13) ?mr_13
  case cr_13 =>
    go_simp
    refine (l3Digit_any _ _ hw0 hw9).mono ?_
    rintro e w6 ⟨rfl, hb⟩
    have HB := Lib.hid (show Below w5.heap.size w5 w6 from (Below.refl _ _).drew.trans (hb.mono (by show w5.heap.size ≤ w5.heap.size; exact Nat.le_refl _)))
    replace HS := Lib.hid (HS.out.call HB.out)
    clear hb
    obtain ⟨hz0, hz1, hz2⟩ := HS.out.size
    have p0 := HS.out.pl.of 0 _ rfl
    have p1 := HS.out.pl.of 1 _ rfl
    have p2 := HS.out.pl.of 2 _ rfl
    have fr := HS.out.pl.2.1
    go_wp2_with fail
    refine hKr_13.out _ _ ?kr_13 (fun hHeldr_13 => ?dr_13)
    case kr_13 => (first | (dsimp only; (exact KS.out _ (HB.out.trans ((Below.refl _ _).mono HB.out.size)))) | (exact KS.out _ (HB.out.trans ((Below.refl _ _).mono HB.out.size))))
    clear hKr_13 Kr_13
    refine take_first 6 55 (v := ?vr_15) rfl rfl (by kernel_rfl) (by kernel_rfl) (by kernel_rfl) (fun _ _ _ h => h) (by rfl) ?yr_15 (by assumption) ?rr_15
    case yr_15 => (intro w hSw; (try dsimp only at hSw); go_simp; (try with_reducible rfl))
    simp only [Act.put, List.setIfInBounds_toArray, List.set_cons_zero, List.set_cons_succ]
    rw [← HKU.out]
    refine wpAnyH_ready (rs := [7, 14]) (by kernel_rfl) (by simp) ?_
    refine AllReadyH.cons (o := _) rfl (fun Kr_18 hKr_18 => ?cr_18) ?mr_18
    case cr_18 =>
      go_simp
      skip
      go_wp2_with fail
      refine hKr_18.out _ _ ?kr_18 (fun hHeldr_18 => ?dr_18)
      case kr_18 => (first | (dsimp only; (exact KS.out _ (HB.out.trans ((belowOne _ _).mono HB.out.size)))) | (exact KS.out _ (HB.out.trans ((belowOne _ _).mono HB.out.size))))
      clear hKr_18 Kr_18
      refine wpAnyH_ready (rs := [14]) (by kernel_rfl) (by simp) ?_
      refine AllReadyH.cons (o := _) rfl (fun Kr_20 hKr_20 => ?cr_20) ?mr_20
      case mr_20 => exact AllReadyH.nil
      go_simp
      skip
      go_wp2_with fail
      refine hKr_20.out _ _ ?kr_20 (fun hHeldr_20 => ?dr_20)
      case kr_20 => (first | (dsimp only; (exact KS.out _ (HB.out.trans ((belowTwo _ _ _).mono HB.out.size)))) | (exact KS.out _ (HB.out.trans ((belowTwo _ _ _).mono HB.out.size))))
      clear hKr_20 Kr_20
      refine take_first 15 64 (v := ?vr_21) rfl rfl (by kernel_rfl) (by kernel_rfl) (by kernel_rfl) (fun _ _ _ h => h) (by rfl) ?yr_21 (by assumption) ?rr_21
      case yr_21 => (intro w hSw; (try dsimp only at hSw); go_simp; (try with_reducible rfl))
      simp only [Act.put, List.setIfInBounds_toArray, List.set_cons_zero, List.set_cons_succ]
      refine wpAnyH_ready (rs := [16]) (by kernel_rfl) (by simp) ?_
      refine AllReadyH.cons (o := _) rfl (fun Kr_22 hKr_22 => ?cr_22) ?mr_22
      case mr_22 => exact AllReadyH.nil
      go_simp
      skip
      go_wp2_with fail
      refine hKr_22.out _ _ ?kr_22 (fun hHeldr_22 => ?dr_22)
      case kr_22 => (first | (dsimp only; (exact KS.out _ (HB.out.trans ((belowThree _ _ _ _).mono HB.out.size)))) | (exact KS.out _ (HB.out.trans ((belowThree _ _ _ _).mono HB.out.size))))
      clear hKr_22 Kr_22
      refine take_first 17 66 (v := ?vr_23) rfl rfl (by kernel_rfl) (by kernel_rfl) (by kernel_rfl) (fun _ _ _ h => h) (by rfl) ?yr_23 (by assumption) ?rr_23
      case yr_23 => (intro w hSw; (try dsimp only at hSw); go_simp; (try with_reducible rfl))
      simp only [Act.put, List.setIfInBounds_toArray, List.set_cons_zero, List.set_cons_succ]
      refine wpAnyH_ready (rs := [18]) (by kernel_rfl) (by simp) ?_
      refine AllReadyH.cons (o := _) rfl (fun Kr_24 hKr_24 => ?cr_24) ?mr_24
      case mr_24 => exact AllReadyH.nil
      go_simp
      skip
      go_wp2_with fail
      refine hKr_24.out _ _ ?kr_24 (fun hHeldr_24 => ?dr_24)
      case kr_24 => (first | (dsimp only; (exact ((belowThree _ _ _ _).cell (p := ⟨b, off, none⟩) (by show b < _; rw [put3_size]; have := HB.out.size; omega)).trans ((World.cell?_of_block (a := ⟨b, off, none⟩) (put3_far _ _ _ _ _ hbR)).trans (KS.out _ HB.out)))) | (exact ((belowThree _ _ _ _).cell (p := ⟨b, off, none⟩) (by show b < _; rw [put3_size]; have := HB.out.size; omega)).trans ((World.cell?_of_block (a := ⟨b, off, none⟩) (put3_far _ _ _ _ _ hbR)).trans (KS.out _ HB.out))))
      clear hKr_24 Kr_24
      refine wpAnyH_done (by kernel_rfl) ?er_5_7 _
      go_wp2
      clear p0 p1 p2 fr
      have z3 := HLo.out
      have h0 := strs_lit (put3 w6 (w.heap.size + 1 + 1) (.bool true) (.slice (some ⟨w6.heap.size, 0, none⟩) 3 3) (.slice (some ⟨w6.heap.size + 1 + 1, 0, none⟩) 2 2)) [keyN 99 o.code, keyN 102 o.fam, keyN 117 (nth XS 0)] #[.string (keyN 99 o.code), .string (keyN 102 o.fam), .string (keyN 117 (nth XS 0))] rfl (by simp [keyN_max]) (by unfold maxLen; simp)
      rw [put3_size] at h0
      have h1 := ints_lit ((put3 w6 (w.heap.size + 1 + 1) (.bool true) (.slice (some ⟨w6.heap.size, 0, none⟩) 3 3) (.slice (some ⟨w6.heap.size + 1 + 1, 0, none⟩) 2 2)).alloc (.cells #[.string (keyN 99 o.code), .string (keyN 102 o.fam), .string (keyN 117 (nth XS 0))] 9)) [nth XS 0, 1, 1] #[.int .i64 (nth XS 0), .int .i64 (1), .int .i64 (1)] rfl (by unfold maxLen; simp)
      rw [alloc_size, put3_size] at h1
      have h2 := wrs_lit2 (((put3 w6 (w.heap.size + 1 + 1) (.bool true) (.slice (some ⟨w6.heap.size, 0, none⟩) 3 3) (.slice (some ⟨w6.heap.size + 1 + 1, 0, none⟩) 2 2)).alloc (.cells #[.string (keyN 99 o.code), .string (keyN 102 o.fam), .string (keyN 117 (nth XS 0))] 9)).alloc (.cells #[.int .i64 (nth XS 0), .int .i64 (1), .int .i64 (1)] 3)) (fun _ => False) _ (keyN 99 o.code) (keyN 102 o.fam) true false (.slice none 0 0) (.slice (some ⟨w6.heap.size + 1, 0, none⟩) 3 3) [] [nth XS 0, 1, 1] (keyN_max _ _) (keyN_max _ _) (Sh.Own.nil _ _) h1 (fun _ h => h.elim) (fun b hb => by rw [alloc_size, alloc_size, put3_size]; omega) (fun b h => h.elim)
      rw [alloc_size, alloc_size, put3_size] at h2
      have HQ := ((((HS.out.pl.put3 (.bool true) (.slice (some ⟨w6.heap.size, 0, none⟩) 3 3) (.slice (some ⟨w6.heap.size + 1 + 1, 0, none⟩) 2 2)).after (.cells #[.string (keyN 99 o.code), .string (keyN 102 o.fam), .string (keyN 117 (nth XS 0))] 9)).after (.cells #[.int .i64 (nth XS 0), .int .i64 (1), .int .i64 (1)] 3)).after (.cells #[.string (keyN 99 o.code), .bool true, .slice none 0 0, .string (keyN 102 o.fam), .bool false, .slice (some ⟨w6.heap.size + 1, 0, none⟩) 3 3] 77))
      have q0 := HQ.of 0 _ rfl
      have q1 := HQ.of 1 _ rfl
      have q2 := HQ.of 2 _ rfl
      rw [HP.out]
      refine bodyPost_ret (v := .agg #[.bool true, .slice (some ⟨w6.heap.size, 0, none⟩) 3 3, .slice (some ⟨w6.heap.size + 1 + 1, 0, none⟩) 2 2]) (by simp only [results, Tryz.results109, go_sem]; simp [go_sem, q0, q1, q2]) rfl ⟨_, _, rfl, planOwn (pl := ⟨true, [keyN 99 o.code, keyN 102 o.fam, keyN 117 (nth XS 0)], [⟨keyN 99 o.code, true, []⟩, ⟨keyN 102 o.fam, false, [nth XS 0, 1, 1]⟩]⟩) (w6.heap.size) ((h0.below (belowOne _ _)).below (belowOne _ _)) h2 (fun b hb => by first | omega | (rcases hb with h | h <;> first | exact h.elim | omega | (rcases h with h | h <;> first | exact h.elim | omega))) (fun b hb => by first | omega | (rcases hb with h | h <;> first | exact h.elim | omega | (rcases h with h | h <;> first | exact h.elim | omega))) (fun b h1 h2 => by first | omega | (rcases h2 with h | h <;> first | exact h.elim | omega | (rcases h with h | h <;> first | exact h.elim | omega))) (by omega), ((((belowPut3 HS.out.bel (w.heap.size + 1 + 1) (by omega) _ _ _).alloc (by rw [put3_size]; omega) _).alloc (by rw [alloc_size, put3_size]; omega) _).alloc (by rw [alloc_size, alloc_size, put3_size]; omega) _)⟩
    refine AllReadyH.cons (o := _) rfl (fun Kr_19 hKr_19 => ?cr_19) ?mr_19
    case cr_19 =>
      go_simp
      skip
      go_wp2_with fail
      refine hKr_19.out _ _ ?kr_19 (fun hHeldr_19 => ?dr_19)
      case kr_19 => (first | (dsimp only; (exact KS.out _ (HB.out.trans ((belowOne _ _).mono HB.out.size)))) | (exact KS.out _ (HB.out.trans ((belowOne _ _).mono HB.out.size))))
      clear hKr_19 Kr_19
      refine take_first 15 64 (v := ?vr_25) rfl rfl (by kernel_rfl) (by kernel_rfl) (by kernel_rfl) (fun _ _ _ h => h) (by rfl) ?yr_25 (by assumption) ?rr_25
      case yr_25 => (intro w hSw; (try dsimp only at hSw); go_simp; (try with_reducible rfl))
      simp only [Act.put, List.setIfInBounds_toArray, List.set_cons_zero, List.set_cons_succ]
      refine wpAnyH_ready (rs := [7, 16]) (by kernel_rfl) (by simp) ?_
      refine AllReadyH.cons (o := _) rfl (fun Kr_27 hKr_27 => ?cr_27) ?mr_27
      case cr_27 =>
        go_simp
        skip
        go_wp2_with fail
        refine hKr_27.out _ _ ?kr_27 (fun hHeldr_27 => ?dr_27)
        case kr_27 => (first | (dsimp only; (exact KS.out _ (HB.out.trans ((belowTwo _ _ _).mono HB.out.size)))) | (exact KS.out _ (HB.out.trans ((belowTwo _ _ _).mono HB.out.size))))
        clear hKr_27 Kr_27
        refine wpAnyH_ready (rs := [16]) (by kernel_rfl) (by simp) ?_
        refine AllReadyH.cons (o := _) rfl (fun Kr_29 hKr_29 => ?cr_29) ?mr_29
        case mr_29 => exact AllReadyH.nil
        go_simp
        skip
        go_wp2_with fail
        refine hKr_29.out _ _ ?kr_29 (fun hHeldr_29 => ?dr_29)
        case kr_29 => (first | (dsimp only; (exact KS.out _ (HB.out.trans ((belowThree _ _ _ _).mono HB.out.size)))) | (exact KS.out _ (HB.out.trans ((belowThree _ _ _ _).mono HB.out.size))))
        clear hKr_29 Kr_29
        refine take_first 17 66 (v := ?vr_30) rfl rfl (by kernel_rfl) (by kernel_rfl) (by kernel_rfl) (fun _ _ _ h => h) (by rfl) ?yr_30 (by assumption) ?rr_30
        case yr_30 => (intro w hSw; (try dsimp only at hSw); go_simp; (try with_reducible rfl))
        simp only [Act.put, List.setIfInBounds_toArray, List.set_cons_zero, List.set_cons_succ]
        refine wpAnyH_ready (rs := [18]) (by kernel_rfl) (by simp) ?_
        refine AllReadyH.cons (o := _) rfl (fun Kr_31 hKr_31 => ?cr_31) ?mr_31
        case mr_31 => exact AllReadyH.nil
        go_simp
        skip
        go_wp2_with fail
        refine hKr_31.out _ _ ?kr_31 (fun hHeldr_31 => ?dr_31)
        case kr_31 => (first | (dsimp only; (exact ((belowThree _ _ _ _).cell (p := ⟨b, off, none⟩) (by show b < _; rw [put3_size]; have := HB.out.size; omega)).trans ((World.cell?_of_block (a := ⟨b, off, none⟩) (put3_far _ _ _ _ _ hbR)).trans (KS.out _ HB.out)))) | (exact ((belowThree _ _ _ _).cell (p := ⟨b, off, none⟩) (by show b < _; rw [put3_size]; have := HB.out.size; omega)).trans ((World.cell?_of_block (a := ⟨b, off, none⟩) (put3_far _ _ _ _ _ hbR)).trans (KS.out _ HB.out))))
        clear hKr_31 Kr_31
        refine wpAnyH_done (by kernel_rfl) ?er_5_14_7 _
        go_wp2
        clear p0 p1 p2 fr
        have z3 := HLo.out
        have h0 := ints_lit (put3 w6 (w.heap.size + 1 + 1) (.bool true) (.slice (some ⟨w6.heap.size + 1, 0, none⟩) 3 3) (.slice (some ⟨w6.heap.size + 1 + 1, 0, none⟩) 2 2)) [nth XS 0, 1, 1] #[.int .i64 (nth XS 0), .int .i64 (1), .int .i64 (1)] rfl (by unfold maxLen; simp)
        rw [put3_size] at h0
        have h1 := strs_lit ((put3 w6 (w.heap.size + 1 + 1) (.bool true) (.slice (some ⟨w6.heap.size + 1, 0, none⟩) 3 3) (.slice (some ⟨w6.heap.size + 1 + 1, 0, none⟩) 2 2)).alloc (.cells #[.int .i64 (nth XS 0), .int .i64 (1), .int .i64 (1)] 3)) [keyN 99 o.code, keyN 102 o.fam, keyN 117 (nth XS 0)] #[.string (keyN 99 o.code), .string (keyN 102 o.fam), .string (keyN 117 (nth XS 0))] rfl (by simp [keyN_max]) (by unfold maxLen; simp)
        rw [alloc_size, put3_size] at h1
        have h2 := wrs_lit2 (((put3 w6 (w.heap.size + 1 + 1) (.bool true) (.slice (some ⟨w6.heap.size + 1, 0, none⟩) 3 3) (.slice (some ⟨w6.heap.size + 1 + 1, 0, none⟩) 2 2)).alloc (.cells #[.int .i64 (nth XS 0), .int .i64 (1), .int .i64 (1)] 3)).alloc (.cells #[.string (keyN 99 o.code), .string (keyN 102 o.fam), .string (keyN 117 (nth XS 0))] 9)) (fun _ => False) _ (keyN 99 o.code) (keyN 102 o.fam) true false (.slice none 0 0) (.slice (some ⟨w6.heap.size, 0, none⟩) 3 3) [] [nth XS 0, 1, 1] (keyN_max _ _) (keyN_max _ _) (Sh.Own.nil _ _) (h0.below (belowOne _ _)) (fun _ h => h.elim) (fun b hb => by rw [alloc_size, alloc_size, put3_size]; omega) (fun b h => h.elim)
        rw [alloc_size, alloc_size, put3_size] at h2
        have HQ := ((((HS.out.pl.put3 (.bool true) (.slice (some ⟨w6.heap.size + 1, 0, none⟩) 3 3) (.slice (some ⟨w6.heap.size + 1 + 1, 0, none⟩) 2 2)).after (.cells #[.int .i64 (nth XS 0), .int .i64 (1), .int .i64 (1)] 3)).after (.cells #[.string (keyN 99 o.code), .string (keyN 102 o.fam), .string (keyN 117 (nth XS 0))] 9)).after (.cells #[.string (keyN 99 o.code), .bool true, .slice none 0 0, .string (keyN 102 o.fam), .bool false, .slice (some ⟨w6.heap.size, 0, none⟩) 3 3] 77))
        have q0 := HQ.of 0 _ rfl
        have q1 := HQ.of 1 _ rfl
        have q2 := HQ.of 2 _ rfl
        rw [HP.out]
        refine bodyPost_ret (v := .agg #[.bool true, .slice (some ⟨w6.heap.size + 1, 0, none⟩) 3 3, .slice (some ⟨w6.heap.size + 1 + 1, 0, none⟩) 2 2]) (by simp only [results, Tryz.results109, go_sem]; simp [go_sem, q0, q1, q2]) rfl ⟨_, _, rfl, planOwn (pl := ⟨true, [keyN 99 o.code, keyN 102 o.fam, keyN 117 (nth XS 0)], [⟨keyN 99 o.code, true, []⟩, ⟨keyN 102 o.fam, false, [nth XS 0, 1, 1]⟩]⟩) (w6.heap.size) (h1.below (belowOne _ _)) h2 (fun b hb => by first | omega | (rcases hb with h | h <;> first | exact h.elim | omega | (rcases h with h | h <;> first | exact h.elim | omega))) (fun b hb => by first | omega | (rcases hb with h | h <;> first | exact h.elim | omega | (rcases h with h | h <;> first | exact h.elim | omega))) (fun b h1 h2 => by first | omega | (rcases h2 with h | h <;> first | exact h.elim | omega | (rcases h with h | h <;> first | exact h.elim | omega))) (by omega), ((((belowPut3 HS.out.bel (w.heap.size + 1 + 1) (by omega) _ _ _).alloc (by rw [put3_size]; omega) _).alloc (by rw [alloc_size, put3_size]; omega) _).alloc (by rw [alloc_size, alloc_size, put3_size]; omega) _)⟩
      refine AllReadyH.cons (o := _) rfl (fun Kr_28 hKr_28 => ?cr_28) ?mr_28
      case cr_28 =>
        go_simp
        skip
        go_wp2_with fail
        refine hKr_28.out _ _ ?kr_28 (fun hHeldr_28 => ?dr_28)
        case kr_28 => (first | (dsimp only; (exact KS.out _ (HB.out.trans ((belowTwo _ _ _).mono HB.out.size)))) | (exact KS.out _ (HB.out.trans ((belowTwo _ _ _).mono HB.out.size))))
        clear hKr_28 Kr_28
        refine wpAnyH_ready (rs := [7]) (by kernel_rfl) (by simp) ?_
        refine AllReadyH.cons (o := _) rfl (fun Kr_32 hKr_32 => ?cr_32) ?mr_32
        case mr_32 => exact AllReadyH.nil
        go_simp
        skip
        go_wp2_with fail
        refine hKr_32.out _ _ ?kr_32 (fun hHeldr_32 => ?dr_32)
        case kr_32 => (first | (dsimp only; (exact KS.out _ (HB.out.trans ((belowThree _ _ _ _).mono HB.out.size)))) | (exact KS.out _ (HB.out.trans ((belowThree _ _ _ _).mono HB.out.size))))
        clear hKr_32 Kr_32
        refine take_first 17 66 (v := ?vr_33) rfl rfl (by kernel_rfl) (by kernel_rfl) (by kernel_rfl) (fun _ _ _ h => h) (by rfl) ?yr_33 (by assumption) ?rr_33
        case yr_33 => (intro w hSw; (try dsimp only at hSw); go_simp; (try with_reducible rfl))
        simp only [Act.put, List.setIfInBounds_toArray, List.set_cons_zero, List.set_cons_succ]
        refine wpAnyH_ready (rs := [18]) (by kernel_rfl) (by simp) ?_
        refine AllReadyH.cons (o := _) rfl (fun Kr_34 hKr_34 => ?cr_34) ?mr_34
        case mr_34 => exact AllReadyH.nil
        go_simp
        skip
        go_wp2_with fail
        refine hKr_34.out _ _ ?kr_34 (fun hHeldr_34 => ?dr_34)
        case kr_34 => (first | (dsimp only; (exact ((belowThree _ _ _ _).cell (p := ⟨b, off, none⟩) (by show b < _; rw [put3_size]; have := HB.out.size; omega)).trans ((World.cell?_of_block (a := ⟨b, off, none⟩) (put3_far _ _ _ _ _ hbR)).trans (KS.out _ HB.out)))) | (exact ((belowThree _ _ _ _).cell (p := ⟨b, off, none⟩) (by show b < _; rw [put3_size]; have := HB.out.size; omega)).trans ((World.cell?_of_block (a := ⟨b, off, none⟩) (put3_far _ _ _ _ _ hbR)).trans (KS.out _ HB.out))))
        clear hKr_34 Kr_34
        refine wpAnyH_done (by kernel_rfl) ?er_5_14_16 _
        go_wp2
        clear p0 p1 p2 fr
        have z3 := HLo.out
        have h0 := ints_lit (put3 w6 (w.heap.size + 1 + 1) (.bool true) (.slice (some ⟨w6.heap.size + 1 + 1, 0, none⟩) 3 3) (.slice (some ⟨w6.heap.size + 1, 0, none⟩) 2 2)) [nth XS 0, 1, 1] #[.int .i64 (nth XS 0), .int .i64 (1), .int .i64 (1)] rfl (by unfold maxLen; simp)
        rw [put3_size] at h0
        have h1 := wrs_lit2 ((put3 w6 (w.heap.size + 1 + 1) (.bool true) (.slice (some ⟨w6.heap.size + 1 + 1, 0, none⟩) 3 3) (.slice (some ⟨w6.heap.size + 1, 0, none⟩) 2 2)).alloc (.cells #[.int .i64 (nth XS 0), .int .i64 (1), .int .i64 (1)] 3)) (fun _ => False) _ (keyN 99 o.code) (keyN 102 o.fam) true false (.slice none 0 0) (.slice (some ⟨w6.heap.size, 0, none⟩) 3 3) [] [nth XS 0, 1, 1] (keyN_max _ _) (keyN_max _ _) (Sh.Own.nil _ _) h0 (fun _ h => h.elim) (fun b hb => by rw [alloc_size, put3_size]; omega) (fun b h => h.elim)
        rw [alloc_size, put3_size] at h1
        have h2 := strs_lit (((put3 w6 (w.heap.size + 1 + 1) (.bool true) (.slice (some ⟨w6.heap.size + 1 + 1, 0, none⟩) 3 3) (.slice (some ⟨w6.heap.size + 1, 0, none⟩) 2 2)).alloc (.cells #[.int .i64 (nth XS 0), .int .i64 (1), .int .i64 (1)] 3)).alloc (.cells #[.string (keyN 99 o.code), .bool true, .slice none 0 0, .string (keyN 102 o.fam), .bool false, .slice (some ⟨w6.heap.size, 0, none⟩) 3 3] 77)) [keyN 99 o.code, keyN 102 o.fam, keyN 117 (nth XS 0)] #[.string (keyN 99 o.code), .string (keyN 102 o.fam), .string (keyN 117 (nth XS 0))] rfl (by simp [keyN_max]) (by unfold maxLen; simp)
        rw [alloc_size, alloc_size, put3_size] at h2
        have HQ := ((((HS.out.pl.put3 (.bool true) (.slice (some ⟨w6.heap.size + 1 + 1, 0, none⟩) 3 3) (.slice (some ⟨w6.heap.size + 1, 0, none⟩) 2 2)).after (.cells #[.int .i64 (nth XS 0), .int .i64 (1), .int .i64 (1)] 3)).after (.cells #[.string (keyN 99 o.code), .bool true, .slice none 0 0, .string (keyN 102 o.fam), .bool false, .slice (some ⟨w6.heap.size, 0, none⟩) 3 3] 77)).after (.cells #[.string (keyN 99 o.code), .string (keyN 102 o.fam), .string (keyN 117 (nth XS 0))] 9))
        have q0 := HQ.of 0 _ rfl
        have q1 := HQ.of 1 _ rfl
        have q2 := HQ.of 2 _ rfl
        rw [HP.out]
        refine bodyPost_ret (v := .agg #[.bool true, .slice (some ⟨w6.heap.size + 1 + 1, 0, none⟩) 3 3, .slice (some ⟨w6.heap.size + 1, 0, none⟩) 2 2]) (by simp only [results, Tryz.results109, go_sem]; simp [go_sem, q0, q1, q2]) rfl ⟨_, _, rfl, planOwn (pl := ⟨true, [keyN 99 o.code, keyN 102 o.fam, keyN 117 (nth XS 0)], [⟨keyN 99 o.code, true, []⟩, ⟨keyN 102 o.fam, false, [nth XS 0, 1, 1]⟩]⟩) (w6.heap.size) h2 (h1.below (belowOne _ _)) (fun b hb => by first | omega | (rcases hb with h | h <;> first | exact h.elim | omega | (rcases h with h | h <;> first | exact h.elim | omega))) (fun b hb => by first | omega | (rcases hb with h | h <;> first | exact h.elim | omega | (rcases h with h | h <;> first | exact h.elim | omega))) (fun b h1 h2 => by first | omega | (rcases h2 with h | h <;> first | exact h.elim | omega | (rcases h with h | h <;> first | exact h.elim | omega))) (by omega), ((((belowPut3 HS.out.bel (w.heap.size + 1 + 1) (by omega) _ _ _).alloc (by rw [put3_size]; omega) _).alloc (by rw [alloc_size, put3_size]; omega) _).alloc (by rw [alloc_size, alloc_size, put3_size]; omega) _)⟩
      exact AllReadyH.nil
    exact AllReadyH.nil
  refine AllReadyH.cons (o := _) rfl (fun Kr_14 hKr_14 => ?cr_14) ?mr_14
  case cr_14 =>
    go_simp
    skip
    go_wp2_with fail
    refine hKr_14.out _ _ ?kr_14 (fun hHeldr_14 => ?dr_14)
    case kr_14 => (first | (dsimp only; (exact KS.out _ (belowOne _ _).drew)) | (exact KS.out _ (belowOne _ _).drew))
    clear hKr_14 Kr_14
    refine take_first 15 64 (v := ?vr_35) rfl rfl (by kernel_rfl) (by kernel_rfl) (by kernel_rfl) (fun _ _ _ h => h) (by rfl) ?yr_35 (by assumption) ?rr_35
    case yr_35 => (intro w hSw; (try dsimp only at hSw); go_simp; (try with_reducible rfl))
    simp only [Act.put, List.setIfInBounds_toArray, List.set_cons_zero, List.set_cons_succ]
    refine wpAnyH_ready (rs := [5, 16]) (by kernel_rfl) (by simp) ?_
    refine AllReadyH.cons (o := _) rfl (fun Kr_37 hKr_37 => ?cr_37) ?mr_37
    case cr_37 =>
      go_simp
      refine (l3Digit_any _ _ hw0 hw9).mono ?_
      rintro e w6 ⟨rfl, hb⟩
      have HB := Lib.hid (show Below w5.heap.size w5 w6 from (belowOne _ _).drew.trans (hb.mono (by show w5.heap.size ≤ (w5.alloc (.cells #[.int .i64 (nth XS 0), .int .i64 1, .int .i64 1] 3)).heap.size; rw [alloc_size]; omega)))
      replace HS := Lib.hid (HS.out.call HB.out)
      have HI := Lib.hid ((show Sh.int.Own 3 (w5.alloc (.cells #[.int .i64 (nth XS 0), .int .i64 1, .int .i64 1] 3)).drew (fun b => b = w5.heap.size) (.slice (some ⟨w5.heap.size, 0, none⟩) 3 3) [nth XS 0, 1, 1] from (ints_lit w5 [nth XS 0, 1, 1] #[.int .i64 (nth XS 0), .int .i64 1, .int .i64 1] rfl (by unfold maxLen; simp))).below hb)
      have hi6 : w5.heap.size < w6.heap.size := by have h := hb.size; rw [show (w5.alloc (.cells #[.int .i64 (nth XS 0), .int .i64 1, .int .i64 1] 3)).drew.heap.size = w5.heap.size + 1 from by show (w5.alloc (.cells #[.int .i64 (nth XS 0), .int .i64 1, .int .i64 1] 3)).heap.size = _; rw [alloc_size]] at h; omega
      clear hb
      obtain ⟨hz0, hz1, hz2⟩ := HS.out.size
      have p0 := HS.out.pl.of 0 _ rfl
      have p1 := HS.out.pl.of 1 _ rfl
      have p2 := HS.out.pl.of 2 _ rfl
      have fr := HS.out.pl.2.1
      go_wp2_with fail
      refine hKr_37.out _ _ ?kr_37 (fun hHeldr_37 => ?dr_37)
      case kr_37 => (first | (dsimp only; (exact KS.out _ (HB.out.trans ((Below.refl _ _).mono HB.out.size)))) | (exact KS.out _ (HB.out.trans ((Below.refl _ _).mono HB.out.size))))
      clear hKr_37 Kr_37
      refine take_first 6 55 (v := ?vr_39) rfl rfl (by kernel_rfl) (by kernel_rfl) (by kernel_rfl) (fun _ _ _ h => h) (by rfl) ?yr_39 (by assumption) ?rr_39
      case yr_39 => (intro w hSw; (try dsimp only at hSw); go_simp; (try with_reducible rfl))
      simp only [Act.put, List.setIfInBounds_toArray, List.set_cons_zero, List.set_cons_succ]
      rw [← HKU.out]
      refine wpAnyH_ready (rs := [7, 16]) (by kernel_rfl) (by simp) ?_
      refine AllReadyH.cons (o := _) rfl (fun Kr_42 hKr_42 => ?cr_42) ?mr_42
      case cr_42 =>
        go_simp
        skip
        go_wp2_with fail
        refine hKr_42.out _ _ ?kr_42 (fun hHeldr_42 => ?dr_42)
        case kr_42 => (first | (dsimp only; (exact KS.out _ (HB.out.trans ((belowOne _ _).mono HB.out.size)))) | (exact KS.out _ (HB.out.trans ((belowOne _ _).mono HB.out.size))))
        clear hKr_42 Kr_42
        refine wpAnyH_ready (rs := [16]) (by kernel_rfl) (by simp) ?_
        refine AllReadyH.cons (o := _) rfl (fun Kr_44 hKr_44 => ?cr_44) ?mr_44
        case mr_44 => exact AllReadyH.nil
        go_simp
        skip
        go_wp2_with fail
        refine hKr_44.out _ _ ?kr_44 (fun hHeldr_44 => ?dr_44)
        case kr_44 => (first | (dsimp only; (exact KS.out _ (HB.out.trans ((belowTwo _ _ _).mono HB.out.size)))) | (exact KS.out _ (HB.out.trans ((belowTwo _ _ _).mono HB.out.size))))
        clear hKr_44 Kr_44
        refine take_first 17 66 (v := ?vr_45) rfl rfl (by kernel_rfl) (by kernel_rfl) (by kernel_rfl) (fun _ _ _ h => h) (by rfl) ?yr_45 (by assumption) ?rr_45
        case yr_45 => (intro w hSw; (try dsimp only at hSw); go_simp; (try with_reducible rfl))
        simp only [Act.put, List.setIfInBounds_toArray, List.set_cons_zero, List.set_cons_succ]
        refine wpAnyH_ready (rs := [18]) (by kernel_rfl) (by simp) ?_
        refine AllReadyH.cons (o := _) rfl (fun Kr_46 hKr_46 => ?cr_46) ?mr_46
        case mr_46 => exact AllReadyH.nil
        go_simp
        skip
        go_wp2_with fail
        refine hKr_46.out _ _ ?kr_46 (fun hHeldr_46 => ?dr_46)
        case kr_46 => (first | (dsimp only; (exact ((belowTwo _ _ _).cell (p := ⟨b, off, none⟩) (by show b < _; rw [put3_size]; have := HB.out.size; omega)).trans ((World.cell?_of_block (a := ⟨b, off, none⟩) (put3_far _ _ _ _ _ hbR)).trans (KS.out _ HB.out)))) | (exact ((belowTwo _ _ _).cell (p := ⟨b, off, none⟩) (by show b < _; rw [put3_size]; have := HB.out.size; omega)).trans ((World.cell?_of_block (a := ⟨b, off, none⟩) (put3_far _ _ _ _ _ hbR)).trans (KS.out _ HB.out))))
        clear hKr_46 Kr_46
        refine wpAnyH_done (by kernel_rfl) ?er_14_5_7 _
        go_wp2
        clear p0 p1 p2 fr
        have z3 := HLo.out
        have h0 := strs_lit (put3 w6 (w.heap.size + 1 + 1) (.bool true) (.slice (some ⟨w6.heap.size, 0, none⟩) 3 3) (.slice (some ⟨w6.heap.size + 1, 0, none⟩) 2 2)) [keyN 99 o.code, keyN 102 o.fam, keyN 117 (nth XS 0)] #[.string (keyN 99 o.code), .string (keyN 102 o.fam), .string (keyN 117 (nth XS 0))] rfl (by simp [keyN_max]) (by unfold maxLen; simp)
        rw [put3_size] at h0
        have h1 := wrs_lit2 ((put3 w6 (w.heap.size + 1 + 1) (.bool true) (.slice (some ⟨w6.heap.size, 0, none⟩) 3 3) (.slice (some ⟨w6.heap.size + 1, 0, none⟩) 2 2)).alloc (.cells #[.string (keyN 99 o.code), .string (keyN 102 o.fam), .string (keyN 117 (nth XS 0))] 9)) (fun _ => False) _ (keyN 99 o.code) (keyN 102 o.fam) true false (.slice none 0 0) (.slice (some ⟨w5.heap.size, 0, none⟩) 3 3) [] [nth XS 0, 1, 1] (keyN_max _ _) (keyN_max _ _) (Sh.Own.nil _ _) ((HI.out.keep (w' := (put3 w6 (w.heap.size + 1 + 1) (.bool true) (.slice (some ⟨w6.heap.size, 0, none⟩) 3 3) (.slice (some ⟨w6.heap.size + 1, 0, none⟩) 2 2))) fun b hb _ => put3_far _ _ _ _ _ (by omega)).below (belowOne _ _)) (fun _ h => h.elim) (fun b hb => by rw [alloc_size, put3_size]; omega) (fun b h => h.elim)
        rw [alloc_size, put3_size] at h1
        have HQ := (((HS.out.pl.put3 (.bool true) (.slice (some ⟨w6.heap.size, 0, none⟩) 3 3) (.slice (some ⟨w6.heap.size + 1, 0, none⟩) 2 2)).after (.cells #[.string (keyN 99 o.code), .string (keyN 102 o.fam), .string (keyN 117 (nth XS 0))] 9)).after (.cells #[.string (keyN 99 o.code), .bool true, .slice none 0 0, .string (keyN 102 o.fam), .bool false, .slice (some ⟨w5.heap.size, 0, none⟩) 3 3] 77))
        have q0 := HQ.of 0 _ rfl
        have q1 := HQ.of 1 _ rfl
        have q2 := HQ.of 2 _ rfl
        rw [HP.out]
        refine bodyPost_ret (v := .agg #[.bool true, .slice (some ⟨w6.heap.size, 0, none⟩) 3 3, .slice (some ⟨w6.heap.size + 1, 0, none⟩) 2 2]) (by simp only [results, Tryz.results109, go_sem]; simp [go_sem, q0, q1, q2]) rfl ⟨_, _, rfl, planOwn (pl := ⟨true, [keyN 99 o.code, keyN 102 o.fam, keyN 117 (nth XS 0)], [⟨keyN 99 o.code, true, []⟩, ⟨keyN 102 o.fam, false, [nth XS 0, 1, 1]⟩]⟩) (w5.heap.size) (h0.below (belowOne _ _)) h1 (fun b hb => by first | omega | (rcases hb with h | h <;> first | exact h.elim | omega | (rcases h with h | h <;> first | exact h.elim | omega))) (fun b hb => by first | omega | (rcases hb with h | h <;> first | exact h.elim | omega | (rcases h with h | h <;> first | exact h.elim | omega))) (fun b h1 h2 => by first | omega | (rcases h2 with h | h <;> first | exact h.elim | omega | (rcases h with h | h <;> first | exact h.elim | omega))) (by omega), (((belowPut3 HS.out.bel (w.heap.size + 1 + 1) (by omega) _ _ _).alloc (by rw [put3_size]; omega) _).alloc (by rw [alloc_size, put3_size]; omega) _)⟩
      refine AllReadyH.cons (o := _) rfl (fun Kr_43 hKr_43 => ?cr_43) ?mr_43
      case cr_43 =>
        go_simp
        skip
        go_wp2_with fail
        refine hKr_43.out _ _ ?kr_43 (fun hHeldr_43 => ?dr_43)
        case kr_43 => (first | (dsimp only; (exact KS.out _ (HB.out.trans ((belowOne _ _).mono HB.out.size)))) | (exact KS.out _ (HB.out.trans ((belowOne _ _).mono HB.out.size))))
        clear hKr_43 Kr_43
        refine wpAnyH_ready (rs := [7]) (by kernel_rfl) (by simp) ?_
        refine AllReadyH.cons (o := _) rfl (fun Kr_47 hKr_47 => ?cr_47) ?mr_47
        case mr_47 => exact AllReadyH.nil
        go_simp
        skip
        go_wp2_with fail
        refine hKr_47.out _ _ ?kr_47 (fun hHeldr_47 => ?dr_47)
        case kr_47 => (first | (dsimp only; (exact KS.out _ (HB.out.trans ((belowTwo _ _ _).mono HB.out.size)))) | (exact KS.out _ (HB.out.trans ((belowTwo _ _ _).mono HB.out.size))))
        clear hKr_47 Kr_47
        refine take_first 17 66 (v := ?vr_48) rfl rfl (by kernel_rfl) (by kernel_rfl) (by kernel_rfl) (fun _ _ _ h => h) (by rfl) ?yr_48 (by assumption) ?rr_48
        case yr_48 => (intro w hSw; (try dsimp only at hSw); go_simp; (try with_reducible rfl))
        simp only [Act.put, List.setIfInBounds_toArray, List.set_cons_zero, List.set_cons_succ]
        refine wpAnyH_ready (rs := [18]) (by kernel_rfl) (by simp) ?_
        refine AllReadyH.cons (o := _) rfl (fun Kr_49 hKr_49 => ?cr_49) ?mr_49
        case mr_49 => exact AllReadyH.nil
        go_simp
        skip
        go_wp2_with fail
        refine hKr_49.out _ _ ?kr_49 (fun hHeldr_49 => ?dr_49)
        case kr_49 => (first | (dsimp only; (exact ((belowTwo _ _ _).cell (p := ⟨b, off, none⟩) (by show b < _; rw [put3_size]; have := HB.out.size; omega)).trans ((World.cell?_of_block (a := ⟨b, off, none⟩) (put3_far _ _ _ _ _ hbR)).trans (KS.out _ HB.out)))) | (exact ((belowTwo _ _ _).cell (p := ⟨b, off, none⟩) (by show b < _; rw [put3_size]; have := HB.out.size; omega)).trans ((World.cell?_of_block (a := ⟨b, off, none⟩) (put3_far _ _ _ _ _ hbR)).trans (KS.out _ HB.out))))
        clear hKr_49 Kr_49
        refine wpAnyH_done (by kernel_rfl) ?er_14_5_16 _
        go_wp2
        clear p0 p1 p2 fr
        have z3 := HLo.out
        have h0 := wrs_lit2 (put3 w6 (w.heap.size + 1 + 1) (.bool true) (.slice (some ⟨w6.heap.size + 1, 0, none⟩) 3 3) (.slice (some ⟨w6.heap.size, 0, none⟩) 2 2)) (fun _ => False) _ (keyN 99 o.code) (keyN 102 o.fam) true false (.slice none 0 0) (.slice (some ⟨w5.heap.size, 0, none⟩) 3 3) [] [nth XS 0, 1, 1] (keyN_max _ _) (keyN_max _ _) (Sh.Own.nil _ _) (HI.out.keep (w' := (put3 w6 (w.heap.size + 1 + 1) (.bool true) (.slice (some ⟨w6.heap.size + 1, 0, none⟩) 3 3) (.slice (some ⟨w6.heap.size, 0, none⟩) 2 2))) fun b hb _ => put3_far _ _ _ _ _ (by omega)) (fun _ h => h.elim) (fun b hb => by rw [put3_size]; omega) (fun b h => h.elim)
        rw [put3_size] at h0
        have h1 := strs_lit ((put3 w6 (w.heap.size + 1 + 1) (.bool true) (.slice (some ⟨w6.heap.size + 1, 0, none⟩) 3 3) (.slice (some ⟨w6.heap.size, 0, none⟩) 2 2)).alloc (.cells #[.string (keyN 99 o.code), .bool true, .slice none 0 0, .string (keyN 102 o.fam), .bool false, .slice (some ⟨w5.heap.size, 0, none⟩) 3 3] 77)) [keyN 99 o.code, keyN 102 o.fam, keyN 117 (nth XS 0)] #[.string (keyN 99 o.code), .string (keyN 102 o.fam), .string (keyN 117 (nth XS 0))] rfl (by simp [keyN_max]) (by unfold maxLen; simp)
        rw [alloc_size, put3_size] at h1
        have HQ := (((HS.out.pl.put3 (.bool true) (.slice (some ⟨w6.heap.size + 1, 0, none⟩) 3 3) (.slice (some ⟨w6.heap.size, 0, none⟩) 2 2)).after (.cells #[.string (keyN 99 o.code), .bool true, .slice none 0 0, .string (keyN 102 o.fam), .bool false, .slice (some ⟨w5.heap.size, 0, none⟩) 3 3] 77)).after (.cells #[.string (keyN 99 o.code), .string (keyN 102 o.fam), .string (keyN 117 (nth XS 0))] 9))
        have q0 := HQ.of 0 _ rfl
        have q1 := HQ.of 1 _ rfl
        have q2 := HQ.of 2 _ rfl
        rw [HP.out]
        refine bodyPost_ret (v := .agg #[.bool true, .slice (some ⟨w6.heap.size + 1, 0, none⟩) 3 3, .slice (some ⟨w6.heap.size, 0, none⟩) 2 2]) (by simp only [results, Tryz.results109, go_sem]; simp [go_sem, q0, q1, q2]) rfl ⟨_, _, rfl, planOwn (pl := ⟨true, [keyN 99 o.code, keyN 102 o.fam, keyN 117 (nth XS 0)], [⟨keyN 99 o.code, true, []⟩, ⟨keyN 102 o.fam, false, [nth XS 0, 1, 1]⟩]⟩) (w5.heap.size) h1 (h0.below (belowOne _ _)) (fun b hb => by first | omega | (rcases hb with h | h <;> first | exact h.elim | omega | (rcases h with h | h <;> first | exact h.elim | omega))) (fun b hb => by first | omega | (rcases hb with h | h <;> first | exact h.elim | omega | (rcases h with h | h <;> first | exact h.elim | omega))) (fun b h1 h2 => by first | omega | (rcases h2 with h | h <;> first | exact h.elim | omega | (rcases h with h | h <;> first | exact h.elim | omega))) (by omega), (((belowPut3 HS.out.bel (w.heap.size + 1 + 1) (by omega) _ _ _).alloc (by rw [put3_size]; omega) _).alloc (by rw [alloc_size, put3_size]; omega) _)⟩
      exact AllReadyH.nil
    refine AllReadyH.cons (o := _) rfl (fun Kr_38 hKr_38 => ?cr_38) ?mr_38
    case cr_38 =>
      go_simp
      skip
      go_wp2_with fail
      refine hKr_38.out _ _ ?kr_38 (fun hHeldr_38 => ?dr_38)
      case kr_38 => (first | (dsimp only; (exact KS.out _ (belowTwo _ _ _).drew)) | (exact KS.out _ (belowTwo _ _ _).drew))
      clear hKr_38 Kr_38
      refine wpAnyH_ready (rs := [5]) (by kernel_rfl) (by simp) ?_
      refine AllReadyH.cons (o := _) rfl (fun Kr_50 hKr_50 => ?cr_50) ?mr_50
      case mr_50 => exact AllReadyH.nil
      go_simp
      refine (l3Digit_any _ _ hw0 hw9).mono ?_
      rintro e w6 ⟨rfl, hb⟩
      have HB := Lib.hid (show Below w5.heap.size w5 w6 from (belowTwo _ _ _).drew.trans (hb.mono (by show w5.heap.size ≤ ((w5.alloc (.cells #[.int .i64 (nth XS 0), .int .i64 1, .int .i64 1] 3)).alloc (.cells #[.string (keyN 99 o.code), .bool true, .slice none 0 0, .string (keyN 102 o.fam), .bool false, .slice (some ⟨w5.heap.size, 0, none⟩) 3 3] 77)).heap.size; rw [alloc_size, alloc_size]; omega)))
      replace HS := Lib.hid (HS.out.call HB.out)
      have HI := Lib.hid ((show Sh.int.Own 3 ((w5.alloc (.cells #[.int .i64 (nth XS 0), .int .i64 1, .int .i64 1] 3)).alloc (.cells #[.string (keyN 99 o.code), .bool true, .slice none 0 0, .string (keyN 102 o.fam), .bool false, .slice (some ⟨w5.heap.size, 0, none⟩) 3 3] 77)).drew (fun b => b = w5.heap.size) (.slice (some ⟨w5.heap.size, 0, none⟩) 3 3) [nth XS 0, 1, 1] from (by have h := (ints_lit w5 [nth XS 0, 1, 1] #[.int .i64 (nth XS 0), .int .i64 1, .int .i64 1] rfl (by unfold maxLen; simp)).below (belowOne (w5.alloc (.cells #[.int .i64 (nth XS 0), .int .i64 1, .int .i64 1] 3)) (.cells #[.string (keyN 99 o.code), .bool true, .slice none 0 0, .string (keyN 102 o.fam), .bool false, .slice (some ⟨w5.heap.size, 0, none⟩) 3 3] 77)); exact h)).below hb)
      have hi6 : w5.heap.size < w6.heap.size := by have h := hb.size; rw [show ((w5.alloc (.cells #[.int .i64 (nth XS 0), .int .i64 1, .int .i64 1] 3)).alloc (.cells #[.string (keyN 99 o.code), .bool true, .slice none 0 0, .string (keyN 102 o.fam), .bool false, .slice (some ⟨w5.heap.size, 0, none⟩) 3 3] 77)).drew.heap.size = w5.heap.size + 1 + 1 from by show ((w5.alloc (.cells #[.int .i64 (nth XS 0), .int .i64 1, .int .i64 1] 3)).alloc (.cells #[.string (keyN 99 o.code), .bool true, .slice none 0 0, .string (keyN 102 o.fam), .bool false, .slice (some ⟨w5.heap.size, 0, none⟩) 3 3] 77)).heap.size = _; rw [alloc_size, alloc_size]] at h; omega
      have hw6 := wrs_lit2 (w5.alloc (.cells #[.int .i64 (nth XS 0), .int .i64 1, .int .i64 1] 3)) (fun _ => False) _ (keyN 99 o.code) (keyN 102 o.fam) true false (.slice none 0 0) (.slice (some ⟨w5.heap.size, 0, none⟩) 3 3) [] [nth XS 0, 1, 1] (keyN_max _ _) (keyN_max _ _) (Sh.Own.nil _ _) (ints_lit w5 [nth XS 0, 1, 1] #[.int .i64 (nth XS 0), .int .i64 1, .int .i64 1] rfl (by unfold maxLen; simp)) (fun _ h => h.elim) (fun b hb => by rw [alloc_size]; omega) (fun b h => h.elim)
      rw [alloc_size] at hw6
      have HW := Lib.hid ((show wrSh.Own 77 ((w5.alloc (.cells #[.int .i64 (nth XS 0), .int .i64 1, .int .i64 1] 3)).alloc (.cells #[.string (keyN 99 o.code), .bool true, .slice none 0 0, .string (keyN 102 o.fam), .bool false, .slice (some ⟨w5.heap.size, 0, none⟩) 3 3] 77)).drew _ (.slice (some ⟨w5.heap.size + 1, 0, none⟩) 2 2) [⟨keyN 99 o.code, true, []⟩, ⟨keyN 102 o.fam, false, [nth XS 0, 1, 1]⟩] from hw6).below hb)
      have hj6 : w5.heap.size + 1 < w6.heap.size := by have h := hb.size; rw [show ((w5.alloc (.cells #[.int .i64 (nth XS 0), .int .i64 1, .int .i64 1] 3)).alloc (.cells #[.string (keyN 99 o.code), .bool true, .slice none 0 0, .string (keyN 102 o.fam), .bool false, .slice (some ⟨w5.heap.size, 0, none⟩) 3 3] 77)).drew.heap.size = w5.heap.size + 1 + 1 from by show ((w5.alloc (.cells #[.int .i64 (nth XS 0), .int .i64 1, .int .i64 1] 3)).alloc (.cells #[.string (keyN 99 o.code), .bool true, .slice none 0 0, .string (keyN 102 o.fam), .bool false, .slice (some ⟨w5.heap.size, 0, none⟩) 3 3] 77)).heap.size = _; rw [alloc_size, alloc_size]] at h; omega
      clear hw6
      clear hb
      obtain ⟨hz0, hz1, hz2⟩ := HS.out.size
      have p0 := HS.out.pl.of 0 _ rfl
      have p1 := HS.out.pl.of 1 _ rfl
      have p2 := HS.out.pl.of 2 _ rfl
      have fr := HS.out.pl.2.1
      go_wp2_with fail
      refine hKr_50.out _ _ ?kr_50 (fun hHeldr_50 => ?dr_50)
      case kr_50 => (first | (dsimp only; (exact KS.out _ (HB.out.trans ((Below.refl _ _).mono HB.out.size)))) | (exact KS.out _ (HB.out.trans ((Below.refl _ _).mono HB.out.size))))
      clear hKr_50 Kr_50
      refine take_first 6 55 (v := ?vr_51) rfl rfl (by kernel_rfl) (by kernel_rfl) (by kernel_rfl) (fun _ _ _ h => h) (by rfl) ?yr_51 (by assumption) ?rr_51
      case yr_51 => (intro w hSw; (try dsimp only at hSw); go_simp; (try with_reducible rfl))
      simp only [Act.put, List.setIfInBounds_toArray, List.set_cons_zero, List.set_cons_succ]
      rw [← HKU.out]
      refine wpAnyH_ready (rs := [7]) (by kernel_rfl) (by simp) ?_
      refine AllReadyH.cons (o := _) rfl (fun Kr_53 hKr_53 => ?cr_53) ?mr_53
      case mr_53 => exact AllReadyH.nil
      go_simp
      skip
      go_wp2_with fail
      refine hKr_53.out _ _ ?kr_53 (fun hHeldr_53 => ?dr_53)
      case kr_53 => (first | (dsimp only; (exact KS.out _ (HB.out.trans ((belowOne _ _).mono HB.out.size)))) | (exact KS.out _ (HB.out.trans ((belowOne _ _).mono HB.out.size))))
      clear hKr_53 Kr_53
      refine take_first 17 66 (v := ?vr_54) rfl rfl (by kernel_rfl) (by kernel_rfl) (by kernel_rfl) (fun _ _ _ h => h) (by rfl) ?yr_54 (by assumption) ?rr_54
      case yr_54 => (intro w hSw; (try dsimp only at hSw); go_simp; (try with_reducible rfl))
      simp only [Act.put, List.setIfInBounds_toArray, List.set_cons_zero, List.set_cons_succ]
      refine wpAnyH_ready (rs := [18]) (by kernel_rfl) (by simp) ?_
      refine AllReadyH.cons (o := _) rfl (fun Kr_55 hKr_55 => ?cr_55) ?mr_55
      case mr_55 => exact AllReadyH.nil
      go_simp
      skip
      go_wp2_with fail
      refine hKr_55.out _ _ ?kr_55 (fun hHeldr_55 => ?dr_55)
      case kr_55 => (first | (dsimp only; (exact ((belowOne _ _).cell (p := ⟨b, off, none⟩) (by show b < _; rw [put3_size]; have := HB.out.size; omega)).trans ((World.cell?_of_block (a := ⟨b, off, none⟩) (put3_far _ _ _ _ _ hbR)).trans (KS.out _ HB.out)))) | (exact ((belowOne _ _).cell (p := ⟨b, off, none⟩) (by show b < _; rw [put3_size]; have := HB.out.size; omega)).trans ((World.cell?_of_block (a := ⟨b, off, none⟩) (put3_far _ _ _ _ _ hbR)).trans (KS.out _ HB.out))))
      clear hKr_55 Kr_55
      refine wpAnyH_done (by kernel_rfl) ?er_14_16 _
      go_wp2
      clear p0 p1 p2 fr
      have z3 := HLo.out
      have h0 := strs_lit (put3 w6 (w.heap.size + 1 + 1) (.bool true) (.slice (some ⟨w6.heap.size, 0, none⟩) 3 3) (.slice (some ⟨w5.heap.size + 1, 0, none⟩) 2 2)) [keyN 99 o.code, keyN 102 o.fam, keyN 117 (nth XS 0)] #[.string (keyN 99 o.code), .string (keyN 102 o.fam), .string (keyN 117 (nth XS 0))] rfl (by simp [keyN_max]) (by unfold maxLen; simp)
      rw [put3_size] at h0
      have HQ := ((HS.out.pl.put3 (.bool true) (.slice (some ⟨w6.heap.size, 0, none⟩) 3 3) (.slice (some ⟨w5.heap.size + 1, 0, none⟩) 2 2)).after (.cells #[.string (keyN 99 o.code), .string (keyN 102 o.fam), .string (keyN 117 (nth XS 0))] 9))
      have q0 := HQ.of 0 _ rfl
      have q1 := HQ.of 1 _ rfl
      have q2 := HQ.of 2 _ rfl
      rw [HP.out]
      refine bodyPost_ret (v := .agg #[.bool true, .slice (some ⟨w6.heap.size, 0, none⟩) 3 3, .slice (some ⟨w5.heap.size + 1, 0, none⟩) 2 2]) (by simp only [results, Tryz.results109, go_sem]; simp [go_sem, q0, q1, q2]) rfl ⟨_, _, rfl, planOwn (pl := ⟨true, [keyN 99 o.code, keyN 102 o.fam, keyN 117 (nth XS 0)], [⟨keyN 99 o.code, true, []⟩, ⟨keyN 102 o.fam, false, [nth XS 0, 1, 1]⟩]⟩) (w5.heap.size) h0 ((HW.out.keep (w' := (put3 w6 (w.heap.size + 1 + 1) (.bool true) (.slice (some ⟨w6.heap.size, 0, none⟩) 3 3) (.slice (some ⟨w5.heap.size + 1, 0, none⟩) 2 2))) fun b hb _ => put3_far _ _ _ _ _ (by first | omega | (rcases hb with h | h <;> first | omega | (rcases h with h | h <;> first | exact h.elim | omega)))).below (belowOne _ _)) (fun b hb => by first | omega | (rcases hb with h | h <;> first | exact h.elim | omega | (rcases h with h | h <;> first | exact h.elim | omega))) (fun b hb => by first | omega | (rcases hb with h | h <;> first | exact h.elim | omega | (rcases h with h | h <;> first | exact h.elim | omega))) (fun b h1 h2 => by first | omega | (rcases h2 with h | h <;> first | exact h.elim | omega | (rcases h with h | h <;> first | exact h.elim | omega))) (by omega), ((belowPut3 HS.out.bel (w.heap.size + 1 + 1) (by omega) _ _ _).alloc (by rw [put3_size]; omega) _)⟩
    exact AllReadyH.nil
  exact AllReadyH.nil

end Go.Proofs.YtecdibpiojgppaaGreat

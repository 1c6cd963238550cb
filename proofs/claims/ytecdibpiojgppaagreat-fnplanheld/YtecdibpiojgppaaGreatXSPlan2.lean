/- The model's plans: the next key. By spgen2.py. -/
import Derived.Test.YtecdibpiojgppaaGreatXSPlan1
import Derived.Test.YtecdibpiojgppaaGreatXPlanM3
import Derived.Deep.QuietTactic
import Derived.BigQuiet
import Derived.Test.YtecdibpiojgppaaGreatXWrts
import Derived.Deep.DeepCutAuto
namespace Go.Proofs.YtecdibpiojgppaaGreat
open Go.RowKit

/-- Three numbers at a place. -/
theorem ints_three {W : World} {A : Option Addr} {n c : Nat} {xs : List Int} (h : Ints W W.heap.size (.slice A n c) xs) (hl : xs.length = 3) : ∃ b off, A = some ⟨b, off, none⟩ ∧ b < W.heap.size ∧ W.cell? ⟨b, off, none⟩ = some (.int .i64 (nth xs 0)) ∧ W.cell? ⟨b, off + 1, none⟩ = some (.int .i64 (nth xs 1)) ∧ W.cell? ⟨b, off + 2, none⟩ = some (.int .i64 (nth xs 2)) := by
  obtain ⟨A3, c3, e3, -, -, hrow⟩ := h
  injection e3 with ea eb ec
  obtain ⟨b, off, hA, hb, hcell⟩ := hrow (by omega)
  exact ⟨b, off, ea.trans hA, hb, by simpa using hcell 0 (by omega), hcell 1 (by omega), hcell 2 (by omega)⟩
/-- Two numbers at a place. -/
theorem ints_two {W : World} {A : Option Addr} {n c : Nat} {xs : List Int} (h : Ints W W.heap.size (.slice A n c) xs) (hl : xs.length = 2) : ∃ b off, A = some ⟨b, off, none⟩ ∧ b < W.heap.size ∧ W.cell? ⟨b, off, none⟩ = some (.int .i64 (nth xs 0)) ∧ W.cell? ⟨b, off + 1, none⟩ = some (.int .i64 (nth xs 1)) := by
  obtain ⟨A3, c3, e3, -, -, hrow⟩ := h
  injection e3 with ea eb ec
  obtain ⟨b, off, hA, hb, hcell⟩ := hrow (by omega)
  exact ⟨b, off, ea.trans hA, hb, by simpa using hcell 0 (by omega), hcell 1 (by omega)⟩

set_option maxRecDepth 100000 in
set_option maxHeartbeats 4000000 in
theorem specNext_any (w : World) (o : Op) (v : Value) (its : List Item) (hv : Items w w.heap.size v its) (hs : stoB its = true) (ho : opB o = true) (hf : formB 2 its = true) :
    Calls Tryz.prog 110 #[.agg #[v], opV o] w (PlannedAg (mayP4 its o) w) := by
  obtain ⟨A, c, rfl, hc2, hc1⟩ := hv.form
  obtain ⟨b0, b1, b2, b3, b4, b5, b6, b7, b8, b9, b10, b11⟩ := opB_parts ho
  have HV := Lib.hid hv
  have HS := Lib.hid (Ps3.start w o (.slice A its.length c))
  have HK := Lib.hid (keyN_dig 102 b9)
  have HSh := Lib.hid (sto_short' hs)
  have hds : (digS o.fam).size ≤ 1 := Nat.le_of_eq (digS_size _)
  clear hv ho
  go_enter Tryz.func110, Tryz.ntmps110
  have o5 := HS.out.op.of 5 _ rfl
  go_wp2_with fail
  clear o5
  refine (l3Digit_any _ _ b8 b9).mono ?_
  rintro e w1 ⟨rfl, hb⟩
  replace HS := Lib.hid (HS.out.call hb)
  clear hb
  have s0 := HS.out.sto.of 0 _ rfl
  go_wp2_with fail
  rw [← HK.out]
  clear s0 hds
  refine (l1Get_any _ _ its _ ((HV.out.below HS.out.bel).more HS.out.bel.size) HSh.out).mono ?_
  rintro e w2 ⟨u, rfl, hu, hb⟩
  replace HS := Lib.hid (HS.out.call hb)
  have HU := Lib.hid hu
  clear hb hu
  obtain ⟨hz0, hz1, hz2⟩ := HS.out.size
  rcases hlk : lookOk its (keyN 102 o.fam)
  · have HP := Lib.hid (show mayP4 its o = noP [keyN 102 o.fam] by unfold mayP4; rw [if_neg (by simp [nextB, hlk])])
    clear HU
    go_wp2
    go_quiet (fail)
    replace HS := Lib.hid (HS.out.drewN nq)
    clear hz0 hz1 hz2
    generalize w2.drewN nq = w3 at *
    have HRow : Hid (strSh.Row (w3.alloc (.cells #[.string (keyN 102 o.fam)] 9)) (w3.alloc (.cells #[.string (keyN 102 o.fam)] 9)).heap.size (.slice (some ⟨w3.heap.size, 0, none⟩) 1 1) [keyN 102 o.fam]) := Lib.hid (by
      have h := (strs_lit w3 [keyN 102 o.fam] #[.string (keyN 102 o.fam)] rfl (by simp [keyN_max]) (by unfold maxLen; simp)).row
      exact h)
    have HT := Lib.hid (HS.out.call (belowOne w3 (.cells #[.string (keyN 102 o.fam)] 9)))
    have hzq : w.heap.size + 1 + 1 < (w3.alloc (.cells #[.string (keyN 102 o.fam)] 9)).heap.size := HT.out.size.2.2
    have HZQ := Lib.hid hzq
    clear hzq
    go_wp2_with fail
    refine (specNo_any _ _ [keyN 102 o.fam] HRow.out (by simp)).mono ?_
    rintro e wq ⟨ua, ub, rfl, ho, hb⟩
    replace HT := Lib.hid (HT.out.call hb)
    obtain ⟨Aa, ca, Ab, cb, rfl, rfl⟩ := planForm ho
    have HO := Lib.hid ho
    clear hb ho HRow
    have p0 := HT.out.pl.of 0 _ rfl
    have p1 := HT.out.pl.of 1 _ rfl
    have p2 := HT.out.pl.of 2 _ rfl
    have fr := HT.out.pl.2.1
    go_wp2
    clear p0 p1 p2 fr
    have HQ := HT.out.pl.put3 (.bool (noP [keyN 102 o.fam]).ok) (.slice Aa (noP [keyN 102 o.fam]).locks.length ca) (.slice Ab (noP [keyN 102 o.fam]).writes.length cb)
    have q0 := HQ.of 0 _ rfl
    have q1 := HQ.of 1 _ rfl
    have q2 := HQ.of 2 _ rfl
    rw [HP.out]
    exact bodyPost_ret (v := .agg #[.bool (noP [keyN 102 o.fam]).ok, .slice Aa (noP [keyN 102 o.fam]).locks.length ca, .slice Ab (noP [keyN 102 o.fam]).writes.length cb]) (by simp only [results, Tryz.results110, go_sem]; simp [go_sem, q0, q1, q2]) rfl (HT.out.put HO.out HZQ.out _ rfl)
  obtain ⟨hl3, hw0, hw9, hg1, hg99⟩ := fam_found hs hf hlk
  obtain ⟨XS, hXS⟩ : ∃ xs, lookV its (keyN 102 o.fam) = xs := ⟨_, rfl⟩
  rw [hXS] at hl3 hw0 hw9 hg1 hg99
  have HX := Lib.hid hXS
  have hI := HU.out.ints
  rw [hXS] at hI
  obtain ⟨A2, cc, rfl, hd2, hd1⟩ := hI.form
  unfold maxLen at hd2
  obtain ⟨b, off, rfl, hb2, v0, v1, v2⟩ := ints_three hI hl3
  have o6 := HS.out.op.of 6 _ rfl
  have HU3 := Lib.hid (show nextB its o = useB (nth XS 1) (nth XS 2) o.gen by unfold nextB; rw [hlk, HX.out]; rfl)
  have n1 : (1 : Int) < (XS.length : Int) := by omega
  have n2 : 1 < XS.length := by omega
  have n3 : (0 : Int) < (XS.length : Int) := by omega
  have n4 : 0 < XS.length := by omega
  have n5 : (2 : Int) < (XS.length : Int) := by omega
  have n6 : 2 < XS.length := by omega
  have HL3 := Lib.hid hl3
  clear hI hXS HU hl3 hlk
  by_cases hal : nth XS 2 = 0
  · have HP := Lib.hid (show mayP4 its o = noP [keyN 102 o.fam] by unfold mayP4; rw [if_neg (by rw [HU3.out]; unfold useB; simp [hal])])
    have t1 : (nth XS 2 == 0) = true := by simp [hal]
    clear hal
    clear HU3
    go_wp2
    go_quiet (fail)
    replace HS := Lib.hid (HS.out.drewN nq)
    clear hz0 hz1 hz2 v0 v1 v2 o6
    generalize w2.drewN nq = w3 at *
    have HRow : Hid (strSh.Row (w3.alloc (.cells #[.string (keyN 102 o.fam)] 9)) (w3.alloc (.cells #[.string (keyN 102 o.fam)] 9)).heap.size (.slice (some ⟨w3.heap.size, 0, none⟩) 1 1) [keyN 102 o.fam]) := Lib.hid (by
      have h := (strs_lit w3 [keyN 102 o.fam] #[.string (keyN 102 o.fam)] rfl (by simp [keyN_max]) (by unfold maxLen; simp)).row
      exact h)
    have HT := Lib.hid (HS.out.call (belowOne w3 (.cells #[.string (keyN 102 o.fam)] 9)))
    have hzq : w.heap.size + 1 + 1 < (w3.alloc (.cells #[.string (keyN 102 o.fam)] 9)).heap.size := HT.out.size.2.2
    have HZQ := Lib.hid hzq
    clear hzq
    go_wp2_with fail
    refine (specNo_any _ _ [keyN 102 o.fam] HRow.out (by simp)).mono ?_
    rintro e wq ⟨ua, ub, rfl, ho, hb⟩
    replace HT := Lib.hid (HT.out.call hb)
    obtain ⟨Aa, ca, Ab, cb, rfl, rfl⟩ := planForm ho
    have HO := Lib.hid ho
    clear hb ho HRow
    have p0 := HT.out.pl.of 0 _ rfl
    have p1 := HT.out.pl.of 1 _ rfl
    have p2 := HT.out.pl.of 2 _ rfl
    have fr := HT.out.pl.2.1
    go_wp2
    clear p0 p1 p2 fr
    have HQ := HT.out.pl.put3 (.bool (noP [keyN 102 o.fam]).ok) (.slice Aa (noP [keyN 102 o.fam]).locks.length ca) (.slice Ab (noP [keyN 102 o.fam]).writes.length cb)
    have q0 := HQ.of 0 _ rfl
    have q1 := HQ.of 1 _ rfl
    have q2 := HQ.of 2 _ rfl
    rw [HP.out]
    exact bodyPost_ret (v := .agg #[.bool (noP [keyN 102 o.fam]).ok, .slice Aa (noP [keyN 102 o.fam]).locks.length ca, .slice Ab (noP [keyN 102 o.fam]).writes.length cb]) (by simp only [results, Tryz.results110, go_sem]; simp [go_sem, q0, q1, q2]) rfl (HT.out.put HO.out HZQ.out _ rfl)
  have t1 : (nth XS 2 == 0) = false := by simp [hal]
  by_cases hgt : nth XS 1 < o.gen
  · have HP := Lib.hid (show mayP4 its o = noP [keyN 102 o.fam] by unfold mayP4; rw [if_neg (by rw [HU3.out]; unfold useB; simp [show ¬ o.gen ≤ nth XS 1 by omega])])
    have t2 : decide (nth XS 1 < o.gen) = true := by simp [hgt]
    clear hal hgt
    clear HU3
    go_wp2
    go_quiet (fail)
    replace HS := Lib.hid (HS.out.drewN nq)
    clear hz0 hz1 hz2 v0 v1 v2 o6
    generalize w2.drewN nq = w3 at *
    have HRow : Hid (strSh.Row (w3.alloc (.cells #[.string (keyN 102 o.fam)] 9)) (w3.alloc (.cells #[.string (keyN 102 o.fam)] 9)).heap.size (.slice (some ⟨w3.heap.size, 0, none⟩) 1 1) [keyN 102 o.fam]) := Lib.hid (by
      have h := (strs_lit w3 [keyN 102 o.fam] #[.string (keyN 102 o.fam)] rfl (by simp [keyN_max]) (by unfold maxLen; simp)).row
      exact h)
    have HT := Lib.hid (HS.out.call (belowOne w3 (.cells #[.string (keyN 102 o.fam)] 9)))
    have hzq : w.heap.size + 1 + 1 < (w3.alloc (.cells #[.string (keyN 102 o.fam)] 9)).heap.size := HT.out.size.2.2
    have HZQ := Lib.hid hzq
    clear hzq
    go_wp2_with fail
    refine (specNo_any _ _ [keyN 102 o.fam] HRow.out (by simp)).mono ?_
    rintro e wq ⟨ua, ub, rfl, ho, hb⟩
    replace HT := Lib.hid (HT.out.call hb)
    obtain ⟨Aa, ca, Ab, cb, rfl, rfl⟩ := planForm ho
    have HO := Lib.hid ho
    clear hb ho HRow
    have p0 := HT.out.pl.of 0 _ rfl
    have p1 := HT.out.pl.of 1 _ rfl
    have p2 := HT.out.pl.of 2 _ rfl
    have fr := HT.out.pl.2.1
    go_wp2
    clear p0 p1 p2 fr
    have HQ := HT.out.pl.put3 (.bool (noP [keyN 102 o.fam]).ok) (.slice Aa (noP [keyN 102 o.fam]).locks.length ca) (.slice Ab (noP [keyN 102 o.fam]).writes.length cb)
    have q0 := HQ.of 0 _ rfl
    have q1 := HQ.of 1 _ rfl
    have q2 := HQ.of 2 _ rfl
    rw [HP.out]
    exact bodyPost_ret (v := .agg #[.bool (noP [keyN 102 o.fam]).ok, .slice Aa (noP [keyN 102 o.fam]).locks.length ca, .slice Ab (noP [keyN 102 o.fam]).writes.length cb]) (by simp only [results, Tryz.results110, go_sem]; simp [go_sem, q0, q1, q2]) rfl (HT.out.put HO.out HZQ.out _ rfl)
  have t2 : decide (nth XS 1 < o.gen) = false := by simp; omega
  have hgt' : o.gen ≤ nth XS 1 := by omega
  by_cases hg0 : o.gen = 0
  · have HP := Lib.hid (show mayP4 its o = noP [keyN 102 o.fam] by unfold mayP4; rw [if_neg (by rw [HU3.out]; unfold useB; simp [hg0])])
    have t3 : (o.gen == 0) = true := by simp [hg0]
    clear hal hgt hgt' hg0
    clear HU3
    go_wp2
    go_quiet (fail)
    replace HS := Lib.hid (HS.out.drewN nq)
    clear hz0 hz1 hz2 v0 v1 v2 o6
    generalize w2.drewN nq = w3 at *
    have HRow : Hid (strSh.Row (w3.alloc (.cells #[.string (keyN 102 o.fam)] 9)) (w3.alloc (.cells #[.string (keyN 102 o.fam)] 9)).heap.size (.slice (some ⟨w3.heap.size, 0, none⟩) 1 1) [keyN 102 o.fam]) := Lib.hid (by
      have h := (strs_lit w3 [keyN 102 o.fam] #[.string (keyN 102 o.fam)] rfl (by simp [keyN_max]) (by unfold maxLen; simp)).row
      exact h)
    have HT := Lib.hid (HS.out.call (belowOne w3 (.cells #[.string (keyN 102 o.fam)] 9)))
    have hzq : w.heap.size + 1 + 1 < (w3.alloc (.cells #[.string (keyN 102 o.fam)] 9)).heap.size := HT.out.size.2.2
    have HZQ := Lib.hid hzq
    clear hzq
    go_wp2_with fail
    refine (specNo_any _ _ [keyN 102 o.fam] HRow.out (by simp)).mono ?_
    rintro e wq ⟨ua, ub, rfl, ho, hb⟩
    replace HT := Lib.hid (HT.out.call hb)
    obtain ⟨Aa, ca, Ab, cb, rfl, rfl⟩ := planForm ho
    have HO := Lib.hid ho
    clear hb ho HRow
    have p0 := HT.out.pl.of 0 _ rfl
    have p1 := HT.out.pl.of 1 _ rfl
    have p2 := HT.out.pl.of 2 _ rfl
    have fr := HT.out.pl.2.1
    go_wp2
    clear p0 p1 p2 fr
    have HQ := HT.out.pl.put3 (.bool (noP [keyN 102 o.fam]).ok) (.slice Aa (noP [keyN 102 o.fam]).locks.length ca) (.slice Ab (noP [keyN 102 o.fam]).writes.length cb)
    have q0 := HQ.of 0 _ rfl
    have q1 := HQ.of 1 _ rfl
    have q2 := HQ.of 2 _ rfl
    rw [HP.out]
    exact bodyPost_ret (v := .agg #[.bool (noP [keyN 102 o.fam]).ok, .slice Aa (noP [keyN 102 o.fam]).locks.length ca, .slice Ab (noP [keyN 102 o.fam]).writes.length cb]) (by simp only [results, Tryz.results110, go_sem]; simp [go_sem, q0, q1, q2]) rfl (HT.out.put HO.out HZQ.out _ rfl)
  have t3 : (o.gen == 0) = false := by simp [hg0]
  by_cases h99 : nth XS 1 = 99
  · have HP := Lib.hid (show mayP4 its o = noP [keyN 102 o.fam] by unfold mayP4; rw [if_neg (by rw [HU3.out]; unfold useB; simp [h99])])
    have t4 : (nth XS 1 == 99) = true := by simp [h99]
    clear hal hgt hgt' hg0 h99
    clear HU3
    go_wp2
    go_quiet (fail)
    replace HS := Lib.hid (HS.out.drewN nq)
    clear hz0 hz1 hz2 v0 v1 v2 o6
    generalize w2.drewN nq = w3 at *
    have HRow : Hid (strSh.Row (w3.alloc (.cells #[.string (keyN 102 o.fam)] 9)) (w3.alloc (.cells #[.string (keyN 102 o.fam)] 9)).heap.size (.slice (some ⟨w3.heap.size, 0, none⟩) 1 1) [keyN 102 o.fam]) := Lib.hid (by
      have h := (strs_lit w3 [keyN 102 o.fam] #[.string (keyN 102 o.fam)] rfl (by simp [keyN_max]) (by unfold maxLen; simp)).row
      exact h)
    have HT := Lib.hid (HS.out.call (belowOne w3 (.cells #[.string (keyN 102 o.fam)] 9)))
    have hzq : w.heap.size + 1 + 1 < (w3.alloc (.cells #[.string (keyN 102 o.fam)] 9)).heap.size := HT.out.size.2.2
    have HZQ := Lib.hid hzq
    clear hzq
    go_wp2_with fail
    refine (specNo_any _ _ [keyN 102 o.fam] HRow.out (by simp)).mono ?_
    rintro e wq ⟨ua, ub, rfl, ho, hb⟩
    replace HT := Lib.hid (HT.out.call hb)
    obtain ⟨Aa, ca, Ab, cb, rfl, rfl⟩ := planForm ho
    have HO := Lib.hid ho
    clear hb ho HRow
    have p0 := HT.out.pl.of 0 _ rfl
    have p1 := HT.out.pl.of 1 _ rfl
    have p2 := HT.out.pl.of 2 _ rfl
    have fr := HT.out.pl.2.1
    go_wp2
    clear p0 p1 p2 fr
    have HQ := HT.out.pl.put3 (.bool (noP [keyN 102 o.fam]).ok) (.slice Aa (noP [keyN 102 o.fam]).locks.length ca) (.slice Ab (noP [keyN 102 o.fam]).writes.length cb)
    have q0 := HQ.of 0 _ rfl
    have q1 := HQ.of 1 _ rfl
    have q2 := HQ.of 2 _ rfl
    rw [HP.out]
    exact bodyPost_ret (v := .agg #[.bool (noP [keyN 102 o.fam]).ok, .slice Aa (noP [keyN 102 o.fam]).locks.length ca, .slice Ab (noP [keyN 102 o.fam]).writes.length cb]) (by simp only [results, Tryz.results110, go_sem]; simp [go_sem, q0, q1, q2]) rfl (HT.out.put HO.out HZQ.out _ rfl)
  have t4 : (nth XS 1 == 99) = false := by simp [h99]
  have HP := Lib.hid (show mayP4 its o = ⟨true, [keyN 102 o.fam, keyN 117 (nth XS 0)], [⟨keyN 102 o.fam, false, nextV XS o.gen⟩]⟩ by unfold mayP4; rw [if_pos (by rw [HU3.out]; unfold useB; simp [hal, hgt', hg0, h99]), HX.out])
  clear HU3
  by_cases hlt : o.gen < nth XS 1
  · have HN := Lib.hid (show nextV XS o.gen = [nth XS 0, nth XS 1, 0] by unfold nextV; rw [if_pos hlt])
    have t5 : decide (o.gen < nth XS 1) = true := by simp [hlt]
    rw [HN.out] at HP
    clear hlt hal hgt hgt' hg0 h99
    go_wp2
    go_quiet (fail)
    replace HS := Lib.hid (HS.out.drewN nq)
    replace v0 : (w2.drewN nq).cell? ⟨b, off, none⟩ = some (.int .i64 (nth XS 0)) := v0
    replace v1 : (w2.drewN nq).cell? ⟨b, off + 1, none⟩ = some (.int .i64 (nth XS 1)) := v1
    replace hb2 : b < (w2.drewN nq).heap.size := hb2
    clear hz0 hz1 hz2 v2 o6 t1 t2 t3 t4
    generalize w2.drewN nq = w3 at *
    have hw1 : IntKind.i64.wrap (nth XS 1 + 1) = nth XS 1 + 1 := IntWalk.i64_in _ (by omega)
    have k0 : w3.drew.cell? ⟨b, off, none⟩ = some (.int .i64 (nth XS 0)) ∧ w3.drew.cell? ⟨b, off + 1, none⟩ = some (.int .i64 (nth XS 1)) := ⟨v0, v1⟩
    have k1 : (w3.alloc (.cells #[.int .i64 (nth XS 0), .int .i64 (nth XS 1 + 1), .int .i64 1] 3)).drew.cell? ⟨b, off, none⟩ = some (.int .i64 (nth XS 0)) ∧ (w3.alloc (.cells #[.int .i64 (nth XS 0), .int .i64 (nth XS 1 + 1), .int .i64 1] 3)).drew.cell? ⟨b, off + 1, none⟩ = some (.int .i64 (nth XS 1)) := ⟨((belowOne w3 _).cell (p := ⟨b, off, none⟩) hb2).trans v0, ((belowOne w3 _).cell (p := ⟨b, off + 1, none⟩) hb2).trans v1⟩
    have HLo := Lib.hid HS.out.size.2.2
    go_upto_region 5 with fail
    clear v0 v1
    refine wp_region_held_drew (S := (fun w' => w'.cell? ⟨b, off, none⟩ = some (.int .i64 (nth XS 0)) ∧ w'.cell? ⟨b, off + 1, none⟩ = some (.int .i64 (nth XS 1)))) (by kernel_rfl) ?hSra (fun hHeldra => ?stra)
    case hSra => (first | (dsimp only; (first | with_reducible exact k1 | with_reducible exact k0)) | (first | with_reducible exact k1 | with_reducible exact k0))
    refine take_first 0 49 (v := ?vra_1) rfl rfl (by kernel_rfl) (by kernel_rfl) (by kernel_rfl) (fun _ _ _ h => h) (by rfl) ?yra_1 (by assumption) ?rra_1
    case yra_1 => (intro w hSw; (try dsimp only at hSw); go_simp; (try with_reducible rfl))
    simp only [Act.put, List.setIfInBounds_toArray, List.set_cons_zero, List.set_cons_succ]
    refine take_first 1 50 (v := ?vra_2) rfl rfl (by kernel_rfl) (by kernel_rfl) (by kernel_rfl) (fun _ _ _ h => h) (by rfl) ?yra_2 (by assumption) ?rra_2
    case yra_2 => (intro w hSw; (try dsimp only at hSw); go_simp; (try with_reducible rfl))
    simp only [Act.put, List.setIfInBounds_toArray, List.set_cons_zero, List.set_cons_succ]
    refine take_first 2 51 (v := ?vra_3) rfl rfl (by kernel_rfl) (by kernel_rfl) (by kernel_rfl) (fun _ _ _ h => h) (by rfl) ?yra_3 (by assumption) ?rra_3
    case yra_3 => (intro w hSw; (try dsimp only at hSw); go_simp; (try with_reducible rfl))
    simp only [Act.put, List.setIfInBounds_toArray, List.set_cons_zero, List.set_cons_succ]
    refine take_first 3 52 (v := ?vra_4) rfl rfl (by kernel_rfl) (by kernel_rfl) (by kernel_rfl) (fun _ _ _ h => h) (by rfl) ?yra_4 (by assumption) ?rra_4
    case yra_4 => (intro w hSw; (try dsimp only at hSw); go_simp; (try with_reducible rfl))
    simp only [Act.put, List.setIfInBounds_toArray, List.set_cons_zero, List.set_cons_succ]
    refine take_first 4 53 (v := ?vra_5) rfl rfl (by kernel_rfl) (by kernel_rfl) (by kernel_rfl) (fun _ _ _ h => h) (by rfl) ?yra_5 (by assumption) ?rra_5
    case yra_5 => (intro w hSw; (try dsimp only at hSw); go_simp; (try with_reducible rfl))
    simp only [Act.put, List.setIfInBounds_toArray, List.set_cons_zero, List.set_cons_succ]
    refine take_first 5 54 (v := ?vra_6) rfl rfl (by kernel_rfl) (by kernel_rfl) (by kernel_rfl) (fun _ _ _ h => h) (by rfl) ?yra_6 (by assumption) ?rra_6
    case yra_6 => (intro w hSw; (try dsimp only at hSw); go_simp; (try with_reducible rfl))
    simp only [Act.put, List.setIfInBounds_toArray, List.set_cons_zero, List.set_cons_succ]
    refine take_first 6 55 (v := ?vra_7) rfl rfl (by kernel_rfl) (by kernel_rfl) (by kernel_rfl) (fun _ _ _ h => h) (by rfl) ?yra_7 (by assumption) ?rra_7
    case yra_7 => (intro w hSw; (try dsimp only at hSw); go_simp; (try with_reducible rfl))
    simp only [Act.put, List.setIfInBounds_toArray, List.set_cons_zero, List.set_cons_succ]
    refine wpAnyH_ready (rs := [7]) (by kernel_rfl) (by simp) ?_
    refine AllReadyH.cons (o := _) rfl (fun Kra_8 hKra_8 => ?cra_8) ?mra_8
    case mra_8 => exact AllReadyH.nil
    go_simp
    skip
    go_wp2_with fail
    refine hKra_8.out _ _ ?kra_8 (fun hHeldra_8 => ?dra_8)
    case kra_8 => (first | (dsimp only; (first | with_reducible exact k1 | with_reducible exact k0)) | (first | with_reducible exact k1 | with_reducible exact k0))
    clear hKra_8 Kra_8
    refine take_first 8 8 (v := ?vra_9) rfl rfl (by kernel_rfl) (by kernel_rfl) (by kernel_rfl) (fun _ _ _ h => h) (by rfl) ?yra_9 (by assumption) ?rra_9
    case yra_9 => (intro w hSw; (try dsimp only at hSw); go_simp; (try with_reducible rfl))
    simp only [Act.put, List.setIfInBounds_toArray, List.set_cons_zero, List.set_cons_succ]
    refine wpAnyH_done (by kernel_rfl) ?era _
    clear hw1
    have HI := Lib.hid (show Sh.int.Own 3 (w3.alloc (.cells #[.int .i64 (nth XS 0), .int .i64 (nth XS 1 + 1), .int .i64 1] 3)).drew (fun b => b = w3.heap.size) (.slice (some ⟨w3.heap.size, 0, none⟩) 3 3) [nth XS 0, nth XS 1 + 1, 1] from ints_lit w3 [nth XS 0, nth XS 1 + 1, 1] _ rfl (by unfold maxLen; simp))
    replace HS := Lib.hid (HS.out.call (belowOne w3 (.cells #[.int .i64 (nth XS 0), .int .i64 (nth XS 1 + 1), .int .i64 1] 3))).drewOne
    have HZ := Lib.hid (show (w3.alloc (.cells #[.int .i64 (nth XS 0), .int .i64 (nth XS 1 + 1), .int .i64 1] 3)).drew.heap.size = w3.heap.size + 1 from alloc_size _ _)
    obtain ⟨v0, v1⟩ := k1
    clear k0
    generalize (w3.alloc (.cells #[.int .i64 (nth XS 0), .int .i64 (nth XS 1 + 1), .int .i64 1] 3)).drew = w4 at *
    have hb4 : b < w4.heap.size := by have := HZ.out; omega
    have o6 := HS.out.op.of 6 _ rfl
    have g0 := HS.out.size.2.2
    go_wp2
    go_quiet (fail)
    replace HS := Lib.hid (HS.out.drewN nq)
    replace HI := Lib.hid (HI.out.keep (w' := w4.drewN nq) fun _ _ _ => rfl)
    replace HZ := Lib.hid (show (w4.drewN nq).heap.size = w3.heap.size + 1 from HZ.out)
    replace v0 : (w4.drewN nq).cell? ⟨b, off, none⟩ = some (.int .i64 (nth XS 0)) := v0
    replace v1 : (w4.drewN nq).cell? ⟨b, off + 1, none⟩ = some (.int .i64 (nth XS 1)) := v1
    clear o6 g0
    replace hb4 : b < (w4.drewN nq).heap.size := hb4
    generalize w4.drewN nq = w5 at *
    have hz5 := HZ.out
    have k0 : w5.drew.cell? ⟨b, off, none⟩ = some (.int .i64 (nth XS 0)) ∧ w5.drew.cell? ⟨b, off + 1, none⟩ = some (.int .i64 (nth XS 1)) := ⟨v0, v1⟩
    have k1 : (w5.alloc (.cells #[.int .i64 (nth XS 0), .int .i64 (nth XS 1), .int .i64 0] 3)).drew.cell? ⟨b, off, none⟩ = some (.int .i64 (nth XS 0)) ∧ (w5.alloc (.cells #[.int .i64 (nth XS 0), .int .i64 (nth XS 1), .int .i64 0] 3)).drew.cell? ⟨b, off + 1, none⟩ = some (.int .i64 (nth XS 1)) := ⟨((belowOne w5 _).cell (p := ⟨b, off, none⟩) (by omega)).trans v0, ((belowOne w5 _).cell (p := ⟨b, off + 1, none⟩) (by omega)).trans v1⟩
    go_upto_region 7 with fail
    clear v0 v1 hz5
    refine wp_region_held_drew (S := (fun w' => w'.cell? ⟨b, off, none⟩ = some (.int .i64 (nth XS 0)) ∧ w'.cell? ⟨b, off + 1, none⟩ = some (.int .i64 (nth XS 1)))) (by kernel_rfl) ?hSs (fun hHelds => ?sts)
    case hSs => (first | (dsimp only; (first | with_reducible exact k1 | with_reducible exact k0)) | (first | with_reducible exact k1 | with_reducible exact k0))
    refine take_first 0 63 (v := ?vs_1) rfl rfl (by kernel_rfl) (by kernel_rfl) (by kernel_rfl) (fun _ _ _ h => h) (by rfl) ?ys_1 (by assumption) ?rs_1
    case ys_1 => (intro w hSw; (try dsimp only at hSw); go_simp; (try with_reducible rfl))
    simp only [Act.put, List.setIfInBounds_toArray, List.set_cons_zero, List.set_cons_succ]
    refine take_first 1 64 (v := ?vs_2) rfl rfl (by kernel_rfl) (by kernel_rfl) (by kernel_rfl) (fun _ _ _ h => h) (by rfl) ?ys_2 (by assumption) ?rs_2
    case ys_2 => (intro w hSw; (try dsimp only at hSw); go_simp; (try with_reducible rfl))
    simp only [Act.put, List.setIfInBounds_toArray, List.set_cons_zero, List.set_cons_succ]
    refine take_first 2 65 (v := ?vs_3) rfl rfl (by kernel_rfl) (by kernel_rfl) (by kernel_rfl) (fun _ _ _ h => h) (by rfl) ?ys_3 (by assumption) ?rs_3
    case ys_3 => (intro w hSw; (try dsimp only at hSw); go_simp; (try with_reducible rfl))
    simp only [Act.put, List.setIfInBounds_toArray, List.set_cons_zero, List.set_cons_succ]
    refine take_first 3 66 (v := ?vs_4) rfl rfl (by kernel_rfl) (by kernel_rfl) (by kernel_rfl) (fun _ _ _ h => h) (by rfl) ?ys_4 (by assumption) ?rs_4
    case ys_4 => (intro w hSw; (try dsimp only at hSw); go_simp; (try with_reducible rfl))
    simp only [Act.put, List.setIfInBounds_toArray, List.set_cons_zero, List.set_cons_succ]
    refine take_first 4 67 (v := ?vs_5) rfl rfl (by kernel_rfl) (by kernel_rfl) (by kernel_rfl) (fun _ _ _ h => h) (by rfl) ?ys_5 (by assumption) ?rs_5
    case ys_5 => (intro w hSw; (try dsimp only at hSw); go_simp; (try with_reducible rfl))
    simp only [Act.put, List.setIfInBounds_toArray, List.set_cons_zero, List.set_cons_succ]
    refine take_first 5 68 (v := ?vs_6) rfl rfl (by kernel_rfl) (by kernel_rfl) (by kernel_rfl) (fun _ _ _ h => h) (by rfl) ?ys_6 (by assumption) ?rs_6
    case ys_6 => (intro w hSw; (try dsimp only at hSw); go_simp; (try with_reducible rfl))
    simp only [Act.put, List.setIfInBounds_toArray, List.set_cons_zero, List.set_cons_succ]
    refine wpAnyH_ready (rs := [6]) (by kernel_rfl) (by simp) ?_
    refine AllReadyH.cons (o := _) rfl (fun Ks_7 hKs_7 => ?cs_7) ?ms_7
    case ms_7 => exact AllReadyH.nil
    go_simp
    skip
    go_wp2_with fail
    refine hKs_7.out _ _ ?ks_7 (fun hHelds_7 => ?ds_7)
    case ks_7 => (first | (dsimp only; (first | with_reducible exact k1 | with_reducible exact k0)) | (first | with_reducible exact k1 | with_reducible exact k0))
    clear hKs_7 Ks_7
    refine take_first 7 8 (v := ?vs_8) rfl rfl (by kernel_rfl) (by kernel_rfl) (by kernel_rfl) (fun _ _ _ h => h) (by rfl) ?ys_8 (by assumption) ?rs_8
    case ys_8 => (intro w hSw; (try dsimp only at hSw); go_simp; (try with_reducible rfl))
    simp only [Act.put, List.setIfInBounds_toArray, List.set_cons_zero, List.set_cons_succ]
    refine wpAnyH_done (by kernel_rfl) ?es _
    clear HI
    have HI := Lib.hid (show Sh.int.Own 3 (w5.alloc (.cells #[.int .i64 (nth XS 0), .int .i64 (nth XS 1), .int .i64 0] 3)).drew (fun b => b = w5.heap.size) (.slice (some ⟨w5.heap.size, 0, none⟩) 3 3) [nth XS 0, nth XS 1, 0] from ints_lit w5 [nth XS 0, nth XS 1, 0] _ rfl (by unfold maxLen; simp))
    replace HLo := Lib.hid HS.out.size.2.2
    replace HS := Lib.hid (HS.out.call (belowOne w5 (.cells #[.int .i64 (nth XS 0), .int .i64 (nth XS 1), .int .i64 0] 3))).drewOne
    replace HZ := Lib.hid (show (w5.alloc (.cells #[.int .i64 (nth XS 0), .int .i64 (nth XS 1), .int .i64 0] 3)).drew.heap.size = w5.heap.size + 1 from alloc_size _ _)
    obtain ⟨v0, v1⟩ := k1
    clear k0
    replace hb4 : b < (w5.alloc (.cells #[.int .i64 (nth XS 0), .int .i64 (nth XS 1), .int .i64 0] 3)).drew.heap.size := by have := HZ.out; omega
    generalize (w5.alloc (.cells #[.int .i64 (nth XS 0), .int .i64 (nth XS 1), .int .i64 0] 3)).drew = w6 at *
    have hdu : (digS (nth XS 0)).size ≤ 1 := Nat.le_of_eq (digS_size _)
    have HKU := Lib.hid (keyN_dig 117 hw9)
    go_wp2_with fail
    clear v0 v1
    refine (l3Digit_any _ _ hw0 hw9).mono ?_
    rintro e w7 ⟨rfl, hb⟩
    replace HS := Lib.hid (HS.out.call hb)
    replace HI := Lib.hid (HI.out.below hb)
    have HZ7 := Lib.hid hb.size
    clear hb
    obtain ⟨hz0, hz1, hz2⟩ := HS.out.size
    have p0 := HS.out.pl.of 0 _ rfl
    have p1 := HS.out.pl.of 1 _ rfl
    have p2 := HS.out.pl.of 2 _ rfl
    have fr := HS.out.pl.2.1
    go_wp2_with fail
    rw [← HKU.out]
    clear hdu p0 p1 p2 fr
    have z1 := HZ.out
    have z2 := HZ7.out
    have z3 := HLo.out
    have h0 := strs_lit (put3 w7 (w.heap.size + 1 + 1) (.bool true) (.slice (some ⟨w7.heap.size, 0, none⟩) 2 2) (.slice (some ⟨w7.heap.size + 1, 0, none⟩) 1 1)) [keyN 102 o.fam, keyN 117 (nth XS 0)] #[.string (keyN 102 o.fam), .string (keyN 117 (nth XS 0))] rfl (by simp [keyN_max]) (by unfold maxLen; simp)
    rw [put3_size] at h0
    have h1 := wrs_lit1 ((put3 w7 (w.heap.size + 1 + 1) (.bool true) (.slice (some ⟨w7.heap.size, 0, none⟩) 2 2) (.slice (some ⟨w7.heap.size + 1, 0, none⟩) 1 1)).alloc (.cells #[.string (keyN 102 o.fam), .string (keyN 117 (nth XS 0))] 9)) _ (keyN 102 o.fam) false (.slice (some ⟨w5.heap.size, 0, none⟩) 3 3) [nth XS 0, nth XS 1, 0] (keyN_max _ _) ((HI.out.keep (w' := (put3 w7 (w.heap.size + 1 + 1) (.bool true) (.slice (some ⟨w7.heap.size, 0, none⟩) 2 2) (.slice (some ⟨w7.heap.size + 1, 0, none⟩) 1 1))) fun b hb _ => put3_far _ _ _ _ _ (by omega)).below (belowOne _ _)) (fun b hb => by rw [alloc_size, put3_size]; omega)
    rw [alloc_size, put3_size] at h1
    have HQ := (((HS.out.pl.put3 (.bool true) (.slice (some ⟨w7.heap.size, 0, none⟩) 2 2) (.slice (some ⟨w7.heap.size + 1, 0, none⟩) 1 1)).after (.cells #[.string (keyN 102 o.fam), .string (keyN 117 (nth XS 0))] 9)).after (.cells #[.string (keyN 102 o.fam), .bool false, .slice (some ⟨w5.heap.size, 0, none⟩) 3 3] 77))
    have q0 := HQ.of 0 _ rfl
    have q1 := HQ.of 1 _ rfl
    have q2 := HQ.of 2 _ rfl
    rw [HP.out]
    refine bodyPost_ret (v := .agg #[.bool true, .slice (some ⟨w7.heap.size, 0, none⟩) 2 2, .slice (some ⟨w7.heap.size + 1, 0, none⟩) 1 1]) (by simp only [results, Tryz.results110, go_sem]; simp [go_sem, q0, q1, q2]) rfl ⟨_, _, rfl, planOwn (pl := ⟨true, [keyN 102 o.fam, keyN 117 (nth XS 0)], [⟨keyN 102 o.fam, false, [nth XS 0, nth XS 1, 0]⟩]⟩) (w5.heap.size) (h0.below (belowOne _ _)) h1 (fun b hb => by first | omega | (rcases hb with h | h <;> first | exact h.elim | omega | (rcases h with h | h <;> first | exact h.elim | omega))) (fun b hb => by first | omega | (rcases hb with h | h <;> first | exact h.elim | omega | (rcases h with h | h <;> first | exact h.elim | omega))) (fun b h1 h2 => by first | omega | (rcases h2 with h | h <;> first | exact h.elim | omega | (rcases h with h | h <;> first | exact h.elim | omega))) (by omega), (((belowPut3 HS.out.bel (w.heap.size + 1 + 1) (by omega) _ _ _).alloc (by rw [put3_size]; omega) _).alloc (by rw [alloc_size, put3_size]; omega) _)⟩
  · have HN := Lib.hid (show nextV XS o.gen = [nth XS 0, nth XS 1 + 1, 1] by unfold nextV; rw [if_neg hlt])
    have t5 : decide (o.gen < nth XS 1) = false := by simp [hlt]
    rw [HN.out] at HP
    clear hlt hal hgt hgt' hg0 h99
    go_wp2
    go_quiet (fail)
    replace HS := Lib.hid (HS.out.drewN nq)
    replace v0 : (w2.drewN nq).cell? ⟨b, off, none⟩ = some (.int .i64 (nth XS 0)) := v0
    replace v1 : (w2.drewN nq).cell? ⟨b, off + 1, none⟩ = some (.int .i64 (nth XS 1)) := v1
    replace hb2 : b < (w2.drewN nq).heap.size := hb2
    clear hz0 hz1 hz2 v2 o6 t1 t2 t3 t4
    generalize w2.drewN nq = w3 at *
    have hw1 : IntKind.i64.wrap (nth XS 1 + 1) = nth XS 1 + 1 := IntWalk.i64_in _ (by omega)
    have k0 : w3.drew.cell? ⟨b, off, none⟩ = some (.int .i64 (nth XS 0)) ∧ w3.drew.cell? ⟨b, off + 1, none⟩ = some (.int .i64 (nth XS 1)) := ⟨v0, v1⟩
    have k1 : (w3.alloc (.cells #[.int .i64 (nth XS 0), .int .i64 (nth XS 1 + 1), .int .i64 1] 3)).drew.cell? ⟨b, off, none⟩ = some (.int .i64 (nth XS 0)) ∧ (w3.alloc (.cells #[.int .i64 (nth XS 0), .int .i64 (nth XS 1 + 1), .int .i64 1] 3)).drew.cell? ⟨b, off + 1, none⟩ = some (.int .i64 (nth XS 1)) := ⟨((belowOne w3 _).cell (p := ⟨b, off, none⟩) hb2).trans v0, ((belowOne w3 _).cell (p := ⟨b, off + 1, none⟩) hb2).trans v1⟩
    have HLo := Lib.hid HS.out.size.2.2
    go_upto_region 5 with fail
    clear v0 v1
    refine wp_region_held_drew (S := (fun w' => w'.cell? ⟨b, off, none⟩ = some (.int .i64 (nth XS 0)) ∧ w'.cell? ⟨b, off + 1, none⟩ = some (.int .i64 (nth XS 1)))) (by kernel_rfl) ?hSrb (fun hHeldrb => ?strb)
    case hSrb => (first | (dsimp only; (first | with_reducible exact k1 | with_reducible exact k0)) | (first | with_reducible exact k1 | with_reducible exact k0))
    refine take_first 0 49 (v := ?vrb_1) rfl rfl (by kernel_rfl) (by kernel_rfl) (by kernel_rfl) (fun _ _ _ h => h) (by rfl) ?yrb_1 (by assumption) ?rrb_1
    case yrb_1 => (intro w hSw; (try dsimp only at hSw); go_simp; (try with_reducible rfl))
    simp only [Act.put, List.setIfInBounds_toArray, List.set_cons_zero, List.set_cons_succ]
    refine take_first 1 50 (v := ?vrb_2) rfl rfl (by kernel_rfl) (by kernel_rfl) (by kernel_rfl) (fun _ _ _ h => h) (by rfl) ?yrb_2 (by assumption) ?rrb_2
    case yrb_2 => (intro w hSw; (try dsimp only at hSw); go_simp; (try with_reducible rfl))
    simp only [Act.put, List.setIfInBounds_toArray, List.set_cons_zero, List.set_cons_succ]
    refine take_first 2 51 (v := ?vrb_3) rfl rfl (by kernel_rfl) (by kernel_rfl) (by kernel_rfl) (fun _ _ _ h => h) (by rfl) ?yrb_3 (by assumption) ?rrb_3
    case yrb_3 => (intro w hSw; (try dsimp only at hSw); go_simp; (try with_reducible rfl))
    simp only [Act.put, List.setIfInBounds_toArray, List.set_cons_zero, List.set_cons_succ]
    refine take_first 3 52 (v := ?vrb_4) rfl rfl (by kernel_rfl) (by kernel_rfl) (by kernel_rfl) (fun _ _ _ h => h) (by rfl) ?yrb_4 (by assumption) ?rrb_4
    case yrb_4 => (intro w hSw; (try dsimp only at hSw); go_simp; (try with_reducible rfl))
    simp only [Act.put, List.setIfInBounds_toArray, List.set_cons_zero, List.set_cons_succ]
    refine take_first 4 53 (v := ?vrb_5) rfl rfl (by kernel_rfl) (by kernel_rfl) (by kernel_rfl) (fun _ _ _ h => h) (by rfl) ?yrb_5 (by assumption) ?rrb_5
    case yrb_5 => (intro w hSw; (try dsimp only at hSw); go_simp; (try with_reducible rfl))
    simp only [Act.put, List.setIfInBounds_toArray, List.set_cons_zero, List.set_cons_succ]
    refine take_first 5 54 (v := ?vrb_6) rfl rfl (by kernel_rfl) (by kernel_rfl) (by kernel_rfl) (fun _ _ _ h => h) (by rfl) ?yrb_6 (by assumption) ?rrb_6
    case yrb_6 => (intro w hSw; (try dsimp only at hSw); go_simp; (try with_reducible rfl))
    simp only [Act.put, List.setIfInBounds_toArray, List.set_cons_zero, List.set_cons_succ]
    refine take_first 6 55 (v := ?vrb_7) rfl rfl (by kernel_rfl) (by kernel_rfl) (by kernel_rfl) (fun _ _ _ h => h) (by rfl) ?yrb_7 (by assumption) ?rrb_7
    case yrb_7 => (intro w hSw; (try dsimp only at hSw); go_simp; (try with_reducible rfl))
    simp only [Act.put, List.setIfInBounds_toArray, List.set_cons_zero, List.set_cons_succ]
    refine wpAnyH_ready (rs := [7]) (by kernel_rfl) (by simp) ?_
    refine AllReadyH.cons (o := _) rfl (fun Krb_8 hKrb_8 => ?crb_8) ?mrb_8
    case mrb_8 => exact AllReadyH.nil
    go_simp
    skip
    go_wp2_with fail
    refine hKrb_8.out _ _ ?krb_8 (fun hHeldrb_8 => ?drb_8)
    case krb_8 => (first | (dsimp only; (first | with_reducible exact k1 | with_reducible exact k0)) | (first | with_reducible exact k1 | with_reducible exact k0))
    clear hKrb_8 Krb_8
    refine take_first 8 8 (v := ?vrb_9) rfl rfl (by kernel_rfl) (by kernel_rfl) (by kernel_rfl) (fun _ _ _ h => h) (by rfl) ?yrb_9 (by assumption) ?rrb_9
    case yrb_9 => (intro w hSw; (try dsimp only at hSw); go_simp; (try with_reducible rfl))
    simp only [Act.put, List.setIfInBounds_toArray, List.set_cons_zero, List.set_cons_succ]
    refine wpAnyH_done (by kernel_rfl) ?erb _
    clear hw1
    have HI := Lib.hid (show Sh.int.Own 3 (w3.alloc (.cells #[.int .i64 (nth XS 0), .int .i64 (nth XS 1 + 1), .int .i64 1] 3)).drew (fun b => b = w3.heap.size) (.slice (some ⟨w3.heap.size, 0, none⟩) 3 3) [nth XS 0, nth XS 1 + 1, 1] from ints_lit w3 [nth XS 0, nth XS 1 + 1, 1] _ rfl (by unfold maxLen; simp))
    replace HS := Lib.hid (HS.out.call (belowOne w3 (.cells #[.int .i64 (nth XS 0), .int .i64 (nth XS 1 + 1), .int .i64 1] 3))).drewOne
    have HZ := Lib.hid (show (w3.alloc (.cells #[.int .i64 (nth XS 0), .int .i64 (nth XS 1 + 1), .int .i64 1] 3)).drew.heap.size = w3.heap.size + 1 from alloc_size _ _)
    obtain ⟨v0, v1⟩ := k1
    clear k0
    generalize (w3.alloc (.cells #[.int .i64 (nth XS 0), .int .i64 (nth XS 1 + 1), .int .i64 1] 3)).drew = w4 at *
    have hb4 : b < w4.heap.size := by have := HZ.out; omega
    have o6 := HS.out.op.of 6 _ rfl
    have g0 := HS.out.size.2.2
    go_wp2
    go_quiet (fail)
    replace HS := Lib.hid (HS.out.drewN nq)
    replace HI := Lib.hid (HI.out.keep (w' := w4.drewN nq) fun _ _ _ => rfl)
    replace HZ := Lib.hid (show (w4.drewN nq).heap.size = w3.heap.size + 1 from HZ.out)
    replace v0 : (w4.drewN nq).cell? ⟨b, off, none⟩ = some (.int .i64 (nth XS 0)) := v0
    replace v1 : (w4.drewN nq).cell? ⟨b, off + 1, none⟩ = some (.int .i64 (nth XS 1)) := v1
    clear o6 g0
    replace hb4 : b < (w4.drewN nq).heap.size := hb4
    generalize w4.drewN nq = w5 at *
    have hdu : (digS (nth XS 0)).size ≤ 1 := Nat.le_of_eq (digS_size _)
    have HKU := Lib.hid (keyN_dig 117 hw9)
    go_wp2_with fail
    clear v0 v1
    refine (l3Digit_any _ _ hw0 hw9).mono ?_
    rintro e w7 ⟨rfl, hb⟩
    replace HS := Lib.hid (HS.out.call hb)
    replace HI := Lib.hid (HI.out.below hb)
    have HZ7 := Lib.hid hb.size
    clear hb
    obtain ⟨hz0, hz1, hz2⟩ := HS.out.size
    have p0 := HS.out.pl.of 0 _ rfl
    have p1 := HS.out.pl.of 1 _ rfl
    have p2 := HS.out.pl.of 2 _ rfl
    have fr := HS.out.pl.2.1
    go_wp2_with fail
    rw [← HKU.out]
    clear hdu p0 p1 p2 fr
    have z1 := HZ.out
    have z2 := HZ7.out
    have z3 := HLo.out
    have h0 := strs_lit (put3 w7 (w.heap.size + 1 + 1) (.bool true) (.slice (some ⟨w7.heap.size, 0, none⟩) 2 2) (.slice (some ⟨w7.heap.size + 1, 0, none⟩) 1 1)) [keyN 102 o.fam, keyN 117 (nth XS 0)] #[.string (keyN 102 o.fam), .string (keyN 117 (nth XS 0))] rfl (by simp [keyN_max]) (by unfold maxLen; simp)
    rw [put3_size] at h0
    have h1 := wrs_lit1 ((put3 w7 (w.heap.size + 1 + 1) (.bool true) (.slice (some ⟨w7.heap.size, 0, none⟩) 2 2) (.slice (some ⟨w7.heap.size + 1, 0, none⟩) 1 1)).alloc (.cells #[.string (keyN 102 o.fam), .string (keyN 117 (nth XS 0))] 9)) _ (keyN 102 o.fam) false (.slice (some ⟨w3.heap.size, 0, none⟩) 3 3) [nth XS 0, nth XS 1 + 1, 1] (keyN_max _ _) ((HI.out.keep (w' := (put3 w7 (w.heap.size + 1 + 1) (.bool true) (.slice (some ⟨w7.heap.size, 0, none⟩) 2 2) (.slice (some ⟨w7.heap.size + 1, 0, none⟩) 1 1))) fun b hb _ => put3_far _ _ _ _ _ (by omega)).below (belowOne _ _)) (fun b hb => by rw [alloc_size, put3_size]; omega)
    rw [alloc_size, put3_size] at h1
    have HQ := (((HS.out.pl.put3 (.bool true) (.slice (some ⟨w7.heap.size, 0, none⟩) 2 2) (.slice (some ⟨w7.heap.size + 1, 0, none⟩) 1 1)).after (.cells #[.string (keyN 102 o.fam), .string (keyN 117 (nth XS 0))] 9)).after (.cells #[.string (keyN 102 o.fam), .bool false, .slice (some ⟨w3.heap.size, 0, none⟩) 3 3] 77))
    have q0 := HQ.of 0 _ rfl
    have q1 := HQ.of 1 _ rfl
    have q2 := HQ.of 2 _ rfl
    rw [HP.out]
    refine bodyPost_ret (v := .agg #[.bool true, .slice (some ⟨w7.heap.size, 0, none⟩) 2 2, .slice (some ⟨w7.heap.size + 1, 0, none⟩) 1 1]) (by simp only [results, Tryz.results110, go_sem]; simp [go_sem, q0, q1, q2]) rfl ⟨_, _, rfl, planOwn (pl := ⟨true, [keyN 102 o.fam, keyN 117 (nth XS 0)], [⟨keyN 102 o.fam, false, [nth XS 0, nth XS 1 + 1, 1]⟩]⟩) (w3.heap.size) (h0.below (belowOne _ _)) h1 (fun b hb => by first | omega | (rcases hb with h | h <;> first | exact h.elim | omega | (rcases h with h | h <;> first | exact h.elim | omega))) (fun b hb => by first | omega | (rcases hb with h | h <;> first | exact h.elim | omega | (rcases h with h | h <;> first | exact h.elim | omega))) (fun b h1 h2 => by first | omega | (rcases h2 with h | h <;> first | exact h.elim | omega | (rcases h with h | h <;> first | exact h.elim | omega))) (by omega), (((belowPut3 HS.out.bel (w.heap.size + 1 + 1) (by omega) _ _ _).alloc (by rw [put3_size]; omega) _).alloc (by rw [alloc_size, put3_size]; omega) _)⟩

end Go.Proofs.YtecdibpiojgppaaGreat

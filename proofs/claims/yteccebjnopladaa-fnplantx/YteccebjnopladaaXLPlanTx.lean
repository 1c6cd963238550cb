/- The walk of FnPlanTx. By letgen.py. -/
import Derived.Test.YteccebjnopladaaXDrawPlcPlan
import Derived.Test.YteccebjnopladaaXOutMay2
import Derived.Test.YteccebjnopladaaXPlanLaw
import Derived.Test.YteccebjnopladaaXDrawGloDo
namespace Go.Proofs.Yteccebjnopladaa
open Go.RowKit

/-- What is planned where what was done is noted. -/
theorem done_plan {its : List Item} {p tx : Int} {o : Op} (h1 : p ≠ 1) (h2 : p ≠ 2) (h : (plcP its p tx o).ok = true) : (plcP its p tx o).locks.length = 1 ∧ (plcP its p tx o).writes = [⟨keyN 97 tx, false, [o.kind]⟩] := by
  obtain ⟨ho, hp, ht, e⟩ := plcP_ok h
  have hp3 : p = 3 := by rcases plcB_which hp with h | h | h <;> omega
  subst hp3
  rw [e] at h ⊢
  unfold planP doneP noP at *
  rw [if_pos rfl] at h ⊢
  split at h
  · cases h
  · rename_i hc
    rw [if_neg hc]
    exact ⟨rfl, rfl⟩

set_option maxRecDepth 100000 in
set_option maxHeartbeats 20000000 in
theorem lawPlanTx_any (w : World) (v : Value) (n : Nat) (hv : Code8 w v n) :
    Calls Try.prog 7 #[v] w fun e w' => e = .returned (.bool true) ∧ Below w.heap.size w w' := by
  have HV := Lib.hid hv
  obtain ⟨A, c, f, rfl, h1, h2, -, -⟩ := hv
  unfold maxLen at h2
  by_cases hn : 1048576 < n
  · have hn' : (1048576 : Int) < (n : Int) := by omega
    go_enter Try.func7, Try.ntmps7
    go_wp2
    go_ret
    exact ⟨rfl, Below.refl _ _⟩
  have hn' : (n : Int) ≤ 1048576 := by omega
  clear hn
  go_enter Try.func7, Try.ntmps7
  go_wp2_with fail
  refine (drawPlcPlan_any _ _ n HV.out).mono ?_
  rintro e w1 ⟨p, u, its, tx, o, rfl, p0, p5, -, t0, t1, hI, hb1⟩
  obtain ⟨Au, cu, rfl, -, -⟩ := hI.form
  have HB := Lib.hid (belowNext hb1 (belowTwo w1 (.cells #[.slice Au its.length cu] 25) (.cells #[.int .i64 o.kind, .int .i64 o.who, .int .i64 o.inn, .int .i64 o.code, .int .i64 o.sec, .int .i64 o.fam, .int .i64 o.gen] 36)))
  have HI := Lib.hid ((hI.below (belowTwo w1 (.cells #[.slice Au its.length cu] 25) (.cells #[.int .i64 o.kind, .int .i64 o.who, .int .i64 o.inn, .int .i64 o.code, .int .i64 o.sec, .int .i64 o.fam, .int .i64 o.gen] 36))).more (belowTwo w1 (.cells #[.slice Au its.length cu] 25) (.cells #[.int .i64 o.kind, .int .i64 o.who, .int .i64 o.inn, .int .i64 o.code, .int .i64 o.sec, .int .i64 o.fam, .int .i64 o.gen] 36)).size)
  have HS := Lib.hid ((Held.new w1 #[.slice Au its.length cu] 25).after (.cells #[.int .i64 o.kind, .int .i64 o.who, .int .i64 o.inn, .int .i64 o.code, .int .i64 o.sec, .int .i64 o.fam, .int .i64 o.gen] 36))
  have HO := Lib.hid (show Held ((w1.alloc (.cells #[.slice Au its.length cu] 25)).alloc (.cells #[.int .i64 o.kind, .int .i64 o.who, .int .i64 o.inn, .int .i64 o.code, .int .i64 o.sec, .int .i64 o.fam, .int .i64 o.gen] 36)) (w1.heap.size + 1) [.int .i64 o.kind, .int .i64 o.who, .int .i64 o.inn, .int .i64 o.code, .int .i64 o.sec, .int .i64 o.fam, .int .i64 o.gen] from by have h := Held.new (w1.alloc (.cells #[.slice Au its.length cu] 25)) #[.int .i64 o.kind, .int .i64 o.who, .int .i64 o.inn, .int .i64 o.code, .int .i64 o.sec, .int .i64 o.fam, .int .i64 o.gen] 36; rwa [allocSize] at h)
  clear hI hb1 HV
  unfold opV
  have s0 := HS.out.of 0 _ rfl
  obtain ⟨q0, q1, q2, q3, q4, q5, q6⟩ := HO.out.seven
  go_wp2_with fail
  clear s0 q0 q1 q2 q3 q4 q5 q6
  refine (implPlcPlan_any _ p _ its HI.out tx o).mono ?_
  rintro e w2 ⟨ua, ub, rfl, ho9, hb9⟩
  obtain ⟨pl, hpl⟩ : ∃ pl, plcP its p tx o = pl := ⟨_, rfl⟩
  rw [hpl] at ho9 ⊢
  have HPl := Lib.hid hpl
  obtain ⟨ua', ub', S1, S2, hcs, hl9, hw9, -, -, -⟩ := plan_own.1 ho9
  obtain ⟨rfl, rfl⟩ : ua = ua' ∧ ub = ub' := by simpa using hcs
  obtain ⟨Aa, ca, hfa, -, -⟩ := hl9.row.form
  obtain ⟨Ab, cb, hfb, -, -⟩ := hw9.row.form
  subst hfa hfb
  have HLo := Lib.hid hl9.row
  have HWo := Lib.hid hw9.row
  replace HB := Lib.hid (belowNext HB.out hb9)
  replace HI := Lib.hid ((HI.out.below hb9).more hb9.size)
  replace HS := Lib.hid (HS.out.below hb9 HS.out.1)
  replace HO := Lib.hid (HO.out.below hb9 HO.out.1)
  have HBp := Lib.hid (belowOne w2 (.cells #[.bool pl.ok, .slice Aa pl.locks.length ca, .slice Ab pl.writes.length cb] 46))
  have HX := Lib.hid (Held.new w2 #[.bool pl.ok, .slice Aa pl.locks.length ca, .slice Ab pl.writes.length cb] 46)
  clear hb9 ho9 hcs hl9 hw9 hpl
  have HAll := Lib.hid (fun (X : World) (hX : Below (w2.alloc (.cells #[.bool pl.ok, .slice Aa pl.locks.length ca, .slice Ab pl.writes.length cb] 46)).heap.size (w2.alloc (.cells #[.bool pl.ok, .slice Aa pl.locks.length ca, .slice Ab pl.writes.length cb] 46)) X) => show X.cell? ⟨w2.heap.size, 0, none⟩ = some (.bool pl.ok) ∧ X.cell? ⟨w2.heap.size, 1, none⟩ = some (.slice Aa pl.locks.length ca) ∧ X.cell? ⟨w2.heap.size, 2, none⟩ = some (.slice Ab pl.writes.length cb) ∧ X.cell? ⟨w1.heap.size, 0, none⟩ = some (.slice Au its.length cu) ∧ X.cell? ⟨w1.heap.size + 1, 0, none⟩ = some (.int .i64 o.kind) ∧ X.cell? ⟨w1.heap.size + 1, 1, none⟩ = some (.int .i64 o.who) ∧ X.cell? ⟨w1.heap.size + 1, 2, none⟩ = some (.int .i64 o.inn) ∧ X.cell? ⟨w1.heap.size + 1, 3, none⟩ = some (.int .i64 o.code) ∧ X.cell? ⟨w1.heap.size + 1, 4, none⟩ = some (.int .i64 o.sec) ∧ X.cell? ⟨w1.heap.size + 1, 5, none⟩ = some (.int .i64 o.fam) ∧ X.cell? ⟨w1.heap.size + 1, 6, none⟩ = some (.int .i64 o.gen) from
    have h2 : Below w2.heap.size w2 X := belowNext HBp.out hX
    ⟨(HX.out.below hX HX.out.1).of 0 _ rfl, (HX.out.below hX HX.out.1).of 1 _ rfl, (HX.out.below hX HX.out.1).of 2 _ rfl, (HS.out.below h2 HS.out.1).of 0 _ rfl, (HO.out.below h2 HO.out.1).seven⟩)
  have HRd := Lib.hid (fun (X : World) (hX : Below (w2.alloc (.cells #[.bool pl.ok, .slice Aa pl.locks.length ca, .slice Ab pl.writes.length cb] 46)).heap.size (w2.alloc (.cells #[.bool pl.ok, .slice Aa pl.locks.length ca, .slice Ab pl.writes.length cb] 46)) X) => show Items X X.heap.size (.slice Au its.length cu) its ∧ strSh.Row X X.heap.size (.slice Aa pl.locks.length ca) pl.locks ∧ wrSh.Row X X.heap.size (.slice Ab pl.writes.length cb) pl.writes ∧ Below w.heap.size w X from
    have h2 : Below w2.heap.size w2 X := belowNext HBp.out hX
    ⟨(HI.out.below h2).more h2.size, (HLo.out.below h2).more h2.size, (HWo.out.below h2).more h2.size, belowNext HB.out h2⟩)
  have HW0 := Lib.hid (show Below (w2.alloc (.cells #[.bool pl.ok, .slice Aa pl.locks.length ca, .slice Ab pl.writes.length cb] 46)).heap.size (w2.alloc (.cells #[.bool pl.ok, .slice Aa pl.locks.length ca, .slice Ab pl.writes.length cb] 46)) (w2.alloc (.cells #[.bool pl.ok, .slice Aa pl.locks.length ca, .slice Ab pl.writes.length cb] 46)) from Below.refl _ _)
  clear HX HBp HLo HWo HS HO HI HB
  go_upto_region 5 with fail
  generalize (w2.alloc (.cells #[.bool pl.ok, .slice Aa pl.locks.length ca, .slice Ab pl.writes.length cb] 46)) = w3 at *
  have HW1 := Lib.hid (show Below w3.heap.size w3 w3.drew from HW0.out.drew)
  have k0 := HAll.out _ HW1.out
  refine wp_region_held_drew (S := (fun w' => w'.cell? ⟨w2.heap.size, 0, none⟩ = some (.bool pl.ok) ∧ w'.cell? ⟨w2.heap.size, 1, none⟩ = some (.slice Aa pl.locks.length ca) ∧ w'.cell? ⟨w2.heap.size, 2, none⟩ = some (.slice Ab pl.writes.length cb) ∧ w'.cell? ⟨w1.heap.size, 0, none⟩ = some (.slice Au its.length cu) ∧ w'.cell? ⟨w1.heap.size + 1, 0, none⟩ = some (.int .i64 o.kind) ∧ w'.cell? ⟨w1.heap.size + 1, 1, none⟩ = some (.int .i64 o.who) ∧ w'.cell? ⟨w1.heap.size + 1, 2, none⟩ = some (.int .i64 o.inn) ∧ w'.cell? ⟨w1.heap.size + 1, 3, none⟩ = some (.int .i64 o.code) ∧ w'.cell? ⟨w1.heap.size + 1, 4, none⟩ = some (.int .i64 o.sec) ∧ w'.cell? ⟨w1.heap.size + 1, 5, none⟩ = some (.int .i64 o.fam) ∧ w'.cell? ⟨w1.heap.size + 1, 6, none⟩ = some (.int .i64 o.gen))) (by kernel_rfl) ?hSa (fun hHelda => ?sta)
  case hSa => (first | (dsimp only; (first | with_reducible exact k2 | with_reducible exact k1 | with_reducible exact k0 | exact k0)) | (first | with_reducible exact k2 | with_reducible exact k1 | with_reducible exact k0 | exact k0))
  refine take_first 0 24 (v := ?va_1) rfl rfl (by kernel_rfl) (by kernel_rfl) (by kernel_rfl) (fun _ _ _ h => h) (by rfl) ?ya_1 (by assumption) ?ra_1
  case ya_1 => (intro w hSw; (try dsimp only at hSw); go_simp; (try with_reducible rfl))
  simp only [Act.put, List.setIfInBounds_toArray, List.set_cons_zero, List.set_cons_succ]
  refine take_first 1 25 (v := ?va_2) rfl rfl (by kernel_rfl) (by kernel_rfl) (by kernel_rfl) (fun _ _ _ h => h) (by rfl) ?ya_2 (by assumption) ?ra_2
  case ya_2 => (intro w hSw; (try dsimp only at hSw); go_simp; (try with_reducible rfl))
  simp only [Act.put, List.setIfInBounds_toArray, List.set_cons_zero, List.set_cons_succ]
  refine take_first 2 26 (v := ?va_3) rfl rfl (by kernel_rfl) (by kernel_rfl) (by kernel_rfl) (fun _ _ _ h => h) (by rfl) ?ya_3 (by assumption) ?ra_3
  case ya_3 => (intro w hSw; (try dsimp only at hSw); go_simp; (try with_reducible rfl))
  simp only [Act.put, List.setIfInBounds_toArray, List.set_cons_zero, List.set_cons_succ]
  refine take_first 3 27 (v := ?va_4) rfl rfl (by kernel_rfl) (by kernel_rfl) (by kernel_rfl) (fun _ _ _ h => h) (by rfl) ?ya_4 (by assumption) ?ra_4
  case ya_4 => (intro w hSw; (try dsimp only at hSw); go_simp; (try with_reducible rfl))
  simp only [Act.put, List.setIfInBounds_toArray, List.set_cons_zero, List.set_cons_succ]
  refine take_first 4 28 (v := ?va_5) rfl rfl (by kernel_rfl) (by kernel_rfl) (by kernel_rfl) (fun _ _ _ h => h) (by rfl) ?ya_5 (by assumption) ?ra_5
  case ya_5 => (intro w hSw; (try dsimp only at hSw); go_simp; (try with_reducible rfl))
  simp only [Act.put, List.setIfInBounds_toArray, List.set_cons_zero, List.set_cons_succ]
  refine wpAnyH_ready (rs := [5]) (by kernel_rfl) (by simp) ?_
  refine AllReadyH.cons (o := _) rfl (fun Ka_6 hKa_6 => ?ca_6) ?ma_6
  case ma_6 => exact AllReadyH.nil
  go_simp
  refine (specPlcPlan_any _ p _ its (HRd.out _ HW1.out).1 tx o).mono ?_; rintro e w4 ⟨us, ut, rfl, ho4, hb4⟩; rw [HPl.out] at ho4 ⊢; obtain ⟨us', ut', T1, T2, hcs4, hl4, hw4, -, -, -⟩ := plan_own.1 ho4; obtain ⟨rfl, rfl⟩ : us = us' ∧ ut = ut' := (by simpa using hcs4); have HL4 := Lib.hid hl4.row; have HW4 := Lib.hid hw4.row; have HW2 := Lib.hid (HW1.out.trans (hb4.mono HW1.out.size)); have k1 := HAll.out _ HW2.out; clear hb4 ho4 hcs4 hl4 hw4
  go_wp2_with fail
  refine hKa_6.out _ _ ?ka_6 (fun hHelda_6 => ?da_6)
  case ka_6 => (first | (dsimp only; (first | with_reducible exact k2 | with_reducible exact k1 | with_reducible exact k0 | exact k0)) | (first | with_reducible exact k2 | with_reducible exact k1 | with_reducible exact k0 | exact k0))
  clear hKa_6 Ka_6
  refine wpAnyH_ready (rs := [6]) (by kernel_rfl) (by simp) ?_
  refine AllReadyH.cons (o := _) rfl (fun Ka_7 hKa_7 => ?ca_7) ?ma_7
  case ma_7 => exact AllReadyH.nil
  go_simp
  refine (jaPlan_same _ _ _ _ _ pl.ok pl.locks pl.writes (HRd.out _ HW2.out).2.1 (HRd.out _ HW2.out).2.2.1 HL4.out HW4.out).mono ?_; rintro e w5 ⟨rfl, hb5⟩; have HW3 := Lib.hid (HW2.out.trans (hb5.mono HW2.out.size)); have k2 := HAll.out _ HW3.out; clear hb5
  go_wp2_with fail
  refine hKa_7.out _ _ ?ka_7 (fun hHelda_7 => ?da_7)
  case ka_7 => (first | (dsimp only; (first | with_reducible exact k2 | with_reducible exact k1 | with_reducible exact k0 | exact k0)) | (first | with_reducible exact k2 | with_reducible exact k1 | with_reducible exact k0 | exact k0))
  clear hKa_7 Ka_7
  refine take_first 7 31 (v := ?va_8) rfl rfl (by kernel_rfl) (by kernel_rfl) (by kernel_rfl) (fun _ _ _ h => h) (by rfl) ?ya_8 (by assumption) ?ra_8
  case ya_8 => (intro w hSw; (try dsimp only at hSw); go_simp; (try with_reducible rfl))
  simp only [Act.put, List.setIfInBounds_toArray, List.set_cons_zero, List.set_cons_succ]
  refine wpAnyH_done (by kernel_rfl) ?ea _
  clear k0 k1 k2 HW0 HW1 HW2 HL4 HW4
  have HZ := Lib.hid HW3.out
  clear HW3
  cases ht : inB tx 0 29 with
  | false =>
    have hpe : pl = ⟨false, [], []⟩ := by rw [← HPl.out]; unfold plcP; rw [ht]; simp
    have HBz := Lib.hid (HRd.out _ HZ.out).2.2.2
    subst hpe
    obtain ⟨c0, c1, -⟩ := HAll.out _ HZ.out
    dsimp only [List.length_nil] at c0 c1
    clear HAll HRd
    by_cases hx : tx < 0
    · clear ht
      go_wp2_with fail
      refine (jaOk_any _).mono ?_
      rintro e w6 ⟨rfl, hb6⟩
      have HBe := Lib.hid (belowNext HBz.out hb6)
      clear hb6
      go_wp2
      go_ret
      exact ⟨rfl, HBe.out⟩
    · have hx2 : 29 < tx := by
        have : ¬ (0 ≤ tx ∧ tx ≤ 29) := fun h => by rw [inB_yes h.1 h.2] at ht; cases ht
        omega
      clear ht
      go_wp2_with fail
      refine (jaOk_any _).mono ?_
      rintro e w6 ⟨rfl, hb6⟩
      have HBe := Lib.hid (belowNext HBz.out hb6)
      clear hb6
      go_wp2
      go_ret
      exact ⟨rfl, HBe.out⟩
  | true =>
    obtain ⟨tt0, tt1⟩ := inB_parts ht
    have HT := Lib.hid ht
    clear ht
    obtain ⟨t, rfl⟩ := Int.eq_ofNat_of_zero_le tt0
    obtain ⟨m, hm⟩ : ∃ m : Nat, ((t : Int) + 1 + (n : Int) % 20) % 30 = (m : Int) := ⟨(t + 1 + n % 20) % 30, by omega⟩
    have hm30 : m < 30 := by omega
    have hx1 : ¬ (t : Int) < 0 := by omega
    have hx2 : ¬ 29 < (t : Int) := by omega
    by_cases hp12 : p = 1 ∨ p = 2
    · have HPm := Lib.hid (show plcP its p (m : Int) o = pl by rw [← HPl.out]; exact plcP_tx (by omega) HT.out (inB_yes (by omega) (by omega)))
      obtain ⟨c0, c1, c2, c3, d0, d1, d2, d3, d4, d5, d6⟩ := HAll.out _ HZ.out
      have HW1 := Lib.hid (show Below w3.heap.size w3 w5.drew from HZ.out.drew)
      have k0 := HAll.out _ HW1.out
      rcases hp12 with rfl | rfl
      · clear c0 c1 c2 c3 d0 d1 d2 d3 d4 d5 d6
        go_upto_region 11 with fail
        refine wp_region_held_drew (S := (fun w' => w'.cell? ⟨w2.heap.size, 0, none⟩ = some (.bool pl.ok) ∧ w'.cell? ⟨w2.heap.size, 1, none⟩ = some (.slice Aa pl.locks.length ca) ∧ w'.cell? ⟨w2.heap.size, 2, none⟩ = some (.slice Ab pl.writes.length cb) ∧ w'.cell? ⟨w1.heap.size, 0, none⟩ = some (.slice Au its.length cu) ∧ w'.cell? ⟨w1.heap.size + 1, 0, none⟩ = some (.int .i64 o.kind) ∧ w'.cell? ⟨w1.heap.size + 1, 1, none⟩ = some (.int .i64 o.who) ∧ w'.cell? ⟨w1.heap.size + 1, 2, none⟩ = some (.int .i64 o.inn) ∧ w'.cell? ⟨w1.heap.size + 1, 3, none⟩ = some (.int .i64 o.code) ∧ w'.cell? ⟨w1.heap.size + 1, 4, none⟩ = some (.int .i64 o.sec) ∧ w'.cell? ⟨w1.heap.size + 1, 5, none⟩ = some (.int .i64 o.fam) ∧ w'.cell? ⟨w1.heap.size + 1, 6, none⟩ = some (.int .i64 o.gen))) (by kernel_rfl) ?hSc1 (fun hHeldc1 => ?stc1)
        case hSc1 => (first | (dsimp only; (first | with_reducible exact k3 | with_reducible exact k2 | with_reducible exact k1 | with_reducible exact k0 | exact k0)) | (first | with_reducible exact k3 | with_reducible exact k2 | with_reducible exact k1 | with_reducible exact k0 | exact k0))
        refine take_first 0 63 (v := ?vc1_1) rfl rfl (by kernel_rfl) (by kernel_rfl) (by kernel_rfl) (fun _ _ _ h => h) (by rfl) ?yc1_1 (by assumption) ?rc1_1
        case yc1_1 => (intro w hSw; (try dsimp only at hSw); go_simp; (try with_reducible rfl))
        simp only [Act.put, List.setIfInBounds_toArray, List.set_cons_zero, List.set_cons_succ]
        refine take_first 1 64 (v := ?vc1_2) rfl rfl (by kernel_rfl) (by kernel_rfl) (by kernel_rfl) (fun _ _ _ h => h) (by rfl) ?yc1_2 (by assumption) ?rc1_2
        case yc1_2 => (intro w hSw; (try dsimp only at hSw); go_simp; (try with_reducible rfl))
        simp only [Act.put, List.setIfInBounds_toArray, List.set_cons_zero, List.set_cons_succ]
        refine take_first 2 65 (v := ?vc1_3) rfl rfl (by kernel_rfl) (by kernel_rfl) (by kernel_rfl) (fun _ _ _ h => h) (by rfl) ?yc1_3 (by assumption) ?rc1_3
        case yc1_3 => (intro w hSw; (try dsimp only at hSw); go_simp; (try with_reducible rfl))
        simp only [Act.put, List.setIfInBounds_toArray, List.set_cons_zero, List.set_cons_succ]
        refine take_first 3 66 (v := ?vc1_4) rfl rfl (by kernel_rfl) (by kernel_rfl) (by kernel_rfl) (fun _ _ _ h => h) (by rfl) ?yc1_4 (by assumption) ?rc1_4
        case yc1_4 => (intro w hSw; (try dsimp only at hSw); go_simp; (try with_reducible rfl))
        simp only [Act.put, List.setIfInBounds_toArray, List.set_cons_zero, List.set_cons_succ]
        refine take_first 5 68 (v := ?vc1_5) rfl rfl (by kernel_rfl) (by kernel_rfl) (by kernel_rfl) (fun _ _ _ h => h) (by rfl) ?yc1_5 (by assumption) ?rc1_5
        case yc1_5 => (intro w hSw; (try dsimp only at hSw); go_simp; (try with_reducible rfl))
        simp only [Act.put, List.setIfInBounds_toArray, List.set_cons_zero, List.set_cons_succ]
        refine wpAnyH_ready (rs := [4]) (by kernel_rfl) (by simp) ?_
        refine AllReadyH.cons (o := _) rfl (fun Kc1_6 hKc1_6 => ?cc1_6) ?mc1_6
        case mc1_6 => exact AllReadyH.nil
        go_simp
        refine (implPlcPlan_any _ 1 _ its (HRd.out _ HW1.out).1 (m : Int) o).mono ?_; rintro e w6 ⟨us, ut, rfl, ho4, hb4⟩; rw [HPm.out] at ho4 ⊢; obtain ⟨us', ut', T1, T2, hcs4, hl4, hw4, -, -, -⟩ := plan_own.1 ho4; obtain ⟨rfl, rfl⟩ : us = us' ∧ ut = ut' := (by simpa using hcs4); have HL4 := Lib.hid hl4.row; have HW4 := Lib.hid hw4.row; have HW2 := Lib.hid (HW1.out.trans (hb4.mono HW1.out.size)); have k1 := HAll.out _ HW2.out; clear hb4 ho4 hcs4 hl4 hw4
        go_wp2_with fail
        refine hKc1_6.out _ _ ?kc1_6 (fun hHeldc1_6 => ?dc1_6)
        case kc1_6 => (first | (dsimp only; (first | with_reducible exact k3 | with_reducible exact k2 | with_reducible exact k1 | with_reducible exact k0 | exact k0)) | (first | with_reducible exact k3 | with_reducible exact k2 | with_reducible exact k1 | with_reducible exact k0 | exact k0))
        clear hKc1_6 Kc1_6
        refine wpAnyH_ready (rs := [6]) (by kernel_rfl) (by simp) ?_
        refine AllReadyH.cons (o := _) rfl (fun Kc1_7 hKc1_7 => ?cc1_7) ?mc1_7
        case mc1_7 => exact AllReadyH.nil
        go_simp
        refine (jaPlan_same _ _ _ _ _ pl.ok pl.locks pl.writes HL4.out HW4.out (HRd.out _ HW2.out).2.1 (HRd.out _ HW2.out).2.2.1).mono ?_; rintro e w7 ⟨rfl, hb5⟩; have HW3 := Lib.hid (HW2.out.trans (hb5.mono HW2.out.size)); have k2 := HAll.out _ HW3.out; clear hb5
        go_wp2_with fail
        refine hKc1_7.out _ _ ?kc1_7 (fun hHeldc1_7 => ?dc1_7)
        case kc1_7 => (first | (dsimp only; (first | with_reducible exact k3 | with_reducible exact k2 | with_reducible exact k1 | with_reducible exact k0 | exact k0)) | (first | with_reducible exact k3 | with_reducible exact k2 | with_reducible exact k1 | with_reducible exact k0 | exact k0))
        clear hKc1_7 Kc1_7
        refine take_first 7 70 (v := ?vc1_8) rfl rfl (by kernel_rfl) (by kernel_rfl) (by kernel_rfl) (fun _ _ _ h => h) (by rfl) ?yc1_8 (by assumption) ?rc1_8
        case yc1_8 => (intro w hSw; (try dsimp only at hSw); go_simp; (try with_reducible rfl))
        simp only [Act.put, List.setIfInBounds_toArray, List.set_cons_zero, List.set_cons_succ]
        refine wpAnyH_ready (rs := [8]) (by kernel_rfl) (by simp) ?_
        refine AllReadyH.cons (o := _) rfl (fun Kc1_9 hKc1_9 => ?cc1_9) ?mc1_9
        case mc1_9 => exact AllReadyH.nil
        go_simp
        refine (jaOk_any _).mono ?_; rintro e w8 ⟨rfl, hb6⟩; have HW5 := Lib.hid (HW3.out.trans (hb6.mono HW3.out.size)); have k3 := HAll.out _ HW5.out; clear hb6
        go_wp2_with fail
        refine hKc1_9.out _ _ ?kc1_9 (fun hHeldc1_9 => ?dc1_9)
        case kc1_9 => (first | (dsimp only; (first | with_reducible exact k3 | with_reducible exact k2 | with_reducible exact k1 | with_reducible exact k0 | exact k0)) | (first | with_reducible exact k3 | with_reducible exact k2 | with_reducible exact k1 | with_reducible exact k0 | exact k0))
        clear hKc1_9 Kc1_9
        refine take_first 9 72 (v := ?vc1_10) rfl rfl (by kernel_rfl) (by kernel_rfl) (by kernel_rfl) (fun _ _ _ h => h) (by rfl) ?yc1_10 (by assumption) ?rc1_10
        case yc1_10 => (intro w hSw; (try dsimp only at hSw); go_simp; (try with_reducible rfl))
        simp only [Act.put, List.setIfInBounds_toArray, List.set_cons_zero, List.set_cons_succ]
        refine take_first 10 2 (v := ?vc1_11) rfl rfl (by kernel_rfl) (by kernel_rfl) (by kernel_rfl) (fun _ _ _ h => h) (by rfl) ?yc1_11 (by assumption) ?rc1_11
        case yc1_11 => (intro w hSw; (try dsimp only at hSw); go_simp; (try with_reducible rfl))
        simp only [Act.put, List.setIfInBounds_toArray, List.set_cons_zero, List.set_cons_succ]
        refine wpAnyH_done (by kernel_rfl) ?ec1 _
        clear k0 k1 k2 k3
        have HBz := Lib.hid (HRd.out _ HW5.out).2.2.2
        go_wp2
        go_ret
        exact ⟨rfl, HBz.out⟩
      · clear c0 c1 c2 c3 d0 d1 d2 d3 d4 d5 d6
        go_upto_region 11 with fail
        refine wp_region_held_drew (S := (fun w' => w'.cell? ⟨w2.heap.size, 0, none⟩ = some (.bool pl.ok) ∧ w'.cell? ⟨w2.heap.size, 1, none⟩ = some (.slice Aa pl.locks.length ca) ∧ w'.cell? ⟨w2.heap.size, 2, none⟩ = some (.slice Ab pl.writes.length cb) ∧ w'.cell? ⟨w1.heap.size, 0, none⟩ = some (.slice Au its.length cu) ∧ w'.cell? ⟨w1.heap.size + 1, 0, none⟩ = some (.int .i64 o.kind) ∧ w'.cell? ⟨w1.heap.size + 1, 1, none⟩ = some (.int .i64 o.who) ∧ w'.cell? ⟨w1.heap.size + 1, 2, none⟩ = some (.int .i64 o.inn) ∧ w'.cell? ⟨w1.heap.size + 1, 3, none⟩ = some (.int .i64 o.code) ∧ w'.cell? ⟨w1.heap.size + 1, 4, none⟩ = some (.int .i64 o.sec) ∧ w'.cell? ⟨w1.heap.size + 1, 5, none⟩ = some (.int .i64 o.fam) ∧ w'.cell? ⟨w1.heap.size + 1, 6, none⟩ = some (.int .i64 o.gen))) (by kernel_rfl) ?hSc2 (fun hHeldc2 => ?stc2)
        case hSc2 => (first | (dsimp only; (first | with_reducible exact k3 | with_reducible exact k2 | with_reducible exact k1 | with_reducible exact k0 | exact k0)) | (first | with_reducible exact k3 | with_reducible exact k2 | with_reducible exact k1 | with_reducible exact k0 | exact k0))
        refine take_first 0 63 (v := ?vc2_1) rfl rfl (by kernel_rfl) (by kernel_rfl) (by kernel_rfl) (fun _ _ _ h => h) (by rfl) ?yc2_1 (by assumption) ?rc2_1
        case yc2_1 => (intro w hSw; (try dsimp only at hSw); go_simp; (try with_reducible rfl))
        simp only [Act.put, List.setIfInBounds_toArray, List.set_cons_zero, List.set_cons_succ]
        refine take_first 1 64 (v := ?vc2_2) rfl rfl (by kernel_rfl) (by kernel_rfl) (by kernel_rfl) (fun _ _ _ h => h) (by rfl) ?yc2_2 (by assumption) ?rc2_2
        case yc2_2 => (intro w hSw; (try dsimp only at hSw); go_simp; (try with_reducible rfl))
        simp only [Act.put, List.setIfInBounds_toArray, List.set_cons_zero, List.set_cons_succ]
        refine take_first 2 65 (v := ?vc2_3) rfl rfl (by kernel_rfl) (by kernel_rfl) (by kernel_rfl) (fun _ _ _ h => h) (by rfl) ?yc2_3 (by assumption) ?rc2_3
        case yc2_3 => (intro w hSw; (try dsimp only at hSw); go_simp; (try with_reducible rfl))
        simp only [Act.put, List.setIfInBounds_toArray, List.set_cons_zero, List.set_cons_succ]
        refine take_first 3 66 (v := ?vc2_4) rfl rfl (by kernel_rfl) (by kernel_rfl) (by kernel_rfl) (fun _ _ _ h => h) (by rfl) ?yc2_4 (by assumption) ?rc2_4
        case yc2_4 => (intro w hSw; (try dsimp only at hSw); go_simp; (try with_reducible rfl))
        simp only [Act.put, List.setIfInBounds_toArray, List.set_cons_zero, List.set_cons_succ]
        refine take_first 5 68 (v := ?vc2_5) rfl rfl (by kernel_rfl) (by kernel_rfl) (by kernel_rfl) (fun _ _ _ h => h) (by rfl) ?yc2_5 (by assumption) ?rc2_5
        case yc2_5 => (intro w hSw; (try dsimp only at hSw); go_simp; (try with_reducible rfl))
        simp only [Act.put, List.setIfInBounds_toArray, List.set_cons_zero, List.set_cons_succ]
        refine wpAnyH_ready (rs := [4]) (by kernel_rfl) (by simp) ?_
        refine AllReadyH.cons (o := _) rfl (fun Kc2_6 hKc2_6 => ?cc2_6) ?mc2_6
        case mc2_6 => exact AllReadyH.nil
        go_simp
        refine (implPlcPlan_any _ 2 _ its (HRd.out _ HW1.out).1 (m : Int) o).mono ?_; rintro e w6 ⟨us, ut, rfl, ho4, hb4⟩; rw [HPm.out] at ho4 ⊢; obtain ⟨us', ut', T1, T2, hcs4, hl4, hw4, -, -, -⟩ := plan_own.1 ho4; obtain ⟨rfl, rfl⟩ : us = us' ∧ ut = ut' := (by simpa using hcs4); have HL4 := Lib.hid hl4.row; have HW4 := Lib.hid hw4.row; have HW2 := Lib.hid (HW1.out.trans (hb4.mono HW1.out.size)); have k1 := HAll.out _ HW2.out; clear hb4 ho4 hcs4 hl4 hw4
        go_wp2_with fail
        refine hKc2_6.out _ _ ?kc2_6 (fun hHeldc2_6 => ?dc2_6)
        case kc2_6 => (first | (dsimp only; (first | with_reducible exact k3 | with_reducible exact k2 | with_reducible exact k1 | with_reducible exact k0 | exact k0)) | (first | with_reducible exact k3 | with_reducible exact k2 | with_reducible exact k1 | with_reducible exact k0 | exact k0))
        clear hKc2_6 Kc2_6
        refine wpAnyH_ready (rs := [6]) (by kernel_rfl) (by simp) ?_
        refine AllReadyH.cons (o := _) rfl (fun Kc2_7 hKc2_7 => ?cc2_7) ?mc2_7
        case mc2_7 => exact AllReadyH.nil
        go_simp
        refine (jaPlan_same _ _ _ _ _ pl.ok pl.locks pl.writes HL4.out HW4.out (HRd.out _ HW2.out).2.1 (HRd.out _ HW2.out).2.2.1).mono ?_; rintro e w7 ⟨rfl, hb5⟩; have HW3 := Lib.hid (HW2.out.trans (hb5.mono HW2.out.size)); have k2 := HAll.out _ HW3.out; clear hb5
        go_wp2_with fail
        refine hKc2_7.out _ _ ?kc2_7 (fun hHeldc2_7 => ?dc2_7)
        case kc2_7 => (first | (dsimp only; (first | with_reducible exact k3 | with_reducible exact k2 | with_reducible exact k1 | with_reducible exact k0 | exact k0)) | (first | with_reducible exact k3 | with_reducible exact k2 | with_reducible exact k1 | with_reducible exact k0 | exact k0))
        clear hKc2_7 Kc2_7
        refine take_first 7 70 (v := ?vc2_8) rfl rfl (by kernel_rfl) (by kernel_rfl) (by kernel_rfl) (fun _ _ _ h => h) (by rfl) ?yc2_8 (by assumption) ?rc2_8
        case yc2_8 => (intro w hSw; (try dsimp only at hSw); go_simp; (try with_reducible rfl))
        simp only [Act.put, List.setIfInBounds_toArray, List.set_cons_zero, List.set_cons_succ]
        refine wpAnyH_ready (rs := [8]) (by kernel_rfl) (by simp) ?_
        refine AllReadyH.cons (o := _) rfl (fun Kc2_9 hKc2_9 => ?cc2_9) ?mc2_9
        case mc2_9 => exact AllReadyH.nil
        go_simp
        refine (jaOk_any _).mono ?_; rintro e w8 ⟨rfl, hb6⟩; have HW5 := Lib.hid (HW3.out.trans (hb6.mono HW3.out.size)); have k3 := HAll.out _ HW5.out; clear hb6
        go_wp2_with fail
        refine hKc2_9.out _ _ ?kc2_9 (fun hHeldc2_9 => ?dc2_9)
        case kc2_9 => (first | (dsimp only; (first | with_reducible exact k3 | with_reducible exact k2 | with_reducible exact k1 | with_reducible exact k0 | exact k0)) | (first | with_reducible exact k3 | with_reducible exact k2 | with_reducible exact k1 | with_reducible exact k0 | exact k0))
        clear hKc2_9 Kc2_9
        refine take_first 9 72 (v := ?vc2_10) rfl rfl (by kernel_rfl) (by kernel_rfl) (by kernel_rfl) (fun _ _ _ h => h) (by rfl) ?yc2_10 (by assumption) ?rc2_10
        case yc2_10 => (intro w hSw; (try dsimp only at hSw); go_simp; (try with_reducible rfl))
        simp only [Act.put, List.setIfInBounds_toArray, List.set_cons_zero, List.set_cons_succ]
        refine take_first 10 2 (v := ?vc2_11) rfl rfl (by kernel_rfl) (by kernel_rfl) (by kernel_rfl) (fun _ _ _ h => h) (by rfl) ?yc2_11 (by assumption) ?rc2_11
        case yc2_11 => (intro w hSw; (try dsimp only at hSw); go_simp; (try with_reducible rfl))
        simp only [Act.put, List.setIfInBounds_toArray, List.set_cons_zero, List.set_cons_succ]
        refine wpAnyH_done (by kernel_rfl) ?ec2 _
        clear k0 k1 k2 k3
        have HBz := Lib.hid (HRd.out _ HW5.out).2.2.2
        go_wp2
        go_ret
        exact ⟨rfl, HBz.out⟩
    · have hp1 : p ≠ 1 := fun h => hp12 (.inl h)
      have hp2 : p ≠ 2 := fun h => hp12 (.inr h)
      have e1 : (p == 1) = false := by simp [hp1]
      have e2 : (p == 2) = false := by simp [hp2]
      have HDn := Lib.hid (show pl.ok = true → pl.locks.length = 1 ∧ pl.writes = [⟨keyN 97 (t : Int), false, [o.kind]⟩] from by rw [← HPl.out]; exact done_plan hp1 hp2)
      clear hp12 hp1 hp2
      obtain ⟨c0, c1, c2, c3, d0, d1, d2, d3, d4, d5, d6⟩ := HAll.out _ HZ.out
      have HBz := Lib.hid (HRd.out _ HZ.out).2.2.2
      go_upto_region 12 with fail
      cases hok : pl.ok with
      | false =>
        rw [hok] at c0
        have k0 := c0
        clear c1 c2 c3 d0 d1 d2 d3 d4 d5 d6 hok c0
        refine wp_region_held_drew (S := (fun w' => w'.cell? ⟨w2.heap.size, 0, none⟩ = some (.bool false))) (by kernel_rfl) ?hSb (fun hHeldb => ?stb)
        case hSb => (first | (dsimp only; (first | with_reducible exact k0 | exact k0)) | (first | with_reducible exact k0 | exact k0))
        refine take_first 0 73 (v := ?vb_1) rfl rfl (by kernel_rfl) (by kernel_rfl) (by kernel_rfl) (fun _ _ _ h => h) (by rfl) ?yb_1 (by assumption) ?rb_1
        case yb_1 => (intro w hSw; (try dsimp only at hSw); go_simp; (try with_reducible rfl))
        simp only [Act.put, List.setIfInBounds_toArray, List.set_cons_zero, List.set_cons_succ]
        refine take_first 1 74 (v := ?vb_2) rfl rfl (by kernel_rfl) (by kernel_rfl) (by kernel_rfl) (fun _ _ _ h => h) (by rfl) ?yb_2 (by assumption) ?rb_2
        case yb_2 => (intro w hSw; (try dsimp only at hSw); go_simp; (try with_reducible rfl))
        simp only [Act.put, List.setIfInBounds_toArray, List.set_cons_zero, List.set_cons_succ]
        refine take_first 2 75 (v := ?vb_3) rfl rfl (by kernel_rfl) (by kernel_rfl) (by kernel_rfl) (fun _ _ _ h => h) (by rfl) ?yb_3 (by assumption) ?rb_3
        case yb_3 => (intro w hSw; (try dsimp only at hSw); go_simp; (try with_reducible rfl))
        simp only [Act.put, List.setIfInBounds_toArray, List.set_cons_zero, List.set_cons_succ]
        refine take_first 3 76 (v := ?vb_4) rfl rfl (by kernel_rfl) (by kernel_rfl) (by kernel_rfl) (fun _ _ _ h => h) (by rfl) ?yb_4 (by assumption) ?rb_4
        case yb_4 => (intro w hSw; (try dsimp only at hSw); go_simp; (try with_reducible rfl))
        simp only [Act.put, List.setIfInBounds_toArray, List.set_cons_zero, List.set_cons_succ]
        refine pass_over 4 77 rfl rfl (by kernel_rfl) (by kernel_rfl) (by kernel_rfl) (fun _ _ _ h => h) (by rfl) (by assumption) ?rb_5
        simp only [Act.put, List.setIfInBounds_toArray, List.set_cons_zero, List.set_cons_succ]
        refine pass_over 5 78 rfl rfl (by kernel_rfl) (by kernel_rfl) (by kernel_rfl) (fun _ _ _ h => h) (by rfl) (by assumption) ?rb_6
        simp only [Act.put, List.setIfInBounds_toArray, List.set_cons_zero, List.set_cons_succ]
        refine pass_over 6 79 rfl rfl (by kernel_rfl) (by kernel_rfl) (by kernel_rfl) (fun _ _ _ h => h) (by rfl) (by assumption) ?rb_7
        simp only [Act.put, List.setIfInBounds_toArray, List.set_cons_zero, List.set_cons_succ]
        refine pass_over 7 80 rfl rfl (by kernel_rfl) (by kernel_rfl) (by kernel_rfl) (fun _ _ _ h => h) (by rfl) (by assumption) ?rb_8
        simp only [Act.put, List.setIfInBounds_toArray, List.set_cons_zero, List.set_cons_succ]
        refine pass_over 8 81 rfl rfl (by kernel_rfl) (by kernel_rfl) (by kernel_rfl) (fun _ _ _ h => h) (by rfl) (by assumption) ?rb_9
        simp only [Act.put, List.setIfInBounds_toArray, List.set_cons_zero, List.set_cons_succ]
        refine pass_over 9 82 rfl rfl (by kernel_rfl) (by kernel_rfl) (by kernel_rfl) (fun _ _ _ h => h) (by rfl) (by assumption) ?rb_10
        simp only [Act.put, List.setIfInBounds_toArray, List.set_cons_zero, List.set_cons_succ]
        refine pass_over 10 83 rfl rfl (by kernel_rfl) (by kernel_rfl) (by kernel_rfl) (fun _ _ _ h => h) (by rfl) (by assumption) ?rb_11
        simp only [Act.put, List.setIfInBounds_toArray, List.set_cons_zero, List.set_cons_succ]
        refine pass_over 11 84 rfl rfl (by kernel_rfl) (by kernel_rfl) (by kernel_rfl) (fun _ _ _ h => h) (by rfl) (by assumption) ?rb_12
        simp only [Act.put, List.setIfInBounds_toArray, List.set_cons_zero, List.set_cons_succ]
        refine pass_over 12 85 rfl rfl (by kernel_rfl) (by kernel_rfl) (by kernel_rfl) (fun _ _ _ h => h) (by rfl) (by assumption) ?rb_13
        simp only [Act.put, List.setIfInBounds_toArray, List.set_cons_zero, List.set_cons_succ]
        refine pass_over 13 86 rfl rfl (by kernel_rfl) (by kernel_rfl) (by kernel_rfl) (fun _ _ _ h => h) (by rfl) (by assumption) ?rb_14
        simp only [Act.put, List.setIfInBounds_toArray, List.set_cons_zero, List.set_cons_succ]
        refine pass_over 14 87 rfl rfl (by kernel_rfl) (by kernel_rfl) (by kernel_rfl) (fun _ _ _ h => h) (by rfl) (by assumption) ?rb_15
        simp only [Act.put, List.setIfInBounds_toArray, List.set_cons_zero, List.set_cons_succ]
        refine pass_over 15 88 rfl rfl (by kernel_rfl) (by kernel_rfl) (by kernel_rfl) (fun _ _ _ h => h) (by rfl) (by assumption) ?rb_16
        simp only [Act.put, List.setIfInBounds_toArray, List.set_cons_zero, List.set_cons_succ]
        refine pass_over 16 89 rfl rfl (by kernel_rfl) (by kernel_rfl) (by kernel_rfl) (fun _ _ _ h => h) (by rfl) (by assumption) ?rb_17
        simp only [Act.put, List.setIfInBounds_toArray, List.set_cons_zero, List.set_cons_succ]
        refine pass_over 17 90 rfl rfl (by kernel_rfl) (by kernel_rfl) (by kernel_rfl) (fun _ _ _ h => h) (by rfl) (by assumption) ?rb_18
        simp only [Act.put, List.setIfInBounds_toArray, List.set_cons_zero, List.set_cons_succ]
        refine pass_over 18 91 rfl rfl (by kernel_rfl) (by kernel_rfl) (by kernel_rfl) (fun _ _ _ h => h) (by rfl) (by assumption) ?rb_19
        simp only [Act.put, List.setIfInBounds_toArray, List.set_cons_zero, List.set_cons_succ]
        refine pass_over 19 92 rfl rfl (by kernel_rfl) (by kernel_rfl) (by kernel_rfl) (fun _ _ _ h => h) (by rfl) (by assumption) ?rb_20
        simp only [Act.put, List.setIfInBounds_toArray, List.set_cons_zero, List.set_cons_succ]
        refine pass_over 20 93 rfl rfl (by kernel_rfl) (by kernel_rfl) (by kernel_rfl) (fun _ _ _ h => h) (by rfl) (by assumption) ?rb_21
        simp only [Act.put, List.setIfInBounds_toArray, List.set_cons_zero, List.set_cons_succ]
        refine pass_over 21 94 rfl rfl (by kernel_rfl) (by kernel_rfl) (by kernel_rfl) (fun _ _ _ h => h) (by rfl) (by assumption) ?rb_22
        simp only [Act.put, List.setIfInBounds_toArray, List.set_cons_zero, List.set_cons_succ]
        refine pass_over 22 95 rfl rfl (by kernel_rfl) (by kernel_rfl) (by kernel_rfl) (fun _ _ _ h => h) (by rfl) (by assumption) ?rb_23
        simp only [Act.put, List.setIfInBounds_toArray, List.set_cons_zero, List.set_cons_succ]
        refine pass_over 23 96 rfl rfl (by kernel_rfl) (by kernel_rfl) (by kernel_rfl) (fun _ _ _ h => h) (by rfl) (by assumption) ?rb_24
        simp only [Act.put, List.setIfInBounds_toArray, List.set_cons_zero, List.set_cons_succ]
        refine pass_over 24 97 rfl rfl (by kernel_rfl) (by kernel_rfl) (by kernel_rfl) (fun _ _ _ h => h) (by rfl) (by assumption) ?rb_25
        simp only [Act.put, List.setIfInBounds_toArray, List.set_cons_zero, List.set_cons_succ]
        refine pass_over 25 98 rfl rfl (by kernel_rfl) (by kernel_rfl) (by kernel_rfl) (fun _ _ _ h => h) (by rfl) (by assumption) ?rb_26
        simp only [Act.put, List.setIfInBounds_toArray, List.set_cons_zero, List.set_cons_succ]
        refine take_first 26 99 (v := ?vb_27) rfl rfl (by kernel_rfl) (by kernel_rfl) (by kernel_rfl) (fun _ _ _ h => h) (by rfl) ?yb_27 (by assumption) ?rb_27
        case yb_27 => (intro w hSw; (try dsimp only at hSw); go_simp; (try with_reducible rfl))
        simp only [Act.put, List.setIfInBounds_toArray, List.set_cons_zero, List.set_cons_succ]
        refine take_first 27 2 (v := ?vb_28) rfl rfl (by kernel_rfl) (by kernel_rfl) (by kernel_rfl) (fun _ _ _ h => h) (by rfl) ?yb_28 (by assumption) ?rb_28
        case yb_28 => (intro w hSw; (try dsimp only at hSw); go_simp; (try with_reducible rfl))
        simp only [Act.put, List.setIfInBounds_toArray, List.set_cons_zero, List.set_cons_succ]
        refine wpAnyH_done (by kernel_rfl) ?eb _
        clear k0
        go_wp2
        go_ret
        exact ⟨rfl, HBz.out.drew⟩
      | true =>
        obtain ⟨hl1, hw1⟩ := HDn.out hok
        rw [hok] at c0
        have hw2 := (HRd.out _ HZ.out).2.2.1
        have hwl : pl.writes.length = 1 := by rw [hw1]; rfl
        obtain ⟨bw, ow, dw, xw, cw, g1, hxw, hBw, hrw, hcw⟩ := hw2.at_ (k := 0) (by omega)
        rw [hw1] at hxw
        have hxw' := Option.some.inj hxw
        subst hxw'
        injection g1 with g1a g1b g1c
        subst g1a
        obtain ⟨pv, rfl, -, hpv⟩ := wr_rel.1 hrw
        obtain ⟨Av, cv, hvf, lv, dv, rowv⟩ := ints_row.1 hpv
        have hvf' : pv = .slice Av 1 cv := hvf
        subst hvf'
        obtain ⟨bv, ov, hAv, hBv, hcv⟩ := rowv (by simp)
        subst hAv
        have y2 : w5.cell? ⟨bw, ow + 2, none⟩ = some (.slice (some ⟨bv, ov, none⟩) 1 cv) := by have h := hcw 2 _ rfl; simpa using h
        have v0 : w5.cell? ⟨bv, ov, none⟩ = some (.int .i64 o.kind) := hcv 0 (by simp)
        rw [hl1] at c1
        rw [hwl] at c2
        have k0 := And.intro c0 (And.intro c1 (And.intro c2 (And.intro d0 (And.intro y2 v0))))
        have f1 : (0 : Int) < 1 := by decide
        have f2 : (o.kind == o.kind) = true := by simp
        clear c3 d1 d2 d3 d4 d5 d6 hok c0 c1 c2 d0 y2 v0 hcv hcw hrw hpv hxw hw2 g1b g1c rowv hvf hw1 lv dv
        refine wp_region_held_drew (S := (fun w' => w'.cell? ⟨w2.heap.size, 0, none⟩ = some (.bool true) ∧ w'.cell? ⟨w2.heap.size, 1, none⟩ = some (.slice Aa 1 ca) ∧ w'.cell? ⟨w2.heap.size, 2, none⟩ = some (.slice (some ⟨bw, ow, none⟩) 1 cb) ∧ w'.cell? ⟨w1.heap.size + 1, 0, none⟩ = some (.int .i64 o.kind) ∧ w'.cell? ⟨bw, ow + 2, none⟩ = some (.slice (some ⟨bv, ov, none⟩) 1 cv) ∧ w'.cell? ⟨bv, ov, none⟩ = some (.int .i64 o.kind))) (by kernel_rfl) ?hSb2 (fun hHeldb2 => ?stb2)
        case hSb2 => (first | (dsimp only; (first | with_reducible exact k0 | exact k0)) | (first | with_reducible exact k0 | exact k0))
        refine take_first 0 73 (v := ?vb2_1) rfl rfl (by kernel_rfl) (by kernel_rfl) (by kernel_rfl) (fun _ _ _ h => h) (by rfl) ?yb2_1 (by assumption) ?rb2_1
        case yb2_1 => (intro w hSw; (try dsimp only at hSw); go_simp; (try with_reducible rfl))
        simp only [Act.put, List.setIfInBounds_toArray, List.set_cons_zero, List.set_cons_succ]
        refine take_first 1 74 (v := ?vb2_2) rfl rfl (by kernel_rfl) (by kernel_rfl) (by kernel_rfl) (fun _ _ _ h => h) (by rfl) ?yb2_2 (by assumption) ?rb2_2
        case yb2_2 => (intro w hSw; (try dsimp only at hSw); go_simp; (try with_reducible rfl))
        simp only [Act.put, List.setIfInBounds_toArray, List.set_cons_zero, List.set_cons_succ]
        refine take_first 2 75 (v := ?vb2_3) rfl rfl (by kernel_rfl) (by kernel_rfl) (by kernel_rfl) (fun _ _ _ h => h) (by rfl) ?yb2_3 (by assumption) ?rb2_3
        case yb2_3 => (intro w hSw; (try dsimp only at hSw); go_simp; (try with_reducible rfl))
        simp only [Act.put, List.setIfInBounds_toArray, List.set_cons_zero, List.set_cons_succ]
        refine take_first 3 76 (v := ?vb2_4) rfl rfl (by kernel_rfl) (by kernel_rfl) (by kernel_rfl) (fun _ _ _ h => h) (by rfl) ?yb2_4 (by assumption) ?rb2_4
        case yb2_4 => (intro w hSw; (try dsimp only at hSw); go_simp; (try with_reducible rfl))
        simp only [Act.put, List.setIfInBounds_toArray, List.set_cons_zero, List.set_cons_succ]
        refine take_first 4 77 (v := ?vb2_5) rfl rfl (by kernel_rfl) (by kernel_rfl) (by kernel_rfl) (fun _ _ _ h => h) (by rfl) ?yb2_5 (by assumption) ?rb2_5
        case yb2_5 => (intro w hSw; (try dsimp only at hSw); go_simp; (try with_reducible rfl))
        simp only [Act.put, List.setIfInBounds_toArray, List.set_cons_zero, List.set_cons_succ]
        refine take_first 5 78 (v := ?vb2_6) rfl rfl (by kernel_rfl) (by kernel_rfl) (by kernel_rfl) (fun _ _ _ h => h) (by rfl) ?yb2_6 (by assumption) ?rb2_6
        case yb2_6 => (intro w hSw; (try dsimp only at hSw); go_simp; (try with_reducible rfl))
        simp only [Act.put, List.setIfInBounds_toArray, List.set_cons_zero, List.set_cons_succ]
        refine take_first 6 79 (v := ?vb2_7) rfl rfl (by kernel_rfl) (by kernel_rfl) (by kernel_rfl) (fun _ _ _ h => h) (by rfl) ?yb2_7 (by assumption) ?rb2_7
        case yb2_7 => (intro w hSw; (try dsimp only at hSw); go_simp; (try with_reducible rfl))
        simp only [Act.put, List.setIfInBounds_toArray, List.set_cons_zero, List.set_cons_succ]
        refine take_first 7 80 (v := ?vb2_8) rfl rfl (by kernel_rfl) (by kernel_rfl) (by kernel_rfl) (fun _ _ _ h => h) (by rfl) ?yb2_8 (by assumption) ?rb2_8
        case yb2_8 => (intro w hSw; (try dsimp only at hSw); go_simp; (try with_reducible rfl))
        simp only [Act.put, List.setIfInBounds_toArray, List.set_cons_zero, List.set_cons_succ]
        refine take_first 8 81 (v := ?vb2_9) rfl rfl (by kernel_rfl) (by kernel_rfl) (by kernel_rfl) (fun _ _ _ h => h) (by rfl) ?yb2_9 (by assumption) ?rb2_9
        case yb2_9 => (intro w hSw; (try dsimp only at hSw); go_simp; (try with_reducible rfl))
        simp only [Act.put, List.setIfInBounds_toArray, List.set_cons_zero, List.set_cons_succ]
        refine take_first 9 82 (v := ?vb2_10) rfl rfl (by kernel_rfl) (by kernel_rfl) (by kernel_rfl) (fun _ _ _ h => h) (by rfl) ?yb2_10 (by assumption) ?rb2_10
        case yb2_10 => (intro w hSw; (try dsimp only at hSw); go_simp; (try with_reducible rfl))
        simp only [Act.put, List.setIfInBounds_toArray, List.set_cons_zero, List.set_cons_succ]
        refine take_first 10 83 (v := ?vb2_11) rfl rfl (by kernel_rfl) (by kernel_rfl) (by kernel_rfl) (fun _ _ _ h => h) (by rfl) ?yb2_11 (by assumption) ?rb2_11
        case yb2_11 => (intro w hSw; (try dsimp only at hSw); go_simp; (try with_reducible rfl))
        simp only [Act.put, List.setIfInBounds_toArray, List.set_cons_zero, List.set_cons_succ]
        refine take_first 11 84 (v := ?vb2_12) rfl rfl (by kernel_rfl) (by kernel_rfl) (by kernel_rfl) (fun _ _ _ h => h) (by rfl) ?yb2_12 (by assumption) ?rb2_12
        case yb2_12 => (intro w hSw; (try dsimp only at hSw); go_simp; (try with_reducible rfl))
        simp only [Act.put, List.setIfInBounds_toArray, List.set_cons_zero, List.set_cons_succ]
        refine take_first 12 85 (v := ?vb2_13) rfl rfl (by kernel_rfl) (by kernel_rfl) (by kernel_rfl) (fun _ _ _ h => h) (by rfl) ?yb2_13 (by assumption) ?rb2_13
        case yb2_13 => (intro w hSw; (try dsimp only at hSw); go_simp; (try with_reducible rfl))
        simp only [Act.put, List.setIfInBounds_toArray, List.set_cons_zero, List.set_cons_succ]
        refine take_first 13 86 (v := ?vb2_14) rfl rfl (by kernel_rfl) (by kernel_rfl) (by kernel_rfl) (fun _ _ _ h => h) (by rfl) ?yb2_14 (by assumption) ?rb2_14
        case yb2_14 => (intro w hSw; (try dsimp only at hSw); go_simp; (try with_reducible rfl))
        simp only [Act.put, List.setIfInBounds_toArray, List.set_cons_zero, List.set_cons_succ]
        refine take_first 14 87 (v := ?vb2_15) rfl rfl (by kernel_rfl) (by kernel_rfl) (by kernel_rfl) (fun _ _ _ h => h) (by rfl) ?yb2_15 (by assumption) ?rb2_15
        case yb2_15 => (intro w hSw; (try dsimp only at hSw); go_simp; (try with_reducible rfl))
        simp only [Act.put, List.setIfInBounds_toArray, List.set_cons_zero, List.set_cons_succ]
        refine take_first 15 88 (v := ?vb2_16) rfl rfl (by kernel_rfl) (by kernel_rfl) (by kernel_rfl) (fun _ _ _ h => h) (by rfl) ?yb2_16 (by assumption) ?rb2_16
        case yb2_16 => (intro w hSw; (try dsimp only at hSw); go_simp; (try with_reducible rfl))
        simp only [Act.put, List.setIfInBounds_toArray, List.set_cons_zero, List.set_cons_succ]
        refine take_first 16 89 (v := ?vb2_17) rfl rfl (by kernel_rfl) (by kernel_rfl) (by kernel_rfl) (fun _ _ _ h => h) (by rfl) ?yb2_17 (by assumption) ?rb2_17
        case yb2_17 => (intro w hSw; (try dsimp only at hSw); go_simp; (try with_reducible rfl))
        simp only [Act.put, List.setIfInBounds_toArray, List.set_cons_zero, List.set_cons_succ]
        refine take_first 17 90 (v := ?vb2_18) rfl rfl (by kernel_rfl) (by kernel_rfl) (by kernel_rfl) (fun _ _ _ h => h) (by rfl) ?yb2_18 (by assumption) ?rb2_18
        case yb2_18 => (intro w hSw; (try dsimp only at hSw); go_simp; (try with_reducible rfl))
        simp only [Act.put, List.setIfInBounds_toArray, List.set_cons_zero, List.set_cons_succ]
        refine take_first 18 91 (v := ?vb2_19) rfl rfl (by kernel_rfl) (by kernel_rfl) (by kernel_rfl) (fun _ _ _ h => h) (by rfl) ?yb2_19 (by assumption) ?rb2_19
        case yb2_19 => (intro w hSw; (try dsimp only at hSw); go_simp; (try with_reducible rfl))
        simp only [Act.put, List.setIfInBounds_toArray, List.set_cons_zero, List.set_cons_succ]
        refine take_first 19 92 (v := ?vb2_20) rfl rfl (by kernel_rfl) (by kernel_rfl) (by kernel_rfl) (fun _ _ _ h => h) (by rfl) ?yb2_20 (by assumption) ?rb2_20
        case yb2_20 => (intro w hSw; (try dsimp only at hSw); go_simp; (try with_reducible rfl))
        simp only [Act.put, List.setIfInBounds_toArray, List.set_cons_zero, List.set_cons_succ]
        refine take_first 20 93 (v := ?vb2_21) rfl rfl (by kernel_rfl) (by kernel_rfl) (by kernel_rfl) (fun _ _ _ h => h) (by rfl) ?yb2_21 (by assumption) ?rb2_21
        case yb2_21 => (intro w hSw; (try dsimp only at hSw); go_simp; (try with_reducible rfl))
        simp only [Act.put, List.setIfInBounds_toArray, List.set_cons_zero, List.set_cons_succ]
        refine take_first 21 94 (v := ?vb2_22) rfl rfl (by kernel_rfl) (by kernel_rfl) (by kernel_rfl) (fun _ _ _ h => h) (by rfl) ?yb2_22 (by assumption) ?rb2_22
        case yb2_22 => (intro w hSw; (try dsimp only at hSw); go_simp; (try with_reducible rfl))
        simp only [Act.put, List.setIfInBounds_toArray, List.set_cons_zero, List.set_cons_succ]
        refine take_first 22 95 (v := ?vb2_23) rfl rfl (by kernel_rfl) (by kernel_rfl) (by kernel_rfl) (fun _ _ _ h => h) (by rfl) ?yb2_23 (by assumption) ?rb2_23
        case yb2_23 => (intro w hSw; (try dsimp only at hSw); go_simp; (try with_reducible rfl))
        simp only [Act.put, List.setIfInBounds_toArray, List.set_cons_zero, List.set_cons_succ]
        refine take_first 23 96 (v := ?vb2_24) rfl rfl (by kernel_rfl) (by kernel_rfl) (by kernel_rfl) (fun _ _ _ h => h) (by rfl) ?yb2_24 (by assumption) ?rb2_24
        case yb2_24 => (intro w hSw; (try dsimp only at hSw); go_simp; (try with_reducible rfl))
        simp only [Act.put, List.setIfInBounds_toArray, List.set_cons_zero, List.set_cons_succ]
        refine take_first 24 97 (v := ?vb2_25) rfl rfl (by kernel_rfl) (by kernel_rfl) (by kernel_rfl) (fun _ _ _ h => h) (by rfl) ?yb2_25 (by assumption) ?rb2_25
        case yb2_25 => (intro w hSw; (try dsimp only at hSw); go_simp; (try with_reducible rfl))
        simp only [Act.put, List.setIfInBounds_toArray, List.set_cons_zero, List.set_cons_succ]
        refine take_first 25 98 (v := ?vb2_26) rfl rfl (by kernel_rfl) (by kernel_rfl) (by kernel_rfl) (fun _ _ _ h => h) (by rfl) ?yb2_26 (by assumption) ?rb2_26
        case yb2_26 => (intro w hSw; (try dsimp only at hSw); go_simp; (try with_reducible rfl))
        simp only [Act.put, List.setIfInBounds_toArray, List.set_cons_zero, List.set_cons_succ]
        refine take_first 26 99 (v := ?vb2_27) rfl rfl (by kernel_rfl) (by kernel_rfl) (by kernel_rfl) (fun _ _ _ h => h) (by rfl) ?yb2_27 (by assumption) ?rb2_27
        case yb2_27 => (intro w hSw; (try dsimp only at hSw); go_simp; (try with_reducible rfl))
        simp only [Act.put, List.setIfInBounds_toArray, List.set_cons_zero, List.set_cons_succ]
        refine take_first 27 2 (v := ?vb2_28) rfl rfl (by kernel_rfl) (by kernel_rfl) (by kernel_rfl) (fun _ _ _ h => h) (by rfl) ?yb2_28 (by assumption) ?rb2_28
        case yb2_28 => (intro w hSw; (try dsimp only at hSw); go_simp; (try with_reducible rfl))
        simp only [Act.put, List.setIfInBounds_toArray, List.set_cons_zero, List.set_cons_succ]
        refine wpAnyH_done (by kernel_rfl) ?eb2 _
        clear k0
        go_wp2
        go_ret
        exact ⟨rfl, HBz.out.drew⟩

end Go.Proofs.Yteccebjnopladaa

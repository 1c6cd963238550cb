/- The walk of FnPlanHeld. By plheldgen.py. -/
import Derived.Test.YtecdibpiojgppaaGreatXDrawPlcPlan
import Derived.Test.YtecdibpiojgppaaGreatXPlanLaw2
import Derived.Test.YtecdibpiojgppaaGreatXStoDoI
import Derived.Test.YtecdibpiojgppaaGreatXOutMay2
import Derived.Test.YtecdibpiojgppaaGreatXPlanLaw
import Derived.Test.YtecdibpiojgppaaGreatXJaPlan
import Derived.Test.YtecdibpiojgppaaGreatXDrawGloDo
namespace Go.Proofs.YtecdibpiojgppaaGreat
open Go.RowKit

theorem held_sizes {its : List Item} {p tx : Int} {o : Op} (hl : its.length ≤ 13 ∨ its.length = 41) (h : (plcP its p tx o).ok = true) : its.length ≤ 13 ∧ (plcP its p tx o).locks.length ≤ 100 ∧ (plcP its p tx o).writes.length ≤ 100 := by
  obtain ⟨ho, hp, ht, e⟩ := plcP_ok h
  have h40 := (stoB_three (plc_parts hp).1).1
  rw [e]
  have hw : (planP its p tx o).writes.length ≤ its.length + 2 := by
    unfold planP doneP inP1 inP2 inP5 mayP2 mayP3 mayP4 mayP5 noP
    repeat' split
    all_goals first | (simp; done) | (simp; omega) | (simp only [List.length_map]; have := List.length_filter_le (famB o.who) its; omega)
  have hk : (planP its p tx o).locks.length ≤ its.length + 3 := by
    unfold planP doneP inP1 inP2 inP5 mayP2 mayP3 mayP4 mayP5 noP
    repeat' split
    all_goals first | (simp; done) | (simp; omega) | (simp only [List.length_cons, List.length_map]; have := List.length_filter_le (famB o.who) its; omega)
  omega
/-- Two plans that hold nothing in common. -/
theorem held_both {its : List Item} {p tx tx' : Int} {o o' : Op} (hl : its.length ≤ 13 ∨ its.length = 41) (h : (plcP its p tx o).ok = true) (h' : (plcP its p tx' o').ok = true) (hd : ∀ k ∈ (plcP its p tx o).locks, k ∉ (plcP its p tx' o').locks) :
    plcP (stoDo its (plcP its p tx' o').writes) p tx o = plcP its p tx o ∧
    stoDo (stoDo its (plcP its p tx' o').writes) (plcP its p tx o).writes = stoDo (stoDo its (plcP its p tx o).writes) (plcP its p tx' o').writes := by
  obtain ⟨h13, -, -⟩ := held_sizes hl h
  obtain ⟨ho, hp, ht, e⟩ := plcP_ok h
  obtain ⟨ho', -, ht', e'⟩ := plcP_ok h'
  rw [e, e'] at hd ⊢
  rw [e] at h
  rw [e'] at h'
  refine ⟨?_, held_two hp ho ho' ht ht' (by omega) h h' hd⟩
  have hs := (step_facts (plcB_which hp) hp ho' ht' (by omega)).1
  have hh := held_plan (tx := tx) hp ho ho' ht' (by omega) h' hd
  unfold plcP
  rw [ho, hs, ht, hh]
  rfl

set_option maxRecDepth 100000 in
set_option maxHeartbeats 20000000 in
theorem lawPlanHeld_any (w : World) (v : Value) (n : Nat) (hv : Code8 w v n) (v2 : Value) (m : Nat) (hv2 : Code8 w v2 m) :
    Calls Tryz.prog 4 #[v, v2] w fun e w' => e = .returned (.bool true) ∧ Below w.heap.size w w' := by
  have HV := Lib.hid hv
  have HU := Lib.hid hv2
  obtain ⟨A, c, f, rfl, h1, h2, -, -⟩ := hv
  obtain ⟨A', c', f', rfl, h3, h4, -, -⟩ := hv2
  unfold maxLen at h2 h4
  by_cases hn : 1048576 < n
  · have hn' : (1048576 : Int) < (n : Int) := by omega
    clear HV HU
    go_enter Tryz.func4, Tryz.ntmps4
    go_wp2
    go_ret
    exact ⟨rfl, Below.refl _ _⟩
  have hn' : (n : Int) ≤ 1048576 := by omega
  clear hn
  by_cases hm : 1048576 < m
  · have hm' : (1048576 : Int) < (m : Int) := by omega
    clear HV HU
    go_enter Tryz.func4, Tryz.ntmps4
    go_wp2
    go_ret
    exact ⟨rfl, Below.refl _ _⟩
  have hm' : (m : Int) ≤ 1048576 := by omega
  clear hm
  go_enter Tryz.func4, Tryz.ntmps4
  go_wp2_with fail
  refine (drawPlcPlan_any _ _ n HV.out).mono ?_
  rintro e w1 ⟨p, u, its, tx, o, rfl, p0, p5, hil, t0, t1, hI, hb1⟩
  obtain ⟨Au, cu, rfl, -, -⟩ := hI.form
  have HT2 := Lib.hid (belowTwo w1 (.cells #[.slice Au its.length cu] 35) (.cells #[.int .i64 o.kind, .int .i64 o.who, .int .i64 o.inn, .int .i64 o.code, .int .i64 o.sec, .int .i64 o.fam, .int .i64 o.gen] 25))
  have HB := Lib.hid (belowNext hb1 HT2.out)
  have HI := Lib.hid ((hI.below HT2.out).more HT2.out.size)
  have HS := Lib.hid ((Held.new w1 #[.slice Au its.length cu] 35).after (.cells #[.int .i64 o.kind, .int .i64 o.who, .int .i64 o.inn, .int .i64 o.code, .int .i64 o.sec, .int .i64 o.fam, .int .i64 o.gen] 25))
  have HO := Lib.hid (show Held ((w1.alloc (.cells #[.slice Au its.length cu] 35)).alloc (.cells #[.int .i64 o.kind, .int .i64 o.who, .int .i64 o.inn, .int .i64 o.code, .int .i64 o.sec, .int .i64 o.fam, .int .i64 o.gen] 25)) (w1.heap.size + 1) [.int .i64 o.kind, .int .i64 o.who, .int .i64 o.inn, .int .i64 o.code, .int .i64 o.sec, .int .i64 o.fam, .int .i64 o.gen] from by have h := Held.new (w1.alloc (.cells #[.slice Au its.length cu] 35)) #[.int .i64 o.kind, .int .i64 o.who, .int .i64 o.inn, .int .i64 o.code, .int .i64 o.sec, .int .i64 o.fam, .int .i64 o.gen] 25; rwa [allocSize] at h)
  have HU1 := Lib.hid (HU.out.below HB.out)
  have HIl := Lib.hid hil
  clear hI hb1 HV HU HT2 hil
  unfold opV
  go_wp2_with fail
  refine (drawPlcPlan_any _ _ m HU1.out).mono ?_
  rintro e w2 ⟨p', u', its', tx', q, rfl, -, -, -, t0', t1', hI', hb2⟩
  obtain ⟨Av, cv, rfl, -, -⟩ := hI'.form
  replace HB := Lib.hid (belowNext HB.out hb2)
  replace HI := Lib.hid ((HI.out.below hb2).more hb2.size)
  replace HS := Lib.hid (HS.out.below hb2 HS.out.1)
  replace HO := Lib.hid (HO.out.below hb2 HO.out.1)
  have HT2 := Lib.hid (belowTwo w2 (.cells #[.slice Av its'.length cv] 35) (.cells #[.int .i64 q.kind, .int .i64 q.who, .int .i64 q.inn, .int .i64 q.code, .int .i64 q.sec, .int .i64 q.fam, .int .i64 q.gen] 25))
  replace HB := Lib.hid (belowNext HB.out HT2.out)
  replace HI := Lib.hid ((HI.out.below HT2.out).more HT2.out.size)
  replace HS := Lib.hid (HS.out.below HT2.out HS.out.1)
  replace HO := Lib.hid (HO.out.below HT2.out HO.out.1)
  have HQ := Lib.hid (show Held ((w2.alloc (.cells #[.slice Av its'.length cv] 35)).alloc (.cells #[.int .i64 q.kind, .int .i64 q.who, .int .i64 q.inn, .int .i64 q.code, .int .i64 q.sec, .int .i64 q.fam, .int .i64 q.gen] 25)) (w2.heap.size + 1) [.int .i64 q.kind, .int .i64 q.who, .int .i64 q.inn, .int .i64 q.code, .int .i64 q.sec, .int .i64 q.fam, .int .i64 q.gen] from by have h := Held.new (w2.alloc (.cells #[.slice Av its'.length cv] 35)) #[.int .i64 q.kind, .int .i64 q.who, .int .i64 q.inn, .int .i64 q.code, .int .i64 q.sec, .int .i64 q.fam, .int .i64 q.gen] 25; rwa [allocSize] at h)
  clear hI' hb2 HU1 HT2
  unfold opV
  have s0 := HS.out.of 0 _ rfl
  obtain ⟨q0, q1, q2, q3, q4, q5, q6⟩ := HO.out.seven
  go_wp2_with fail
  clear s0 q0 q1 q2 q3 q4 q5 q6
  refine (implPlcPlan_any _ p _ its HI.out tx o).mono ?_
  rintro e w3 ⟨ua, ub, rfl, ho9, hb9⟩
  obtain ⟨pl, hpl⟩ : ∃ pl, plcP its p tx o = pl := ⟨_, rfl⟩
  rw [hpl] at ho9 ⊢
  have HPl := Lib.hid hpl
  obtain ⟨ua', ub', S1, S2, hcs, hl9, hw9, -, -, -⟩ := plan_own.1 ho9
  obtain ⟨rfl, rfl⟩ : ua = ua' ∧ ub = ub' := by simpa using hcs
  obtain ⟨Aa, ca, hfa, -, -⟩ := hl9.row.form
  obtain ⟨Ab, cb, hfb, -, -⟩ := hw9.row.form
  subst hfa hfb
  have HLo := Lib.hid hl9.row
  have HWo := Lib.hid hw9.row
  replace HB := Lib.hid (belowNext HB.out hb9)
  replace HI := Lib.hid ((HI.out.below hb9).more hb9.size)
  replace HS := Lib.hid (HS.out.below hb9 HS.out.1)
  replace HO := Lib.hid (HO.out.below hb9 HO.out.1)
  replace HQ := Lib.hid (HQ.out.below hb9 HQ.out.1)
  have HBp := Lib.hid (belowOne w3 (.cells #[.bool pl.ok, .slice Aa pl.locks.length ca, .slice Ab pl.writes.length cb] 41))
  have HX := Lib.hid (Held.new w3 #[.bool pl.ok, .slice Aa pl.locks.length ca, .slice Ab pl.writes.length cb] 41)
  clear hb9 ho9 hcs hl9 hw9 hpl
  have HAll := Lib.hid (fun (X : World) (hX : Below (w3.alloc (.cells #[.bool pl.ok, .slice Aa pl.locks.length ca, .slice Ab pl.writes.length cb] 41)).heap.size (w3.alloc (.cells #[.bool pl.ok, .slice Aa pl.locks.length ca, .slice Ab pl.writes.length cb] 41)) X) => show (X.cell? ⟨w3.heap.size, 0, none⟩ = some (.bool pl.ok) ∧ X.cell? ⟨w3.heap.size, 1, none⟩ = some (.slice Aa pl.locks.length ca) ∧ X.cell? ⟨w3.heap.size, 2, none⟩ = some (.slice Ab pl.writes.length cb)) ∧ X.cell? ⟨w1.heap.size, 0, none⟩ = some (.slice Au its.length cu) ∧ (X.cell? ⟨w1.heap.size + 1, 0, none⟩ = some (.int .i64 o.kind) ∧ X.cell? ⟨w1.heap.size + 1, 1, none⟩ = some (.int .i64 o.who) ∧ X.cell? ⟨w1.heap.size + 1, 2, none⟩ = some (.int .i64 o.inn) ∧ X.cell? ⟨w1.heap.size + 1, 3, none⟩ = some (.int .i64 o.code) ∧ X.cell? ⟨w1.heap.size + 1, 4, none⟩ = some (.int .i64 o.sec) ∧ X.cell? ⟨w1.heap.size + 1, 5, none⟩ = some (.int .i64 o.fam) ∧ X.cell? ⟨w1.heap.size + 1, 6, none⟩ = some (.int .i64 o.gen)) ∧ (X.cell? ⟨w2.heap.size + 1, 0, none⟩ = some (.int .i64 q.kind) ∧ X.cell? ⟨w2.heap.size + 1, 1, none⟩ = some (.int .i64 q.who) ∧ X.cell? ⟨w2.heap.size + 1, 2, none⟩ = some (.int .i64 q.inn) ∧ X.cell? ⟨w2.heap.size + 1, 3, none⟩ = some (.int .i64 q.code) ∧ X.cell? ⟨w2.heap.size + 1, 4, none⟩ = some (.int .i64 q.sec) ∧ X.cell? ⟨w2.heap.size + 1, 5, none⟩ = some (.int .i64 q.fam) ∧ X.cell? ⟨w2.heap.size + 1, 6, none⟩ = some (.int .i64 q.gen)) from
    have h2 : Below w3.heap.size w3 X := belowNext HBp.out hX
    ⟨⟨(HX.out.below hX HX.out.1).of 0 _ rfl, (HX.out.below hX HX.out.1).of 1 _ rfl, (HX.out.below hX HX.out.1).of 2 _ rfl⟩, (HS.out.below h2 HS.out.1).of 0 _ rfl, (HO.out.below h2 HO.out.1).seven, (HQ.out.below h2 HQ.out.1).seven⟩)
  have HRd := Lib.hid (fun (X : World) (hX : Below (w3.alloc (.cells #[.bool pl.ok, .slice Aa pl.locks.length ca, .slice Ab pl.writes.length cb] 41)).heap.size (w3.alloc (.cells #[.bool pl.ok, .slice Aa pl.locks.length ca, .slice Ab pl.writes.length cb] 41)) X) => show Items X X.heap.size (.slice Au its.length cu) its ∧ strSh.Row X X.heap.size (.slice Aa pl.locks.length ca) pl.locks ∧ wrSh.Row X X.heap.size (.slice Ab pl.writes.length cb) pl.writes ∧ Below w.heap.size w X from
    have h2 : Below w3.heap.size w3 X := belowNext HBp.out hX
    ⟨(HI.out.below h2).more h2.size, (HLo.out.below h2).more h2.size, (HWo.out.below h2).more h2.size, belowNext HB.out h2⟩)
  have HW0 := Lib.hid (show Below (w3.alloc (.cells #[.bool pl.ok, .slice Aa pl.locks.length ca, .slice Ab pl.writes.length cb] 41)).heap.size (w3.alloc (.cells #[.bool pl.ok, .slice Aa pl.locks.length ca, .slice Ab pl.writes.length cb] 41)) (w3.alloc (.cells #[.bool pl.ok, .slice Aa pl.locks.length ca, .slice Ab pl.writes.length cb] 41)) from Below.refl _ _)
  clear HX HBp HLo HWo HS HO HI HB HQ
  go_upto_region 6 with fail
  generalize (w3.alloc (.cells #[.bool pl.ok, .slice Aa pl.locks.length ca, .slice Ab pl.writes.length cb] 41)) = wp at *
  have HW1 := Lib.hid (show Below wp.heap.size wp wp.drew from HW0.out.drew)
  obtain ⟨⟨e0, e1, e2⟩, e3, e4, -⟩ := HAll.out _ HW1.out
  have k0 := And.intro e0 (And.intro e1 (And.intro e2 (And.intro e3 e4)))
  clear e0 e1 e2 e3 e4
  refine wp_region_held_drew (S := (fun w' => w'.cell? ⟨w3.heap.size, 0, none⟩ = some (.bool pl.ok) ∧ w'.cell? ⟨w3.heap.size, 1, none⟩ = some (.slice Aa pl.locks.length ca) ∧ w'.cell? ⟨w3.heap.size, 2, none⟩ = some (.slice Ab pl.writes.length cb) ∧ w'.cell? ⟨w1.heap.size, 0, none⟩ = some (.slice Au its.length cu) ∧ w'.cell? ⟨w1.heap.size + 1, 0, none⟩ = some (.int .i64 o.kind) ∧ w'.cell? ⟨w1.heap.size + 1, 1, none⟩ = some (.int .i64 o.who) ∧ w'.cell? ⟨w1.heap.size + 1, 2, none⟩ = some (.int .i64 o.inn) ∧ w'.cell? ⟨w1.heap.size + 1, 3, none⟩ = some (.int .i64 o.code) ∧ w'.cell? ⟨w1.heap.size + 1, 4, none⟩ = some (.int .i64 o.sec) ∧ w'.cell? ⟨w1.heap.size + 1, 5, none⟩ = some (.int .i64 o.fam) ∧ w'.cell? ⟨w1.heap.size + 1, 6, none⟩ = some (.int .i64 o.gen))) (by kernel_rfl) ?hSa (fun hHelda => ?sta)
  case hSa => (first | (dsimp only; (first | with_reducible exact k0 | exact k0 | exact True.intro)) | (first | with_reducible exact k0 | exact k0 | exact True.intro))
  refine take_first 0 44 (v := ?va_1) rfl rfl (by kernel_rfl) (by kernel_rfl) (by kernel_rfl) (fun _ _ _ h => h) (by rfl) ?ya_1 (by assumption) ?ra_1
  case ya_1 => (intro w hSw; (try dsimp only at hSw); go_simp; (try with_reducible rfl))
  simp only [Act.put, List.setIfInBounds_toArray, List.set_cons_zero, List.set_cons_succ]
  refine take_first 1 45 (v := ?va_2) rfl rfl (by kernel_rfl) (by kernel_rfl) (by kernel_rfl) (fun _ _ _ h => h) (by rfl) ?ya_2 (by assumption) ?ra_2
  case ya_2 => (intro w hSw; (try dsimp only at hSw); go_simp; (try with_reducible rfl))
  simp only [Act.put, List.setIfInBounds_toArray, List.set_cons_zero, List.set_cons_succ]
  refine take_first 2 46 (v := ?va_3) rfl rfl (by kernel_rfl) (by kernel_rfl) (by kernel_rfl) (fun _ _ _ h => h) (by rfl) ?ya_3 (by assumption) ?ra_3
  case ya_3 => (intro w hSw; (try dsimp only at hSw); go_simp; (try with_reducible rfl))
  simp only [Act.put, List.setIfInBounds_toArray, List.set_cons_zero, List.set_cons_succ]
  refine take_first 3 47 (v := ?va_4) rfl rfl (by kernel_rfl) (by kernel_rfl) (by kernel_rfl) (fun _ _ _ h => h) (by rfl) ?ya_4 (by assumption) ?ra_4
  case ya_4 => (intro w hSw; (try dsimp only at hSw); go_simp; (try with_reducible rfl))
  simp only [Act.put, List.setIfInBounds_toArray, List.set_cons_zero, List.set_cons_succ]
  refine take_first 4 48 (v := ?va_5) rfl rfl (by kernel_rfl) (by kernel_rfl) (by kernel_rfl) (fun _ _ _ h => h) (by rfl) ?ya_5 (by assumption) ?ra_5
  case ya_5 => (intro w hSw; (try dsimp only at hSw); go_simp; (try with_reducible rfl))
  simp only [Act.put, List.setIfInBounds_toArray, List.set_cons_zero, List.set_cons_succ]
  refine wpAnyH_ready (rs := [5]) (by kernel_rfl) (by simp) ?_
  refine AllReadyH.cons (o := _) rfl (fun Ka_6 hKa_6 => ?ca_6) ?ma_6
  case ma_6 => exact AllReadyH.nil
  go_simp
  refine (specPlcPlan_any _ p _ its (HRd.out _ HW1.out).1 tx o).mono ?_; rintro e w4 ⟨us, ut, rfl, ho4, hb4⟩; rw [HPl.out] at ho4 ⊢; obtain ⟨us', ut', T1, T2, hcs4, hl4, hw4, -, -, -⟩ := plan_own.1 ho4; obtain ⟨rfl, rfl⟩ : us = us' ∧ ut = ut' := (by simpa using hcs4); have HL4 := Lib.hid hl4.row; have HW4 := Lib.hid hw4.row; have HW2 := Lib.hid (HW1.out.trans (hb4.mono HW1.out.size)); obtain ⟨⟨e0, e1, e2⟩, e3, e4, -⟩ := HAll.out _ HW2.out; replace k0 := And.intro e0 (And.intro e1 (And.intro e2 (And.intro e3 e4))); clear e0 e1 e2 e3 e4; clear hb4 ho4 hcs4 hl4 hw4
  go_wp2_with fail
  refine hKa_6.out _ _ ?ka_6 (fun hHelda_6 => ?da_6)
  case ka_6 => (first | (dsimp only; (first | with_reducible exact k0 | exact k0 | exact True.intro)) | (first | with_reducible exact k0 | exact k0 | exact True.intro))
  clear hKa_6 Ka_6
  refine wpAnyH_ready (rs := [6]) (by kernel_rfl) (by simp) ?_
  refine AllReadyH.cons (o := _) rfl (fun Ka_7 hKa_7 => ?ca_7) ?ma_7
  case ma_7 => exact AllReadyH.nil
  go_simp
  refine (jaPlan_same _ _ _ _ _ pl.ok pl.locks pl.writes (HRd.out _ HW2.out).2.1 (HRd.out _ HW2.out).2.2.1 HL4.out HW4.out).mono ?_; rintro e w5 ⟨rfl, hb5⟩; have HW3 := Lib.hid (HW2.out.trans (hb5.mono HW2.out.size)); obtain ⟨⟨e0, e1, e2⟩, e3, e4, -⟩ := HAll.out _ HW3.out; replace k0 := And.intro e0 (And.intro e1 (And.intro e2 (And.intro e3 e4))); clear e0 e1 e2 e3 e4; clear hb5
  go_wp2_with fail
  refine hKa_7.out _ _ ?ka_7 (fun hHelda_7 => ?da_7)
  case ka_7 => (first | (dsimp only; (first | with_reducible exact k0 | exact k0 | exact True.intro)) | (first | with_reducible exact k0 | exact k0 | exact True.intro))
  clear hKa_7 Ka_7
  refine take_first 7 51 (v := ?va_8) rfl rfl (by kernel_rfl) (by kernel_rfl) (by kernel_rfl) (fun _ _ _ h => h) (by rfl) ?ya_8 (by assumption) ?ra_8
  case ya_8 => (intro w hSw; (try dsimp only at hSw); go_simp; (try with_reducible rfl))
  simp only [Act.put, List.setIfInBounds_toArray, List.set_cons_zero, List.set_cons_succ]
  refine wpAnyH_done (by kernel_rfl) ?ea _
  clear k0 HW0 HW1 HW2 HL4 HW4
  have HZ := Lib.hid HW3.out
  clear HW3
  obtain ⟨-, s0, -, q0, q1, q2, q3, q4, q5, q6⟩ := HAll.out _ HZ.out
  go_wp2_with fail
  clear s0 q0 q1 q2 q3 q4 q5 q6
  refine (implPlcPlan_any _ p _ its (HRd.out _ HZ.out).1 tx' q).mono ?_
  rintro e w6 ⟨va, vb, rfl, ho9, hb9⟩
  obtain ⟨pr, hpr⟩ : ∃ pr, plcP its p tx' q = pr := ⟨_, rfl⟩
  rw [hpr] at ho9 ⊢
  have HPr := Lib.hid hpr
  obtain ⟨va', vb', S1, S2, hcs, hl9, hw9, -, -, -⟩ := plan_own.1 ho9
  obtain ⟨rfl, rfl⟩ : va = va' ∧ vb = vb' := by simpa using hcs
  obtain ⟨Ba, da, hfa, -, -⟩ := hl9.row.form
  obtain ⟨Bb, db, hfb, -, -⟩ := hw9.row.form
  subst hfa hfb
  have HLo := Lib.hid hl9.row
  have HWo := Lib.hid hw9.row
  have HZ6 := Lib.hid (HZ.out.trans (hb9.mono HZ.out.size))
  have HBp := Lib.hid (belowOne w6 (.cells #[.bool pr.ok, .slice Ba pr.locks.length da, .slice Bb pr.writes.length db] 41))
  have HX := Lib.hid (Held.new w6 #[.bool pr.ok, .slice Ba pr.locks.length da, .slice Bb pr.writes.length db] 41)
  clear hb9 ho9 hcs hl9 hw9 hpr
  have HAl2 := Lib.hid (fun (X : World) (hX : Below (w6.alloc (.cells #[.bool pr.ok, .slice Ba pr.locks.length da, .slice Bb pr.writes.length db] 41)).heap.size (w6.alloc (.cells #[.bool pr.ok, .slice Ba pr.locks.length da, .slice Bb pr.writes.length db] 41)) X) => show (X.cell? ⟨w6.heap.size, 0, none⟩ = some (.bool pr.ok) ∧ X.cell? ⟨w6.heap.size, 1, none⟩ = some (.slice Ba pr.locks.length da) ∧ X.cell? ⟨w6.heap.size, 2, none⟩ = some (.slice Bb pr.writes.length db)) ∧ (X.cell? ⟨w3.heap.size, 0, none⟩ = some (.bool pl.ok) ∧ X.cell? ⟨w3.heap.size, 1, none⟩ = some (.slice Aa pl.locks.length ca) ∧ X.cell? ⟨w3.heap.size, 2, none⟩ = some (.slice Ab pl.writes.length cb)) ∧ X.cell? ⟨w1.heap.size, 0, none⟩ = some (.slice Au its.length cu) ∧ (X.cell? ⟨w1.heap.size + 1, 0, none⟩ = some (.int .i64 o.kind) ∧ X.cell? ⟨w1.heap.size + 1, 1, none⟩ = some (.int .i64 o.who) ∧ X.cell? ⟨w1.heap.size + 1, 2, none⟩ = some (.int .i64 o.inn) ∧ X.cell? ⟨w1.heap.size + 1, 3, none⟩ = some (.int .i64 o.code) ∧ X.cell? ⟨w1.heap.size + 1, 4, none⟩ = some (.int .i64 o.sec) ∧ X.cell? ⟨w1.heap.size + 1, 5, none⟩ = some (.int .i64 o.fam) ∧ X.cell? ⟨w1.heap.size + 1, 6, none⟩ = some (.int .i64 o.gen)) from
    have h2 : Below w6.heap.size w6 X := belowNext HBp.out hX
    have h3 := HAll.out X (HZ6.out.trans (h2.mono HZ6.out.size))
    ⟨⟨(HX.out.below hX HX.out.1).of 0 _ rfl, (HX.out.below hX HX.out.1).of 1 _ rfl, (HX.out.below hX HX.out.1).of 2 _ rfl⟩, h3.1, h3.2.1, h3.2.2.1⟩)
  have HRd2 := Lib.hid (fun (X : World) (hX : Below (w6.alloc (.cells #[.bool pr.ok, .slice Ba pr.locks.length da, .slice Bb pr.writes.length db] 41)).heap.size (w6.alloc (.cells #[.bool pr.ok, .slice Ba pr.locks.length da, .slice Bb pr.writes.length db] 41)) X) => show Items X X.heap.size (.slice Au its.length cu) its ∧ strSh.Row X X.heap.size (.slice Aa pl.locks.length ca) pl.locks ∧ wrSh.Row X X.heap.size (.slice Ab pl.writes.length cb) pl.writes ∧ strSh.Row X X.heap.size (.slice Ba pr.locks.length da) pr.locks ∧ wrSh.Row X X.heap.size (.slice Bb pr.writes.length db) pr.writes ∧ Below w.heap.size w X from
    have h2 : Below w6.heap.size w6 X := belowNext HBp.out hX
    have h3 := HRd.out X (HZ6.out.trans (h2.mono HZ6.out.size))
    ⟨h3.1, h3.2.1, h3.2.2.1, (HLo.out.below h2).more h2.size, (HWo.out.below h2).more h2.size, h3.2.2.2⟩)
  have HW0 := Lib.hid (show Below (w6.alloc (.cells #[.bool pr.ok, .slice Ba pr.locks.length da, .slice Bb pr.writes.length db] 41)).heap.size (w6.alloc (.cells #[.bool pr.ok, .slice Ba pr.locks.length da, .slice Bb pr.writes.length db] 41)) (w6.alloc (.cells #[.bool pr.ok, .slice Ba pr.locks.length da, .slice Bb pr.writes.length db] 41)) from Below.refl _ _)
  clear HX HBp HLo HWo HAll HRd HZ HZ6
  go_upto_region 9 with fail
  generalize (w6.alloc (.cells #[.bool pr.ok, .slice Ba pr.locks.length da, .slice Bb pr.writes.length db] 41)) = wr0 at *
  have HBz := Lib.hid (HRd2.out _ HW0.out).2.2.2.2.2
  obtain ⟨⟨r0, -, -⟩, ⟨c0, -, -⟩, -⟩ := HAl2.out _ HW0.out
  cases hok : pl.ok with
  | false =>
    rw [hok] at c0
    clear r0 HAl2 HRd2 HW0
    go_wp2_with fail
    refine (jaOk_any _).mono ?_
    rintro e w7 ⟨rfl, hb7⟩
    have HBe := Lib.hid (belowNext HBz.out hb7)
    clear hb7
    go_wp2
    go_ret
    exact ⟨rfl, HBe.out⟩
  | true =>
    rw [hok] at c0
    cases hor : pr.ok with
    | false =>
      rw [hor] at r0
      clear HAl2 HRd2 HW0
      go_wp2_with fail
      refine (jaOk_any _).mono ?_
      rintro e w7 ⟨rfl, hb7⟩
      have HBe := Lib.hid (belowNext HBz.out hb7)
      clear hb7
      go_wp2
      go_ret
      exact ⟨rfl, HBe.out⟩
    | true =>
      rw [hor] at r0
      by_cases htt : tx = tx'
      · subst htt
        have e1 : (tx == tx) = true := by simp
        clear HAl2 HRd2 HW0
        go_wp2_with fail
        refine (jaOk_any _).mono ?_
        rintro e w7 ⟨rfl, hb7⟩
        have HBe := Lib.hid (belowNext HBz.out hb7)
        clear hb7
        go_wp2
        go_ret
        exact ⟨rfl, HBe.out⟩
      · have e1 : (tx == tx') = false := by simp [htt]
        have HSz := Lib.hid (show its.length ≤ 13 ∧ pl.locks.length ≤ 100 ∧ pl.writes.length ≤ 100 from by
          have h := held_sizes (its := its) (p := p) (tx := tx) (o := o) HIl.out
          rw [HPl.out] at h
          exact h hok)
        have HBo := Lib.hid (show (∀ k ∈ pl.locks, k ∉ pr.locks) → plcP (stoDo its pr.writes) p tx o = pl ∧ stoDo (stoDo its pr.writes) pl.writes = stoDo (stoDo its pl.writes) pr.writes from by
          have h := held_both (its := its) (p := p) (tx := tx) (tx' := tx') (o := o) (o' := q) HIl.out
          rw [HPl.out, HPr.out] at h
          exact h hok hor)
        have hll : pl.locks.length ≤ 100 := HSz.out.2.1
        clear htt
        go_wp2
        clear c0 r0 e1 hok hor
        go_loopw [15] (fun i wr => ∃ k : Nat, k ≤ pl.locks.length ∧ i = .int .i64 k ∧ (∀ j : Nat, j < k → ∀ x, pl.locks[j]? = some x → x ∉ pr.locks) ∧ Below wr0.heap.size wr0 wr) (fun i _ => pl.locks.length - (intOf i).toNat)
        case atStart => exact ⟨0, Nat.zero_le _, rfl, fun j hj => absurd hj (by omega), HW0.out⟩
        case round =>
          clear HW0
          obtain ⟨k, hk, rfl, hfr, hb⟩ := hrel
          have HFr := Lib.hid hfr
          have HBr := Lib.hid hb
          clear hb hfr
          obtain ⟨⟨-, r1, -⟩, ⟨-, c1, -⟩, -⟩ := HAl2.out _ HBr.out
          by_cases hlt : k < pl.locks.length
          · have hki : (k : Int) < (pl.locks.length : Int) := by omega
            have hk0 : (0 : Int) ≤ (k : Int) := by omega
            obtain ⟨bl, ol, dl, x, f1, hx, hBl, hsx, cx⟩ := strs_at (HRd2.out _ HBr.out).2.1 hlt
            injection f1 with f1a f1b f1c
            subst f1a
            have HXa := Lib.hid hx
            have HRw := Lib.hid (HRd2.out _ HBr.out).2.2.2.1
            have HBd := Lib.hid (show Below w.heap.size w wr from (HRd2.out _ HBr.out).2.2.2.2.2)
            have k0 := And.intro r1 (And.intro c1 cx)
            clear c1 cx r1 f1b f1c hsx hx
            cases hh : hasT pr.locks x with
            | true =>
              go_wp2
              refine wp_region_held_drew (S := (fun w' => w'.cell? ⟨w6.heap.size, 1, none⟩ = some (.slice Ba pr.locks.length da) ∧ w'.cell? ⟨w3.heap.size, 1, none⟩ = some (.slice (some ⟨bl, ol, none⟩) pl.locks.length ca) ∧ w'.cell? ⟨bl, ol + k, none⟩ = some (.string x))) (by kernel_rfl) ?hSl (fun hHeldl => ?stl)
              case hSl => (first | (dsimp only; (first | with_reducible exact k0 | exact k0)) | (first | with_reducible exact k0 | exact k0))
              refine take_first 0 78 (v := ?vl_1) rfl rfl (by kernel_rfl) (by kernel_rfl) (by kernel_rfl) (fun _ _ _ h => h) (by rfl) ?yl_1 (by assumption) ?rl_1
              case yl_1 => (intro w hSw; (try dsimp only at hSw); go_simp; (try with_reducible rfl))
              simp only [Act.put, List.setIfInBounds_toArray, List.set_cons_zero, List.set_cons_succ]
              refine take_first 1 79 (v := ?vl_2) rfl rfl (by kernel_rfl) (by kernel_rfl) (by kernel_rfl) (fun _ _ _ h => h) (by rfl) ?yl_2 (by assumption) ?rl_2
              case yl_2 => (intro w hSw; (try dsimp only at hSw); go_simp; (try with_reducible rfl))
              simp only [Act.put, List.setIfInBounds_toArray, List.set_cons_zero, List.set_cons_succ]
              refine take_first 2 80 (v := ?vl_3) rfl rfl (by kernel_rfl) (by kernel_rfl) (by kernel_rfl) (fun _ _ _ h => h) (by rfl) ?yl_3 (by assumption) ?rl_3
              case yl_3 => (intro w hSw; (try dsimp only at hSw); go_simp; (try with_reducible rfl))
              simp only [Act.put, List.setIfInBounds_toArray, List.set_cons_zero, List.set_cons_succ]
              refine take_first 3 81 (v := ?vl_4) rfl rfl (by kernel_rfl) (by kernel_rfl) (by kernel_rfl) (fun _ _ _ h => h) (by rfl) ?yl_4 (by assumption) ?rl_4
              case yl_4 => (intro w hSw; (try dsimp only at hSw); go_simp; (try with_reducible rfl))
              simp only [Act.put, List.setIfInBounds_toArray, List.set_cons_zero, List.set_cons_succ]
              refine take_first 4 82 (v := ?vl_5) rfl rfl (by kernel_rfl) (by kernel_rfl) (by kernel_rfl) (fun _ _ _ h => h) (by rfl) ?yl_5 (by assumption) ?rl_5
              case yl_5 => (intro w hSw; (try dsimp only at hSw); go_simp; (try with_reducible rfl))
              simp only [Act.put, List.setIfInBounds_toArray, List.set_cons_zero, List.set_cons_succ]
              refine take_first 5 83 (v := ?vl_6) rfl rfl (by kernel_rfl) (by kernel_rfl) (by kernel_rfl) (fun _ _ _ h => h) (by rfl) ?yl_6 (by assumption) ?rl_6
              case yl_6 => (intro w hSw; (try dsimp only at hSw); go_simp; (try with_reducible rfl))
              simp only [Act.put, List.setIfInBounds_toArray, List.set_cons_zero, List.set_cons_succ]
              refine take_first 6 84 (v := ?vl_7) rfl rfl (by kernel_rfl) (by kernel_rfl) (by kernel_rfl) (fun _ _ _ h => h) (by rfl) ?yl_7 (by assumption) ?rl_7
              case yl_7 => (intro w hSw; (try dsimp only at hSw); go_simp; (try with_reducible rfl))
              simp only [Act.put, List.setIfInBounds_toArray, List.set_cons_zero, List.set_cons_succ]
              refine wpAnyH_ready (rs := [7]) (by kernel_rfl) (by simp) ?_
              refine AllReadyH.cons (o := _) rfl (fun Kl_8 hKl_8 => ?cl_8) ?ml_8
              case ml_8 => exact AllReadyH.nil
              go_simp
              refine (jaHas_any _ _ _ _ _ (HRw.out.keep (w' := wr.drew) (fun _ _ _ => rfl))).mono ?_; rintro e wz ⟨rfl, rfl⟩; rw [hh]
              go_wp2_with fail
              refine hKl_8.out _ _ ?kl_8 (fun hHeldl_8 => ?dl_8)
              case kl_8 => (first | (dsimp only; (first | with_reducible exact k0 | exact k0)) | (first | with_reducible exact k0 | exact k0))
              clear hKl_8 Kl_8
              refine wpAnyH_done (by kernel_rfl) ?el _
              clear k0
              go_wp2
              go_ret
              exact ⟨rfl, HBd.out.drew⟩
            | false =>
              have HNo := Lib.hid (show x ∉ pr.locks from fun hm => by rw [hasT_yes hm] at hh; cases hh)
              go_wp2
              refine wp_region_held_drew (S := (fun w' => w'.cell? ⟨w6.heap.size, 1, none⟩ = some (.slice Ba pr.locks.length da) ∧ w'.cell? ⟨w3.heap.size, 1, none⟩ = some (.slice (some ⟨bl, ol, none⟩) pl.locks.length ca) ∧ w'.cell? ⟨bl, ol + k, none⟩ = some (.string x))) (by kernel_rfl) ?hSl2 (fun hHeldl2 => ?stl2)
              case hSl2 => (first | (dsimp only; (first | with_reducible exact k0 | exact k0)) | (first | with_reducible exact k0 | exact k0))
              refine take_first 0 78 (v := ?vl2_1) rfl rfl (by kernel_rfl) (by kernel_rfl) (by kernel_rfl) (fun _ _ _ h => h) (by rfl) ?yl2_1 (by assumption) ?rl2_1
              case yl2_1 => (intro w hSw; (try dsimp only at hSw); go_simp; (try with_reducible rfl))
              simp only [Act.put, List.setIfInBounds_toArray, List.set_cons_zero, List.set_cons_succ]
              refine take_first 1 79 (v := ?vl2_2) rfl rfl (by kernel_rfl) (by kernel_rfl) (by kernel_rfl) (fun _ _ _ h => h) (by rfl) ?yl2_2 (by assumption) ?rl2_2
              case yl2_2 => (intro w hSw; (try dsimp only at hSw); go_simp; (try with_reducible rfl))
              simp only [Act.put, List.setIfInBounds_toArray, List.set_cons_zero, List.set_cons_succ]
              refine take_first 2 80 (v := ?vl2_3) rfl rfl (by kernel_rfl) (by kernel_rfl) (by kernel_rfl) (fun _ _ _ h => h) (by rfl) ?yl2_3 (by assumption) ?rl2_3
              case yl2_3 => (intro w hSw; (try dsimp only at hSw); go_simp; (try with_reducible rfl))
              simp only [Act.put, List.setIfInBounds_toArray, List.set_cons_zero, List.set_cons_succ]
              refine take_first 3 81 (v := ?vl2_4) rfl rfl (by kernel_rfl) (by kernel_rfl) (by kernel_rfl) (fun _ _ _ h => h) (by rfl) ?yl2_4 (by assumption) ?rl2_4
              case yl2_4 => (intro w hSw; (try dsimp only at hSw); go_simp; (try with_reducible rfl))
              simp only [Act.put, List.setIfInBounds_toArray, List.set_cons_zero, List.set_cons_succ]
              refine take_first 4 82 (v := ?vl2_5) rfl rfl (by kernel_rfl) (by kernel_rfl) (by kernel_rfl) (fun _ _ _ h => h) (by rfl) ?yl2_5 (by assumption) ?rl2_5
              case yl2_5 => (intro w hSw; (try dsimp only at hSw); go_simp; (try with_reducible rfl))
              simp only [Act.put, List.setIfInBounds_toArray, List.set_cons_zero, List.set_cons_succ]
              refine take_first 5 83 (v := ?vl2_6) rfl rfl (by kernel_rfl) (by kernel_rfl) (by kernel_rfl) (fun _ _ _ h => h) (by rfl) ?yl2_6 (by assumption) ?rl2_6
              case yl2_6 => (intro w hSw; (try dsimp only at hSw); go_simp; (try with_reducible rfl))
              simp only [Act.put, List.setIfInBounds_toArray, List.set_cons_zero, List.set_cons_succ]
              refine take_first 6 84 (v := ?vl2_7) rfl rfl (by kernel_rfl) (by kernel_rfl) (by kernel_rfl) (fun _ _ _ h => h) (by rfl) ?yl2_7 (by assumption) ?rl2_7
              case yl2_7 => (intro w hSw; (try dsimp only at hSw); go_simp; (try with_reducible rfl))
              simp only [Act.put, List.setIfInBounds_toArray, List.set_cons_zero, List.set_cons_succ]
              refine wpAnyH_ready (rs := [7]) (by kernel_rfl) (by simp) ?_
              refine AllReadyH.cons (o := _) rfl (fun Kl2_8 hKl2_8 => ?cl2_8) ?ml2_8
              case ml2_8 => exact AllReadyH.nil
              go_simp
              refine (jaHas_any _ _ _ _ _ (HRw.out.keep (w' := wr.drew) (fun _ _ _ => rfl))).mono ?_; rintro e wz ⟨rfl, rfl⟩; rw [hh]
              go_wp2_with fail
              refine hKl2_8.out _ _ ?kl2_8 (fun hHeldl2_8 => ?dl2_8)
              case kl2_8 => (first | (dsimp only; (first | with_reducible exact k0 | exact k0)) | (first | with_reducible exact k0 | exact k0))
              clear hKl2_8 Kl2_8
              refine wpAnyH_done (by kernel_rfl) ?el2 _
              clear k0
              go_wp2
              go_roundw
              case rel =>
                refine ⟨k + 1, by omega, by go_num, fun j hj y hy => ?_, HBr.out.drew⟩
                rcases Nat.lt_or_ge j k with h | h
                · exact HFr.out j h y hy
                · obtain rfl : j = k := by omega
                  rw [HXa.out] at hy
                  exact Option.some.inj hy ▸ HNo.out
              case measure => simp [intOf]; omega
          · have hki : ¬ (k : Int) < (pl.locks.length : Int) := by omega
            have hd : ∀ y ∈ pl.locks, y ∉ pr.locks := fun y hy => by
              obtain ⟨j, hj, e⟩ := List.getElem_of_mem hy
              exact HFr.out j (by omega) y (by rw [List.getElem?_eq_getElem hj, e])
            have HTw := Lib.hid (HBo.out hd)
            clear hd HFr r1 HBo
            obtain ⟨⟨-, -, r2⟩, -, c3, -⟩ := HAl2.out _ HBr.out
            go_wp2_with fail
            clear c1 r2 c3
            refine (implStoDo_any _ _ _ its pr.writes (HRd2.out _ HBr.out).1 (wrts_row.1 (HRd2.out _ HBr.out).2.2.2.2.1)).mono ?_
            rintro e wx ⟨ux, rfl, hox, hbx⟩
            obtain ⟨Ax, cx, hfx, -, -⟩ := hox.row.form
            subst hfx
            obtain ⟨xs, hxs⟩ : ∃ xs, stoDo its pr.writes = xs := ⟨_, rfl⟩
            rw [hxs] at hox HTw ⊢
            have HXr := Lib.hid (items_row.1 hox.row)
            have HBx := Lib.hid (HBr.out.trans (hbx.mono HBr.out.size))
            have HBq := Lib.hid (belowOne wx (.cells #[.slice Ax xs.length cx] 35))
            have HXh := Lib.hid (Held.new wx #[.slice Ax xs.length cx] 35)
            have HXs := Lib.hid hxs
            clear hox hbx hxs
            have HAl3 := Lib.hid (fun (X : World) (hX : Below (wx.alloc (.cells #[.slice Ax xs.length cx] 35)).heap.size (wx.alloc (.cells #[.slice Ax xs.length cx] 35)) X) => show X.cell? ⟨wx.heap.size, 0, none⟩ = some (.slice Ax xs.length cx) ∧ X.cell? ⟨w6.heap.size, 2, none⟩ = some (.slice Bb pr.writes.length db) ∧ X.cell? ⟨w3.heap.size, 0, none⟩ = some (.bool pl.ok) ∧ X.cell? ⟨w3.heap.size, 1, none⟩ = some (.slice Aa pl.locks.length ca) ∧ X.cell? ⟨w3.heap.size, 2, none⟩ = some (.slice Ab pl.writes.length cb) ∧ X.cell? ⟨w1.heap.size, 0, none⟩ = some (.slice Au its.length cu) ∧ X.cell? ⟨w1.heap.size + 1, 0, none⟩ = some (.int .i64 o.kind) ∧ X.cell? ⟨w1.heap.size + 1, 1, none⟩ = some (.int .i64 o.who) ∧ X.cell? ⟨w1.heap.size + 1, 2, none⟩ = some (.int .i64 o.inn) ∧ X.cell? ⟨w1.heap.size + 1, 3, none⟩ = some (.int .i64 o.code) ∧ X.cell? ⟨w1.heap.size + 1, 4, none⟩ = some (.int .i64 o.sec) ∧ X.cell? ⟨w1.heap.size + 1, 5, none⟩ = some (.int .i64 o.fam) ∧ X.cell? ⟨w1.heap.size + 1, 6, none⟩ = some (.int .i64 o.gen) from
              have h2 : Below wx.heap.size wx X := belowNext HBq.out hX
              have h3 := HAl2.out X (HBx.out.trans (h2.mono HBx.out.size))
              ⟨(HXh.out.below hX HXh.out.1).of 0 _ rfl, h3.1.2.2, h3.2.1.1, h3.2.1.2.1, h3.2.1.2.2, h3.2.2.1, h3.2.2.2⟩)
            have HRd3 := Lib.hid (fun (X : World) (hX : Below (wx.alloc (.cells #[.slice Ax xs.length cx] 35)).heap.size (wx.alloc (.cells #[.slice Ax xs.length cx] 35)) X) => show Items X X.heap.size (.slice Ax xs.length cx) xs ∧ Items X X.heap.size (.slice Au its.length cu) its ∧ strSh.Row X X.heap.size (.slice Aa pl.locks.length ca) pl.locks ∧ wrSh.Row X X.heap.size (.slice Ab pl.writes.length cb) pl.writes ∧ wrSh.Row X X.heap.size (.slice Bb pr.writes.length db) pr.writes ∧ Below w.heap.size w X from
              have h2 : Below wx.heap.size wx X := belowNext HBq.out hX
              have h3 := HRd2.out X (HBx.out.trans (h2.mono HBx.out.size))
              ⟨(HXr.out.below h2).more h2.size, h3.1, h3.2.1, h3.2.2.1, h3.2.2.2.2.1, h3.2.2.2.2.2⟩)
            have HW0 := Lib.hid (show Below (wx.alloc (.cells #[.slice Ax xs.length cx] 35)).heap.size (wx.alloc (.cells #[.slice Ax xs.length cx] 35)) (wx.alloc (.cells #[.slice Ax xs.length cx] 35)) from Below.refl _ _)
            clear HXr HBx HBq HXh HAl2 HRd2 HBr HBz
            go_upto_region 17 with fail
            generalize (wx.alloc (.cells #[.slice Ax xs.length cx] 35)) = wy at *
            have HW1 := Lib.hid (show Below wy.heap.size wy wy.drew from HW0.out.drew)
            have k0 := HAl3.out _ HW1.out
            refine wp_region_held_drew (S := (fun w' => w'.cell? ⟨wx.heap.size, 0, none⟩ = some (.slice Ax xs.length cx) ∧ w'.cell? ⟨w6.heap.size, 2, none⟩ = some (.slice Bb pr.writes.length db) ∧ w'.cell? ⟨w3.heap.size, 0, none⟩ = some (.bool pl.ok) ∧ w'.cell? ⟨w3.heap.size, 1, none⟩ = some (.slice Aa pl.locks.length ca) ∧ w'.cell? ⟨w3.heap.size, 2, none⟩ = some (.slice Ab pl.writes.length cb) ∧ w'.cell? ⟨w1.heap.size, 0, none⟩ = some (.slice Au its.length cu) ∧ w'.cell? ⟨w1.heap.size + 1, 0, none⟩ = some (.int .i64 o.kind) ∧ w'.cell? ⟨w1.heap.size + 1, 1, none⟩ = some (.int .i64 o.who) ∧ w'.cell? ⟨w1.heap.size + 1, 2, none⟩ = some (.int .i64 o.inn) ∧ w'.cell? ⟨w1.heap.size + 1, 3, none⟩ = some (.int .i64 o.code) ∧ w'.cell? ⟨w1.heap.size + 1, 4, none⟩ = some (.int .i64 o.sec) ∧ w'.cell? ⟨w1.heap.size + 1, 5, none⟩ = some (.int .i64 o.fam) ∧ w'.cell? ⟨w1.heap.size + 1, 6, none⟩ = some (.int .i64 o.gen))) (by kernel_rfl) ?hSz (fun hHeldz => ?stz)
            case hSz => (first | (dsimp only; (first | with_reducible exact k0 | exact k0)) | (first | with_reducible exact k0 | exact k0))
            refine take_first 0 90 (v := ?vz_1) rfl rfl (by kernel_rfl) (by kernel_rfl) (by kernel_rfl) (fun _ _ _ h => h) (by rfl) ?yz_1 (by assumption) ?rz_1
            case yz_1 => (intro w hSw; (try dsimp only at hSw); go_simp; (try with_reducible rfl))
            simp only [Act.put, List.setIfInBounds_toArray, List.set_cons_zero, List.set_cons_succ]
            refine take_first 1 91 (v := ?vz_2) rfl rfl (by kernel_rfl) (by kernel_rfl) (by kernel_rfl) (fun _ _ _ h => h) (by rfl) ?yz_2 (by assumption) ?rz_2
            case yz_2 => (intro w hSw; (try dsimp only at hSw); go_simp; (try with_reducible rfl))
            simp only [Act.put, List.setIfInBounds_toArray, List.set_cons_zero, List.set_cons_succ]
            refine take_first 2 92 (v := ?vz_3) rfl rfl (by kernel_rfl) (by kernel_rfl) (by kernel_rfl) (fun _ _ _ h => h) (by rfl) ?yz_3 (by assumption) ?rz_3
            case yz_3 => (intro w hSw; (try dsimp only at hSw); go_simp; (try with_reducible rfl))
            simp only [Act.put, List.setIfInBounds_toArray, List.set_cons_zero, List.set_cons_succ]
            refine take_first 3 93 (v := ?vz_4) rfl rfl (by kernel_rfl) (by kernel_rfl) (by kernel_rfl) (fun _ _ _ h => h) (by rfl) ?yz_4 (by assumption) ?rz_4
            case yz_4 => (intro w hSw; (try dsimp only at hSw); go_simp; (try with_reducible rfl))
            simp only [Act.put, List.setIfInBounds_toArray, List.set_cons_zero, List.set_cons_succ]
            refine take_first 5 95 (v := ?vz_5) rfl rfl (by kernel_rfl) (by kernel_rfl) (by kernel_rfl) (fun _ _ _ h => h) (by rfl) ?yz_5 (by assumption) ?rz_5
            case yz_5 => (intro w hSw; (try dsimp only at hSw); go_simp; (try with_reducible rfl))
            simp only [Act.put, List.setIfInBounds_toArray, List.set_cons_zero, List.set_cons_succ]
            refine wpAnyH_ready (rs := [4]) (by kernel_rfl) (by simp) ?_
            refine AllReadyH.cons (o := _) rfl (fun Kz_6 hKz_6 => ?cz_6) ?mz_6
            case mz_6 => exact AllReadyH.nil
            go_simp
            refine (implPlcPlan_any _ p _ xs (HRd3.out _ HW1.out).1 tx o).mono ?_; rintro e x1 ⟨us, ut, rfl, ho4, hb4⟩; rw [HTw.out.1] at ho4 ⊢; obtain ⟨us', ut', T1, T2, hcs4, hl4, hw4, -, -, -⟩ := plan_own.1 ho4; obtain ⟨rfl, rfl⟩ : us = us' ∧ ut = ut' := (by simpa using hcs4); have HL4 := Lib.hid hl4.row; have HW4 := Lib.hid hw4.row; have HW2 := Lib.hid (HW1.out.trans (hb4.mono HW1.out.size)); replace k0 := HAl3.out _ HW2.out; clear hb4 ho4 hcs4 hl4 hw4
            go_wp2_with fail
            refine hKz_6.out _ _ ?kz_6 (fun hHeldz_6 => ?dz_6)
            case kz_6 => (first | (dsimp only; (first | with_reducible exact k0 | exact k0)) | (first | with_reducible exact k0 | exact k0))
            clear hKz_6 Kz_6
            refine wpAnyH_ready (rs := [6]) (by kernel_rfl) (by simp) ?_
            refine AllReadyH.cons (o := _) rfl (fun Kz_7 hKz_7 => ?cz_7) ?mz_7
            case mz_7 => exact AllReadyH.nil
            go_simp
            refine (jaPlan_same _ _ _ _ _ pl.ok pl.locks pl.writes HL4.out HW4.out (HRd3.out _ HW2.out).2.2.1 (HRd3.out _ HW2.out).2.2.2.1).mono ?_; rintro e x2 ⟨rfl, hb5⟩; have HW3 := Lib.hid (HW2.out.trans (hb5.mono HW2.out.size)); replace k0 := HAl3.out _ HW3.out; clear hb5
            go_wp2_with fail
            refine hKz_7.out _ _ ?kz_7 (fun hHeldz_7 => ?dz_7)
            case kz_7 => (first | (dsimp only; (first | with_reducible exact k0 | exact k0)) | (first | with_reducible exact k0 | exact k0))
            clear hKz_7 Kz_7
            refine take_first 7 97 (v := ?vz_8) rfl rfl (by kernel_rfl) (by kernel_rfl) (by kernel_rfl) (fun _ _ _ h => h) (by rfl) ?yz_8 (by assumption) ?rz_8
            case yz_8 => (intro w hSw; (try dsimp only at hSw); go_simp; (try with_reducible rfl))
            simp only [Act.put, List.setIfInBounds_toArray, List.set_cons_zero, List.set_cons_succ]
            refine take_first 8 98 (v := ?vz_9) rfl rfl (by kernel_rfl) (by kernel_rfl) (by kernel_rfl) (fun _ _ _ h => h) (by rfl) ?yz_9 (by assumption) ?rz_9
            case yz_9 => (intro w hSw; (try dsimp only at hSw); go_simp; (try with_reducible rfl))
            simp only [Act.put, List.setIfInBounds_toArray, List.set_cons_zero, List.set_cons_succ]
            refine take_first 9 99 (v := ?vz_10) rfl rfl (by kernel_rfl) (by kernel_rfl) (by kernel_rfl) (fun _ _ _ h => h) (by rfl) ?yz_10 (by assumption) ?rz_10
            case yz_10 => (intro w hSw; (try dsimp only at hSw); go_simp; (try with_reducible rfl))
            simp only [Act.put, List.setIfInBounds_toArray, List.set_cons_zero, List.set_cons_succ]
            refine take_first 10 100 (v := ?vz_11) rfl rfl (by kernel_rfl) (by kernel_rfl) (by kernel_rfl) (fun _ _ _ h => h) (by rfl) ?yz_11 (by assumption) ?rz_11
            case yz_11 => (intro w hSw; (try dsimp only at hSw); go_simp; (try with_reducible rfl))
            simp only [Act.put, List.setIfInBounds_toArray, List.set_cons_zero, List.set_cons_succ]
            refine take_first 12 102 (v := ?vz_12) rfl rfl (by kernel_rfl) (by kernel_rfl) (by kernel_rfl) (fun _ _ _ h => h) (by rfl) ?yz_12 (by assumption) ?rz_12
            case yz_12 => (intro w hSw; (try dsimp only at hSw); go_simp; (try with_reducible rfl))
            simp only [Act.put, List.setIfInBounds_toArray, List.set_cons_zero, List.set_cons_succ]
            refine take_first 13 103 (v := ?vz_13) rfl rfl (by kernel_rfl) (by kernel_rfl) (by kernel_rfl) (fun _ _ _ h => h) (by rfl) ?yz_13 (by assumption) ?rz_13
            case yz_13 => (intro w hSw; (try dsimp only at hSw); go_simp; (try with_reducible rfl))
            simp only [Act.put, List.setIfInBounds_toArray, List.set_cons_zero, List.set_cons_succ]
            refine take_first 14 104 (v := ?vz_14) rfl rfl (by kernel_rfl) (by kernel_rfl) (by kernel_rfl) (fun _ _ _ h => h) (by rfl) ?yz_14 (by assumption) ?rz_14
            case yz_14 => (intro w hSw; (try dsimp only at hSw); go_simp; (try with_reducible rfl))
            simp only [Act.put, List.setIfInBounds_toArray, List.set_cons_zero, List.set_cons_succ]
            refine take_first 16 106 (v := ?vz_15) rfl rfl (by kernel_rfl) (by kernel_rfl) (by kernel_rfl) (fun _ _ _ h => h) (by rfl) ?yz_15 (by assumption) ?rz_15
            case yz_15 => (intro w hSw; (try dsimp only at hSw); go_simp; (try with_reducible rfl))
            simp only [Act.put, List.setIfInBounds_toArray, List.set_cons_zero, List.set_cons_succ]
            refine take_first 17 107 (v := ?vz_16) rfl rfl (by kernel_rfl) (by kernel_rfl) (by kernel_rfl) (fun _ _ _ h => h) (by rfl) ?yz_16 (by assumption) ?rz_16
            case yz_16 => (intro w hSw; (try dsimp only at hSw); go_simp; (try with_reducible rfl))
            simp only [Act.put, List.setIfInBounds_toArray, List.set_cons_zero, List.set_cons_succ]
            refine wpAnyH_ready (rs := [11]) (by kernel_rfl) (by simp) ?_
            refine AllReadyH.cons (o := _) rfl (fun Kz_17 hKz_17 => ?cz_17) ?mz_17
            case mz_17 => exact AllReadyH.nil
            go_simp
            refine (implStoDo_any _ _ _ xs pl.writes (HRd3.out _ HW3.out).1 (wrts_row.1 (HRd3.out _ HW3.out).2.2.2.1)).mono ?_; rintro e x3 ⟨ug, rfl, hog, hbg⟩; have HGr := Lib.hid hog.row; have HW5 := Lib.hid (HW3.out.trans (hbg.mono HW3.out.size)); replace k0 := HAl3.out _ HW5.out; clear hog hbg
            go_wp2_with fail
            refine hKz_17.out _ _ ?kz_17 (fun hHeldz_17 => ?dz_17)
            case kz_17 => (first | (dsimp only; (first | with_reducible exact k0 | exact k0)) | (first | with_reducible exact k0 | exact k0))
            clear hKz_17 Kz_17
            refine wpAnyH_ready (rs := [15]) (by kernel_rfl) (by simp) ?_
            refine AllReadyH.cons (o := _) rfl (fun Kz_18 hKz_18 => ?cz_18) ?mz_18
            case mz_18 => exact AllReadyH.nil
            go_simp
            refine (implStoDo_any _ _ _ its pl.writes (HRd3.out _ HW5.out).2.1 (wrts_row.1 (HRd3.out _ HW5.out).2.2.2.1)).mono ?_; rintro e x4 ⟨uh, rfl, hoh, hbh⟩; have HHr := Lib.hid (items_row.1 hoh.row); have HGr2 := Lib.hid ((HGr.out.below hbh).more hbh.size); have HW6 := Lib.hid (HW5.out.trans (hbh.mono HW5.out.size)); replace k0 := HAl3.out _ HW6.out; clear hoh hbh
            go_wp2_with fail
            refine hKz_18.out _ _ ?kz_18 (fun hHeldz_18 => ?dz_18)
            case kz_18 => (first | (dsimp only; (first | with_reducible exact k0 | exact k0)) | (first | with_reducible exact k0 | exact k0))
            clear hKz_18 Kz_18
            refine wpAnyH_ready (rs := [18]) (by kernel_rfl) (by simp) ?_
            refine AllReadyH.cons (o := _) rfl (fun Kz_19 hKz_19 => ?cz_19) ?mz_19
            case mz_19 => exact AllReadyH.nil
            go_simp
            refine (implStoDo_any _ _ _ (stoDo its pl.writes) pr.writes HHr.out (wrts_row.1 (HRd3.out _ HW6.out).2.2.2.2.1)).mono ?_; rintro e x5 ⟨ui, rfl, hoi, hbi⟩; have HIr := Lib.hid hoi.row; have HGr3 := Lib.hid ((HGr2.out.below hbi).more hbi.size); have HW7 := Lib.hid (HW6.out.trans (hbi.mono HW6.out.size)); replace k0 := HAl3.out _ HW7.out; clear hoi hbi
            go_wp2_with fail
            refine hKz_19.out _ _ ?kz_19 (fun hHeldz_19 => ?dz_19)
            case kz_19 => (first | (dsimp only; (first | with_reducible exact k0 | exact k0)) | (first | with_reducible exact k0 | exact k0))
            clear hKz_19 Kz_19
            refine wpAnyH_ready (rs := [19]) (by kernel_rfl) (by simp) ?_
            refine AllReadyH.cons (o := _) rfl (fun Kz_20 hKz_20 => ?cz_20) ?mz_20
            case mz_20 => exact AllReadyH.nil
            go_simp
            refine (jaSto_same _ _ _ _ (items_row.1 HGr3.out) (by rw [HTw.out.2]; exact items_row.1 HIr.out)).mono ?_; rintro e x6 ⟨rfl, hbj⟩; have HW8 := Lib.hid (HW7.out.trans (hbj.mono HW7.out.size)); replace k0 := HAl3.out _ HW8.out; clear hbj
            go_wp2_with fail
            refine hKz_20.out _ _ ?kz_20 (fun hHeldz_20 => ?dz_20)
            case kz_20 => (first | (dsimp only; (first | with_reducible exact k0 | exact k0)) | (first | with_reducible exact k0 | exact k0))
            clear hKz_20 Kz_20
            refine take_first 20 110 (v := ?vz_21) rfl rfl (by kernel_rfl) (by kernel_rfl) (by kernel_rfl) (fun _ _ _ h => h) (by rfl) ?yz_21 (by assumption) ?rz_21
            case yz_21 => (intro w hSw; (try dsimp only at hSw); go_simp; (try with_reducible rfl))
            simp only [Act.put, List.setIfInBounds_toArray, List.set_cons_zero, List.set_cons_succ]
            refine take_first 21 4 (v := ?vz_22) rfl rfl (by kernel_rfl) (by kernel_rfl) (by kernel_rfl) (fun _ _ _ h => h) (by rfl) ?yz_22 (by assumption) ?rz_22
            case yz_22 => (intro w hSw; (try dsimp only at hSw); go_simp; (try with_reducible rfl))
            simp only [Act.put, List.setIfInBounds_toArray, List.set_cons_zero, List.set_cons_succ]
            refine wpAnyH_done (by kernel_rfl) ?ez _
            clear k0
            have HBe := Lib.hid (HRd3.out _ HW8.out).2.2.2.2.2
            go_wp2
            go_ret
            exact ⟨rfl, HBe.out⟩

end Go.Proofs.YtecdibpiojgppaaGreat

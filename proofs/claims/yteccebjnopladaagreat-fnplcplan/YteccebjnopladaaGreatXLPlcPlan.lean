/- The walk of FnPlcPlan. By letgen.py. -/
import Derived.Test.YteccebjnopladaaGreatXDrawPlcPlan
import Derived.Test.YteccebjnopladaaGreatXJaHas
import Derived.Test.YteccebjnopladaaGreatXStoDoI
import Derived.Test.YteccebjnopladaaGreatXOutMay2
import Derived.Test.YteccebjnopladaaGreatXPlanLaw
import Derived.Test.YteccebjnopladaaGreatXJaPlan
import Derived.Test.YteccebjnopladaaGreatXJaSto
namespace Go.Proofs.YteccebjnopladaaGreat
open Go.RowKit

/-- A plan that may be: what it holds, and what it writes. -/
structure PlFine (its : List Item) (p tx : Int) (o : Op) (pl : Plan) : Prop where
  dup : pl.locks.Nodup
  ok : ∀ x ∈ pl.writes, wrtB x.key x.del x.val = true ∧ x.key ∈ pl.locks ∧ x.key.size ≤ maxLen
  plc : plcB p (stoDo its pl.writes) = true
  here : memB (placesP o) p = true
  ll : pl.locks.length ≤ 100
  wl : pl.writes.length ≤ 100
theorem pl_fine {its : List Item} {p tx : Int} {o : Op} (hl : its.length ≤ 13 ∨ its.length = 41) (h : (plcP its p tx o).ok = true) : PlFine its p tx o (plcP its p tx o) := by
  obtain ⟨ho, hp, ht, e⟩ := plcP_ok h
  have hq := plcB_which hp
  have h40 := (stoB_three (plc_parts hp).1).1
  rw [e] at h ⊢
  have hw : (planP its p tx o).writes.length ≤ its.length + 2 := by
    unfold planP doneP inP1 inP2 inP5 mayP2 mayP3 mayP4 mayP5 noP
    repeat' split
    all_goals first | (simp; done) | (simp; omega) | (simp only [List.length_map]; have := List.length_filter_le (famB o.who) its; omega)
  have hk : (planP its p tx o).locks.length ≤ its.length + 3 := by
    unfold planP doneP inP1 inP2 inP5 mayP2 mayP3 mayP4 mayP5 noP
    repeat' split
    all_goals first | (simp; done) | (simp; omega) | (simp only [List.length_cons, List.length_map]; have := List.length_filter_le (famB o.who) its; omega)
  refine ⟨plan_nodup hp, fun x hx => ?_, (step_facts hq hp ho ht (by omega)).1, ?_, by omega, by omega⟩
  · have h1 := (fits_plan hq hp ho ht x hx).1
    refine ⟨h1, plan_in x hx, ?_⟩
    have h2 : keyB x.key = true := by
      unfold Wr.ok wrtB at h1
      simp only [Bool.and_eq_true] at h1
      exact h1.1
    have h3 : ¬ ((x.key.size : Int) < 2 ∨ 3 < (x.key.size : Int)) := fun h => by rw [keyB_size h] at h2; cases h2
    unfold maxLen; omega
  · rw [memB_places ho hq]
    cases hh : hereB o.kind p with
    | true => rfl
    | false => rw [plan_here ho hq hh] at h; cases h
theorem free_take {xs : List ByteArray} (h : xs.Nodup) {k : Nat} {x : ByteArray} (hx : xs[k]? = some x) : hasT (xs.take k) x = false := by
  refine hasT_no fun hm => ?_
  obtain ⟨j, hj, e⟩ := List.getElem_of_mem hm
  rw [List.length_take] at hj
  obtain ⟨hk, e2⟩ := List.getElem?_eq_some_iff.1 hx
  rw [List.getElem_take] at e
  exact List.pairwise_iff_getElem.1 h j k (by omega) hk (by omega) (e.trans e2.symm)
theorem strs_take {w : World} {B b off c k : Nat} {xs : List ByteArray} (h : strSh.Row w B (.slice (some ⟨b, off, none⟩) xs.length c) xs) (hk : k ≤ xs.length) : strSh.Row w B (.slice (some ⟨b, off, none⟩) k c) (xs.take k) := by
  obtain ⟨A, c', e, h1, h2, hr⟩ := h
  injection e with ea _ ec
  subst ea ec
  have hl : (xs.take k).length = k := by rw [List.length_take]; omega
  refine ⟨_, c, by rw [hl], by omega, h2, fun hn => ?_⟩
  obtain ⟨b', off', hA, hb, hc⟩ := hr (by omega)
  refine ⟨b', off', hA, hb, fun j x hx => hc j x ?_⟩
  have hj : j < k := by have := (List.getElem?_eq_some_iff.1 hx).1; omega
  rwa [List.getElem?_take, if_pos hj] at hx

set_option maxRecDepth 100000 in
set_option maxHeartbeats 20000000 in
theorem lawPlcPlan_any (w : World) (v : Value) (n : Nat) (hv : Code8 w v n) :
    Calls Tryz.prog 4 #[v] w fun e w' => e = .returned (.bool true) ∧ Below w.heap.size w w' := by
  have HV := Lib.hid hv
  obtain ⟨A, c, f, rfl, h1, h2, -, -⟩ := hv
  unfold maxLen at h2
  by_cases hn : 1048576 < n
  · have hn' : (1048576 : Int) < (n : Int) := by omega
    go_enter Tryz.func4, Tryz.ntmps4
    go_wp2
    go_ret
    exact ⟨rfl, Below.refl _ _⟩
  have hn' : (n : Int) ≤ 1048576 := by omega
  clear hn
  go_enter Tryz.func4, Tryz.ntmps4
  go_wp2_with fail
  refine (drawPlcPlan_any _ _ n HV.out).mono ?_
  rintro e w1 ⟨p, u, its, tx, o, rfl, p0, p5, hil, t0, t1, hI, hb1⟩
  obtain ⟨Au, cu, rfl, -, -⟩ := hI.form
  have HB := Lib.hid (belowNext hb1 (belowTwo w1 (.cells #[.slice Au its.length cu] 35) (.cells #[.int .i64 o.kind, .int .i64 o.who, .int .i64 o.inn, .int .i64 o.code, .int .i64 o.sec, .int .i64 o.fam, .int .i64 o.gen] 37)))
  have HI := Lib.hid ((hI.below (belowTwo w1 (.cells #[.slice Au its.length cu] 35) (.cells #[.int .i64 o.kind, .int .i64 o.who, .int .i64 o.inn, .int .i64 o.code, .int .i64 o.sec, .int .i64 o.fam, .int .i64 o.gen] 37))).more (belowTwo w1 (.cells #[.slice Au its.length cu] 35) (.cells #[.int .i64 o.kind, .int .i64 o.who, .int .i64 o.inn, .int .i64 o.code, .int .i64 o.sec, .int .i64 o.fam, .int .i64 o.gen] 37)).size)
  have HS := Lib.hid ((Held.new w1 #[.slice Au its.length cu] 35).after (.cells #[.int .i64 o.kind, .int .i64 o.who, .int .i64 o.inn, .int .i64 o.code, .int .i64 o.sec, .int .i64 o.fam, .int .i64 o.gen] 37))
  have HO := Lib.hid (show Held ((w1.alloc (.cells #[.slice Au its.length cu] 35)).alloc (.cells #[.int .i64 o.kind, .int .i64 o.who, .int .i64 o.inn, .int .i64 o.code, .int .i64 o.sec, .int .i64 o.fam, .int .i64 o.gen] 37)) (w1.heap.size + 1) [.int .i64 o.kind, .int .i64 o.who, .int .i64 o.inn, .int .i64 o.code, .int .i64 o.sec, .int .i64 o.fam, .int .i64 o.gen] from by have h := Held.new (w1.alloc (.cells #[.slice Au its.length cu] 35)) #[.int .i64 o.kind, .int .i64 o.who, .int .i64 o.inn, .int .i64 o.code, .int .i64 o.sec, .int .i64 o.fam, .int .i64 o.gen] 37; rwa [allocSize] at h)
  clear hI hb1 HV
  unfold opV
  have s0 := HS.out.of 0 _ rfl
  obtain ⟨q0, q1, q2, q3, q4, q5, q6⟩ := HO.out.seven
  go_wp2_with fail
  clear s0 q0 q1 q2 q3 q4 q5 q6
  refine (implPlcPlan_any _ p _ its HI.out tx o).mono ?_
  rintro e w2 ⟨ua, ub, rfl, ho9, hb9⟩
  obtain ⟨pl, hpl⟩ : ∃ pl, plcP its p tx o = pl := ⟨_, rfl⟩
  rw [hpl] at ho9 ⊢
  have HPl := Lib.hid hpl
  obtain ⟨ua', ub', S1, S2, hcs, hl9, hw9, -, -, -⟩ := plan_own.1 ho9
  obtain ⟨rfl, rfl⟩ : ua = ua' ∧ ub = ub' := by simpa using hcs
  obtain ⟨Aa, ca, hfa, -, -⟩ := hl9.row.form
  obtain ⟨Ab, cb, hfb, -, -⟩ := hw9.row.form
  subst hfa hfb
  have HLo := Lib.hid hl9.row
  have HWo := Lib.hid hw9.row
  replace HB := Lib.hid (belowNext HB.out hb9)
  replace HI := Lib.hid ((HI.out.below hb9).more hb9.size)
  replace HS := Lib.hid (HS.out.below hb9 HS.out.1)
  replace HO := Lib.hid (HO.out.below hb9 HO.out.1)
  have HBp := Lib.hid (belowOne w2 (.cells #[.bool pl.ok, .slice Aa pl.locks.length ca, .slice Ab pl.writes.length cb] 31))
  have HX := Lib.hid (Held.new w2 #[.bool pl.ok, .slice Aa pl.locks.length ca, .slice Ab pl.writes.length cb] 31)
  clear hb9 ho9 hcs hl9 hw9 hpl
  have HAll := Lib.hid (fun (X : World) (hX : Below (w2.alloc (.cells #[.bool pl.ok, .slice Aa pl.locks.length ca, .slice Ab pl.writes.length cb] 31)).heap.size (w2.alloc (.cells #[.bool pl.ok, .slice Aa pl.locks.length ca, .slice Ab pl.writes.length cb] 31)) X) => show X.cell? ⟨w2.heap.size, 0, none⟩ = some (.bool pl.ok) ∧ X.cell? ⟨w2.heap.size, 1, none⟩ = some (.slice Aa pl.locks.length ca) ∧ X.cell? ⟨w2.heap.size, 2, none⟩ = some (.slice Ab pl.writes.length cb) ∧ X.cell? ⟨w1.heap.size, 0, none⟩ = some (.slice Au its.length cu) ∧ X.cell? ⟨w1.heap.size + 1, 0, none⟩ = some (.int .i64 o.kind) ∧ X.cell? ⟨w1.heap.size + 1, 1, none⟩ = some (.int .i64 o.who) ∧ X.cell? ⟨w1.heap.size + 1, 2, none⟩ = some (.int .i64 o.inn) ∧ X.cell? ⟨w1.heap.size + 1, 3, none⟩ = some (.int .i64 o.code) ∧ X.cell? ⟨w1.heap.size + 1, 4, none⟩ = some (.int .i64 o.sec) ∧ X.cell? ⟨w1.heap.size + 1, 5, none⟩ = some (.int .i64 o.fam) ∧ X.cell? ⟨w1.heap.size + 1, 6, none⟩ = some (.int .i64 o.gen) from
    have h2 : Below w2.heap.size w2 X := belowNext HBp.out hX
    ⟨(HX.out.below hX HX.out.1).of 0 _ rfl, (HX.out.below hX HX.out.1).of 1 _ rfl, (HX.out.below hX HX.out.1).of 2 _ rfl, (HS.out.below h2 HS.out.1).of 0 _ rfl, (HO.out.below h2 HO.out.1).seven⟩)
  have HRd := Lib.hid (fun (X : World) (hX : Below (w2.alloc (.cells #[.bool pl.ok, .slice Aa pl.locks.length ca, .slice Ab pl.writes.length cb] 31)).heap.size (w2.alloc (.cells #[.bool pl.ok, .slice Aa pl.locks.length ca, .slice Ab pl.writes.length cb] 31)) X) => show Items X X.heap.size (.slice Au its.length cu) its ∧ strSh.Row X X.heap.size (.slice Aa pl.locks.length ca) pl.locks ∧ wrSh.Row X X.heap.size (.slice Ab pl.writes.length cb) pl.writes ∧ Below w.heap.size w X from
    have h2 : Below w2.heap.size w2 X := belowNext HBp.out hX
    ⟨(HI.out.below h2).more h2.size, (HLo.out.below h2).more h2.size, (HWo.out.below h2).more h2.size, belowNext HB.out h2⟩)
  have HW0 := Lib.hid (show Below (w2.alloc (.cells #[.bool pl.ok, .slice Aa pl.locks.length ca, .slice Ab pl.writes.length cb] 31)).heap.size (w2.alloc (.cells #[.bool pl.ok, .slice Aa pl.locks.length ca, .slice Ab pl.writes.length cb] 31)) (w2.alloc (.cells #[.bool pl.ok, .slice Aa pl.locks.length ca, .slice Ab pl.writes.length cb] 31)) from Below.refl _ _)
  clear HX HBp HLo HWo HS HO HI HB
  go_upto_region 5 with fail
  generalize (w2.alloc (.cells #[.bool pl.ok, .slice Aa pl.locks.length ca, .slice Ab pl.writes.length cb] 31)) = w3 at *
  have HW1 := Lib.hid (show Below w3.heap.size w3 w3.drew from HW0.out.drew)
  have k0 := HAll.out _ HW1.out
  refine wp_region_held_drew (S := (fun w' => w'.cell? ⟨w2.heap.size, 0, none⟩ = some (.bool pl.ok) ∧ w'.cell? ⟨w2.heap.size, 1, none⟩ = some (.slice Aa pl.locks.length ca) ∧ w'.cell? ⟨w2.heap.size, 2, none⟩ = some (.slice Ab pl.writes.length cb) ∧ w'.cell? ⟨w1.heap.size, 0, none⟩ = some (.slice Au its.length cu) ∧ w'.cell? ⟨w1.heap.size + 1, 0, none⟩ = some (.int .i64 o.kind) ∧ w'.cell? ⟨w1.heap.size + 1, 1, none⟩ = some (.int .i64 o.who) ∧ w'.cell? ⟨w1.heap.size + 1, 2, none⟩ = some (.int .i64 o.inn) ∧ w'.cell? ⟨w1.heap.size + 1, 3, none⟩ = some (.int .i64 o.code) ∧ w'.cell? ⟨w1.heap.size + 1, 4, none⟩ = some (.int .i64 o.sec) ∧ w'.cell? ⟨w1.heap.size + 1, 5, none⟩ = some (.int .i64 o.fam) ∧ w'.cell? ⟨w1.heap.size + 1, 6, none⟩ = some (.int .i64 o.gen))) (by kernel_rfl) ?hSa (fun hHelda => ?sta)
  case hSa => (first | (dsimp only; (first | with_reducible exact k2 | with_reducible exact k1 | with_reducible exact k0 | exact k0)) | (first | with_reducible exact k2 | with_reducible exact k1 | with_reducible exact k0 | exact k0))
  refine take_first 0 25 (v := ?va_1) rfl rfl (by kernel_rfl) (by kernel_rfl) (by kernel_rfl) (fun _ _ _ h => h) (by rfl) ?ya_1 (by assumption) ?ra_1
  case ya_1 => (intro w hSw; (try dsimp only at hSw); go_simp; (try with_reducible rfl))
  simp only [Act.put, List.setIfInBounds_toArray, List.set_cons_zero, List.set_cons_succ]
  refine take_first 1 26 (v := ?va_2) rfl rfl (by kernel_rfl) (by kernel_rfl) (by kernel_rfl) (fun _ _ _ h => h) (by rfl) ?ya_2 (by assumption) ?ra_2
  case ya_2 => (intro w hSw; (try dsimp only at hSw); go_simp; (try with_reducible rfl))
  simp only [Act.put, List.setIfInBounds_toArray, List.set_cons_zero, List.set_cons_succ]
  refine take_first 2 27 (v := ?va_3) rfl rfl (by kernel_rfl) (by kernel_rfl) (by kernel_rfl) (fun _ _ _ h => h) (by rfl) ?ya_3 (by assumption) ?ra_3
  case ya_3 => (intro w hSw; (try dsimp only at hSw); go_simp; (try with_reducible rfl))
  simp only [Act.put, List.setIfInBounds_toArray, List.set_cons_zero, List.set_cons_succ]
  refine take_first 3 28 (v := ?va_4) rfl rfl (by kernel_rfl) (by kernel_rfl) (by kernel_rfl) (fun _ _ _ h => h) (by rfl) ?ya_4 (by assumption) ?ra_4
  case ya_4 => (intro w hSw; (try dsimp only at hSw); go_simp; (try with_reducible rfl))
  simp only [Act.put, List.setIfInBounds_toArray, List.set_cons_zero, List.set_cons_succ]
  refine take_first 4 29 (v := ?va_5) rfl rfl (by kernel_rfl) (by kernel_rfl) (by kernel_rfl) (fun _ _ _ h => h) (by rfl) ?ya_5 (by assumption) ?ra_5
  case ya_5 => (intro w hSw; (try dsimp only at hSw); go_simp; (try with_reducible rfl))
  simp only [Act.put, List.setIfInBounds_toArray, List.set_cons_zero, List.set_cons_succ]
  refine wpAnyH_ready (rs := [5]) (by kernel_rfl) (by simp) ?_
  refine AllReadyH.cons (o := _) rfl (fun Ka_6 hKa_6 => ?ca_6) ?ma_6
  case ma_6 => exact AllReadyH.nil
  go_simp
  refine (specPlcPlan_any _ p _ its (HRd.out _ HW1.out).1 tx o).mono ?_; rintro e w4 ⟨us, ut, rfl, ho4, hb4⟩; rw [HPl.out] at ho4 ⊢; obtain ⟨us', ut', T1, T2, hcs4, hl4, hw4, -, -, -⟩ := plan_own.1 ho4; obtain ⟨rfl, rfl⟩ : us = us' ∧ ut = ut' := (by simpa using hcs4); have HL4 := Lib.hid hl4.row; have HW4 := Lib.hid hw4.row; have HW2 := Lib.hid (HW1.out.trans (hb4.mono HW1.out.size)); have k1 := HAll.out _ HW2.out; clear hb4 ho4 hcs4 hl4 hw4
  go_wp2_with fail
  refine hKa_6.out _ _ ?ka_6 (fun hHelda_6 => ?da_6)
  case ka_6 => (first | (dsimp only; (first | with_reducible exact k2 | with_reducible exact k1 | with_reducible exact k0 | exact k0)) | (first | with_reducible exact k2 | with_reducible exact k1 | with_reducible exact k0 | exact k0))
  clear hKa_6 Ka_6
  refine wpAnyH_ready (rs := [6]) (by kernel_rfl) (by simp) ?_
  refine AllReadyH.cons (o := _) rfl (fun Ka_7 hKa_7 => ?ca_7) ?ma_7
  case ma_7 => exact AllReadyH.nil
  go_simp
  refine (jaPlan_same _ _ _ _ _ pl.ok pl.locks pl.writes (HRd.out _ HW2.out).2.1 (HRd.out _ HW2.out).2.2.1 HL4.out HW4.out).mono ?_; rintro e w5 ⟨rfl, hb5⟩; have HW3 := Lib.hid (HW2.out.trans (hb5.mono HW2.out.size)); have k2 := HAll.out _ HW3.out; clear hb5
  go_wp2_with fail
  refine hKa_7.out _ _ ?ka_7 (fun hHelda_7 => ?da_7)
  case ka_7 => (first | (dsimp only; (first | with_reducible exact k2 | with_reducible exact k1 | with_reducible exact k0 | exact k0)) | (first | with_reducible exact k2 | with_reducible exact k1 | with_reducible exact k0 | exact k0))
  clear hKa_7 Ka_7
  refine take_first 7 32 (v := ?va_8) rfl rfl (by kernel_rfl) (by kernel_rfl) (by kernel_rfl) (fun _ _ _ h => h) (by rfl) ?ya_8 (by assumption) ?ra_8
  case ya_8 => (intro w hSw; (try dsimp only at hSw); go_simp; (try with_reducible rfl))
  simp only [Act.put, List.setIfInBounds_toArray, List.set_cons_zero, List.set_cons_succ]
  refine wpAnyH_done (by kernel_rfl) ?ea _
  clear k0 k1 k2 HW0 HW1 HW2 HL4 HW4
  have HZ := Lib.hid HW3.out
  clear HW3
  have HIl := Lib.hid hil
  clear hil
  cases hok : pl.ok with
  | false =>
    have hpw : pl.writes = [] := by rw [← HPl.out] at hok ⊢; exact plcP_no hok
    have HBz := Lib.hid (HRd.out _ HZ.out).2.2.2
    obtain ⟨pk, pls, pws⟩ := pl
    dsimp only at hok hpw
    subst hok hpw
    obtain ⟨c0, c1, c2, -⟩ := HAll.out _ HZ.out
    dsimp only [List.length_nil] at c0 c1 c2
    clear c1 HAll HRd
    go_wp2_with fail
    refine (jaOk_any _).mono ?_
    rintro e w6 ⟨rfl, hb6⟩
    have HBe := Lib.hid (belowNext HBz.out hb6)
    clear hb6
    go_wp2
    go_ret
    exact ⟨rfl, HBe.out⟩
  | true =>
    have HFi := Lib.hid (show PlFine its p tx o pl from by have h := pl_fine (its := its) (p := p) (tx := tx) (o := o) HIl.out (by rw [HPl.out]; exact hok); rwa [HPl.out] at h)
    have hll := HFi.out.ll
    have hwl := HFi.out.wl
    have HB0 := Lib.hid (show Below w5.heap.size w5 w5 from Below.refl _ _)
    have HZz := Lib.hid (show w3.heap.size ≤ w5.heap.size from HZ.out.size)
    obtain ⟨c0, -⟩ := HAll.out _ HZ.out
    rw [hok] at c0
    go_upto_region 9 with fail
    clear c0
    go_wp2
    go_loopw [8] (fun i wr => ∃ k : Nat, k ≤ pl.locks.length ∧ i = .int .i64 k ∧ Below w5.heap.size w5 wr) (fun i _ => pl.locks.length - (intOf i).toNat)
    case atStart => exact ⟨0, Nat.zero_le _, rfl, HB0.out⟩
    case round =>
      clear HB0
      obtain ⟨k, hk, rfl, hb⟩ := hrel
      have HBr := Lib.hid hb
      have HBr3 := Lib.hid (show Below w3.heap.size w3 wr from HZ.out.trans (hb.mono HZz.out))
      clear hb
      have c1 := (HAll.out _ HBr3.out).2.1
      by_cases hlt : k < pl.locks.length
      · have hki : (k : Int) < (pl.locks.length : Int) := by omega
        have hk0 : (0 : Int) ≤ (k : Int) := by omega
        have hkl : (k : Int) ≤ (pl.locks.length : Int) := by omega
        obtain ⟨bl, ol, dl, x, e1, hx, hBl, hsx, cx⟩ := strs_at (HRd.out _ HBr3.out).2.1 hlt
        injection e1 with e1a e1b e1c
        subst e1a
        have HTk := Lib.hid (strs_take (HRd.out _ HBr3.out).2.1 (show k ≤ pl.locks.length by omega))
        have HFr := Lib.hid (free_take HFi.out.dup hx)
        have hkc : k ≤ ca := by obtain ⟨A', c', e, h1, h2, -⟩ := (HRd.out _ HBr3.out).2.1; injection e with _ _ e; omega
        have hkci : (k : Int) ≤ (ca : Int) := by omega
        have k0 := And.intro c1 cx
        clear c1 cx hx e1b e1c hsx
        go_wp2
        refine wp_region_held_drew (S := (fun w' => w'.cell? ⟨w2.heap.size, 1, none⟩ = some (.slice (some ⟨bl, ol, none⟩) pl.locks.length ca) ∧ w'.cell? ⟨bl, ol + k, none⟩ = some (.string x))) (by kernel_rfl) ?hSl (fun hHeldl => ?stl)
        case hSl => (first | (dsimp only; (first | with_reducible exact k0 | exact k0)) | (first | with_reducible exact k0 | exact k0))
        refine take_first 0 50 (v := ?vl_1) rfl rfl (by kernel_rfl) (by kernel_rfl) (by kernel_rfl) (fun _ _ _ h => h) (by rfl) ?yl_1 (by assumption) ?rl_1
        case yl_1 => (intro w hSw; (try dsimp only at hSw); go_simp; (try with_reducible rfl))
        simp only [Act.put, List.setIfInBounds_toArray, List.set_cons_zero, List.set_cons_succ]
        refine take_first 1 51 (v := ?vl_2) rfl rfl (by kernel_rfl) (by kernel_rfl) (by kernel_rfl) (fun _ _ _ h => h) (by rfl) ?yl_2 (by assumption) ?rl_2
        case yl_2 => (intro w hSw; (try dsimp only at hSw); go_simp; (try with_reducible rfl))
        simp only [Act.put, List.setIfInBounds_toArray, List.set_cons_zero, List.set_cons_succ]
        refine take_first 2 52 (v := ?vl_3) rfl rfl (by kernel_rfl) (by kernel_rfl) (by kernel_rfl) (fun _ _ _ h => h) (by rfl) ?yl_3 (by assumption) ?rl_3
        case yl_3 => (intro w hSw; (try dsimp only at hSw); go_simp; (try with_reducible rfl))
        simp only [Act.put, List.setIfInBounds_toArray, List.set_cons_zero, List.set_cons_succ]
        refine take_first 3 53 (v := ?vl_4) rfl rfl (by kernel_rfl) (by kernel_rfl) (by kernel_rfl) (fun _ _ _ h => h) (by rfl) ?yl_4 (by assumption) ?rl_4
        case yl_4 => (intro w hSw; (try dsimp only at hSw); go_simp; (try with_reducible rfl))
        simp only [Act.put, List.setIfInBounds_toArray, List.set_cons_zero, List.set_cons_succ]
        refine take_first 4 54 (v := ?vl_5) rfl rfl (by kernel_rfl) (by kernel_rfl) (by kernel_rfl) (fun _ _ _ h => h) (by rfl) ?yl_5 (by assumption) ?rl_5
        case yl_5 => (intro w hSw; (try dsimp only at hSw); go_simp; (try with_reducible rfl))
        simp only [Act.put, List.setIfInBounds_toArray, List.set_cons_zero, List.set_cons_succ]
        refine take_first 5 55 (v := ?vl_6) rfl rfl (by kernel_rfl) (by kernel_rfl) (by kernel_rfl) (fun _ _ _ h => h) (by rfl) ?yl_6 (by assumption) ?rl_6
        case yl_6 => (intro w hSw; (try dsimp only at hSw); go_simp; (try with_reducible rfl))
        simp only [Act.put, List.setIfInBounds_toArray, List.set_cons_zero, List.set_cons_succ]
        refine take_first 6 56 (v := ?vl_7) rfl rfl (by kernel_rfl) (by kernel_rfl) (by kernel_rfl) (fun _ _ _ h => h) (by rfl) ?yl_7 (by assumption) ?rl_7
        case yl_7 => (intro w hSw; (try dsimp only at hSw); go_simp; (try with_reducible rfl))
        simp only [Act.put, List.setIfInBounds_toArray, List.set_cons_zero, List.set_cons_succ]
        refine take_first 7 57 (v := ?vl_8) rfl rfl (by kernel_rfl) (by kernel_rfl) (by kernel_rfl) (fun _ _ _ h => h) (by rfl) ?yl_8 (by assumption) ?rl_8
        case yl_8 => (intro w hSw; (try dsimp only at hSw); go_simp; (try with_reducible rfl))
        simp only [Act.put, List.setIfInBounds_toArray, List.set_cons_zero, List.set_cons_succ]
        refine take_first 8 58 (v := ?vl_9) rfl rfl (by kernel_rfl) (by kernel_rfl) (by kernel_rfl) (fun _ _ _ h => h) (by rfl) ?yl_9 (by assumption) ?rl_9
        case yl_9 => (intro w hSw; (try dsimp only at hSw); go_simp; (try with_reducible rfl))
        simp only [Act.put, List.setIfInBounds_toArray, List.set_cons_zero, List.set_cons_succ]
        refine wpAnyH_ready (rs := [9]) (by kernel_rfl) (by simp) ?_
        refine AllReadyH.cons (o := _) rfl (fun Kl_10 hKl_10 => ?cl_10) ?ml_10
        case ml_10 => exact AllReadyH.nil
        go_simp
        refine (jaHas_any _ _ _ _ _ (HTk.out.keep (w' := wr.drew) (fun _ _ _ => rfl))).mono ?_; rintro e wz ⟨rfl, rfl⟩; rw [HFr.out]
        go_wp2_with fail
        refine hKl_10.out _ _ ?kl_10 (fun hHeldl_10 => ?dl_10)
        case kl_10 => (first | (dsimp only; (first | with_reducible exact k0 | exact k0)) | (first | with_reducible exact k0 | exact k0))
        clear hKl_10 Kl_10
        refine wpAnyH_done (by kernel_rfl) ?el _
        clear k0
        go_wp2
        go_roundw
        case rel => exact ⟨k + 1, by omega, by go_num, HBr.out.drew⟩
        case measure => simp [intOf]; omega
      · have hki : ¬ (k : Int) < (pl.locks.length : Int) := by omega
        have HBr5 := Lib.hid (show Below wr.heap.size wr wr from Below.refl _ _)
        have HZr := Lib.hid (show w3.heap.size ≤ wr.heap.size from HBr3.out.size)
        go_wp2
        clear c1 HBr
        generalize wr = wL at *
        go_loopw [9] (fun i wq => ∃ q : Nat, q ≤ pl.writes.length ∧ i = .int .i64 q ∧ Below wL.heap.size wL wq) (fun i _ => pl.writes.length - (intOf i).toNat)
        case atStart => exact ⟨0, Nat.zero_le _, rfl, HBr5.out⟩
        case round =>
          clear HBr5
          obtain ⟨q, hq, rfl, hb⟩ := hrel
          have HBq := Lib.hid hb
          have HBq3 := Lib.hid (show Below w3.heap.size w3 wr from HBr3.out.trans (hb.mono HZr.out))
          clear hb
          obtain ⟨c0, c1, c2, c3, d0, d1, d2, d3, d4, d5, d6⟩ := HAll.out _ HBq3.out
          by_cases hqt : q < pl.writes.length
          · have hqi : (q : Int) < (pl.writes.length : Int) := by omega
            have hq0 : (0 : Int) ≤ (q : Int) := by omega
            obtain ⟨bw, ow, dw, x, cs, e1, hx, hBw, hrw, hcw⟩ := (HRd.out _ HBq3.out).2.2.1.at_ (k := q) hqt
            injection e1 with e1a e1b e1c
            subst e1a
            obtain ⟨pv, rfl, hsw, hpv⟩ := wr_rel.1 hrw
            obtain ⟨Av, cv, hvf, -, -⟩ := hpv.form
            subst hvf
            have y0 : wr.cell? ⟨bw, ow + q * 3, none⟩ = some (.string x.key) := hcw 0 _ rfl
            have y1 : wr.cell? ⟨bw, ow + q * 3 + 1, none⟩ = some (.bool x.del) := hcw 1 _ rfl
            have y2 : wr.cell? ⟨bw, ow + q * 3 + 2, none⟩ = some (.slice Av x.val.length cv) := hcw 2 _ rfl
            obtain ⟨hok1, hok2, hok3⟩ := HFi.out.ok x (List.mem_of_getElem? hx)
            have HOk := Lib.hid (And.intro hok1 (And.intro (hasT_yes hok2) hok3))
            have HPv := Lib.hid (ints_row.1 hpv)
            have HLk := Lib.hid (HRd.out _ HBq3.out).2.1
            have k0 := And.intro c1 (And.intro c2 (And.intro y0 (And.intro y1 y2)))
            have HC := Lib.hid (fun (X : World) (hX : Below wr.heap.size wr X) => And.intro (HAll.out _ (HBq3.out.trans (hX.mono HBq3.out.size))).2.1 (And.intro (HAll.out _ (HBq3.out.trans (hX.mono HBq3.out.size))).2.2.1 (And.intro ((hX.cell (p := ⟨bw, ow + q * 3, none⟩) hBw).trans y0) (And.intro ((hX.cell (p := ⟨bw, ow + q * 3 + 1, none⟩) hBw).trans y1) ((hX.cell (p := ⟨bw, ow + q * 3 + 2, none⟩) hBw).trans y2)))))
            clear hx hrw hcw hpv e1b e1c hok1 hok2 hok3 y0 y1 y2 c0 c1 c2 c3 d0 d1 d2 d3 d4 d5 d6 hsw
            go_wp2
            refine wp_region_held_drew (S := (fun w' => w'.cell? ⟨w2.heap.size, 1, none⟩ = some (.slice Aa pl.locks.length ca) ∧ w'.cell? ⟨w2.heap.size, 2, none⟩ = some (.slice (some ⟨bw, ow, none⟩) pl.writes.length cb) ∧ w'.cell? ⟨bw, ow + q * 3, none⟩ = some (.string x.key) ∧ w'.cell? ⟨bw, ow + q * 3 + 1, none⟩ = some (.bool x.del) ∧ w'.cell? ⟨bw, ow + q * 3 + 2, none⟩ = some (.slice Av x.val.length cv))) (by kernel_rfl) ?hSs (fun hHelds => ?sts)
            case hSs => (first | (dsimp only; (first | with_reducible exact k1 | with_reducible exact k0 | exact k0)) | (first | with_reducible exact k1 | with_reducible exact k0 | exact k0))
            refine take_first 0 67 (v := ?vs_1) rfl rfl (by kernel_rfl) (by kernel_rfl) (by kernel_rfl) (fun _ _ _ h => h) (by rfl) ?ys_1 (by assumption) ?rs_1
            case ys_1 => (intro w hSw; (try dsimp only at hSw); go_simp; (try with_reducible rfl))
            simp only [Act.put, List.setIfInBounds_toArray, List.set_cons_zero, List.set_cons_succ]
            refine take_first 1 68 (v := ?vs_2) rfl rfl (by kernel_rfl) (by kernel_rfl) (by kernel_rfl) (fun _ _ _ h => h) (by rfl) ?ys_2 (by assumption) ?rs_2
            case ys_2 => (intro w hSw; (try dsimp only at hSw); go_simp; (try with_reducible rfl))
            simp only [Act.put, List.setIfInBounds_toArray, List.set_cons_zero, List.set_cons_succ]
            refine take_first 2 69 (v := ?vs_3) rfl rfl (by kernel_rfl) (by kernel_rfl) (by kernel_rfl) (fun _ _ _ h => h) (by rfl) ?ys_3 (by assumption) ?rs_3
            case ys_3 => (intro w hSw; (try dsimp only at hSw); go_simp; (try with_reducible rfl))
            simp only [Act.put, List.setIfInBounds_toArray, List.set_cons_zero, List.set_cons_succ]
            refine take_first 3 70 (v := ?vs_4) rfl rfl (by kernel_rfl) (by kernel_rfl) (by kernel_rfl) (fun _ _ _ h => h) (by rfl) ?ys_4 (by assumption) ?rs_4
            case ys_4 => (intro w hSw; (try dsimp only at hSw); go_simp; (try with_reducible rfl))
            simp only [Act.put, List.setIfInBounds_toArray, List.set_cons_zero, List.set_cons_succ]
            refine take_first 4 71 (v := ?vs_5) rfl rfl (by kernel_rfl) (by kernel_rfl) (by kernel_rfl) (fun _ _ _ h => h) (by rfl) ?ys_5 (by assumption) ?rs_5
            case ys_5 => (intro w hSw; (try dsimp only at hSw); go_simp; (try with_reducible rfl))
            simp only [Act.put, List.setIfInBounds_toArray, List.set_cons_zero, List.set_cons_succ]
            refine wpAnyH_ready (rs := [5]) (by kernel_rfl) (by simp) ?_
            refine AllReadyH.cons (o := _) rfl (fun Ks_6 hKs_6 => ?cs_6) ?ms_6
            case ms_6 => exact AllReadyH.nil
            go_simp
            refine (implWrtOk_any _ x.key x.del _ x.val HOk.out.2.2 (HPv.out.keep (w' := wr.drew) (fun _ _ _ => rfl))).mono ?_; rintro e wy ⟨rfl, hby⟩; rw [HOk.out.1]; have HBy := Lib.hid (show Below wr.heap.size wr wy from belowNext (Below.refl _ wr).drew hby); have k1 := HC.out _ HBy.out; clear hby
            go_wp2_with fail
            refine hKs_6.out _ _ ?ks_6 (fun hHelds_6 => ?ds_6)
            case ks_6 => (first | (dsimp only; (first | with_reducible exact k1 | with_reducible exact k0 | exact k0)) | (first | with_reducible exact k1 | with_reducible exact k0 | exact k0))
            clear hKs_6 Ks_6
            refine take_first 6 73 (v := ?vs_7) rfl rfl (by kernel_rfl) (by kernel_rfl) (by kernel_rfl) (fun _ _ _ h => h) (by rfl) ?ys_7 (by assumption) ?rs_7
            case ys_7 => (intro w hSw; (try dsimp only at hSw); go_simp; (try with_reducible rfl))
            simp only [Act.put, List.setIfInBounds_toArray, List.set_cons_zero, List.set_cons_succ]
            refine take_first 7 74 (v := ?vs_8) rfl rfl (by kernel_rfl) (by kernel_rfl) (by kernel_rfl) (fun _ _ _ h => h) (by rfl) ?ys_8 (by assumption) ?rs_8
            case ys_8 => (intro w hSw; (try dsimp only at hSw); go_simp; (try with_reducible rfl))
            simp only [Act.put, List.setIfInBounds_toArray, List.set_cons_zero, List.set_cons_succ]
            refine take_first 8 75 (v := ?vs_9) rfl rfl (by kernel_rfl) (by kernel_rfl) (by kernel_rfl) (fun _ _ _ h => h) (by rfl) ?ys_9 (by assumption) ?rs_9
            case ys_9 => (intro w hSw; (try dsimp only at hSw); go_simp; (try with_reducible rfl))
            simp only [Act.put, List.setIfInBounds_toArray, List.set_cons_zero, List.set_cons_succ]
            refine take_first 9 76 (v := ?vs_10) rfl rfl (by kernel_rfl) (by kernel_rfl) (by kernel_rfl) (fun _ _ _ h => h) (by rfl) ?ys_10 (by assumption) ?rs_10
            case ys_10 => (intro w hSw; (try dsimp only at hSw); go_simp; (try with_reducible rfl))
            simp only [Act.put, List.setIfInBounds_toArray, List.set_cons_zero, List.set_cons_succ]
            refine take_first 10 77 (v := ?vs_11) rfl rfl (by kernel_rfl) (by kernel_rfl) (by kernel_rfl) (fun _ _ _ h => h) (by rfl) ?ys_11 (by assumption) ?rs_11
            case ys_11 => (intro w hSw; (try dsimp only at hSw); go_simp; (try with_reducible rfl))
            simp only [Act.put, List.setIfInBounds_toArray, List.set_cons_zero, List.set_cons_succ]
            refine take_first 11 78 (v := ?vs_12) rfl rfl (by kernel_rfl) (by kernel_rfl) (by kernel_rfl) (fun _ _ _ h => h) (by rfl) ?ys_12 (by assumption) ?rs_12
            case ys_12 => (intro w hSw; (try dsimp only at hSw); go_simp; (try with_reducible rfl))
            simp only [Act.put, List.setIfInBounds_toArray, List.set_cons_zero, List.set_cons_succ]
            refine take_first 12 79 (v := ?vs_13) rfl rfl (by kernel_rfl) (by kernel_rfl) (by kernel_rfl) (fun _ _ _ h => h) (by rfl) ?ys_13 (by assumption) ?rs_13
            case ys_13 => (intro w hSw; (try dsimp only at hSw); go_simp; (try with_reducible rfl))
            simp only [Act.put, List.setIfInBounds_toArray, List.set_cons_zero, List.set_cons_succ]
            refine take_first 13 80 (v := ?vs_14) rfl rfl (by kernel_rfl) (by kernel_rfl) (by kernel_rfl) (fun _ _ _ h => h) (by rfl) ?ys_14 (by assumption) ?rs_14
            case ys_14 => (intro w hSw; (try dsimp only at hSw); go_simp; (try with_reducible rfl))
            simp only [Act.put, List.setIfInBounds_toArray, List.set_cons_zero, List.set_cons_succ]
            refine take_first 14 81 (v := ?vs_15) rfl rfl (by kernel_rfl) (by kernel_rfl) (by kernel_rfl) (fun _ _ _ h => h) (by rfl) ?ys_15 (by assumption) ?rs_15
            case ys_15 => (intro w hSw; (try dsimp only at hSw); go_simp; (try with_reducible rfl))
            simp only [Act.put, List.setIfInBounds_toArray, List.set_cons_zero, List.set_cons_succ]
            refine take_first 15 82 (v := ?vs_16) rfl rfl (by kernel_rfl) (by kernel_rfl) (by kernel_rfl) (fun _ _ _ h => h) (by rfl) ?ys_16 (by assumption) ?rs_16
            case ys_16 => (intro w hSw; (try dsimp only at hSw); go_simp; (try with_reducible rfl))
            simp only [Act.put, List.setIfInBounds_toArray, List.set_cons_zero, List.set_cons_succ]
            refine wpAnyH_ready (rs := [16]) (by kernel_rfl) (by simp) ?_
            refine AllReadyH.cons (o := _) rfl (fun Ks_17 hKs_17 => ?cs_17) ?ms_17
            case ms_17 => exact AllReadyH.nil
            go_simp
            refine (jaHas_any _ _ _ pl.locks x.key (HLk.out.below HBy.out)).mono ?_; rintro e wz ⟨rfl, rfl⟩; rw [HOk.out.2.1]
            go_wp2_with fail
            refine hKs_17.out _ _ ?ks_17 (fun hHelds_17 => ?ds_17)
            case ks_17 => (first | (dsimp only; (first | with_reducible exact k1 | with_reducible exact k0 | exact k0)) | (first | with_reducible exact k1 | with_reducible exact k0 | exact k0))
            clear hKs_17 Ks_17
            refine take_first 17 84 (v := ?vs_18) rfl rfl (by kernel_rfl) (by kernel_rfl) (by kernel_rfl) (fun _ _ _ h => h) (by rfl) ?ys_18 (by assumption) ?rs_18
            case ys_18 => (intro w hSw; (try dsimp only at hSw); go_simp; (try with_reducible rfl))
            simp only [Act.put, List.setIfInBounds_toArray, List.set_cons_zero, List.set_cons_succ]
            refine take_first 18 85 (v := ?vs_19) rfl rfl (by kernel_rfl) (by kernel_rfl) (by kernel_rfl) (fun _ _ _ h => h) (by rfl) ?ys_19 (by assumption) ?rs_19
            case ys_19 => (intro w hSw; (try dsimp only at hSw); go_simp; (try with_reducible rfl))
            simp only [Act.put, List.setIfInBounds_toArray, List.set_cons_zero, List.set_cons_succ]
            refine wpAnyH_done (by kernel_rfl) ?es _
            clear k0 k1
            go_wp2
            go_roundw
            case rel => exact ⟨q + 1, by omega, by go_num, HBq.out.trans (HBy.out.mono HBq.out.size)⟩
            case measure => simp [intOf]; omega
          · have hqi : ¬ (q : Int) < (pl.writes.length : Int) := by omega
            have HWr := Lib.hid (wrts_row.1 (HRd.out _ HBq3.out).2.2.1)
            have HIq := Lib.hid (HRd.out _ HBq3.out).1
            clear c0 c1 d0 d1 d2 d3 d4 d5 d6
            go_wp2_with fail
            clear c2 c3
            refine (implStoDo_any _ _ _ its pl.writes HIq.out HWr.out).mono ?_
            rintro e wa ⟨ud, rfl, hod, hba⟩
            have HId := Lib.hid (items_row.1 hod.row)
            have HBa := Lib.hid (HBq3.out.trans (hba.mono HBq3.out.size))
            clear hod hba
            go_wp2_with fail
            refine (implPlcOk_any _ p _ _ HId.out).mono ?_
            rintro e wb ⟨rfl, hbb⟩
            rw [HFi.out.plc]
            have HBb := Lib.hid (HBa.out.trans (hbb.mono HBa.out.size))
            clear hbb
            obtain ⟨-, -, -, -, d0, d1, d2, d3, d4, d5, d6⟩ := HAll.out _ HBb.out
            go_wp2_with fail
            clear d0 d1 d2 d3 d4 d5 d6
            refine (implOpPlaces_any _ o).mono ?_
            rintro e wd ⟨up, rfl, hop, hbd⟩
            have HPp := Lib.hid hop.ints
            have HBd := Lib.hid (HBb.out.trans (hbd.mono HBb.out.size))
            clear hop hbd
            go_wp2_with fail
            refine (jaIn_any _ _ _ _ p HPp.out).mono ?_
            rintro e we ⟨rfl, rfl⟩
            rw [HFi.out.here]
            have HBz := Lib.hid (HRd.out _ HBd.out).2.2.2
            go_wp2
            go_ret
            exact ⟨rfl, HBz.out⟩

end Go.Proofs.YteccebjnopladaaGreat

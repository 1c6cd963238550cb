/- The methods that plan: coming in, letting, trading, the next, going out. By planmgen.py. -/
import Derived.Test.YtecdibpiojgppaaGreatXPlanSh
import Derived.Test.YtecdibpiojgppaaGreatXPlcIt
import Derived.Deep.QuietTactic
import Derived.BigQuiet
import Derived.Test.YtecdibpiojgppaaGreatXWrts
import Derived.Deep.DeepCutAuto
namespace Go.Proofs.YtecdibpiojgppaaGreat
open Go.RowKit

theorem inB_parts {n lo hi : Int} (h : inB n lo hi = true) : lo ≤ n ∧ n ≤ hi := by unfold inB at h; rwa [decide_eq_true_iff] at h
theorem opB_parts {o : Op} (h : opB o = true) : 0 ≤ o.who ∧ o.who ≤ 9 ∧ 0 ≤ o.inn ∧ o.inn ≤ 9 ∧ 0 ≤ o.code ∧ o.code ≤ 9 ∧ 0 ≤ o.sec ∧ o.sec ≤ 99 ∧ 0 ≤ o.fam ∧ o.fam ≤ 9 ∧ 0 ≤ o.gen ∧ o.gen ≤ 99 := by
  simp only [opB, Bool.and_eq_true] at h
  obtain ⟨a, b, c, d, e, f, -⟩ := h
  have := inB_parts a; have := inB_parts b; have := inB_parts c; have := inB_parts d; have := inB_parts e; have := inB_parts f
  omega
/-- What is found is one of the things. -/
theorem look_mem {its : List Item} {key : ByteArray} (h : lookOk its key = true) : ∃ it, it ∈ its ∧ it.key = key ∧ lookV its key = it.val := by
  unfold lookOk at h
  cases hf : look its key with
  | none => rw [hf] at h; cases h
  | some it =>
    refine ⟨it, ?_, ?_, lookV_some hf⟩
    · unfold look at hf; exact List.mem_of_find?_eq_some hf
    · unfold look at hf; simpa using List.find?_some hf
theorem look_item {its : List Item} {key : ByteArray} (hs : stoB its = true) (h : lookOk its key = true) : itemB ⟨key, lookV its key⟩ = true := by
  obtain ⟨it, hm, hk, hv⟩ := look_mem h
  obtain ⟨j, hj, rfl⟩ := List.getElem_of_mem hm
  have := (stoB_parts hs).2.1 j _ hj (List.getElem?_eq_getElem hj)
  rw [hv, ← hk]; exact this
theorem look_form {its : List Item} {p : Int} {key : ByteArray} (hf : formB p its = true) (h : lookOk its key = true) : itP p key (lookV its key) = true := by
  obtain ⟨it, hm, hk, hv⟩ := look_mem h
  unfold formB at hf
  have := List.all_eq_true.1 hf it hm
  rw [hv, ← hk]; exact this

set_option maxRecDepth 100000 in
set_option maxHeartbeats 2000000 in
theorem loginIn_any (w : World) (o : Op) (v : Value) (its : List Item) (hv : Items w w.heap.size v its) (hs : stoB its = true) (ho : opB o = true) :
    Calls Tryz.prog 161 #[opV o, .agg #[v]] w (Planned (inP1 its o) true w) := by
  obtain ⟨A, c, rfl, hc2, hc1⟩ := hv.form
  obtain ⟨b0, b1, b2, b3, b4, b5, b6, b7, b8, b9, b10, b11⟩ := opB_parts ho
  have HV := Lib.hid hv
  have HS := Lib.hid (Pl3.start w o (.slice A its.length c) 122 35 41)
  clear hv ho
  go_enter Tryz.func161, Tryz.ntmps161
  go_wp2_with (go_at_call 143; refine (numbered_any _ _ _ (by omega) (by omega)).mono ?_; rintro e w' ⟨rfl, rfl⟩)
  refine (implStoGet_any _ _ _ (keyN 115 o.inn) ((HV.out.below HS.out.bel).more HS.out.bel.size)).mono ?_
  rintro e w1 ⟨u, rfl, -, hb⟩
  rw [getOk_yes hs]
  replace HS := Lib.hid (HS.out.call hb)
  clear hb
  obtain ⟨hz0, hz1, hz2⟩ := HS.out.size
  rcases hlk : lookOk its (keyN 115 o.inn)
  · have HP := Lib.hid (show inP1 its o = _ by unfold inP1; rw [hlk, if_neg (by decide)])
    have o1 := HS.out.op.of 1 _ rfl
    have p0 := HS.out.pl.of 0 _ rfl
    have p1 := HS.out.pl.of 1 _ rfl
    have p2 := HS.out.pl.of 2 _ rfl
    have fr := HS.out.pl.2.1
    go_wp2
    clear o1 p0 p1 p2 fr
    have HQ := (((HS.out.pl.put3 (.bool true) (.slice (some ⟨w1.heap.size, 0, none⟩) 1 1) (.slice (some ⟨w1.heap.size + 1 + 1, 0, none⟩) 1 1)).after (.cells #[.string (keyN 115 o.inn)] 9)).after (.cells #[.int .i64 o.who] 3)).after (.cells #[.string (keyN 115 o.inn), .bool false, .slice (some ⟨w1.heap.size + 1, 0, none⟩) 1 1] 77)
    have q0 := HQ.of 0 _ rfl
    have q1 := HQ.of 1 _ rfl
    have q2 := HQ.of 2 _ rfl
    rw [HP.out]
    refine bodyPost_ret (v := .tuple #[.agg #[.bool true, .slice (some ⟨w1.heap.size, 0, none⟩) 1 1, .slice (some ⟨w1.heap.size + 1 + 1, 0, none⟩) 1 1], .bool true]) (by simp only [results, Tryz.results161, go_sem]; simp [go_sem, q0, q1, q2]) rfl ⟨_, _, rfl, planOne (w1 := w1) [keyN 115 o.inn] #[.string (keyN 115 o.inn)] #[.int .i64 o.who] (keyN 115 o.inn) [o.who] rfl (by simp [keyN_max]) (by unfold maxLen; simp) rfl (by unfold maxLen; simp) (keyN_max _ _) HS.out.bel.size (put3_size _ _ _ _ _) rfl, ?_⟩
    exact ((((((belowPut3 HS.out.bel (w.heap.size + 1 + 1) (by omega) _ _ _).alloc (by rw [put3_size]; omega) _)).alloc (by rw [alloc_size, put3_size]; omega) _)).alloc (by rw [alloc_size, alloc_size, put3_size]; omega) _)
  · have HP := Lib.hid (show inP1 its o = _ by unfold inP1; rw [hlk, if_pos rfl])
    go_wp2_with fail
    refine (refused_any _ _ _ _).mono ?_
    rintro e wq ⟨rfl, hb⟩
    have HB := Lib.hid hb
    have HT := Lib.hid ((HS.out.call (belowOne _ _)).call hb)
    have p0 := HT.out.pl.of 0 _ rfl
    have p1 := HT.out.pl.of 1 _ rfl
    have p2 := HT.out.pl.of 2 _ rfl
    have fr := HT.out.pl.2.1
    clear hb
    go_wp2
    clear p0 p1 p2 fr
    have HQ := HT.out.pl.put3 (.bool false) (.slice (some ⟨w1.heap.size, 0, none⟩) 1 1) (.slice none 0 0)
    have q0 := HQ.of 0 _ rfl
    have q1 := HQ.of 1 _ rfl
    have q2 := HQ.of 2 _ rfl
    rw [HP.out]
    refine bodyPost_ret (v := .tuple #[.agg #[.bool false, .slice (some ⟨w1.heap.size, 0, none⟩) 1 1, .slice none 0 0], .bool true]) (by simp only [results, Tryz.results161, go_sem]; simp [go_sem, q0, q1, q2]) rfl ⟨_, _, rfl, planNo [keyN 115 o.inn] #[.string (keyN 115 o.inn)] rfl (by simp [keyN_max]) (by unfold maxLen; simp) HS.out.bel.size hz2 HB.out _, ?_⟩
    exact belowPut3 HT.out.bel (w.heap.size + 1 + 1) (by omega) _ _ _

set_option maxRecDepth 100000 in
theorem noIn_any (w : World) (v : Value) : Calls Tryz.prog 165 #[.agg #[], .agg #[v]] w (Planned ⟨false, [], []⟩ false w) := by
  go_enter Tryz.func165, Tryz.ntmps165
  go_wp2
  refine bodyPost_ret (v := .tuple #[.agg #[.bool false, .slice none 0 0, .slice none 0 0], .bool false]) (by simp [results, Tryz.results165, go_sem]) rfl ⟨_, _, rfl, planOwn (pl := ⟨false, [], []⟩) w.heap.size (Sh.Own.nil _ (fun _ => False)) (Sh.Own.nil _ (fun _ => False)) (fun _ h => h.elim) (fun _ h => h.elim) (fun _ h _ => h) (Nat.le_refl _), ?_⟩
  exact belowThree _ _ _ _

set_option maxRecDepth 100000 in
theorem noMay_any (w : World) (v : Value) : Calls Tryz.prog 160 #[.agg #[], .agg #[v]] w (Planned ⟨false, [], []⟩ false w) := by
  go_enter Tryz.func160, Tryz.ntmps160
  go_wp2
  refine bodyPost_ret (v := .tuple #[.agg #[.bool false, .slice none 0 0, .slice none 0 0], .bool false]) (by simp [results, Tryz.results160, go_sem]) rfl ⟨_, _, rfl, planOwn (pl := ⟨false, [], []⟩) w.heap.size (Sh.Own.nil _ (fun _ => False)) (Sh.Own.nil _ (fun _ => False)) (fun _ h => h.elim) (fun _ h => h.elim) (fun _ h _ => h) (Nat.le_refl _), ?_⟩
  exact belowThree _ _ _ _

set_option maxRecDepth 100000 in
set_option maxHeartbeats 2000000 in
theorem session_any (w : World) (o : Op) (v : Value) (its : List Item) (hv : Items w w.heap.size v its) (hs : stoB its = true) (ho : opB o = true) :
    Calls Tryz.prog 142 #[opV o, .agg #[v]] w fun e w' => e = .returned (.tuple #[.string (keyN 115 o.inn), .bool (mineB its o)]) ∧ Below w.heap.size w w' := by
  obtain ⟨A, c, rfl, hc2, hc1⟩ := hv.form
  obtain ⟨b0, b1, b2, b3, b4, b5, b6, b7, b8, b9, b10, b11⟩ := opB_parts ho
  have HV := Lib.hid (fun (W : World) (hb : Below w.heap.size w W) => (hv.below hb).more hb.size)
  have HB := Lib.hid (belowTwo w (.cells #[.int .i64 o.kind, .int .i64 o.who, .int .i64 o.inn, .int .i64 o.code, .int .i64 o.sec, .int .i64 o.fam, .int .i64 o.gen] 118) (.cells #[.slice A its.length c] 35))
  have HH := Lib.hid ((Held.new w #[.int .i64 o.kind, .int .i64 o.who, .int .i64 o.inn, .int .i64 o.code, .int .i64 o.sec, .int .i64 o.fam, .int .i64 o.gen] 118).after (.cells #[.slice A its.length c] 35))
  clear hv ho
  go_enter Tryz.func142, Tryz.ntmps142
  go_wp2_with (go_at_call 143; refine (numbered_any _ _ _ (by omega) (by omega)).mono ?_; rintro e w' ⟨rfl, rfl⟩)
  refine (implStoGet_any _ _ _ (keyN 115 o.inn) (HV.out _ HB.out)).mono ?_
  rintro e w1 ⟨u, rfl, hu, hb⟩
  rw [getOk_yes hs]
  rw [getV_yes hs] at hu
  replace HH := Lib.hid (HH.out.below hb HH.out.1)
  replace HB := Lib.hid (belowNext HB.out hb)
  clear hb
  have o1 := HH.out.of 1 _ rfl
  rcases hlk : lookOk its (keyN 115 o.inn)
  · have HM := Lib.hid (show mineB its o = false by unfold mineB; rw [hlk]; rfl)
    clear hu
    go_wp2
    go_quiet (fail)
    go_wp2
    go_ret2
    exact ⟨by rw [HM.out]; rfl, by first | exact HB.out | exact belowDraws HB.out _⟩
  · have HM := Lib.hid (show mineB its o = (nth (lookV its (keyN 115 o.inn)) 0 == o.who) by unfold mineB; rw [hlk]; rfl)
    obtain ⟨-, -, n1, -, -⟩ := itemB_parts (look_item hs hlk)
    dsimp only at n1
    have hI := hu.ints
    obtain ⟨A', cc, rfl, hd1, hd2, hrow⟩ := hI
    obtain ⟨b, off, rfl, hb', hcell⟩ := hrow (by omega)
    have v0 := hcell 0 (by omega)
    rw [Nat.add_zero] at v0
    unfold maxLen at hd2
    have n2 : (0 : Int) < ((lookV its (keyN 115 o.inn)).length : Int) := by omega
    have n3 : 0 < (lookV its (keyN 115 o.inn)).length := by omega
    clear hu hrow hcell
    generalize lookV its (keyN 115 o.inn) = xs at *
    go_wp2
    go_quiet (fail)
    go_wp2
    go_ret2
    exact ⟨by rw [HM.out]; rfl, by first | exact HB.out | exact belowDraws HB.out _⟩

set_option maxRecDepth 100000 in
set_option maxHeartbeats 2000000 in
theorem letIn_any (w : World) (o : Op) (v : Value) (its : List Item) (hv : Items w w.heap.size v its) (hs : stoB its = true) (ho : opB o = true) :
    Calls Tryz.prog 162 #[opV o, .agg #[v]] w (Planned (inP2 its o) true w) := by
  obtain ⟨A, c, rfl, hc2, hc1⟩ := hv.form
  obtain ⟨b0, b1, b2, b3, b4, b5, b6, b7, b8, b9, b10, b11⟩ := opB_parts ho
  have HV := Lib.hid hv
  have HS := Lib.hid (Pl3.start w o (.slice A its.length c) 124 35 41)
  have HO := Lib.hid ho
  clear hv ho
  go_enter Tryz.func162, Tryz.ntmps162
  go_wp2_with fail
  refine (session_any _ o _ _ ((HV.out.below HS.out.bel).more HS.out.bel.size) hs HO.out).mono ?_
  rintro e w1 ⟨rfl, hb⟩
  replace HS := Lib.hid (HS.out.call hb)
  clear hb
  obtain ⟨hz0, hz1, hz2⟩ := HS.out.size
  have HP := Lib.hid (show inP2 its o = ⟨mineB its o, [keyN 115 o.inn], []⟩ from rfl)
  have p0 := HS.out.pl.of 0 _ rfl
  have p1 := HS.out.pl.of 1 _ rfl
  have p2 := HS.out.pl.of 2 _ rfl
  have fr := HS.out.pl.2.1
  go_wp2
  clear  p0 p1 p2 fr
  have hL := strs_lit (put3 w1 (w.heap.size + 1 + 1) (.bool (mineB its o)) (.slice (some ⟨w1.heap.size, 0, none⟩) 1 1) (.slice none 0 0)) [keyN 115 o.inn] #[.string (keyN 115 o.inn)] rfl (by simp [keyN_max]) (by unfold maxLen; simp)
  rw [put3_size] at hL
  have HQ := (HS.out.pl.put3 (.bool (mineB its o)) (.slice (some ⟨w1.heap.size, 0, none⟩) 1 1) (.slice none 0 0)).after (.cells #[.string (keyN 115 o.inn)] 9)
  have q0 := HQ.of 0 _ rfl
  have q1 := HQ.of 1 _ rfl
  have q2 := HQ.of 2 _ rfl
  rw [HP.out]
  refine bodyPost_ret (v := .tuple #[.agg #[.bool ((mineB its o)), .slice (some ⟨w1.heap.size, 0, none⟩) 1 1, .slice none 0 0], .bool true]) (by simp only [results, Tryz.results162, go_sem]; simp [go_sem, q0, q1, q2]) rfl ⟨_, _, rfl, planOwn (pl := ⟨mineB its o, [keyN 115 o.inn], []⟩) w1.heap.size hL (Sh.Own.nil _ (fun _ => False)) (fun b hb => by omega) (fun b hb => hb.elim) (fun b _ h2 => h2) HS.out.bel.size, ?_⟩
  exact ((belowPut3 HS.out.bel (w.heap.size + 1 + 1) (by omega) _ _ _).alloc (by rw [put3_size]; omega) _)

set_option maxRecDepth 100000 in
set_option maxHeartbeats 2000000 in
theorem outIn_any (w : World) (o : Op) (v : Value) (its : List Item) (hv : Items w w.heap.size v its) (hs : stoB its = true) (ho : opB o = true) :
    Calls Tryz.prog 169 #[opV o, .agg #[v]] w (Planned (inP5 its o) true w) := by
  obtain ⟨A, c, rfl, hc2, hc1⟩ := hv.form
  obtain ⟨b0, b1, b2, b3, b4, b5, b6, b7, b8, b9, b10, b11⟩ := opB_parts ho
  have HV := Lib.hid hv
  have HS := Lib.hid (Pl3.start w o (.slice A its.length c) 129 35 41)
  have HO := Lib.hid ho
  clear hv ho
  go_enter Tryz.func169, Tryz.ntmps169
  go_wp2_with fail
  refine (session_any _ o _ _ ((HV.out.below HS.out.bel).more HS.out.bel.size) hs HO.out).mono ?_
  rintro e w1 ⟨rfl, hb⟩
  replace HS := Lib.hid (HS.out.call hb)
  clear hb
  obtain ⟨hz0, hz1, hz2⟩ := HS.out.size
  rcases hm : mineB its o
  · have HP := Lib.hid (show inP5 its o = _ by unfold inP5; rw [hm, if_neg (by decide)])
    go_wp2_with fail
    refine (refused_any _ _ _ _).mono ?_
    rintro e wq ⟨rfl, hb⟩
    have HB := Lib.hid hb
    have HT := Lib.hid ((HS.out.call (belowOne _ _)).call hb)
    have p0 := HT.out.pl.of 0 _ rfl
    have p1 := HT.out.pl.of 1 _ rfl
    have p2 := HT.out.pl.of 2 _ rfl
    have fr := HT.out.pl.2.1
    clear hb
    go_wp2
    clear p0 p1 p2 fr
    have HQ := HT.out.pl.put3 (.bool false) (.slice (some ⟨w1.heap.size, 0, none⟩) 1 1) (.slice none 0 0)
    have q0 := HQ.of 0 _ rfl
    have q1 := HQ.of 1 _ rfl
    have q2 := HQ.of 2 _ rfl
    rw [HP.out]
    refine bodyPost_ret (v := .tuple #[.agg #[.bool false, .slice (some ⟨w1.heap.size, 0, none⟩) 1 1, .slice none 0 0], .bool true]) (by simp only [results, Tryz.results169, go_sem]; simp [go_sem, q0, q1, q2]) rfl ⟨_, _, rfl, planNo [keyN 115 o.inn] #[.string (keyN 115 o.inn)] rfl (by simp [keyN_max]) (by unfold maxLen; simp) HS.out.bel.size hz2 HB.out _, ?_⟩
    exact belowPut3 HT.out.bel (w.heap.size + 1 + 1) (by omega) _ _ _
  · have HP := Lib.hid (show inP5 its o = _ by unfold inP5; rw [hm, if_pos rfl])
    have p0 := HS.out.pl.of 0 _ rfl
    have p1 := HS.out.pl.of 1 _ rfl
    have p2 := HS.out.pl.of 2 _ rfl
    have fr := HS.out.pl.2.1
    go_wp2
    clear  p0 p1 p2 fr
    have hL := strs_lit (put3 w1 (w.heap.size + 1 + 1) (.bool true) (.slice (some ⟨w1.heap.size, 0, none⟩) 1 1) (.slice (some ⟨w1.heap.size + 1, 0, none⟩) 1 1)) [keyN 115 o.inn] #[.string (keyN 115 o.inn)] rfl (by simp [keyN_max]) (by unfold maxLen; simp)
    have hW := wrs_lit1 ((put3 w1 (w.heap.size + 1 + 1) (.bool true) (.slice (some ⟨w1.heap.size, 0, none⟩) 1 1) (.slice (some ⟨w1.heap.size + 1, 0, none⟩) 1 1)).alloc (.cells #[.string (keyN 115 o.inn)] 9)) (fun _ => False) (keyN 115 o.inn) true (.slice none 0 0) [] (keyN_max _ _) (Sh.Own.nil _ _) (fun _ h => h.elim)
    rw [put3_size] at hL
    rw [alloc_size, put3_size] at hW
    have HQ := ((HS.out.pl.put3 (.bool true) (.slice (some ⟨w1.heap.size, 0, none⟩) 1 1) (.slice (some ⟨w1.heap.size + 1, 0, none⟩) 1 1)).after (.cells #[.string (keyN 115 o.inn)] 9)).after (.cells #[.string (keyN 115 o.inn), .bool true, .slice none 0 0] 77)
    have q0 := HQ.of 0 _ rfl
    have q1 := HQ.of 1 _ rfl
    have q2 := HQ.of 2 _ rfl
    rw [HP.out]
    refine bodyPost_ret (v := .tuple #[.agg #[.bool true, .slice (some ⟨w1.heap.size, 0, none⟩) 1 1, .slice (some ⟨w1.heap.size + 1, 0, none⟩) 1 1], .bool true]) (by simp only [results, Tryz.results169, go_sem]; simp [go_sem, q0, q1, q2]) rfl ⟨_, _, rfl, planOwn (pl := ⟨true, [keyN 115 o.inn], [⟨keyN 115 o.inn, true, []⟩]⟩) w1.heap.size (hL.below (belowOne _ _)) hW (fun b hb => by omega) (fun b hb => by rcases hb with h | h <;> first | exact h.elim | omega) (fun b h1 h2 => by rcases h2 with h | h <;> first | exact h.elim | omega) HS.out.bel.size, ?_⟩
    exact ((((belowPut3 HS.out.bel (w.heap.size + 1 + 1) (by omega) _ _ _).alloc (by rw [put3_size]; omega) _)).alloc (by rw [alloc_size, put3_size]; omega) _)

set_option maxRecDepth 100000 in
set_option maxHeartbeats 2000000 in
theorem letMay_any (w : World) (o : Op) (v : Value) (its : List Item) (hv : Items w w.heap.size v its) (hs : stoB its = true) (ho : opB o = true) :
    Calls Tryz.prog 163 #[opV o, .agg #[v]] w (Planned (mayP2 its o) true w) := by
  obtain ⟨A, c, rfl, hc2, hc1⟩ := hv.form
  obtain ⟨b0, b1, b2, b3, b4, b5, b6, b7, b8, b9, b10, b11⟩ := opB_parts ho
  have HV := Lib.hid hv
  have HS := Lib.hid (Pl3.start w o (.slice A its.length c) 124 35 41)
  clear hv ho
  go_enter Tryz.func163, Tryz.ntmps163
  go_wp2_with (go_at_call 143; refine (numbered_any _ _ _ (by omega) (by omega)).mono ?_; rintro e w' ⟨rfl, rfl⟩)
  refine (implStoGet_any _ _ _ (keyN 99 o.code) ((HV.out.below HS.out.bel).more HS.out.bel.size)).mono ?_
  rintro e w1 ⟨u, rfl, -, hb⟩
  rw [getOk_yes hs]
  replace HS := Lib.hid (HS.out.call hb)
  clear hb
  obtain ⟨hz0, hz1, hz2⟩ := HS.out.size
  rcases hlk : lookOk its (keyN 99 o.code)
  · have HP := Lib.hid (show mayP2 its o = _ by unfold mayP2; rw [hlk, if_neg (by decide)])
    have o1 := HS.out.op.of 1 _ rfl
    have o4 := HS.out.op.of 4 _ rfl
    go_upto_region 5 with fail
    clear o1 o4
    have HS2 := Lib.hid (HS.out.call (belowOne w1 (.cells #[.int .i64 o.who, .int .i64 (secS o.sec)] 3))).drewOne
    have k0 := And.intro (HS.out.drewOne.op.of 1 _ rfl) (HS.out.drewOne.op.of 4 _ rfl)
    have k1 := And.intro (HS2.out.op.of 1 _ rfl) (HS2.out.op.of 4 _ rfl)
    refine wp_region_held_drew (S := (fun w' => w'.cell? ⟨w.heap.size, 1, none⟩ = some (.int .i64 o.who) ∧ w'.cell? ⟨w.heap.size, 4, none⟩ = some (.int .i64 o.sec))) (by kernel_rfl) ?hSr (fun hHeldr => ?str)
    case hSr => (first | (dsimp only; (first | with_reducible exact k1 | with_reducible exact k0)) | (first | with_reducible exact k1 | with_reducible exact k0))
    refine take_first 0 25 (v := ?vr_1) rfl rfl (by kernel_rfl) (by kernel_rfl) (by kernel_rfl) (fun _ _ _ h => h) (by rfl) ?yr_1 (by assumption) ?rr_1
    case yr_1 => (intro w hSw; (try dsimp only at hSw); go_simp; (try with_reducible rfl))
    simp only [Act.put, List.setIfInBounds_toArray, List.set_cons_zero, List.set_cons_succ]
    refine take_first 1 26 (v := ?vr_2) rfl rfl (by kernel_rfl) (by kernel_rfl) (by kernel_rfl) (fun _ _ _ h => h) (by rfl) ?yr_2 (by assumption) ?rr_2
    case yr_2 => (intro w hSw; (try dsimp only at hSw); go_simp; (try with_reducible rfl))
    simp only [Act.put, List.setIfInBounds_toArray, List.set_cons_zero, List.set_cons_succ]
    refine take_first 2 27 (v := ?vr_3) rfl rfl (by kernel_rfl) (by kernel_rfl) (by kernel_rfl) (fun _ _ _ h => h) (by rfl) ?yr_3 (by assumption) ?rr_3
    case yr_3 => (intro w hSw; (try dsimp only at hSw); go_simp; (try with_reducible rfl))
    simp only [Act.put, List.setIfInBounds_toArray, List.set_cons_zero, List.set_cons_succ]
    refine take_first 3 28 (v := ?vr_4) rfl rfl (by kernel_rfl) (by kernel_rfl) (by kernel_rfl) (fun _ _ _ h => h) (by rfl) ?yr_4 (by assumption) ?rr_4
    case yr_4 => (intro w hSw; (try dsimp only at hSw); go_simp; (try with_reducible rfl))
    simp only [Act.put, List.setIfInBounds_toArray, List.set_cons_zero, List.set_cons_succ]
    refine take_first 4 29 (v := ?vr_5) rfl rfl (by kernel_rfl) (by kernel_rfl) (by kernel_rfl) (fun _ _ _ h => h) (by rfl) ?yr_5 (by assumption) ?rr_5
    case yr_5 => (intro w hSw; (try dsimp only at hSw); go_simp; (try with_reducible rfl))
    simp only [Act.put, List.setIfInBounds_toArray, List.set_cons_zero, List.set_cons_succ]
    refine take_first 5 30 (v := ?vr_6) rfl rfl (by kernel_rfl) (by kernel_rfl) (by kernel_rfl) (fun _ _ _ h => h) (by rfl) ?yr_6 (by assumption) ?rr_6
    case yr_6 => (intro w hSw; (try dsimp only at hSw); go_simp; (try with_reducible rfl))
    simp only [Act.put, List.setIfInBounds_toArray, List.set_cons_zero, List.set_cons_succ]
    refine take_first 6 31 (v := ?vr_7) rfl rfl (by kernel_rfl) (by kernel_rfl) (by kernel_rfl) (fun _ _ _ h => h) (by rfl) ?yr_7 (by assumption) ?rr_7
    case yr_7 => (intro w hSw; (try dsimp only at hSw); go_simp; (try with_reducible rfl))
    simp only [Act.put, List.setIfInBounds_toArray, List.set_cons_zero, List.set_cons_succ]
    refine take_first 7 32 (v := ?vr_8) rfl rfl (by kernel_rfl) (by kernel_rfl) (by kernel_rfl) (fun _ _ _ h => h) (by rfl) ?yr_8 (by assumption) ?rr_8
    case yr_8 => (intro w hSw; (try dsimp only at hSw); go_simp; (try with_reducible rfl))
    simp only [Act.put, List.setIfInBounds_toArray, List.set_cons_zero, List.set_cons_succ]
    refine wpAnyH_ready (rs := [8]) (by kernel_rfl) (by simp) ?_
    refine AllReadyH.cons (o := _) rfl (fun Kr_9 hKr_9 => ?cr_9) ?mr_9
    case mr_9 => exact AllReadyH.nil
    go_simp
    refine (implSecSum_any _ _).mono ?_; rintro e w5 ⟨rfl, rfl⟩
    go_wp2_with fail
    refine hKr_9.out _ _ ?kr_9 (fun hHeldr_9 => ?dr_9)
    case kr_9 => (first | (dsimp only; (first | with_reducible exact k1 | with_reducible exact k0)) | (first | with_reducible exact k1 | with_reducible exact k0))
    clear hKr_9 Kr_9
    refine wpAnyH_ready (rs := [9]) (by kernel_rfl) (by simp) ?_
    refine AllReadyH.cons (o := _) rfl (fun Kr_10 hKr_10 => ?cr_10) ?mr_10
    case mr_10 => exact AllReadyH.nil
    go_simp
    skip
    go_wp2_with fail
    refine hKr_10.out _ _ ?kr_10 (fun hHeldr_10 => ?dr_10)
    case kr_10 => (first | (dsimp only; (first | with_reducible exact k1 | with_reducible exact k0)) | (first | with_reducible exact k1 | with_reducible exact k0))
    clear hKr_10 Kr_10
    refine take_first 10 9 (v := ?vr_11) rfl rfl (by kernel_rfl) (by kernel_rfl) (by kernel_rfl) (fun _ _ _ h => h) (by rfl) ?yr_11 (by assumption) ?rr_11
    case yr_11 => (intro w hSw; (try dsimp only at hSw); go_simp; (try with_reducible rfl))
    simp only [Act.put, List.setIfInBounds_toArray, List.set_cons_zero, List.set_cons_succ]
    refine wpAnyH_done (by kernel_rfl) ?er _
    have HI := Lib.hid (show Sh.int.Own 3 (w1.alloc (.cells #[.int .i64 o.who, .int .i64 (secS o.sec)] 3)).drew (fun b => b = w1.heap.size) (.slice (some ⟨w1.heap.size, 0, none⟩) 2 2) [o.who, secS o.sec] from ints_lit w1 [o.who, secS o.sec] _ rfl (by unfold maxLen; simp))
    have hzz : (w1.alloc (.cells #[.int .i64 o.who, .int .i64 (secS o.sec)] 3)).drew.heap.size = w1.heap.size + 1 := alloc_size _ _
    clear k0 k1 HS
    generalize (w1.alloc (.cells #[.int .i64 o.who, .int .i64 (secS o.sec)] 3)).drew = w2 at *
    have HS := HS2
    have HZ := Lib.hid hzz
    clear HS2 hzz
    obtain ⟨hy0, hy1, hy2⟩ := HS.out.size
    have p0 := HS.out.pl.of 0 _ rfl
    have p1 := HS.out.pl.of 1 _ rfl
    have p2 := HS.out.pl.of 2 _ rfl
    have fr := HS.out.pl.2.1
    go_wp2
    clear  p0 p1 p2 fr
    have hzz := HZ.out
    have hL := strs_lit (put3 w2 (w.heap.size + 1 + 1) (.bool true) (.slice (some ⟨w2.heap.size, 0, none⟩) 1 1) (.slice (some ⟨w2.heap.size + 1, 0, none⟩) 1 1)) [keyN 99 o.code] #[.string (keyN 99 o.code)] rfl (by simp [keyN_max]) (by unfold maxLen; simp)
    have hI := ((HI.out.keep (w' := (put3 w2 (w.heap.size + 1 + 1) (.bool true) (.slice (some ⟨w2.heap.size, 0, none⟩) 1 1) (.slice (some ⟨w2.heap.size + 1, 0, none⟩) 1 1))) fun b hb _ => put3_far _ _ _ _ _ (by omega)).below (belowOne _ (.cells #[.string (keyN 99 o.code)] 9)))
    have hW := wrs_lit1 ((put3 w2 (w.heap.size + 1 + 1) (.bool true) (.slice (some ⟨w2.heap.size, 0, none⟩) 1 1) (.slice (some ⟨w2.heap.size + 1, 0, none⟩) 1 1)).alloc (.cells #[.string (keyN 99 o.code)] 9)) (fun b => b = w1.heap.size) (keyN 99 o.code) false (.slice (some ⟨w1.heap.size, 0, none⟩) 2 2) [o.who, secS o.sec] (keyN_max _ _) hI (fun b hb => by rw [alloc_size, put3_size]; omega)
    rw [put3_size] at hL
    rw [alloc_size, put3_size] at hW
    have HQ := ((HS.out.pl.put3 (.bool true) (.slice (some ⟨w2.heap.size, 0, none⟩) 1 1) (.slice (some ⟨w2.heap.size + 1, 0, none⟩) 1 1)).after (.cells #[.string (keyN 99 o.code)] 9)).after (.cells #[.string (keyN 99 o.code), .bool false, .slice (some ⟨w1.heap.size, 0, none⟩) 2 2] 77)
    have q0 := HQ.of 0 _ rfl
    have q1 := HQ.of 1 _ rfl
    have q2 := HQ.of 2 _ rfl
    rw [HP.out]
    refine bodyPost_ret (v := .tuple #[.agg #[.bool true, .slice (some ⟨w2.heap.size, 0, none⟩) 1 1, .slice (some ⟨w2.heap.size + 1, 0, none⟩) 1 1], .bool true]) (by simp only [results, Tryz.results163, go_sem]; simp [go_sem, q0, q1, q2]) rfl ⟨_, _, rfl, planOwn (pl := ⟨true, [keyN 99 o.code], [⟨keyN 99 o.code, false, [o.who, secS o.sec]⟩]⟩) w1.heap.size (hL.below (belowOne _ _)) hW (fun b hb => by omega) (fun b hb => by omega) (fun b h1 h2 => by omega) (by omega), ?_⟩
    exact ((((belowPut3 HS.out.bel (w.heap.size + 1 + 1) (by omega) _ _ _).alloc (by rw [put3_size]; omega) _)).alloc (by rw [alloc_size, put3_size]; omega) _)
  · have HP := Lib.hid (show mayP2 its o = _ by unfold mayP2; rw [hlk, if_pos rfl])
    go_wp2_with fail
    refine (refused_any _ _ _ _).mono ?_
    rintro e wq ⟨rfl, hb⟩
    have HB := Lib.hid hb
    have HT := Lib.hid ((HS.out.call (belowOne _ _)).call hb)
    have p0 := HT.out.pl.of 0 _ rfl
    have p1 := HT.out.pl.of 1 _ rfl
    have p2 := HT.out.pl.of 2 _ rfl
    have fr := HT.out.pl.2.1
    clear hb
    go_wp2
    clear p0 p1 p2 fr
    have HQ := HT.out.pl.put3 (.bool false) (.slice (some ⟨w1.heap.size, 0, none⟩) 1 1) (.slice none 0 0)
    have q0 := HQ.of 0 _ rfl
    have q1 := HQ.of 1 _ rfl
    have q2 := HQ.of 2 _ rfl
    rw [HP.out]
    refine bodyPost_ret (v := .tuple #[.agg #[.bool false, .slice (some ⟨w1.heap.size, 0, none⟩) 1 1, .slice none 0 0], .bool true]) (by simp only [results, Tryz.results163, go_sem]; simp [go_sem, q0, q1, q2]) rfl ⟨_, _, rfl, planNo [keyN 99 o.code] #[.string (keyN 99 o.code)] rfl (by simp [keyN_max]) (by unfold maxLen; simp) HS.out.bel.size hz2 HB.out _, ?_⟩
    exact belowPut3 HT.out.bel (w.heap.size + 1 + 1) (by omega) _ _ _


end Go.Proofs.YtecdibpiojgppaaGreat

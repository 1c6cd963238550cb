/- The methods that plan: trading, the next. By planmgen3.py. -/
import Derived.Test.YtecdibpiojgppaaGreatXPlanM2
import Derived.Test.YtecdibpiojgppaaGreatXTree
namespace Go.Proofs.YtecdibpiojgppaaGreat
open Go.RowKit

theorem chr0_keyN (c : UInt8) (n : Int) : chr0 (keyN c n) = (c.toNat : Int) := by
  have h : 0 < (keyN c n).size := by
    unfold keyN; rw [append_size]
    have h1 : (⟨#[c]⟩ : ByteArray).size = 1 := rfl
    omega
  rw [chr0_at h]
  unfold keyN
  rfl
/-- What is found of a code, and of a family, at the place that keeps who may what. -/
theorem code_found {its : List Item} {n : Int} (hs : stoB its = true) (hf : formB 2 its = true) (h : lookOk its (keyN 99 n) = true) : (lookV its (keyN 99 n)).length = 2 ∧ 0 ≤ nth (lookV its (keyN 99 n)) 0 ∧ nth (lookV its (keyN 99 n)) 0 ≤ 9 := by
  have h1 := look_form hf h
  have h2 := itemB_parts (look_item hs h)
  dsimp only at h2
  rw [itP2, decide_eq_true_iff, chr0_keyN] at h1
  have h99 : ((99 : UInt8).toNat : Int) = 99 := rfl
  rw [h99] at h1
  have h3 := h2.2.2.2.2 0 (by omega)
  omega
theorem fam_found {its : List Item} {n : Int} (hs : stoB its = true) (hf : formB 2 its = true) (h : lookOk its (keyN 102 n) = true) : (lookV its (keyN 102 n)).length = 3 ∧ 0 ≤ nth (lookV its (keyN 102 n)) 0 ∧ nth (lookV its (keyN 102 n)) 0 ≤ 9 ∧ 1 ≤ nth (lookV its (keyN 102 n)) 1 ∧ nth (lookV its (keyN 102 n)) 1 ≤ 99 := by
  have h1 := look_form hf h
  have h2 := itemB_parts (look_item hs h)
  dsimp only at h2
  rw [itP2, decide_eq_true_iff, chr0_keyN] at h1
  have h99 : ((102 : UInt8).toNat : Int) = 102 := rfl
  rw [h99] at h1
  have h3 := h2.2.2.2.2 0 (by omega)
  omega

set_option maxRecDepth 100000 in
set_option maxHeartbeats 2000000 in
theorem tradeMay_any (w : World) (o : Op) (v : Value) (its : List Item) (hv : Items w w.heap.size v its) (hs : stoB its = true) (ho : opB o = true) (hf : formB 2 its = true) :
    Calls Tryz.prog 166 #[opV o, .agg #[v]] w (Planned (mayP3 its o) true w) := by
  obtain ⟨A, c, rfl, hc2, hc1⟩ := hv.form
  obtain ⟨b0, b1, b2, b3, b4, b5, b6, b7, b8, b9, b10, b11⟩ := opB_parts ho
  have HV := Lib.hid hv
  have HS := Lib.hid (Pl3.start w o (.slice A its.length c) 127 35 41)
  clear hv ho
  have o3 := HS.out.op.of 3 _ rfl
  have o5 := HS.out.op.of 5 _ rfl
  go_enter Tryz.func166, Tryz.ntmps166
  go_wp2
  go_quiet ((go_at_call 143; exact quietOf (numbered_any _ _ _ (by omega) (by omega))))
  go_wp2_with fail
  clear o3 o5
  replace HS := Lib.hid (HS.out.drewN nq)
  refine (implStoGet_any _ _ _ (keyN 99 o.code) ((HV.out.below HS.out.bel).more HS.out.bel.size)).mono ?_
  rintro e w1 ⟨u, rfl, hu, hb⟩
  rw [getOk_yes hs]
  rw [getV_yes hs] at hu
  replace HS := Lib.hid (HS.out.call hb)
  clear hb
  have HU := Lib.hid hu
  clear hu
  have p0 := HS.out.sto.of 0 _ rfl
  go_wp2_with fail
  clear p0
  refine (implStoGet_any _ _ _ (keyN 102 o.fam) ((HV.out.below HS.out.bel).more HS.out.bel.size)).mono ?_
  rintro e w2 ⟨u2, rfl, -, hb⟩
  rw [getOk_yes hs]
  replace HS := Lib.hid (HS.out.call hb)
  replace HU := Lib.hid (HU.out.below hb)
  clear hb
  have o4 := HS.out.op.of 4 _ rfl
  obtain ⟨hz0, hz1, hz2⟩ := HS.out.size
  rcases hlk : lookOk its (keyN 99 o.code)
  ·
    have HP := Lib.hid (show mayP3 its o = _ by unfold mayP3; rw [if_neg (by simp [tradeB, hlk])])
    go_wp2
    go_quiet ((go_at_call 164; exact quietOf (implSecSum_any _ _)))
    replace HS := Lib.hid (HS.out.drewN nq)
    replace HU := Lib.hid (show OwnInts (w2.drewN nq) _ _ _ from HU.out)
    clear o4 hz0 hz1 hz2
    generalize w2.drewN nq = w3 at *
    obtain ⟨hz0, hz1, hz2⟩ := HS.out.size
    go_wp2_with fail
    refine (refused_any _ _ _ _).mono ?_
    rintro e wq ⟨rfl, hb⟩
    have HB := Lib.hid hb
    have HT := Lib.hid ((HS.out.call (belowOne _ _)).call hb)
    have p0 := HT.out.pl.of 0 _ rfl
    have p1 := HT.out.pl.of 1 _ rfl
    have p2 := HT.out.pl.of 2 _ rfl
    have fr := HT.out.pl.2.1
    clear hb
    go_wp2
    clear p0 p1 p2 fr
    have HQ := HT.out.pl.put3 (.bool false) (.slice (some ⟨w3.heap.size, 0, none⟩) 2 2) (.slice none 0 0)
    have q0 := HQ.of 0 _ rfl
    have q1 := HQ.of 1 _ rfl
    have q2 := HQ.of 2 _ rfl
    rw [HP.out]
    refine bodyPost_ret (v := .tuple #[.agg #[.bool false, .slice (some ⟨w3.heap.size, 0, none⟩) 2 2, .slice none 0 0], .bool true]) (by simp only [results, Tryz.results166, go_sem]; simp [go_sem, q0, q1, q2]) rfl ⟨_, _, rfl, planNo [keyN 99 o.code, keyN 102 o.fam] #[.string (keyN 99 o.code), .string (keyN 102 o.fam)] rfl (by simp [keyN_max]) (by unfold maxLen; simp) HS.out.bel.size hz2 HB.out _, ?_⟩
    exact belowPut3 HT.out.bel (w.heap.size + 1 + 1) (by omega) _ _ _
  obtain ⟨hl2, hw0, hw9⟩ := code_found hs hf hlk
  obtain ⟨XS, hXS⟩ : ∃ xs, lookV its (keyN 99 o.code) = xs := ⟨_, rfl⟩
  rw [hXS] at hl2 hw0 hw9
  have HX := Lib.hid hXS
  have hI := HU.out.ints
  rw [hXS] at hI
  obtain ⟨A2, cc, hu2, hd1, hd2, hrow⟩ := hI
  subst hu2
  obtain ⟨b, off, rfl, hb2, hcell⟩ := hrow (by omega)
  have v0 := hcell 0 (by omega)
  have v1 := hcell 1 (by omega)
  rw [Nat.add_zero] at v0
  unfold maxLen at hd2
  have n1 : (1 : Int) < (XS.length : Int) := by omega
  have n2 : 1 < XS.length := by omega
  have n3 : (0 : Int) < (XS.length : Int) := by omega
  have n4 : 0 < XS.length := by omega
  have HL2 := Lib.hid hl2
  clear hrow hcell hXS hl2
  rcases hlf : lookOk its (keyN 102 o.fam)
  rotate_left
  ·
    have HP := Lib.hid (show mayP3 its o = _ by unfold mayP3; rw [if_neg (by simp [tradeB, hlk, hlf])])
    go_wp2
    go_quiet ((go_at_call 164; exact quietOf (implSecSum_any _ _)))
    replace HS := Lib.hid (HS.out.drewN nq)
    replace HU := Lib.hid (show OwnInts (w2.drewN nq) _ _ _ from HU.out)
    clear o4 hz0 hz1 hz2
    generalize w2.drewN nq = w3 at *
    obtain ⟨hz0, hz1, hz2⟩ := HS.out.size
    go_wp2_with fail
    refine (refused_any _ _ _ _).mono ?_
    rintro e wq ⟨rfl, hb⟩
    have HB := Lib.hid hb
    have HT := Lib.hid ((HS.out.call (belowOne _ _)).call hb)
    have p0 := HT.out.pl.of 0 _ rfl
    have p1 := HT.out.pl.of 1 _ rfl
    have p2 := HT.out.pl.of 2 _ rfl
    have fr := HT.out.pl.2.1
    clear hb
    go_wp2
    clear p0 p1 p2 fr
    have HQ := HT.out.pl.put3 (.bool false) (.slice (some ⟨w3.heap.size, 0, none⟩) 2 2) (.slice none 0 0)
    have q0 := HQ.of 0 _ rfl
    have q1 := HQ.of 1 _ rfl
    have q2 := HQ.of 2 _ rfl
    rw [HP.out]
    refine bodyPost_ret (v := .tuple #[.agg #[.bool false, .slice (some ⟨w3.heap.size, 0, none⟩) 2 2, .slice none 0 0], .bool true]) (by simp only [results, Tryz.results166, go_sem]; simp [go_sem, q0, q1, q2]) rfl ⟨_, _, rfl, planNo [keyN 99 o.code, keyN 102 o.fam] #[.string (keyN 99 o.code), .string (keyN 102 o.fam)] rfl (by simp [keyN_max]) (by unfold maxLen; simp) HS.out.bel.size hz2 HB.out _, ?_⟩
    exact belowPut3 HT.out.bel (w.heap.size + 1 + 1) (by omega) _ _ _
  rcases hsm : (nth XS 1 == secS o.sec)
  · have hsn : (nth XS 1 != secS o.sec) = true := by simp [bne, hsm]
    have HP := Lib.hid (show mayP3 its o = _ by unfold mayP3; rw [if_neg (by simp [tradeB, hlk, hlf, HX.out, hsm])])
    go_wp2
    go_quiet ((go_at_call 164; exact quietOf (implSecSum_any _ _)))
    replace HS := Lib.hid (HS.out.drewN nq)
    replace HU := Lib.hid (show OwnInts (w2.drewN nq) _ _ _ from HU.out)
    clear o4 hz0 hz1 hz2
    generalize w2.drewN nq = w3 at *
    obtain ⟨hz0, hz1, hz2⟩ := HS.out.size
    go_wp2_with fail
    refine (refused_any _ _ _ _).mono ?_
    rintro e wq ⟨rfl, hb⟩
    have HB := Lib.hid hb
    have HT := Lib.hid ((HS.out.call (belowOne _ _)).call hb)
    have p0 := HT.out.pl.of 0 _ rfl
    have p1 := HT.out.pl.of 1 _ rfl
    have p2 := HT.out.pl.of 2 _ rfl
    have fr := HT.out.pl.2.1
    clear hb
    go_wp2
    clear p0 p1 p2 fr
    have HQ := HT.out.pl.put3 (.bool false) (.slice (some ⟨w3.heap.size, 0, none⟩) 2 2) (.slice none 0 0)
    have q0 := HQ.of 0 _ rfl
    have q1 := HQ.of 1 _ rfl
    have q2 := HQ.of 2 _ rfl
    rw [HP.out]
    refine bodyPost_ret (v := .tuple #[.agg #[.bool false, .slice (some ⟨w3.heap.size, 0, none⟩) 2 2, .slice none 0 0], .bool true]) (by simp only [results, Tryz.results166, go_sem]; simp [go_sem, q0, q1, q2]) rfl ⟨_, _, rfl, planNo [keyN 99 o.code, keyN 102 o.fam] #[.string (keyN 99 o.code), .string (keyN 102 o.fam)] rfl (by simp [keyN_max]) (by unfold maxLen; simp) HS.out.bel.size hz2 HB.out _, ?_⟩
    exact belowPut3 HT.out.bel (w.heap.size + 1 + 1) (by omega) _ _ _
  · have hsn : (nth XS 1 != secS o.sec) = false := by simp [bne, hsm]
    have HP := Lib.hid (show mayP3 its o = _ by unfold mayP3; rw [if_pos (by simp [tradeB, hlk, hlf, HX.out, hsm]), HX.out])
    go_wp2
    go_quiet ((go_at_call 164; exact quietOf (implSecSum_any _ _)))
    replace HS := Lib.hid (HS.out.drewN nq)
    have v0 : (w2.drewN nq).cell? ⟨b, off, none⟩ = some (.int .i64 (nth XS 0)) := v0
    have hb2 : b < (w2.drewN nq).heap.size := hb2
    clear o4 hz0 hz1 hz2 HU v1
    generalize w2.drewN nq = w3 at *
    obtain ⟨hz0, hz1, hz2⟩ := HS.out.size
    have p0 := HS.out.pl.of 0 _ rfl
    have p1 := HS.out.pl.of 1 _ rfl
    have p2 := HS.out.pl.of 2 _ rfl
    have fr := HS.out.pl.2.1
    go_wp2_with (go_at_call 143; refine (numbered_any _ _ _ (by omega) (by omega)).mono ?_; rintro e w' ⟨rfl, rfl⟩)
    clear  p0 p1 p2 fr
    have hI := ints_lit (put3 w3 (w.heap.size + 1 + 1) (.bool true) (.slice (some ⟨w3.heap.size + 1 + 1, 0, none⟩) 3 3) (.slice (some ⟨w3.heap.size + 1, 0, none⟩) 2 2)) [nth XS 0, 1, 1] #[.int .i64 (nth XS 0), .int .i64 1, .int .i64 1] rfl (by unfold maxLen; simp)
    rw [put3_size] at hI
    have hW := wrs_lit2 ((put3 w3 (w.heap.size + 1 + 1) (.bool true) (.slice (some ⟨w3.heap.size + 1 + 1, 0, none⟩) 3 3) (.slice (some ⟨w3.heap.size + 1, 0, none⟩) 2 2)).alloc (.cells #[.int .i64 (nth XS 0), .int .i64 1, .int .i64 1] 3)) (fun _ => False) (fun b => b = w3.heap.size) (keyN 99 o.code) (keyN 102 o.fam) true false (.slice none 0 0) (.slice (some ⟨w3.heap.size, 0, none⟩) 3 3) [] [nth XS 0, 1, 1] (keyN_max _ _) (keyN_max _ _) (Sh.Own.nil _ _) hI (fun _ h => h.elim) (fun b hb => by rw [alloc_size, put3_size]; omega) (fun _ h => h.elim)
    rw [alloc_size, put3_size] at hW
    have hL := strs_lit (((put3 w3 (w.heap.size + 1 + 1) (.bool true) (.slice (some ⟨w3.heap.size + 1 + 1, 0, none⟩) 3 3) (.slice (some ⟨w3.heap.size + 1, 0, none⟩) 2 2)).alloc (.cells #[.int .i64 (nth XS 0), .int .i64 1, .int .i64 1] 3)).alloc (.cells #[.string (keyN 99 o.code), .bool true, .slice none 0 0, .string (keyN 102 o.fam), .bool false, .slice (some ⟨w3.heap.size, 0, none⟩) 3 3] 77)) [keyN 99 o.code, keyN 102 o.fam, keyN 117 (nth XS 0)] #[.string (keyN 99 o.code), .string (keyN 102 o.fam), .string (keyN 117 (nth XS 0))] rfl (by simp [keyN_max]) (by unfold maxLen; simp)
    rw [alloc_size, alloc_size, put3_size] at hL
    have HQ := (((HS.out.pl.put3 (.bool true) (.slice (some ⟨w3.heap.size + 1 + 1, 0, none⟩) 3 3) (.slice (some ⟨w3.heap.size + 1, 0, none⟩) 2 2)).after (.cells #[.int .i64 (nth XS 0), .int .i64 1, .int .i64 1] 3)).after (.cells #[.string (keyN 99 o.code), .bool true, .slice none 0 0, .string (keyN 102 o.fam), .bool false, .slice (some ⟨w3.heap.size, 0, none⟩) 3 3] 77)).after (.cells #[.string (keyN 99 o.code), .string (keyN 102 o.fam), .string (keyN 117 (nth XS 0))] 9)
    have q0 := HQ.of 0 _ rfl
    have q1 := HQ.of 1 _ rfl
    have q2 := HQ.of 2 _ rfl
    rw [HP.out]
    refine bodyPost_ret (v := .tuple #[.agg #[.bool true, .slice (some ⟨w3.heap.size + 1 + 1, 0, none⟩) 3 3, .slice (some ⟨w3.heap.size + 1, 0, none⟩) 2 2], .bool true]) (by simp only [results, Tryz.results166, go_sem]; simp [go_sem, q0, q1, q2]) rfl ⟨_, _, rfl, planOwn (pl := ⟨true, [keyN 99 o.code, keyN 102 o.fam, keyN 117 (nth XS 0)], [⟨keyN 99 o.code, true, []⟩, ⟨keyN 102 o.fam, false, [nth XS 0, 1, 1]⟩]⟩) w3.heap.size hL (hW.below (belowOne _ _)) (fun b hb => by omega) (fun b hb => by rcases hb with (h | h) | h <;> first | exact h.elim | omega) (fun b h1 h2 => by rcases h2 with (h | h) | h <;> first | exact h.elim | omega) (by omega), ?_⟩
    exact ((((((belowPut3 HS.out.bel (w.heap.size + 1 + 1) (by omega) _ _ _).alloc (by rw [put3_size]; omega) _)).alloc (by rw [alloc_size, put3_size]; omega) _)).alloc (by rw [alloc_size, alloc_size, put3_size]; omega) _)

set_option maxRecDepth 100000 in
theorem usable_any (w : World) (o : Op) (gen alive : Int) :
    Calls Tryz.prog 168 #[opV o, .int .i64 gen, .int .i64 alive] w fun e w' => e = .returned (.bool (useB gen alive o.gen)) ∧ Below w.heap.size w w' := by
  rcases ha : (alive == 0)
  rotate_left
  · have na : (alive != 0) = false := by simp only [bne, ha]; rfl
    go_enter Tryz.func168, Tryz.ntmps168
    go_wp2
    go_ret
    exact ⟨ret_bool (by simp only [useB, *] <;> first | rfl | simp), belowOne _ _⟩
  have na : (alive != 0) = true := by simp only [bne, ha]; rfl
  rcases hb : (gen == 99)
  rotate_left
  · have nb : (gen != 99) = false := by simp only [bne, hb]; rfl
    go_enter Tryz.func168, Tryz.ntmps168
    go_wp2
    go_ret
    exact ⟨ret_bool (by simp only [useB, *] <;> first | rfl | simp), belowOne _ _⟩
  have nb : (gen != 99) = true := by simp only [bne, hb]; rfl
  rcases hc : (o.gen == 0)
  rotate_left
  · have nc : (o.gen != 0) = false := by simp only [bne, hc]; rfl
    go_enter Tryz.func168, Tryz.ntmps168
    go_wp2
    go_ret
    exact ⟨ret_bool (by simp only [useB, *] <;> first | rfl | simp), belowOne _ _⟩
  have nc : (o.gen != 0) = true := by simp only [bne, hc]; rfl
  by_cases hd : o.gen ≤ gen
  · have he : decide (o.gen ≤ gen) = true := by simpa using hd
    go_enter Tryz.func168, Tryz.ntmps168
    go_wp2
    go_ret
    exact ⟨ret_bool (by simp only [useB, *] <;> first | rfl | simp), belowOne _ _⟩
  · have he : decide (o.gen ≤ gen) = false := by simpa using hd
    have hd2 : gen < o.gen := by omega
    clear hd
    go_enter Tryz.func168, Tryz.ntmps168
    go_wp2
    go_ret
    exact ⟨ret_bool (by simp only [useB, *] <;> first | rfl | simp), belowOne _ _⟩

set_option maxRecDepth 100000 in
set_option maxHeartbeats 2000000 in
theorem nextMay_any (w : World) (o : Op) (v : Value) (its : List Item) (hv : Items w w.heap.size v its) (hs : stoB its = true) (ho : opB o = true) (hf : formB 2 its = true) :
    Calls Tryz.prog 167 #[opV o, .agg #[v]] w (Planned (mayP4 its o) true w) := by
  obtain ⟨A, c, rfl, hc2, hc1⟩ := hv.form
  obtain ⟨b0, b1, b2, b3, b4, b5, b6, b7, b8, b9, b10, b11⟩ := opB_parts ho
  have HV := Lib.hid hv
  have HS := Lib.hid (Pl3.start w o (.slice A its.length c) 128 35 41)
  clear hv ho
  go_enter Tryz.func167, Tryz.ntmps167
  go_wp2_with (go_at_call 143; refine (numbered_any _ _ _ (by omega) (by omega)).mono ?_; rintro e w' ⟨rfl, rfl⟩)
  refine (implStoGet_any _ _ _ (keyN 102 o.fam) ((HV.out.below HS.out.bel).more HS.out.bel.size)).mono ?_
  rintro e w1 ⟨u, rfl, hu, hb⟩
  rw [getOk_yes hs]
  rw [getV_yes hs] at hu
  replace HS := Lib.hid (HS.out.call hb)
  clear hb
  have HU := Lib.hid hu
  clear hu
  obtain ⟨hz0, hz1, hz2⟩ := HS.out.size
  rcases hlk : lookOk its (keyN 102 o.fam)
  · have HP := Lib.hid (show mayP4 its o = _ by unfold mayP4; rw [if_neg (by simp [nextB, hlk])])
    go_wp2
    go_quiet (fail)
    replace HS := Lib.hid (HS.out.drewN nq)
    clear hz0 hz1 hz2 HU
    generalize w1.drewN nq = w3 at *
    obtain ⟨hz0, hz1, hz2⟩ := HS.out.size
    go_wp2_with fail
    refine (refused_any _ _ _ _).mono ?_
    rintro e wq ⟨rfl, hb⟩
    have HB := Lib.hid hb
    have HT := Lib.hid ((HS.out.call (belowOne _ _)).call hb)
    have p0 := HT.out.pl.of 0 _ rfl
    have p1 := HT.out.pl.of 1 _ rfl
    have p2 := HT.out.pl.of 2 _ rfl
    have fr := HT.out.pl.2.1
    clear hb
    go_wp2
    clear p0 p1 p2 fr
    have HQ := HT.out.pl.put3 (.bool false) (.slice (some ⟨w3.heap.size, 0, none⟩) 1 1) (.slice none 0 0)
    have q0 := HQ.of 0 _ rfl
    have q1 := HQ.of 1 _ rfl
    have q2 := HQ.of 2 _ rfl
    rw [HP.out]
    refine bodyPost_ret (v := .tuple #[.agg #[.bool false, .slice (some ⟨w3.heap.size, 0, none⟩) 1 1, .slice none 0 0], .bool true]) (by simp only [results, Tryz.results167, go_sem]; simp [go_sem, q0, q1, q2]) rfl ⟨_, _, rfl, planNo [keyN 102 o.fam] #[.string (keyN 102 o.fam)] rfl (by simp [keyN_max]) (by unfold maxLen; simp) HS.out.bel.size hz2 HB.out _, ?_⟩
    exact belowPut3 HT.out.bel (w.heap.size + 1 + 1) (by omega) _ _ _
  obtain ⟨hl3, hw0, hw9, hg1, hg99⟩ := fam_found hs hf hlk
  obtain ⟨XS, hXS⟩ : ∃ xs, lookV its (keyN 102 o.fam) = xs := ⟨_, rfl⟩
  rw [hXS] at hl3 hw0 hw9 hg1 hg99
  have HX := Lib.hid hXS
  have hI := HU.out.ints
  rw [hXS] at hI
  have HF := Lib.hid hI.form
  have HC := Lib.hid (fun (W : World) (hb : Below w1.heap.size w1 W) => ((hI.below hb).more hb.size))
  clear hI hXS HU
  obtain ⟨A2, cc, hu2, hd2, hd1⟩ := HF.out
  subst hu2
  unfold maxLen at hd2
  have n1 : (1 : Int) < (XS.length : Int) := by omega
  have n2 : 1 < XS.length := by omega
  have n3 : (0 : Int) < (XS.length : Int) := by omega
  have n4 : 0 < XS.length := by omega
  have n5 : (2 : Int) < (XS.length : Int) := by omega
  have n6 : 2 < XS.length := by omega
  have HL3 := Lib.hid hl3
  clear hl3 HF
  have HR := Lib.hid (fun (W : World) (h : Ints W W.heap.size (.slice A2 XS.length cc) XS) => show ∃ b off, A2 = some ⟨b, off, none⟩ ∧ b < W.heap.size ∧ W.cell? ⟨b, off, none⟩ = some (.int .i64 (nth XS 0)) ∧ W.cell? ⟨b, off + 1, none⟩ = some (.int .i64 (nth XS 1)) ∧ W.cell? ⟨b, off + 2, none⟩ = some (.int .i64 (nth XS 2)) by
    obtain ⟨A3, c3, e3, -, -, hrow⟩ := h
    injection e3 with ea eb ec
    obtain ⟨b, off, hA, hb, hcell⟩ := hrow (by omega)
    exact ⟨b, off, ea.trans hA, hb, by simpa using hcell 0 (by omega), hcell 1 (by omega), hcell 2 (by omega)⟩)
  obtain ⟨b, off, rfl, hb2, v0, v1, v2⟩ := HR.out _ (HC.out _ (Below.refl _ _))
  have k0 : (w1.drew.cell? ⟨w.heap.size, 0, none⟩ = some (.int .i64 o.kind) ∧ w1.drew.cell? ⟨w.heap.size, 1, none⟩ = some (.int .i64 o.who) ∧ w1.drew.cell? ⟨w.heap.size, 2, none⟩ = some (.int .i64 o.inn) ∧ w1.drew.cell? ⟨w.heap.size, 3, none⟩ = some (.int .i64 o.code) ∧ w1.drew.cell? ⟨w.heap.size, 4, none⟩ = some (.int .i64 o.sec) ∧ w1.drew.cell? ⟨w.heap.size, 5, none⟩ = some (.int .i64 o.fam) ∧ w1.drew.cell? ⟨w.heap.size, 6, none⟩ = some (.int .i64 o.gen)) ∧ w1.drew.cell? ⟨b, off + 1, none⟩ = some (.int .i64 (nth XS 1)) ∧ w1.drew.cell? ⟨b, off + 2, none⟩ = some (.int .i64 (nth XS 2)) := ⟨⟨HS.out.op.of 0 _ rfl, HS.out.op.of 1 _ rfl, HS.out.op.of 2 _ rfl, HS.out.op.of 3 _ rfl, HS.out.op.of 4 _ rfl, HS.out.op.of 5 _ rfl, HS.out.op.of 6 _ rfl⟩, v1, v2⟩
  go_upto_region 3 with fail
  clear v0 v1 v2
  refine wp_region_held_drew (S := (fun w' => (w'.cell? ⟨w.heap.size, 0, none⟩ = some (.int .i64 o.kind) ∧ w'.cell? ⟨w.heap.size, 1, none⟩ = some (.int .i64 o.who) ∧ w'.cell? ⟨w.heap.size, 2, none⟩ = some (.int .i64 o.inn) ∧ w'.cell? ⟨w.heap.size, 3, none⟩ = some (.int .i64 o.code) ∧ w'.cell? ⟨w.heap.size, 4, none⟩ = some (.int .i64 o.sec) ∧ w'.cell? ⟨w.heap.size, 5, none⟩ = some (.int .i64 o.fam) ∧ w'.cell? ⟨w.heap.size, 6, none⟩ = some (.int .i64 o.gen)) ∧ w'.cell? ⟨b, off + 1, none⟩ = some (.int .i64 (nth XS 1)) ∧ w'.cell? ⟨b, off + 2, none⟩ = some (.int .i64 (nth XS 2)))) (by kernel_rfl) ?hSr (fun hHeldr => ?str)
  case hSr => (first | (dsimp only; (first | with_reducible exact k1 | with_reducible exact k0)) | (first | with_reducible exact k1 | with_reducible exact k0))
  refine take_first 0 23 (v := ?vr_1) rfl rfl (by kernel_rfl) (by kernel_rfl) (by kernel_rfl) (fun _ _ _ h => h) (by rfl) ?yr_1 (by assumption) ?rr_1
  case yr_1 => (intro w hSw; (try dsimp only at hSw); go_simp; (try with_reducible rfl))
  simp only [Act.put, List.setIfInBounds_toArray, List.set_cons_zero, List.set_cons_succ]
  refine take_first 1 24 (v := ?vr_2) rfl rfl (by kernel_rfl) (by kernel_rfl) (by kernel_rfl) (fun _ _ _ h => h) (by rfl) ?yr_2 (by assumption) ?rr_2
  case yr_2 => (intro w hSw; (try dsimp only at hSw); go_simp; (try with_reducible rfl))
  simp only [Act.put, List.setIfInBounds_toArray, List.set_cons_zero, List.set_cons_succ]
  refine take_first 2 25 (v := ?vr_3) rfl rfl (by kernel_rfl) (by kernel_rfl) (by kernel_rfl) (fun _ _ _ h => h) (by rfl) ?yr_3 (by assumption) ?rr_3
  case yr_3 => (intro w hSw; (try dsimp only at hSw); go_simp; (try with_reducible rfl))
  simp only [Act.put, List.setIfInBounds_toArray, List.set_cons_zero, List.set_cons_succ]
  refine take_first 3 26 (v := ?vr_4) rfl rfl (by kernel_rfl) (by kernel_rfl) (by kernel_rfl) (fun _ _ _ h => h) (by rfl) ?yr_4 (by assumption) ?rr_4
  case yr_4 => (intro w hSw; (try dsimp only at hSw); go_simp; (try with_reducible rfl))
  simp only [Act.put, List.setIfInBounds_toArray, List.set_cons_zero, List.set_cons_succ]
  refine take_first 4 27 (v := ?vr_5) rfl rfl (by kernel_rfl) (by kernel_rfl) (by kernel_rfl) (fun _ _ _ h => h) (by rfl) ?yr_5 (by assumption) ?rr_5
  case yr_5 => (intro w hSw; (try dsimp only at hSw); go_simp; (try with_reducible rfl))
  simp only [Act.put, List.setIfInBounds_toArray, List.set_cons_zero, List.set_cons_succ]
  refine take_first 5 28 (v := ?vr_6) rfl rfl (by kernel_rfl) (by kernel_rfl) (by kernel_rfl) (fun _ _ _ h => h) (by rfl) ?yr_6 (by assumption) ?rr_6
  case yr_6 => (intro w hSw; (try dsimp only at hSw); go_simp; (try with_reducible rfl))
  simp only [Act.put, List.setIfInBounds_toArray, List.set_cons_zero, List.set_cons_succ]
  refine take_first 6 29 (v := ?vr_7) rfl rfl (by kernel_rfl) (by kernel_rfl) (by kernel_rfl) (fun _ _ _ h => h) (by rfl) ?yr_7 (by assumption) ?rr_7
  case yr_7 => (intro w hSw; (try dsimp only at hSw); go_simp; (try with_reducible rfl))
  simp only [Act.put, List.setIfInBounds_toArray, List.set_cons_zero, List.set_cons_succ]
  refine take_first 7 30 (v := ?vr_8) rfl rfl (by kernel_rfl) (by kernel_rfl) (by kernel_rfl) (fun _ _ _ h => h) (by rfl) ?yr_8 (by assumption) ?rr_8
  case yr_8 => (intro w hSw; (try dsimp only at hSw); go_simp; (try with_reducible rfl))
  simp only [Act.put, List.setIfInBounds_toArray, List.set_cons_zero, List.set_cons_succ]
  refine take_first 8 31 (v := ?vr_9) rfl rfl (by kernel_rfl) (by kernel_rfl) (by kernel_rfl) (fun _ _ _ h => h) (by rfl) ?yr_9 (by assumption) ?rr_9
  case yr_9 => (intro w hSw; (try dsimp only at hSw); go_simp; (try with_reducible rfl))
  simp only [Act.put, List.setIfInBounds_toArray, List.set_cons_zero, List.set_cons_succ]
  refine take_first 9 32 (v := ?vr_10) rfl rfl (by kernel_rfl) (by kernel_rfl) (by kernel_rfl) (fun _ _ _ h => h) (by rfl) ?yr_10 (by assumption) ?rr_10
  case yr_10 => (intro w hSw; (try dsimp only at hSw); go_simp; (try with_reducible rfl))
  simp only [Act.put, List.setIfInBounds_toArray, List.set_cons_zero, List.set_cons_succ]
  refine wpAnyH_ready (rs := [10]) (by kernel_rfl) (by simp) ?_
  refine AllReadyH.cons (o := _) rfl (fun Kr_11 hKr_11 => ?cr_11) ?mr_11
  case mr_11 => exact AllReadyH.nil
  go_simp
  refine (usable_any _ o _ _).mono ?_; rintro e w2 ⟨rfl, hb⟩; replace HS := Lib.hid (HS.out.drewOne.call hb); have HD := Lib.hid (HC.out _ ((Below.refl _ w1).drew.trans hb)); obtain ⟨b', off', e2, hb3, v0, v1, v2⟩ := HR.out _ HD.out; obtain ⟨rfl, rfl⟩ : b = b' ∧ off = off' := (by injection e2 with e2; injection e2 with e2 e3; exact ⟨e2, e3⟩); have k1 : (w2.cell? ⟨w.heap.size, 0, none⟩ = some (.int .i64 o.kind) ∧ w2.cell? ⟨w.heap.size, 1, none⟩ = some (.int .i64 o.who) ∧ w2.cell? ⟨w.heap.size, 2, none⟩ = some (.int .i64 o.inn) ∧ w2.cell? ⟨w.heap.size, 3, none⟩ = some (.int .i64 o.code) ∧ w2.cell? ⟨w.heap.size, 4, none⟩ = some (.int .i64 o.sec) ∧ w2.cell? ⟨w.heap.size, 5, none⟩ = some (.int .i64 o.fam) ∧ w2.cell? ⟨w.heap.size, 6, none⟩ = some (.int .i64 o.gen)) ∧ w2.cell? ⟨b, off + 1, none⟩ = some (.int .i64 (nth XS 1)) ∧ w2.cell? ⟨b, off + 2, none⟩ = some (.int .i64 (nth XS 2)) := ⟨⟨HS.out.op.of 0 _ rfl, HS.out.op.of 1 _ rfl, HS.out.op.of 2 _ rfl, HS.out.op.of 3 _ rfl, HS.out.op.of 4 _ rfl, HS.out.op.of 5 _ rfl, HS.out.op.of 6 _ rfl⟩, v1, v2⟩; clear hb
  go_wp2_with fail
  refine hKr_11.out _ _ ?kr_11 (fun hHeldr_11 => ?dr_11)
  case kr_11 => (first | (dsimp only; (first | with_reducible exact k1 | with_reducible exact k0)) | (first | with_reducible exact k1 | with_reducible exact k0))
  clear hKr_11 Kr_11
  refine take_first 11 34 (v := ?vr_12) rfl rfl (by kernel_rfl) (by kernel_rfl) (by kernel_rfl) (fun _ _ _ h => h) (by rfl) ?yr_12 (by assumption) ?rr_12
  case yr_12 => (intro w hSw; (try dsimp only at hSw); go_simp; (try with_reducible rfl))
  simp only [Act.put, List.setIfInBounds_toArray, List.set_cons_zero, List.set_cons_succ]
  refine take_first 12 35 (v := ?vr_13) rfl rfl (by kernel_rfl) (by kernel_rfl) (by kernel_rfl) (fun _ _ _ h => h) (by rfl) ?yr_13 (by assumption) ?rr_13
  case yr_13 => (intro w hSw; (try dsimp only at hSw); go_simp; (try with_reducible rfl))
  simp only [Act.put, List.setIfInBounds_toArray, List.set_cons_zero, List.set_cons_succ]
  refine wpAnyH_done (by kernel_rfl) ?er _
  clear hz0 hz1 hz2 k0 hb2
  obtain ⟨hz0, hz1, hz2⟩ := HS.out.size
  rcases huse : useB (nth XS 1) (nth XS 2) o.gen
  · have HP := Lib.hid (show mayP4 its o = _ by unfold mayP4; rw [if_neg (by simp [nextB, hlk, HX.out, huse])])
    clear k1 HC HR HD
    go_wp2_with fail
    refine (refused_any _ _ _ _).mono ?_
    rintro e wq ⟨rfl, hb⟩
    have HB := Lib.hid hb
    have HT := Lib.hid ((HS.out.call (belowOne _ _)).call hb)
    have p0 := HT.out.pl.of 0 _ rfl
    have p1 := HT.out.pl.of 1 _ rfl
    have p2 := HT.out.pl.of 2 _ rfl
    have fr := HT.out.pl.2.1
    clear hb
    go_wp2
    clear p0 p1 p2 fr
    have HQ := HT.out.pl.put3 (.bool false) (.slice (some ⟨w2.heap.size, 0, none⟩) 1 1) (.slice none 0 0)
    have q0 := HQ.of 0 _ rfl
    have q1 := HQ.of 1 _ rfl
    have q2 := HQ.of 2 _ rfl
    rw [HP.out]
    refine bodyPost_ret (v := .tuple #[.agg #[.bool false, .slice (some ⟨w2.heap.size, 0, none⟩) 1 1, .slice none 0 0], .bool true]) (by simp only [results, Tryz.results167, go_sem]; simp [go_sem, q0, q1, q2]) rfl ⟨_, _, rfl, planNo [keyN 102 o.fam] #[.string (keyN 102 o.fam)] rfl (by simp [keyN_max]) (by unfold maxLen; simp) HS.out.bel.size hz2 HB.out _, ?_⟩
    exact belowPut3 HT.out.bel (w.heap.size + 1 + 1) (by omega) _ _ _
  have HP := Lib.hid (show mayP4 its o = _ by unfold mayP4; rw [if_pos (by simp [nextB, hlk, HX.out, huse]), HX.out])
  clear k1 HC HR HD
  by_cases hlt : o.gen < nth XS 1
  · have HN := Lib.hid (show nextV XS o.gen = [nth XS 0, nth XS 1, 0] by unfold nextV; rw [if_pos hlt])
    rw [HN.out] at HP
    go_wp2
    go_quiet (fail)
    replace HS := Lib.hid (HS.out.drewN nq)
    clear hz0 hz1 hz2 v0 v1 v2 hb3
    generalize w2.drewN nq = w3 at *
    obtain ⟨hz0, hz1, hz2⟩ := HS.out.size
    have o6 := HS.out.op.of 6 _ rfl
    have p0 := HS.out.pl.of 0 _ rfl
    have p1 := HS.out.pl.of 1 _ rfl
    have p2 := HS.out.pl.of 2 _ rfl
    have fr := HS.out.pl.2.1
    go_wp2_with (go_at_call 143; refine (numbered_any _ _ _ (by omega) (by omega)).mono ?_; rintro e w' ⟨rfl, rfl⟩)
    clear o6 p0 p1 p2 fr
    have hI := ints_lit ((put3 w3 (w.heap.size + 1 + 1) (.bool true) (.slice (some ⟨w3.heap.size + 1 + 1, 0, none⟩) 2 2) (.slice (some ⟨w3.heap.size + 1 + 1 + 1, 0, none⟩) 1 1)).alloc (.cells #[.int .i64 (nth XS 0), .int .i64 (nth XS 1 + 1), .int .i64 1] 3)) [nth XS 0, nth XS 1, 0] #[.int .i64 (nth XS 0), .int .i64 (nth XS 1), .int .i64 (0)] rfl (by unfold maxLen; simp)
    rw [alloc_size, put3_size] at hI
    have hL := strs_lit (((put3 w3 (w.heap.size + 1 + 1) (.bool true) (.slice (some ⟨w3.heap.size + 1 + 1, 0, none⟩) 2 2) (.slice (some ⟨w3.heap.size + 1 + 1 + 1, 0, none⟩) 1 1)).alloc (.cells #[.int .i64 (nth XS 0), .int .i64 (nth XS 1 + 1), .int .i64 1] 3)).alloc (.cells #[.int .i64 (nth XS 0), .int .i64 (nth XS 1), .int .i64 0] 3)) [keyN 102 o.fam, keyN 117 (nth XS 0)] #[.string (keyN 102 o.fam), .string (keyN 117 (nth XS 0))] rfl (by simp [keyN_max]) (by unfold maxLen; simp)
    rw [alloc_size, alloc_size, put3_size] at hL
    have hW := wrs_lit1 ((((put3 w3 (w.heap.size + 1 + 1) (.bool true) (.slice (some ⟨w3.heap.size + 1 + 1, 0, none⟩) 2 2) (.slice (some ⟨w3.heap.size + 1 + 1 + 1, 0, none⟩) 1 1)).alloc (.cells #[.int .i64 (nth XS 0), .int .i64 (nth XS 1 + 1), .int .i64 1] 3)).alloc (.cells #[.int .i64 (nth XS 0), .int .i64 (nth XS 1), .int .i64 0] 3)).alloc (.cells #[.string (keyN 102 o.fam), .string (keyN 117 (nth XS 0))] 9)) _ (keyN 102 o.fam) false (.slice (some ⟨w3.heap.size + 1, 0, none⟩) 3 3) [nth XS 0, nth XS 1, 0] (keyN_max _ _) (hI.below (belowOne _ _)) (fun b hb => by rw [alloc_size, alloc_size, alloc_size, put3_size]; omega)
    rw [alloc_size, alloc_size, alloc_size, put3_size] at hW
    have HQ := ((((HS.out.pl.put3 (.bool true) (.slice (some ⟨w3.heap.size + 1 + 1, 0, none⟩) 2 2) (.slice (some ⟨w3.heap.size + 1 + 1 + 1, 0, none⟩) 1 1)).after (.cells #[.int .i64 (nth XS 0), .int .i64 (nth XS 1 + 1), .int .i64 1] 3)).after (.cells #[.int .i64 (nth XS 0), .int .i64 (nth XS 1), .int .i64 0] 3)).after (.cells #[.string (keyN 102 o.fam), .string (keyN 117 (nth XS 0))] 9)).after (.cells #[.string (keyN 102 o.fam), .bool false, .slice (some ⟨w3.heap.size + 1, 0, none⟩) 3 3] 77)
    have q0 := HQ.of 0 _ rfl
    have q1 := HQ.of 1 _ rfl
    have q2 := HQ.of 2 _ rfl
    rw [HP.out]
    refine bodyPost_ret (v := .tuple #[.agg #[.bool true, .slice (some ⟨w3.heap.size + 1 + 1, 0, none⟩) 2 2, .slice (some ⟨w3.heap.size + 1 + 1 + 1, 0, none⟩) 1 1], .bool true]) (by simp only [results, Tryz.results167, go_sem]; simp [go_sem, q0, q1, q2]) rfl ⟨_, _, rfl, planOwn (pl := ⟨true, [keyN 102 o.fam, keyN 117 (nth XS 0)], [⟨keyN 102 o.fam, false, [nth XS 0, nth XS 1, 0]⟩]⟩) w3.heap.size (hL.below (belowOne _ _)) hW (fun b hb => by omega) (fun b hb => by omega) (fun b h1 h2 => by omega) (by omega), ?_⟩
    exact ((((((((belowPut3 HS.out.bel (w.heap.size + 1 + 1) (by omega) _ _ _).alloc (by rw [put3_size]; omega) _)).alloc (by rw [alloc_size, put3_size]; omega) _)).alloc (by rw [alloc_size, alloc_size, put3_size]; omega) _)).alloc (by rw [alloc_size, alloc_size, alloc_size, put3_size]; omega) _)
  · have HN := Lib.hid (show nextV XS o.gen = [nth XS 0, nth XS 1 + 1, 1] by unfold nextV; rw [if_neg hlt])
    have hge : nth XS 1 ≤ o.gen := by omega
    clear hlt
    rw [HN.out] at HP
    go_wp2
    go_quiet (fail)
    replace HS := Lib.hid (HS.out.drewN nq)
    clear hz0 hz1 hz2 v0 v1 v2 hb3
    generalize w2.drewN nq = w3 at *
    obtain ⟨hz0, hz1, hz2⟩ := HS.out.size
    have o6 := HS.out.op.of 6 _ rfl
    have p0 := HS.out.pl.of 0 _ rfl
    have p1 := HS.out.pl.of 1 _ rfl
    have p2 := HS.out.pl.of 2 _ rfl
    have fr := HS.out.pl.2.1
    go_wp2_with (go_at_call 143; refine (numbered_any _ _ _ (by omega) (by omega)).mono ?_; rintro e w' ⟨rfl, rfl⟩)
    clear o6 p0 p1 p2 fr
    have hI := ints_lit (put3 w3 (w.heap.size + 1 + 1) (.bool true) (.slice (some ⟨w3.heap.size + 1, 0, none⟩) 2 2) (.slice (some ⟨w3.heap.size + 1 + 1, 0, none⟩) 1 1)) [nth XS 0, nth XS 1 + 1, 1] #[.int .i64 (nth XS 0), .int .i64 (nth XS 1 + 1), .int .i64 (1)] rfl (by unfold maxLen; simp)
    rw [put3_size] at hI
    have hL := strs_lit ((put3 w3 (w.heap.size + 1 + 1) (.bool true) (.slice (some ⟨w3.heap.size + 1, 0, none⟩) 2 2) (.slice (some ⟨w3.heap.size + 1 + 1, 0, none⟩) 1 1)).alloc (.cells #[.int .i64 (nth XS 0), .int .i64 (nth XS 1 + 1), .int .i64 1] 3)) [keyN 102 o.fam, keyN 117 (nth XS 0)] #[.string (keyN 102 o.fam), .string (keyN 117 (nth XS 0))] rfl (by simp [keyN_max]) (by unfold maxLen; simp)
    rw [alloc_size, put3_size] at hL
    have hW := wrs_lit1 (((put3 w3 (w.heap.size + 1 + 1) (.bool true) (.slice (some ⟨w3.heap.size + 1, 0, none⟩) 2 2) (.slice (some ⟨w3.heap.size + 1 + 1, 0, none⟩) 1 1)).alloc (.cells #[.int .i64 (nth XS 0), .int .i64 (nth XS 1 + 1), .int .i64 1] 3)).alloc (.cells #[.string (keyN 102 o.fam), .string (keyN 117 (nth XS 0))] 9)) _ (keyN 102 o.fam) false (.slice (some ⟨w3.heap.size, 0, none⟩) 3 3) [nth XS 0, nth XS 1 + 1, 1] (keyN_max _ _) (hI.below (belowOne _ _)) (fun b hb => by rw [alloc_size, alloc_size, put3_size]; omega)
    rw [alloc_size, alloc_size, put3_size] at hW
    have HQ := (((HS.out.pl.put3 (.bool true) (.slice (some ⟨w3.heap.size + 1, 0, none⟩) 2 2) (.slice (some ⟨w3.heap.size + 1 + 1, 0, none⟩) 1 1)).after (.cells #[.int .i64 (nth XS 0), .int .i64 (nth XS 1 + 1), .int .i64 1] 3)).after (.cells #[.string (keyN 102 o.fam), .string (keyN 117 (nth XS 0))] 9)).after (.cells #[.string (keyN 102 o.fam), .bool false, .slice (some ⟨w3.heap.size, 0, none⟩) 3 3] 77)
    have q0 := HQ.of 0 _ rfl
    have q1 := HQ.of 1 _ rfl
    have q2 := HQ.of 2 _ rfl
    rw [HP.out]
    refine bodyPost_ret (v := .tuple #[.agg #[.bool true, .slice (some ⟨w3.heap.size + 1, 0, none⟩) 2 2, .slice (some ⟨w3.heap.size + 1 + 1, 0, none⟩) 1 1], .bool true]) (by simp only [results, Tryz.results167, go_sem]; simp [go_sem, q0, q1, q2]) rfl ⟨_, _, rfl, planOwn (pl := ⟨true, [keyN 102 o.fam, keyN 117 (nth XS 0)], [⟨keyN 102 o.fam, false, [nth XS 0, nth XS 1 + 1, 1]⟩]⟩) w3.heap.size (hL.below (belowOne _ _)) hW (fun b hb => by omega) (fun b hb => by omega) (fun b h1 h2 => by omega) (by omega), ?_⟩
    exact ((((((belowPut3 HS.out.bel (w.heap.size + 1 + 1) (by omega) _ _ _).alloc (by rw [put3_size]; omega) _)).alloc (by rw [alloc_size, put3_size]; omega) _)).alloc (by rw [alloc_size, alloc_size, put3_size]; omega) _)

end Go.Proofs.YtecdibpiojgppaaGreat

/- The model's plans: what may not be; who is in. -/
import Derived.Test.YtecdibpiojgppaaGreatXOutMay2
import Derived.Test.YtecdibpiojgppaaGreatXShal
import Derived.Test.YtecdibpiojgppaaGreatXPlcIt
namespace Go.Proofs.YtecdibpiojgppaaGreat
open Go.RowKit

/-- What lies in memory while the model plans: the store, the operation, the plan. -/
structure Ps3 (w0 : World) (o : Op) (v x y z : Value) (W : World) : Prop where
  sto : Held W w0.heap.size [v]
  op : Held W (w0.heap.size + 1) [.int .i64 o.kind, .int .i64 o.who, .int .i64 o.inn, .int .i64 o.code, .int .i64 o.sec, .int .i64 o.fam, .int .i64 o.gen]
  pl : Held W (w0.heap.size + 1 + 1) [x, y, z]
  bel : Below w0.heap.size w0 W
section
variable {w0 W W' : World} {o : Op} {v x y z : Value}
theorem Ps3.call (h : Ps3 w0 o v x y z W) (hb : Below W.heap.size W W') : Ps3 w0 o v x y z W' := ⟨h.sto.below hb h.sto.1, h.op.below hb h.op.1, h.pl.below hb h.pl.1, belowNext h.bel hb⟩
theorem Ps3.drewOne (h : Ps3 w0 o v x y z W) : Ps3 w0 o v x y z W.drew := ⟨h.sto, h.op, h.pl, h.bel.drew⟩
theorem Ps3.drewN (h : Ps3 w0 o v x y z W) (n : Nat) : Ps3 w0 o v x y z (W.drewN n) := ⟨h.sto, h.op, h.pl, belowDraws h.bel n⟩
theorem Ps3.size (h : Ps3 w0 o v x y z W) : w0.heap.size < W.heap.size ∧ w0.heap.size + 1 < W.heap.size ∧ w0.heap.size + 1 + 1 < W.heap.size := ⟨h.sto.1, h.op.1, h.pl.1⟩
theorem Ps3.start (w : World) (o : Op) (v : Value) : Ps3 w o v (.bool false) (.slice none 0 0) (.slice none 0 0)
    (((w.alloc (.cells #[v] 35)).alloc (.cells #[.int .i64 o.kind, .int .i64 o.who, .int .i64 o.inn, .int .i64 o.code, .int .i64 o.sec, .int .i64 o.fam, .int .i64 o.gen] 25)).alloc (.cells #[.bool false, .slice none 0 0, .slice none 0 0] 41)) := by
  refine ⟨((Held.new w _ 35).after _).after _, ?_, ?_, belowThree _ _ _ _⟩
  · have h := (Held.new (w.alloc (.cells #[v] 35)) #[.int .i64 o.kind, .int .i64 o.who, .int .i64 o.inn, .int .i64 o.code, .int .i64 o.sec, .int .i64 o.fam, .int .i64 o.gen] 25).after (.cells #[.bool false, .slice none 0 0, .slice none 0 0] 41)
    rwa [show (w.alloc (.cells #[v] 35)).heap.size = w.heap.size + 1 by simp] at h
  · have h := Held.new ((w.alloc (.cells #[v] 35)).alloc (.cells #[.int .i64 o.kind, .int .i64 o.who, .int .i64 o.inn, .int .i64 o.code, .int .i64 o.sec, .int .i64 o.fam, .int .i64 o.gen] 25)) #[.bool false, .slice none 0 0, .slice none 0 0] 41
    rwa [show ((w.alloc (.cells #[v] 35)).alloc (.cells #[.int .i64 o.kind, .int .i64 o.who, .int .i64 o.inn, .int .i64 o.code, .int .i64 o.sec, .int .i64 o.fam, .int .i64 o.gen] 25)).heap.size = w.heap.size + 1 + 1 by simp] at h
/-- What another plan leaves is laid into the answer's block. -/
theorem Ps3.put (h : Ps3 w0 o v x y z W) {pl : Plan} {a b : Value} {lo : Nat} (ho : planSh.own W (fun i => lo ≤ i ∧ i < W.heap.size) [.bool pl.ok, a, b] pl) (hlo : w0.heap.size + 1 + 1 < lo) (e' : Ending) (he : e' = .returned (.agg #[.bool pl.ok, a, b])) :
    PlannedAg pl w0 e' (put3 W (w0.heap.size + 1 + 1) (.bool pl.ok) a b) := by
  subst he
  exact ⟨a, b, rfl, planSh.omono (planSh.okeep ho fun i hi _ => put3_far _ _ _ _ _ (by omega)) fun i hi => ⟨by have := h.bel.size; omega, by rw [put3_size]; exact hi.2⟩, belowPut3 h.bel _ (by omega) _ _ _⟩
end

theorem planForm {W : World} {S : Nat → Prop} {a b : Value} {k : Bool} {pl : Plan} (h : planSh.own W S [.bool k, a, b] pl) : ∃ A c A' c', a = .slice A pl.locks.length c ∧ b = .slice A' pl.writes.length c' := by
  obtain ⟨u, v, S1, S2, e, h1, h2, -⟩ := plan_own.1 h
  simp only [List.cons.injEq, and_true] at e
  obtain ⟨-, rfl, rfl⟩ := e
  obtain ⟨A, c, e1, -, -⟩ := h1.row.form
  obtain ⟨A', c', e2, -, -⟩ := h2.row.form
  exact ⟨A, c, A', c', e1, e2⟩

set_option maxRecDepth 100000 in
theorem specNo_any (w : World) (v : Value) (xs : List ByteArray) (hv : strSh.Row w w.heap.size v xs) (hl : xs.length ≤ 1048576) :
    Calls Tryz.prog 90 #[v] w (PlannedAg (noP xs) w) := by
  obtain ⟨Ad, c, rfl, hc2, hc1⟩ := hv.form
  have HR := Lib.hid ((Held.new w #[.bool false, .slice none 0 0, .slice none 0 0] 41).after (.cells #[] 9))
  have HV := Lib.hid fun W (h : Below w.heap.size w W) => (hv.below h).more h.size
  have HB := Lib.hid (belowTwo w (.cells #[.bool false, .slice none 0 0, .slice none 0 0] 41) (.cells #[] 9))
  have HE := Lib.hid (show strSh.Own 9 ((w.alloc (.cells #[.bool false, .slice none 0 0, .slice none 0 0] 41)).alloc (.cells #[] 9)) (fun b => b = w.heap.size + 1) (.slice (some ⟨w.heap.size + 1, 0, none⟩) 0 0) [] from by have h := Sh.Own.lit0 strSh 9 (w.alloc (.cells #[.bool false, .slice none 0 0, .slice none 0 0] 41)); rwa [alloc_size] at h)
  clear hv
  go_enter Tryz.func90, Tryz.ntmps90
  go_wp2_with (at_builtin; refine wpl_append_strs rfl _ _ rfl (fun b => b = w.heap.size + 1) _ [] xs rfl HE.out _ _ _ _ rfl rfl (HV.out _ HB.out) (by simp; omega) ?_; intro u w1 hown hg hwh; have HO := Lib.hid hown; have HG := Lib.hid ((Below.refl (w.heap.size + 1) _).grown hg (by rw [alloc_size, alloc_size]; omega) (fun k hk => Nat.le_of_eq (Option.some.inj hk))); obtain ⟨A', c', hf, -, -⟩ := hown.row.form; subst hf; have HR1 := Lib.hid (HR.out.below HG.out (by omega)); have p0 := HR1.out.of 0 _ rfl; have p1 := HR1.out.of 1 _ rfl; have p2 := HR1.out.of 2 _ rfl; have fr := HR1.out.2.1; clear hown hg hwh)
  have hz := HG.out.size
  have H0 := HR1.out.put3 (.bool false) (.slice A' xs.length c') (.slice none 0 0)
  have q0 := H0.of 0 _ rfl
  have q1 := H0.of 1 _ rfl
  have q2 := H0.of 2 _ rfl
  refine bodyPost_ret (v := .agg #[.bool false, .slice A' xs.length c', .slice none 0 0]) (by simp only [results, Tryz.results90, go_sem]; simp [go_sem, q0, q1, q2]) rfl ?_
  rw [alloc_size, alloc_size] at hz
  exact ⟨_, _, rfl, planOwn (pl := noP xs) (w.heap.size + 1) (HO.out.keep (w' := put3 w1 w.heap.size (.bool false) (.slice A' xs.length c') (.slice none 0 0)) fun b hb _ => put3_far _ _ _ _ _ (by first | omega | (rcases hb with h | h <;> first | omega | (rw [alloc_size, alloc_size] at h; omega)))) (Sh.Own.nil _ (fun _ => False)) (fun b hb => by first | omega | (rcases hb with h | h <;> first | omega | (rw [alloc_size, alloc_size] at h; omega))) (fun b hb => hb.elim) (fun b _ h2 => h2) (by omega), belowPut3 (HB.out.trans (HG.out.mono (by omega))) _ (Nat.le_refl _) _ _ _⟩

theorem keyN_dig (c : UInt8) {n : Int} (h : n ≤ 9) : keyN c n = ⟨#[c]⟩ ++ digS n := by unfold keyN numS; rw [if_pos (by omega)]
theorem sto_short' {its : List Item} (h : stoB its = true) : Short its its.length := fun j it hj hit => by
  have := itemB_parts ((stoB_parts h).2.1 j it hj hit)
  omega
set_option maxRecDepth 100000 in
set_option maxHeartbeats 2000000 in
theorem specIn1_any (w : World) (o : Op) (v : Value) (its : List Item) (hv : Items w w.heap.size v its) (hs : stoB its = true) (ho : opB o = true) (hk : o.kind = 1) :
    Calls Tryz.prog 86 #[.agg #[v], opV o] w (PlannedAg (inP1 its o) w) := by
  obtain ⟨A, c, rfl, hc2, hc1⟩ := hv.form
  obtain ⟨b0, b1, b2, b3, b4, b5, b6, b7, b8, b9, b10, b11⟩ := opB_parts ho
  have HV := Lib.hid hv
  have HS := Lib.hid (Ps3.start w o (.slice A its.length c))
  have HK := Lib.hid (keyN_dig 115 b3)
  have HSh := Lib.hid (sto_short' hs)
  have hds : (digS o.inn).size ≤ 1 := Nat.le_of_eq (digS_size _)
  have hk1 : (o.kind == 1) = true := by rw [hk]; rfl
  have hk5 : (o.kind == 5) = false := by rw [hk]; rfl
  clear hv ho hk
  go_enter Tryz.func86, Tryz.ntmps86
  have o2 := HS.out.op.of 2 _ rfl
  go_wp2_with fail
  clear o2
  refine (l3Digit_any _ _ b2 b3).mono ?_
  rintro e w1 ⟨rfl, hb⟩
  replace HS := Lib.hid (HS.out.call hb)
  clear hb
  have s0 := HS.out.sto.of 0 _ rfl
  go_wp2_with fail
  rw [← HK.out]
  clear s0 hds
  refine (l1Get_any _ _ its _ ((HV.out.below HS.out.bel).more HS.out.bel.size) HSh.out).mono ?_
  rintro e w2 ⟨u, rfl, hu, hb⟩
  replace HS := Lib.hid (HS.out.call hb)
  have HU := Lib.hid hu
  clear hb hu
  obtain ⟨hz0, hz1, hz2⟩ := HS.out.size
  have o0 := HS.out.op.of 0 _ rfl
  rcases hlk : lookOk its (keyN 115 o.inn)
  · have HP := Lib.hid (show inP1 its o = _ by unfold inP1; rw [hlk, if_neg (by decide)])
    have o1 := HS.out.op.of 1 _ rfl
    have p0 := HS.out.pl.of 0 _ rfl
    have p1 := HS.out.pl.of 1 _ rfl
    have p2 := HS.out.pl.of 2 _ rfl
    have fr := HS.out.pl.2.1
    go_wp2
    clear o0 o1 p0 p1 p2 fr
    have h0 := strs_lit (put3 w2 (w.heap.size + 1 + 1) (.bool true) (.slice (some ⟨w2.heap.size, 0, none⟩) 1 1) (.slice (some ⟨w2.heap.size + 1 + 1 + 1, 0, none⟩) 1 1)) [keyN 115 o.inn] #[.string (keyN 115 o.inn)] rfl (by simp [keyN_max]) (by unfold maxLen; simp)
    rw [put3_size] at h0
    have h2 := ints_lit (((put3 w2 (w.heap.size + 1 + 1) (.bool true) (.slice (some ⟨w2.heap.size, 0, none⟩) 1 1) (.slice (some ⟨w2.heap.size + 1 + 1 + 1, 0, none⟩) 1 1)).alloc (.cells #[.string (keyN 115 o.inn)] 9)).alloc (.cells #[.bool true, .slice (some ⟨w2.heap.size, 0, none⟩) 1 1, .slice (some ⟨w2.heap.size + 1 + 1 + 1, 0, none⟩) 1 1] 41)) [o.who] #[.int .i64 (o.who)] rfl (by unfold maxLen; simp)
    rw [alloc_size, alloc_size, put3_size] at h2
    have h3 := wrs_lit1 ((((put3 w2 (w.heap.size + 1 + 1) (.bool true) (.slice (some ⟨w2.heap.size, 0, none⟩) 1 1) (.slice (some ⟨w2.heap.size + 1 + 1 + 1, 0, none⟩) 1 1)).alloc (.cells #[.string (keyN 115 o.inn)] 9)).alloc (.cells #[.bool true, .slice (some ⟨w2.heap.size, 0, none⟩) 1 1, .slice (some ⟨w2.heap.size + 1 + 1 + 1, 0, none⟩) 1 1] 41)).alloc (.cells #[.int .i64 (o.who)] 3)) _ (keyN 115 o.inn) false (.slice (some ⟨w2.heap.size + 1 + 1, 0, none⟩) 1 1) [o.who] (keyN_max _ _) h2 (fun b hb => by rw [alloc_size, alloc_size, alloc_size, put3_size]; omega)
    rw [alloc_size, alloc_size, alloc_size, put3_size] at h3
    have HQ := (((((HS.out.pl.put3 (.bool true) (.slice (some ⟨w2.heap.size, 0, none⟩) 1 1) (.slice (some ⟨w2.heap.size + 1 + 1 + 1, 0, none⟩) 1 1)).after (.cells #[.string (keyN 115 o.inn)] 9)).after (.cells #[.bool true, .slice (some ⟨w2.heap.size, 0, none⟩) 1 1, .slice (some ⟨w2.heap.size + 1 + 1 + 1, 0, none⟩) 1 1] 41)).after (.cells #[.int .i64 (o.who)] 3)).after (.cells #[.string (keyN 115 o.inn), .bool false, .slice (some ⟨w2.heap.size + 1 + 1, 0, none⟩) 1 1] 77))
    have q0 := HQ.of 0 _ rfl
    have q1 := HQ.of 1 _ rfl
    have q2 := HQ.of 2 _ rfl
    rw [HP.out]
    refine bodyPost_ret (v := .agg #[.bool true, .slice (some ⟨w2.heap.size, 0, none⟩) 1 1, .slice (some ⟨w2.heap.size + 1 + 1 + 1, 0, none⟩) 1 1]) (by simp only [results, Tryz.results86, go_sem]; simp [go_sem, q0, q1, q2]) rfl ⟨_, _, rfl, planOwn (pl := ⟨true, [keyN 115 o.inn], [⟨keyN 115 o.inn, false, [o.who]⟩]⟩) (w2.heap.size) (((h0.below (belowOne _ _)).below (belowOne _ _)).below (belowOne _ _)) h3 (fun b hb => by first | omega | (rcases hb with h | h <;> first | exact h.elim | omega | (rcases h with h | h <;> first | exact h.elim | omega))) (fun b hb => by first | omega | (rcases hb with h | h <;> first | exact h.elim | omega | (rcases h with h | h <;> first | exact h.elim | omega))) (fun b h1 h2 => by first | omega | (rcases h2 with h | h <;> first | exact h.elim | omega | (rcases h with h | h <;> first | exact h.elim | omega))) (by omega), (((((belowPut3 HS.out.bel (w.heap.size + 1 + 1) (by omega) _ _ _).alloc (by rw [put3_size]; omega) _).alloc (by rw [alloc_size, put3_size]; omega) _).alloc (by rw [alloc_size, alloc_size, put3_size]; omega) _).alloc (by rw [alloc_size, alloc_size, alloc_size, put3_size]; omega) _)⟩
  · have HP := Lib.hid (show inP1 its o = _ by unfold inP1; rw [hlk, if_pos rfl])
    have HRow : Hid (strSh.Row (((w2.alloc (.cells #[.string (keyN 115 o.inn)] 9)).alloc (.cells #[.bool true, .slice (some ⟨w2.heap.size, 0, none⟩) 1 1, .slice none 0 0] 41)).alloc (.cells #[.string (keyN 115 o.inn)] 9)) (((w2.alloc (.cells #[.string (keyN 115 o.inn)] 9)).alloc (.cells #[.bool true, .slice (some ⟨w2.heap.size, 0, none⟩) 1 1, .slice none 0 0] 41)).alloc (.cells #[.string (keyN 115 o.inn)] 9)).heap.size (.slice (some ⟨w2.heap.size + 1 + 1, 0, none⟩) 1 1) [keyN 115 o.inn]) := Lib.hid (by
      have h := (strs_lit ((w2.alloc (.cells #[.string (keyN 115 o.inn)] 9)).alloc (.cells #[.bool true, .slice (some ⟨w2.heap.size, 0, none⟩) 1 1, .slice none 0 0] 41)) [keyN 115 o.inn] #[.string (keyN 115 o.inn)] rfl (by simp [keyN_max]) (by unfold maxLen; simp)).row
      rw [show ((w2.alloc (.cells #[.string (keyN 115 o.inn)] 9)).alloc (.cells #[.bool true, .slice (some ⟨w2.heap.size, 0, none⟩) 1 1, .slice none 0 0] 41)).heap.size = w2.heap.size + 1 + 1 by rw [alloc_size, alloc_size]] at h
      exact h)
    have HT := Lib.hid (((HS.out.call (belowOne w2 (.cells #[.string (keyN 115 o.inn)] 9))).call (belowOne (w2.alloc (.cells #[.string (keyN 115 o.inn)] 9)) (.cells #[.bool true, .slice (some ⟨w2.heap.size, 0, none⟩) 1 1, .slice none 0 0] 41))).call (belowOne ((w2.alloc (.cells #[.string (keyN 115 o.inn)] 9)).alloc (.cells #[.bool true, .slice (some ⟨w2.heap.size, 0, none⟩) 1 1, .slice none 0 0] 41)) (.cells #[.string (keyN 115 o.inn)] 9)))
    have hzq : w.heap.size + 1 + 1 < (((w2.alloc (.cells #[.string (keyN 115 o.inn)] 9)).alloc (.cells #[.bool true, .slice (some ⟨w2.heap.size, 0, none⟩) 1 1, .slice none 0 0] 41)).alloc (.cells #[.string (keyN 115 o.inn)] 9)).heap.size := HT.out.size.2.2
    have HZQ := Lib.hid hzq
    clear hzq
    go_wp2_with fail
    refine (specNo_any _ _ [keyN 115 o.inn] HRow.out (by simp)).mono ?_
    rintro e wq ⟨ua, ub, rfl, ho, hb⟩
    replace HT := Lib.hid (HT.out.call hb)
    obtain ⟨Aa, ca, Ab, cb, rfl, rfl⟩ := planForm ho
    have HO := Lib.hid ho
    clear hb ho HRow
    have p0 := HT.out.pl.of 0 _ rfl
    have p1 := HT.out.pl.of 1 _ rfl
    have p2 := HT.out.pl.of 2 _ rfl
    have fr := HT.out.pl.2.1
    go_wp2
    clear p0 p1 p2 fr
    have HQ := HT.out.pl.put3 (.bool (noP [keyN 115 o.inn]).ok) (.slice Aa (noP [keyN 115 o.inn]).locks.length ca) (.slice Ab (noP [keyN 115 o.inn]).writes.length cb)
    have q0 := HQ.of 0 _ rfl
    have q1 := HQ.of 1 _ rfl
    have q2 := HQ.of 2 _ rfl
    rw [HP.out]
    exact bodyPost_ret (v := .agg #[.bool (noP [keyN 115 o.inn]).ok, .slice Aa (noP [keyN 115 o.inn]).locks.length ca, .slice Ab (noP [keyN 115 o.inn]).writes.length cb]) (by simp only [results, Tryz.results86, go_sem]; simp [go_sem, q0, q1, q2]) rfl (HT.out.put HO.out HZQ.out _ rfl)

set_option maxRecDepth 100000 in
set_option maxHeartbeats 2000000 in
theorem specIn2_any (w : World) (o : Op) (v : Value) (its : List Item) (hv : Items w w.heap.size v its) (hs : stoB its = true) (ho : opB o = true) (hk : o.kind = 2) :
    Calls Tryz.prog 86 #[.agg #[v], opV o] w (PlannedAg (inP2 its o) w) := by
  obtain ⟨A, c, rfl, hc2, hc1⟩ := hv.form
  obtain ⟨b0, b1, b2, b3, b4, b5, b6, b7, b8, b9, b10, b11⟩ := opB_parts ho
  have HV := Lib.hid hv
  have HS := Lib.hid (Ps3.start w o (.slice A its.length c))
  have HK := Lib.hid (keyN_dig 115 b3)
  have HSh := Lib.hid (sto_short' hs)
  have hds : (digS o.inn).size ≤ 1 := Nat.le_of_eq (digS_size _)
  have hk1 : (o.kind == 1) = false := by rw [hk]; rfl
  have hk5 : (o.kind == 5) = false := by rw [hk]; rfl
  clear hv ho hk
  go_enter Tryz.func86, Tryz.ntmps86
  have o2 := HS.out.op.of 2 _ rfl
  go_wp2_with fail
  clear o2
  refine (l3Digit_any _ _ b2 b3).mono ?_
  rintro e w1 ⟨rfl, hb⟩
  replace HS := Lib.hid (HS.out.call hb)
  clear hb
  have s0 := HS.out.sto.of 0 _ rfl
  go_wp2_with fail
  rw [← HK.out]
  clear s0 hds
  refine (l1Get_any _ _ its _ ((HV.out.below HS.out.bel).more HS.out.bel.size) HSh.out).mono ?_
  rintro e w2 ⟨u, rfl, hu, hb⟩
  replace HS := Lib.hid (HS.out.call hb)
  have HU := Lib.hid hu
  clear hb hu
  obtain ⟨hz0, hz1, hz2⟩ := HS.out.size
  have o0 := HS.out.op.of 0 _ rfl
  have HW : Hid (Below w2.heap.size w2 ((w2.alloc (.cells #[.string (keyN 115 o.inn)] 9)).alloc (.cells #[.bool true, (.slice (some ⟨w2.heap.size, 0, none⟩) 1 1), (.slice none 0 0)] 41))) := Lib.hid (belowTwo _ _ _)
  have HPb := Lib.hid (show Held ((w2.alloc (.cells #[.string (keyN 115 o.inn)] 9)).alloc (.cells #[.bool true, (.slice (some ⟨w2.heap.size, 0, none⟩) 1 1), (.slice none 0 0)] 41)) (w2.heap.size + 1) [.bool true, (.slice (some ⟨w2.heap.size, 0, none⟩) 1 1), (.slice none 0 0)] from by have h := Held.new (w2.alloc (.cells #[.string (keyN 115 o.inn)] 9)) #[.bool true, (.slice (some ⟨w2.heap.size, 0, none⟩) 1 1), (.slice none 0 0)] 41; rw [alloc_size] at h; exact h)
  have h0 := strs_lit w2 [keyN 115 o.inn] #[.string (keyN 115 o.inn)] rfl (by simp [keyN_max]) (by unfold maxLen; simp)
  have HZ := Lib.hid (show ((w2.alloc (.cells #[.string (keyN 115 o.inn)] 9)).alloc (.cells #[.bool true, (.slice (some ⟨w2.heap.size, 0, none⟩) 1 1), (.slice none 0 0)] 41)).heap.size = w2.heap.size + 1 + 1 by rw [alloc_size, alloc_size])
  have HO := Lib.hid (show planSh.own ((w2.alloc (.cells #[.string (keyN 115 o.inn)] 9)).alloc (.cells #[.bool true, (.slice (some ⟨w2.heap.size, 0, none⟩) 1 1), (.slice none 0 0)] 41)) (fun i => w2.heap.size ≤ i ∧ i < ((w2.alloc (.cells #[.string (keyN 115 o.inn)] 9)).alloc (.cells #[.bool true, (.slice (some ⟨w2.heap.size, 0, none⟩) 1 1), (.slice none 0 0)] 41)).heap.size) [.bool true, (.slice (some ⟨w2.heap.size, 0, none⟩) 1 1), (.slice none 0 0)] ⟨true, [keyN 115 o.inn], []⟩ from planOwn (w0 := w2) (pl := ⟨true, [keyN 115 o.inn], []⟩) w2.heap.size (h0.below (belowOne _ _)) (Sh.Own.nil _ (fun _ => False)) (fun b hb => by omega) (fun b hb => hb.elim) (fun b _ h2 => h2) (Nat.le_refl _))
  clear h0
  rcases hlk : lookOk its (keyN 115 o.inn)
  · have HM := Lib.hid (show mineB its o = false by unfold mineB; rw [hlk]; rfl)
    have HP := Lib.hid (show inP2 its o = noP [keyN 115 o.inn] by unfold inP2; rw [HM.out]; rfl)
    go_wp2
    go_quiet (fail)
    clear o0
    replace HPb := Lib.hid (HPb.out.drewN nq)
    have HT := Lib.hid ((HS.out.call HW.out).drewN nq)
    replace HO := Lib.hid (show planSh.own (((w2.alloc (.cells #[.string (keyN 115 o.inn)] 9)).alloc (.cells #[.bool true, (.slice (some ⟨w2.heap.size, 0, none⟩) 1 1), (.slice none 0 0)] 41)).drewN nq) (fun i => w2.heap.size ≤ i ∧ i < (((w2.alloc (.cells #[.string (keyN 115 o.inn)] 9)).alloc (.cells #[.bool true, (.slice (some ⟨w2.heap.size, 0, none⟩) 1 1), (.slice none 0 0)] 41)).drewN nq).heap.size) [.bool true, (.slice (some ⟨w2.heap.size, 0, none⟩) 1 1), (.slice none 0 0)] ⟨true, [keyN 115 o.inn], []⟩ from planSh.okeep HO.out fun _ _ _ => rfl)
    have HZ2 := Lib.hid (show (((w2.alloc (.cells #[.string (keyN 115 o.inn)] 9)).alloc (.cells #[.bool true, (.slice (some ⟨w2.heap.size, 0, none⟩) 1 1), (.slice none 0 0)] 41)).drewN nq).heap.size = _ from HZ.out)
    clear HS HW HZ
    generalize ((w2.alloc (.cells #[.string (keyN 115 o.inn)] 9)).alloc (.cells #[.bool true, (.slice (some ⟨w2.heap.size, 0, none⟩) 1 1), (.slice none 0 0)] 41)).drewN nq = w3 at *
    have HRow : Hid (strSh.Row (w3.alloc (.cells #[.string (keyN 115 o.inn)] 9)) (w3.alloc (.cells #[.string (keyN 115 o.inn)] 9)).heap.size (.slice (some ⟨w3.heap.size, 0, none⟩) 1 1) [keyN 115 o.inn]) := Lib.hid (by
      have h := (strs_lit w3 [keyN 115 o.inn] #[.string (keyN 115 o.inn)] rfl (by simp [keyN_max]) (by unfold maxLen; simp)).row
      exact h)
    have HT := Lib.hid (HT.out.call (belowOne w3 (.cells #[.string (keyN 115 o.inn)] 9)))
    have hzq : w.heap.size + 1 + 1 < (w3.alloc (.cells #[.string (keyN 115 o.inn)] 9)).heap.size := HT.out.size.2.2
    have HZQ := Lib.hid hzq
    clear hzq
    go_wp2_with fail
    refine (specNo_any _ _ [keyN 115 o.inn] HRow.out (by simp)).mono ?_
    rintro e wq ⟨ua, ub, rfl, ho, hb⟩
    replace HT := Lib.hid (HT.out.call hb)
    obtain ⟨Aa, ca, Ab, cb, rfl, rfl⟩ := planForm ho
    have HO := Lib.hid ho
    clear hb ho HRow
    have p0 := HT.out.pl.of 0 _ rfl
    have p1 := HT.out.pl.of 1 _ rfl
    have p2 := HT.out.pl.of 2 _ rfl
    have fr := HT.out.pl.2.1
    go_wp2
    clear p0 p1 p2 fr
    have HQ := HT.out.pl.put3 (.bool (noP [keyN 115 o.inn]).ok) (.slice Aa (noP [keyN 115 o.inn]).locks.length ca) (.slice Ab (noP [keyN 115 o.inn]).writes.length cb)
    have q0 := HQ.of 0 _ rfl
    have q1 := HQ.of 1 _ rfl
    have q2 := HQ.of 2 _ rfl
    rw [HP.out]
    exact bodyPost_ret (v := .agg #[.bool (noP [keyN 115 o.inn]).ok, .slice Aa (noP [keyN 115 o.inn]).locks.length ca, .slice Ab (noP [keyN 115 o.inn]).writes.length cb]) (by simp only [results, Tryz.results86, go_sem]; simp [go_sem, q0, q1, q2]) rfl (HT.out.put HO.out HZQ.out _ rfl)
  obtain ⟨-, -, n1, -, -⟩ := itemB_parts (look_item hs hlk)
  dsimp only at n1
  obtain ⟨A', cc, rfl, hd1, hd2, hrow⟩ := (HU.out.ints.below HW.out)
  obtain ⟨b, off, rfl, hb', hcell⟩ := hrow (by omega)
  have v0 := hcell 0 (by omega)
  rw [Nat.add_zero] at v0
  unfold maxLen at hd2
  have n2 : (0 : Int) < ((lookV its (keyN 115 o.inn)).length : Int) := by omega
  have n3 : 0 < (lookV its (keyN 115 o.inn)).length := by omega
  have o1 := (HS.out.call HW.out).op.of 1 _ rfl
  have hb1 : b < w2.heap.size + 1 := by omega
  have hb2 : b < w2.heap.size + 1 + 1 := by omega
  have hb3 : b < w2.heap.size + 1 + 1 + 1 := by omega
  have v0' : w2.cell? ⟨b, off, none⟩ = some (.int .i64 (nth (lookV its (keyN 115 o.inn)) 0)) := (HW.out.cell (p := ⟨b, off, none⟩) hb').symm.trans v0
  have o1' := HS.out.op.of 1 _ rfl
  have HMi : Hid (mineB its o = (nth (lookV its (keyN 115 o.inn)) 0 == o.who)) := Lib.hid (by unfold mineB; rw [hlk]; rfl)
  clear hrow hcell HU
  generalize lookV its (keyN 115 o.inn) = xs at *
  by_cases hm : nth xs 0 = o.who
  · have HM := Lib.hid (show mineB its o = true by rw [HMi.out]; simp [hm])
    have HP := Lib.hid (show inP2 its o = ⟨true, [keyN 115 o.inn], []⟩ by unfold inP2; rw [HM.out])
    have hm1 : (nth xs 0 == o.who) = true := by simp [hm]
    have hm2 : (nth xs 0 != o.who) = false := by simp [hm]
    clear hm
    go_wp2
    go_quiet (fail)
    clear o0 o1 v0 v0' o1'
    replace HPb := Lib.hid (HPb.out.drewN nq)
    have HT := Lib.hid ((HS.out.call HW.out).drewN nq)
    replace HO := Lib.hid (show planSh.own (((w2.alloc (.cells #[.string (keyN 115 o.inn)] 9)).alloc (.cells #[.bool true, (.slice (some ⟨w2.heap.size, 0, none⟩) 1 1), (.slice none 0 0)] 41)).drewN nq) (fun i => w2.heap.size ≤ i ∧ i < (((w2.alloc (.cells #[.string (keyN 115 o.inn)] 9)).alloc (.cells #[.bool true, (.slice (some ⟨w2.heap.size, 0, none⟩) 1 1), (.slice none 0 0)] 41)).drewN nq).heap.size) [.bool true, (.slice (some ⟨w2.heap.size, 0, none⟩) 1 1), (.slice none 0 0)] ⟨true, [keyN 115 o.inn], []⟩ from planSh.okeep HO.out fun _ _ _ => rfl)
    have HZ2 := Lib.hid (show (((w2.alloc (.cells #[.string (keyN 115 o.inn)] 9)).alloc (.cells #[.bool true, (.slice (some ⟨w2.heap.size, 0, none⟩) 1 1), (.slice none 0 0)] 41)).drewN nq).heap.size = _ from HZ.out)
    clear HS HW HZ
    generalize ((w2.alloc (.cells #[.string (keyN 115 o.inn)] 9)).alloc (.cells #[.bool true, (.slice (some ⟨w2.heap.size, 0, none⟩) 1 1), (.slice none 0 0)] 41)).drewN nq = w3 at *
    have p0 := HT.out.pl.of 0 _ rfl
    have p1 := HT.out.pl.of 1 _ rfl
    have p2 := HT.out.pl.of 2 _ rfl
    have fr := HT.out.pl.2.1
    have r0 := HPb.out.of 0 _ rfl
    have r1 := HPb.out.of 1 _ rfl
    have r2 := HPb.out.of 2 _ rfl
    go_wp2
    clear p0 p1 p2 fr r0 r1 r2
    have HQ := HT.out.pl.put3 (.bool true) (.slice (some ⟨w2.heap.size, 0, none⟩) 1 1) (.slice none 0 0)
    have q0 := HQ.of 0 _ rfl
    have q1 := HQ.of 1 _ rfl
    have q2 := HQ.of 2 _ rfl
    rw [HP.out]
    exact bodyPost_ret (v := .agg #[.bool true, (.slice (some ⟨w2.heap.size, 0, none⟩) 1 1), (.slice none 0 0)]) (by simp only [results, Tryz.results86, go_sem]; simp [go_sem, q0, q1, q2]) rfl (HT.out.put (pl := ⟨true, [keyN 115 o.inn], []⟩) HO.out (by omega) _ rfl)
  · have HM := Lib.hid (show mineB its o = false by rw [HMi.out]; simp [hm])
    have HP := Lib.hid (show inP2 its o = noP [keyN 115 o.inn] by unfold inP2; rw [HM.out]; rfl)
    have hm1 : (nth xs 0 == o.who) = false := by simp [hm]
    have hm2 : (nth xs 0 != o.who) = true := by simp [hm]
    clear hm
    go_wp2
    go_quiet (fail)
    clear o0 o1 v0 v0' o1'
    replace HPb := Lib.hid (HPb.out.drewN nq)
    have HT := Lib.hid ((HS.out.call HW.out).drewN nq)
    replace HO := Lib.hid (show planSh.own (((w2.alloc (.cells #[.string (keyN 115 o.inn)] 9)).alloc (.cells #[.bool true, (.slice (some ⟨w2.heap.size, 0, none⟩) 1 1), (.slice none 0 0)] 41)).drewN nq) (fun i => w2.heap.size ≤ i ∧ i < (((w2.alloc (.cells #[.string (keyN 115 o.inn)] 9)).alloc (.cells #[.bool true, (.slice (some ⟨w2.heap.size, 0, none⟩) 1 1), (.slice none 0 0)] 41)).drewN nq).heap.size) [.bool true, (.slice (some ⟨w2.heap.size, 0, none⟩) 1 1), (.slice none 0 0)] ⟨true, [keyN 115 o.inn], []⟩ from planSh.okeep HO.out fun _ _ _ => rfl)
    have HZ2 := Lib.hid (show (((w2.alloc (.cells #[.string (keyN 115 o.inn)] 9)).alloc (.cells #[.bool true, (.slice (some ⟨w2.heap.size, 0, none⟩) 1 1), (.slice none 0 0)] 41)).drewN nq).heap.size = _ from HZ.out)
    clear HS HW HZ
    generalize ((w2.alloc (.cells #[.string (keyN 115 o.inn)] 9)).alloc (.cells #[.bool true, (.slice (some ⟨w2.heap.size, 0, none⟩) 1 1), (.slice none 0 0)] 41)).drewN nq = w3 at *
    have HRow : Hid (strSh.Row (w3.alloc (.cells #[.string (keyN 115 o.inn)] 9)) (w3.alloc (.cells #[.string (keyN 115 o.inn)] 9)).heap.size (.slice (some ⟨w3.heap.size, 0, none⟩) 1 1) [keyN 115 o.inn]) := Lib.hid (by
      have h := (strs_lit w3 [keyN 115 o.inn] #[.string (keyN 115 o.inn)] rfl (by simp [keyN_max]) (by unfold maxLen; simp)).row
      exact h)
    have HT := Lib.hid (HT.out.call (belowOne w3 (.cells #[.string (keyN 115 o.inn)] 9)))
    have hzq : w.heap.size + 1 + 1 < (w3.alloc (.cells #[.string (keyN 115 o.inn)] 9)).heap.size := HT.out.size.2.2
    have HZQ := Lib.hid hzq
    clear hzq
    go_wp2_with fail
    refine (specNo_any _ _ [keyN 115 o.inn] HRow.out (by simp)).mono ?_
    rintro e wq ⟨ua, ub, rfl, ho, hb⟩
    replace HT := Lib.hid (HT.out.call hb)
    obtain ⟨Aa, ca, Ab, cb, rfl, rfl⟩ := planForm ho
    have HO := Lib.hid ho
    clear hb ho HRow
    have p0 := HT.out.pl.of 0 _ rfl
    have p1 := HT.out.pl.of 1 _ rfl
    have p2 := HT.out.pl.of 2 _ rfl
    have fr := HT.out.pl.2.1
    go_wp2
    clear p0 p1 p2 fr
    have HQ := HT.out.pl.put3 (.bool (noP [keyN 115 o.inn]).ok) (.slice Aa (noP [keyN 115 o.inn]).locks.length ca) (.slice Ab (noP [keyN 115 o.inn]).writes.length cb)
    have q0 := HQ.of 0 _ rfl
    have q1 := HQ.of 1 _ rfl
    have q2 := HQ.of 2 _ rfl
    rw [HP.out]
    exact bodyPost_ret (v := .agg #[.bool (noP [keyN 115 o.inn]).ok, .slice Aa (noP [keyN 115 o.inn]).locks.length ca, .slice Ab (noP [keyN 115 o.inn]).writes.length cb]) (by simp only [results, Tryz.results86, go_sem]; simp [go_sem, q0, q1, q2]) rfl (HT.out.put HO.out HZQ.out _ rfl)

set_option maxRecDepth 100000 in
set_option maxHeartbeats 2000000 in
theorem specIn5_any (w : World) (o : Op) (v : Value) (its : List Item) (hv : Items w w.heap.size v its) (hs : stoB its = true) (ho : opB o = true) (hk : o.kind = 5) :
    Calls Tryz.prog 86 #[.agg #[v], opV o] w (PlannedAg (inP5 its o) w) := by
  obtain ⟨A, c, rfl, hc2, hc1⟩ := hv.form
  obtain ⟨b0, b1, b2, b3, b4, b5, b6, b7, b8, b9, b10, b11⟩ := opB_parts ho
  have HV := Lib.hid hv
  have HS := Lib.hid (Ps3.start w o (.slice A its.length c))
  have HK := Lib.hid (keyN_dig 115 b3)
  have HSh := Lib.hid (sto_short' hs)
  have hds : (digS o.inn).size ≤ 1 := Nat.le_of_eq (digS_size _)
  have hk1 : (o.kind == 1) = false := by rw [hk]; rfl
  have hk5 : (o.kind == 5) = true := by rw [hk]; rfl
  clear hv ho hk
  go_enter Tryz.func86, Tryz.ntmps86
  have o2 := HS.out.op.of 2 _ rfl
  go_wp2_with fail
  clear o2
  refine (l3Digit_any _ _ b2 b3).mono ?_
  rintro e w1 ⟨rfl, hb⟩
  replace HS := Lib.hid (HS.out.call hb)
  clear hb
  have s0 := HS.out.sto.of 0 _ rfl
  go_wp2_with fail
  rw [← HK.out]
  clear s0 hds
  refine (l1Get_any _ _ its _ ((HV.out.below HS.out.bel).more HS.out.bel.size) HSh.out).mono ?_
  rintro e w2 ⟨u, rfl, hu, hb⟩
  replace HS := Lib.hid (HS.out.call hb)
  have HU := Lib.hid hu
  clear hb hu
  obtain ⟨hz0, hz1, hz2⟩ := HS.out.size
  have o0 := HS.out.op.of 0 _ rfl
  have HW : Hid (Below w2.heap.size w2 (((w2.alloc (.cells #[.string (keyN 115 o.inn)] 9)).alloc (.cells #[.bool true, (.slice (some ⟨w2.heap.size, 0, none⟩) 1 1), (.slice (some ⟨w2.heap.size + 1 + 1, 0, none⟩) 1 1)] 41)).alloc (.cells #[.string (keyN 115 o.inn), .bool true, .slice none 0 0] 77))) := Lib.hid (belowThree _ _ _ _)
  have HPb := Lib.hid (show Held (((w2.alloc (.cells #[.string (keyN 115 o.inn)] 9)).alloc (.cells #[.bool true, (.slice (some ⟨w2.heap.size, 0, none⟩) 1 1), (.slice (some ⟨w2.heap.size + 1 + 1, 0, none⟩) 1 1)] 41)).alloc (.cells #[.string (keyN 115 o.inn), .bool true, .slice none 0 0] 77)) (w2.heap.size + 1) [.bool true, (.slice (some ⟨w2.heap.size, 0, none⟩) 1 1), (.slice (some ⟨w2.heap.size + 1 + 1, 0, none⟩) 1 1)] from by have h := Held.new (w2.alloc (.cells #[.string (keyN 115 o.inn)] 9)) #[.bool true, (.slice (some ⟨w2.heap.size, 0, none⟩) 1 1), (.slice (some ⟨w2.heap.size + 1 + 1, 0, none⟩) 1 1)] 41; rw [alloc_size] at h; exact (h.after _))
  have h0 := strs_lit w2 [keyN 115 o.inn] #[.string (keyN 115 o.inn)] rfl (by simp [keyN_max]) (by unfold maxLen; simp)
  have h2 := wrs_lit1 ((w2.alloc (.cells #[.string (keyN 115 o.inn)] 9)).alloc (.cells #[.bool true, (.slice (some ⟨w2.heap.size, 0, none⟩) 1 1), (.slice (some ⟨w2.heap.size + 1 + 1, 0, none⟩) 1 1)] 41)) (fun _ => False) (keyN 115 o.inn) true (.slice none 0 0) [] (keyN_max _ _) (Sh.Own.nil _ _) (fun _ h => h.elim)
  rw [alloc_size, alloc_size] at h2
  have HZ := Lib.hid (show (((w2.alloc (.cells #[.string (keyN 115 o.inn)] 9)).alloc (.cells #[.bool true, (.slice (some ⟨w2.heap.size, 0, none⟩) 1 1), (.slice (some ⟨w2.heap.size + 1 + 1, 0, none⟩) 1 1)] 41)).alloc (.cells #[.string (keyN 115 o.inn), .bool true, .slice none 0 0] 77)).heap.size = w2.heap.size + 1 + 1 + 1 by rw [alloc_size, alloc_size, alloc_size])
  have HO := Lib.hid (show planSh.own (((w2.alloc (.cells #[.string (keyN 115 o.inn)] 9)).alloc (.cells #[.bool true, (.slice (some ⟨w2.heap.size, 0, none⟩) 1 1), (.slice (some ⟨w2.heap.size + 1 + 1, 0, none⟩) 1 1)] 41)).alloc (.cells #[.string (keyN 115 o.inn), .bool true, .slice none 0 0] 77)) (fun i => w2.heap.size ≤ i ∧ i < (((w2.alloc (.cells #[.string (keyN 115 o.inn)] 9)).alloc (.cells #[.bool true, (.slice (some ⟨w2.heap.size, 0, none⟩) 1 1), (.slice (some ⟨w2.heap.size + 1 + 1, 0, none⟩) 1 1)] 41)).alloc (.cells #[.string (keyN 115 o.inn), .bool true, .slice none 0 0] 77)).heap.size) [.bool true, (.slice (some ⟨w2.heap.size, 0, none⟩) 1 1), (.slice (some ⟨w2.heap.size + 1 + 1, 0, none⟩) 1 1)] ⟨true, [keyN 115 o.inn], [⟨keyN 115 o.inn, true, []⟩]⟩ from planOwn (w0 := w2) (pl := ⟨true, [keyN 115 o.inn], [⟨keyN 115 o.inn, true, []⟩]⟩) w2.heap.size ((h0.below (belowOne _ _)).below (belowOne _ _)) h2 (fun b hb => by omega) (fun b hb => by rcases hb with h | h <;> first | exact h.elim | omega) (fun b h1 h2 => by rcases h2 with h | h <;> first | exact h.elim | omega) (Nat.le_refl _))
  clear h0 h2
  rcases hlk : lookOk its (keyN 115 o.inn)
  · have HM := Lib.hid (show mineB its o = false by unfold mineB; rw [hlk]; rfl)
    have HP := Lib.hid (show inP5 its o = noP [keyN 115 o.inn] by unfold inP5; rw [HM.out, if_neg (by decide)])
    go_wp2
    go_quiet (fail)
    clear o0
    replace HPb := Lib.hid (HPb.out.drewN nq)
    have HT := Lib.hid ((HS.out.call HW.out).drewN nq)
    replace HO := Lib.hid (show planSh.own ((((w2.alloc (.cells #[.string (keyN 115 o.inn)] 9)).alloc (.cells #[.bool true, (.slice (some ⟨w2.heap.size, 0, none⟩) 1 1), (.slice (some ⟨w2.heap.size + 1 + 1, 0, none⟩) 1 1)] 41)).alloc (.cells #[.string (keyN 115 o.inn), .bool true, .slice none 0 0] 77)).drewN nq) (fun i => w2.heap.size ≤ i ∧ i < ((((w2.alloc (.cells #[.string (keyN 115 o.inn)] 9)).alloc (.cells #[.bool true, (.slice (some ⟨w2.heap.size, 0, none⟩) 1 1), (.slice (some ⟨w2.heap.size + 1 + 1, 0, none⟩) 1 1)] 41)).alloc (.cells #[.string (keyN 115 o.inn), .bool true, .slice none 0 0] 77)).drewN nq).heap.size) [.bool true, (.slice (some ⟨w2.heap.size, 0, none⟩) 1 1), (.slice (some ⟨w2.heap.size + 1 + 1, 0, none⟩) 1 1)] ⟨true, [keyN 115 o.inn], [⟨keyN 115 o.inn, true, []⟩]⟩ from planSh.okeep HO.out fun _ _ _ => rfl)
    have HZ2 := Lib.hid (show ((((w2.alloc (.cells #[.string (keyN 115 o.inn)] 9)).alloc (.cells #[.bool true, (.slice (some ⟨w2.heap.size, 0, none⟩) 1 1), (.slice (some ⟨w2.heap.size + 1 + 1, 0, none⟩) 1 1)] 41)).alloc (.cells #[.string (keyN 115 o.inn), .bool true, .slice none 0 0] 77)).drewN nq).heap.size = _ from HZ.out)
    clear HS HW HZ
    generalize (((w2.alloc (.cells #[.string (keyN 115 o.inn)] 9)).alloc (.cells #[.bool true, (.slice (some ⟨w2.heap.size, 0, none⟩) 1 1), (.slice (some ⟨w2.heap.size + 1 + 1, 0, none⟩) 1 1)] 41)).alloc (.cells #[.string (keyN 115 o.inn), .bool true, .slice none 0 0] 77)).drewN nq = w3 at *
    have HRow : Hid (strSh.Row (w3.alloc (.cells #[.string (keyN 115 o.inn)] 9)) (w3.alloc (.cells #[.string (keyN 115 o.inn)] 9)).heap.size (.slice (some ⟨w3.heap.size, 0, none⟩) 1 1) [keyN 115 o.inn]) := Lib.hid (by
      have h := (strs_lit w3 [keyN 115 o.inn] #[.string (keyN 115 o.inn)] rfl (by simp [keyN_max]) (by unfold maxLen; simp)).row
      exact h)
    have HT := Lib.hid (HT.out.call (belowOne w3 (.cells #[.string (keyN 115 o.inn)] 9)))
    have hzq : w.heap.size + 1 + 1 < (w3.alloc (.cells #[.string (keyN 115 o.inn)] 9)).heap.size := HT.out.size.2.2
    have HZQ := Lib.hid hzq
    clear hzq
    go_wp2_with fail
    refine (specNo_any _ _ [keyN 115 o.inn] HRow.out (by simp)).mono ?_
    rintro e wq ⟨ua, ub, rfl, ho, hb⟩
    replace HT := Lib.hid (HT.out.call hb)
    obtain ⟨Aa, ca, Ab, cb, rfl, rfl⟩ := planForm ho
    have HO := Lib.hid ho
    clear hb ho HRow
    have p0 := HT.out.pl.of 0 _ rfl
    have p1 := HT.out.pl.of 1 _ rfl
    have p2 := HT.out.pl.of 2 _ rfl
    have fr := HT.out.pl.2.1
    go_wp2
    clear p0 p1 p2 fr
    have HQ := HT.out.pl.put3 (.bool (noP [keyN 115 o.inn]).ok) (.slice Aa (noP [keyN 115 o.inn]).locks.length ca) (.slice Ab (noP [keyN 115 o.inn]).writes.length cb)
    have q0 := HQ.of 0 _ rfl
    have q1 := HQ.of 1 _ rfl
    have q2 := HQ.of 2 _ rfl
    rw [HP.out]
    exact bodyPost_ret (v := .agg #[.bool (noP [keyN 115 o.inn]).ok, .slice Aa (noP [keyN 115 o.inn]).locks.length ca, .slice Ab (noP [keyN 115 o.inn]).writes.length cb]) (by simp only [results, Tryz.results86, go_sem]; simp [go_sem, q0, q1, q2]) rfl (HT.out.put HO.out HZQ.out _ rfl)
  obtain ⟨-, -, n1, -, -⟩ := itemB_parts (look_item hs hlk)
  dsimp only at n1
  obtain ⟨A', cc, rfl, hd1, hd2, hrow⟩ := (HU.out.ints.below HW.out)
  obtain ⟨b, off, rfl, hb', hcell⟩ := hrow (by omega)
  have v0 := hcell 0 (by omega)
  rw [Nat.add_zero] at v0
  unfold maxLen at hd2
  have n2 : (0 : Int) < ((lookV its (keyN 115 o.inn)).length : Int) := by omega
  have n3 : 0 < (lookV its (keyN 115 o.inn)).length := by omega
  have o1 := (HS.out.call HW.out).op.of 1 _ rfl
  have hb1 : b < w2.heap.size + 1 := by omega
  have hb2 : b < w2.heap.size + 1 + 1 := by omega
  have hb3 : b < w2.heap.size + 1 + 1 + 1 := by omega
  have v0' : w2.cell? ⟨b, off, none⟩ = some (.int .i64 (nth (lookV its (keyN 115 o.inn)) 0)) := (HW.out.cell (p := ⟨b, off, none⟩) hb').symm.trans v0
  have o1' := HS.out.op.of 1 _ rfl
  have HMi : Hid (mineB its o = (nth (lookV its (keyN 115 o.inn)) 0 == o.who)) := Lib.hid (by unfold mineB; rw [hlk]; rfl)
  clear hrow hcell HU
  generalize lookV its (keyN 115 o.inn) = xs at *
  by_cases hm : nth xs 0 = o.who
  · have HM := Lib.hid (show mineB its o = true by rw [HMi.out]; simp [hm])
    have HP := Lib.hid (show inP5 its o = ⟨true, [keyN 115 o.inn], [⟨keyN 115 o.inn, true, []⟩]⟩ by unfold inP5; rw [HM.out, if_pos rfl])
    have hm1 : (nth xs 0 == o.who) = true := by simp [hm]
    have hm2 : (nth xs 0 != o.who) = false := by simp [hm]
    clear hm
    go_wp2
    go_quiet (fail)
    clear o0 o1 v0 v0' o1'
    replace HPb := Lib.hid (HPb.out.drewN nq)
    have HT := Lib.hid ((HS.out.call HW.out).drewN nq)
    replace HO := Lib.hid (show planSh.own ((((w2.alloc (.cells #[.string (keyN 115 o.inn)] 9)).alloc (.cells #[.bool true, (.slice (some ⟨w2.heap.size, 0, none⟩) 1 1), (.slice (some ⟨w2.heap.size + 1 + 1, 0, none⟩) 1 1)] 41)).alloc (.cells #[.string (keyN 115 o.inn), .bool true, .slice none 0 0] 77)).drewN nq) (fun i => w2.heap.size ≤ i ∧ i < ((((w2.alloc (.cells #[.string (keyN 115 o.inn)] 9)).alloc (.cells #[.bool true, (.slice (some ⟨w2.heap.size, 0, none⟩) 1 1), (.slice (some ⟨w2.heap.size + 1 + 1, 0, none⟩) 1 1)] 41)).alloc (.cells #[.string (keyN 115 o.inn), .bool true, .slice none 0 0] 77)).drewN nq).heap.size) [.bool true, (.slice (some ⟨w2.heap.size, 0, none⟩) 1 1), (.slice (some ⟨w2.heap.size + 1 + 1, 0, none⟩) 1 1)] ⟨true, [keyN 115 o.inn], [⟨keyN 115 o.inn, true, []⟩]⟩ from planSh.okeep HO.out fun _ _ _ => rfl)
    have HZ2 := Lib.hid (show ((((w2.alloc (.cells #[.string (keyN 115 o.inn)] 9)).alloc (.cells #[.bool true, (.slice (some ⟨w2.heap.size, 0, none⟩) 1 1), (.slice (some ⟨w2.heap.size + 1 + 1, 0, none⟩) 1 1)] 41)).alloc (.cells #[.string (keyN 115 o.inn), .bool true, .slice none 0 0] 77)).drewN nq).heap.size = _ from HZ.out)
    clear HS HW HZ
    generalize (((w2.alloc (.cells #[.string (keyN 115 o.inn)] 9)).alloc (.cells #[.bool true, (.slice (some ⟨w2.heap.size, 0, none⟩) 1 1), (.slice (some ⟨w2.heap.size + 1 + 1, 0, none⟩) 1 1)] 41)).alloc (.cells #[.string (keyN 115 o.inn), .bool true, .slice none 0 0] 77)).drewN nq = w3 at *
    have p0 := HT.out.pl.of 0 _ rfl
    have p1 := HT.out.pl.of 1 _ rfl
    have p2 := HT.out.pl.of 2 _ rfl
    have fr := HT.out.pl.2.1
    have r0 := HPb.out.of 0 _ rfl
    have r1 := HPb.out.of 1 _ rfl
    have r2 := HPb.out.of 2 _ rfl
    go_wp2
    clear p0 p1 p2 fr r0 r1 r2
    have HQ := HT.out.pl.put3 (.bool true) (.slice (some ⟨w2.heap.size, 0, none⟩) 1 1) (.slice (some ⟨w2.heap.size + 1 + 1, 0, none⟩) 1 1)
    have q0 := HQ.of 0 _ rfl
    have q1 := HQ.of 1 _ rfl
    have q2 := HQ.of 2 _ rfl
    rw [HP.out]
    exact bodyPost_ret (v := .agg #[.bool true, (.slice (some ⟨w2.heap.size, 0, none⟩) 1 1), (.slice (some ⟨w2.heap.size + 1 + 1, 0, none⟩) 1 1)]) (by simp only [results, Tryz.results86, go_sem]; simp [go_sem, q0, q1, q2]) rfl (HT.out.put (pl := ⟨true, [keyN 115 o.inn], [⟨keyN 115 o.inn, true, []⟩]⟩) HO.out (by omega) _ rfl)
  · have HM := Lib.hid (show mineB its o = false by rw [HMi.out]; simp [hm])
    have HP := Lib.hid (show inP5 its o = noP [keyN 115 o.inn] by unfold inP5; rw [HM.out, if_neg (by decide)])
    have hm1 : (nth xs 0 == o.who) = false := by simp [hm]
    have hm2 : (nth xs 0 != o.who) = true := by simp [hm]
    clear hm
    go_wp2
    go_quiet (fail)
    clear o0 o1 v0 v0' o1'
    replace HPb := Lib.hid (HPb.out.drewN nq)
    have HT := Lib.hid ((HS.out.call HW.out).drewN nq)
    replace HO := Lib.hid (show planSh.own ((((w2.alloc (.cells #[.string (keyN 115 o.inn)] 9)).alloc (.cells #[.bool true, (.slice (some ⟨w2.heap.size, 0, none⟩) 1 1), (.slice (some ⟨w2.heap.size + 1 + 1, 0, none⟩) 1 1)] 41)).alloc (.cells #[.string (keyN 115 o.inn), .bool true, .slice none 0 0] 77)).drewN nq) (fun i => w2.heap.size ≤ i ∧ i < ((((w2.alloc (.cells #[.string (keyN 115 o.inn)] 9)).alloc (.cells #[.bool true, (.slice (some ⟨w2.heap.size, 0, none⟩) 1 1), (.slice (some ⟨w2.heap.size + 1 + 1, 0, none⟩) 1 1)] 41)).alloc (.cells #[.string (keyN 115 o.inn), .bool true, .slice none 0 0] 77)).drewN nq).heap.size) [.bool true, (.slice (some ⟨w2.heap.size, 0, none⟩) 1 1), (.slice (some ⟨w2.heap.size + 1 + 1, 0, none⟩) 1 1)] ⟨true, [keyN 115 o.inn], [⟨keyN 115 o.inn, true, []⟩]⟩ from planSh.okeep HO.out fun _ _ _ => rfl)
    have HZ2 := Lib.hid (show ((((w2.alloc (.cells #[.string (keyN 115 o.inn)] 9)).alloc (.cells #[.bool true, (.slice (some ⟨w2.heap.size, 0, none⟩) 1 1), (.slice (some ⟨w2.heap.size + 1 + 1, 0, none⟩) 1 1)] 41)).alloc (.cells #[.string (keyN 115 o.inn), .bool true, .slice none 0 0] 77)).drewN nq).heap.size = _ from HZ.out)
    clear HS HW HZ
    generalize (((w2.alloc (.cells #[.string (keyN 115 o.inn)] 9)).alloc (.cells #[.bool true, (.slice (some ⟨w2.heap.size, 0, none⟩) 1 1), (.slice (some ⟨w2.heap.size + 1 + 1, 0, none⟩) 1 1)] 41)).alloc (.cells #[.string (keyN 115 o.inn), .bool true, .slice none 0 0] 77)).drewN nq = w3 at *
    have HRow : Hid (strSh.Row (w3.alloc (.cells #[.string (keyN 115 o.inn)] 9)) (w3.alloc (.cells #[.string (keyN 115 o.inn)] 9)).heap.size (.slice (some ⟨w3.heap.size, 0, none⟩) 1 1) [keyN 115 o.inn]) := Lib.hid (by
      have h := (strs_lit w3 [keyN 115 o.inn] #[.string (keyN 115 o.inn)] rfl (by simp [keyN_max]) (by unfold maxLen; simp)).row
      exact h)
    have HT := Lib.hid (HT.out.call (belowOne w3 (.cells #[.string (keyN 115 o.inn)] 9)))
    have hzq : w.heap.size + 1 + 1 < (w3.alloc (.cells #[.string (keyN 115 o.inn)] 9)).heap.size := HT.out.size.2.2
    have HZQ := Lib.hid hzq
    clear hzq
    go_wp2_with fail
    refine (specNo_any _ _ [keyN 115 o.inn] HRow.out (by simp)).mono ?_
    rintro e wq ⟨ua, ub, rfl, ho, hb⟩
    replace HT := Lib.hid (HT.out.call hb)
    obtain ⟨Aa, ca, Ab, cb, rfl, rfl⟩ := planForm ho
    have HO := Lib.hid ho
    clear hb ho HRow
    have p0 := HT.out.pl.of 0 _ rfl
    have p1 := HT.out.pl.of 1 _ rfl
    have p2 := HT.out.pl.of 2 _ rfl
    have fr := HT.out.pl.2.1
    go_wp2
    clear p0 p1 p2 fr
    have HQ := HT.out.pl.put3 (.bool (noP [keyN 115 o.inn]).ok) (.slice Aa (noP [keyN 115 o.inn]).locks.length ca) (.slice Ab (noP [keyN 115 o.inn]).writes.length cb)
    have q0 := HQ.of 0 _ rfl
    have q1 := HQ.of 1 _ rfl
    have q2 := HQ.of 2 _ rfl
    rw [HP.out]
    exact bodyPost_ret (v := .agg #[.bool (noP [keyN 115 o.inn]).ok, .slice Aa (noP [keyN 115 o.inn]).locks.length ca, .slice Ab (noP [keyN 115 o.inn]).writes.length cb]) (by simp only [results, Tryz.results86, go_sem]; simp [go_sem, q0, q1, q2]) rfl (HT.out.put HO.out HZQ.out _ rfl)

end Go.Proofs.YtecdibpiojgppaaGreat

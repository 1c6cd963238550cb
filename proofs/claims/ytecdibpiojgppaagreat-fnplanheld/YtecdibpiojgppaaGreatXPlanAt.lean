/- planAt: which method plans at which place. By actgen.py. -/
import Derived.Test.YtecdibpiojgppaaGreatXAct
namespace Go.Proofs.YtecdibpiojgppaaGreat
open Go.RowKit

theorem planOver {w0 w1 : World} {lo R : Nat} {cs : List Value} {pl : Plan} (h : planSh.own w1 (fun b => lo ≤ b ∧ b < w1.heap.size) cs pl) (hR : R < lo) (hz : w0.heap.size ≤ lo) (x y z : Value) :
    planSh.own (put3 w1 R x y z) (fun b => w0.heap.size ≤ b ∧ b < (put3 w1 R x y z).heap.size) cs pl :=
  planSh.omono (planSh.okeep h fun b hb _ => put3_far _ _ _ _ _ (by omega)) fun b hb => ⟨Nat.le_trans hz hb.1, by rw [put3_size]; exact hb.2⟩

set_option maxRecDepth 100000 in
set_option maxHeartbeats 1000000 in
theorem outMay0_any (w : World) (o : Op) (v : Value) (hv : Items w w.heap.size v []) (ho : opB o = true) :
    Calls Tryz.prog 170 #[opV o, .agg #[v]] w (Planned (mayP5 [] o) true w) := by
  obtain ⟨A, c, rfl, -, -⟩ := hv.form
  simp only [List.length_nil] at *
  obtain ⟨b0, b1, b2, b3, b4, b5, b6, b7, b8, b9, b10, b11⟩ := opB_parts ho
  clear hv ho
  go_enter Tryz.func170, Tryz.ntmps170
  go_wp2_with (go_at_call 143; refine (numbered_any _ _ _ (by omega) (by omega)).mono ?_; rintro e w' ⟨rfl, rfl⟩)
  go_loop [19] (fun i => i = .int .i64 0) (fun _ => 0)
  case atStart => exact rfl
  case round =>
    subst hrel
    go_wp2
    have hL := strs_lit (((w.alloc (.cells #[.int .i64 o.kind, .int .i64 o.who, .int .i64 o.inn, .int .i64 o.code, .int .i64 o.sec, .int .i64 o.fam, .int .i64 o.gen] 129)).alloc (.cells #[.slice A 0 c] 35)).alloc (.cells #[.bool true, .slice (some ⟨w.heap.size + 1 + 1 + 1, 0, none⟩) 1 1, .slice none 0 0] 41)) [keyN 117 o.who] #[.string (keyN 117 o.who)] rfl (by simp [keyN_max]) (by unfold maxLen; simp)
    rw [alloc_size, alloc_size, alloc_size] at hL
    refine bodyPost_ret (v := .tuple #[.agg #[.bool true, .slice (some ⟨w.heap.size + 1 + 1 + 1, 0, none⟩) 1 1, .slice none 0 0], .bool true]) (by simp [results, Tryz.results170, go_sem]) rfl ⟨_, _, rfl, planOwn (pl := mayP5 [] o) (w.heap.size + 3) (hL.below (belowOne _ _)) (Sh.Own.nil _ (fun _ => False)) (fun b hb => by omega) (fun b hb => hb.elim) (fun b _ h2 => h2) (by omega), ?_⟩
    exact ((belowThree _ _ _ _).alloc (by simp; omega) _).alloc (by simp; omega) _

set_option maxRecDepth 100000 in
theorem meth11 (w : World) (o : Op) : (method 294 122 (opV o) "loop.example/janitor/impl.planIn").run Tryz.prog w = .ok (161, opV o) w := by kernel_rfl
set_option maxRecDepth 100000 in
set_option maxHeartbeats 1000000 in
theorem planAt11 (w : World) (o : Op) (v : Value) (its : List Item) (hv : Items w w.heap.size v its) (hs : stoB its = true) (_hf : formB 2 its = true ∨ 1 ≠ 2) (ho : opB o = true) (tx : Int) (_h0 : 0 ≤ tx) (_h9 : tx ≤ 29) :
    Calls Tryz.prog 48 #[.int .i64 1, .agg #[v], .int .i64 tx, .iface 122 (opV o)] w (Planned (inP1 its o) true w) := by
  obtain ⟨A, c, rfl, hc2, hc1⟩ := hv.form
  clear hc1 hc2
  have HV := Lib.hid hv
  have HB := Lib.hid (belowTwo w (.cells #[.slice A its.length c] 35) (.cells #[.bool false, .slice none 0 0, .slice none 0 0] 41))
  have HR := Lib.hid (Held.new1 w (.cells #[.slice A its.length c] 35) #[.bool false, .slice none 0 0, .slice none 0 0] 41)
  have hm := meth11 ((w.alloc (.cells #[.slice A its.length c] 35)).alloc (.cells #[.bool false, .slice none 0 0, .slice none 0 0] 41)) o
  have hsz : ((w.alloc (.cells #[.slice A its.length c] 35)).alloc (.cells #[.bool false, .slice none 0 0, .slice none 0 0] 41)).heap.size = w.heap.size + 2 := by rw [alloc_size, alloc_size]
  have HZ := Lib.hid hsz
  clear hv hsz
  go_enter Tryz.func48, Tryz.ntmps48
  go_wp2_with fail
  refine (loginIn_any _ o _ its ((HV.out.below HB.out).more HB.out.size) hs ho).mono ?_
  rintro e w1 ⟨x, y, rfl, hown, hb⟩
  have hlt : w.heap.size + 1 < ((w.alloc (.cells #[.slice A its.length c] 35)).alloc (.cells #[.bool false, .slice none 0 0, .slice none 0 0] 41)).heap.size := HR.out.1
  replace HR := Lib.hid (HR.out.below hb hlt)
  have HO := Lib.hid (planOver (w0 := w) hown hlt (by rw [HZ.out]; omega))
  replace HB := Lib.hid (belowNext HB.out hb)
  have hform := Lib.hid (plan_own.1 hown)
  clear hb hown hlt HV
  obtain ⟨x1, y1, S1, S2, hcs, hx, hy, -⟩ := hform.out
  obtain ⟨rfl, rfl⟩ : x = x1 ∧ y = y1 := by simpa using hcs
  obtain ⟨xa, xc, hxf, -, -⟩ := hx.row.form
  obtain ⟨ya, yc, hyf, -, -⟩ := hy.row.form
  subst hxf hyf
  clear hx hy hcs hform
  have p0 := HR.out.of 0 _ rfl
  have p1 := HR.out.of 1 _ rfl
  have p2 := HR.out.of 2 _ rfl
  have fr := HR.out.2.1
  go_wp2
  clear p0 p1 p2 fr
  have HQ := HR.out.put3 (.bool (inP1 its o).ok) (.slice xa (inP1 its o).locks.length xc) (.slice ya (inP1 its o).writes.length yc)
  have q0 := HQ.of 0 _ rfl
  have q1 := HQ.of 1 _ rfl
  have q2 := HQ.of 2 _ rfl
  refine bodyPost_ret (v := .tuple #[.agg #[.bool (inP1 its o).ok, .slice xa (inP1 its o).locks.length xc, .slice ya (inP1 its o).writes.length yc], .bool true]) (by simp only [results, Tryz.results48, go_sem]; simp [go_sem, q0, q1, q2]) rfl ⟨_, _, rfl, HO.out _ _ _, belowPut3 HB.out (w.heap.size + 1) (by omega) _ _ _⟩

set_option maxRecDepth 100000 in
theorem meth12 (w : World) (o : Op) : (method 294 122 (opV o) "loop.example/janitor/impl.planMay").run Tryz.prog w = .ok (160, .agg #[]) w := by kernel_rfl
set_option maxRecDepth 100000 in
set_option maxHeartbeats 1000000 in
theorem planAt12 (w : World) (o : Op) (v : Value) (its : List Item) (hv : Items w w.heap.size v its) (_hs : stoB its = true) (_hf : formB 2 its = true ∨ 2 ≠ 2) (_ho : opB o = true) (tx : Int) (_h0 : 0 ≤ tx) (_h9 : tx ≤ 29) :
    Calls Tryz.prog 48 #[.int .i64 2, .agg #[v], .int .i64 tx, .iface 122 (opV o)] w (Planned ⟨false, [], []⟩ false w) := by
  obtain ⟨A, c, rfl, hc2, hc1⟩ := hv.form
  clear hc1 hc2
  have HV := Lib.hid hv
  have HB := Lib.hid (belowTwo w (.cells #[.slice A its.length c] 35) (.cells #[.bool false, .slice none 0 0, .slice none 0 0] 41))
  have HR := Lib.hid (Held.new1 w (.cells #[.slice A its.length c] 35) #[.bool false, .slice none 0 0, .slice none 0 0] 41)
  have hm := meth12 ((w.alloc (.cells #[.slice A its.length c] 35)).alloc (.cells #[.bool false, .slice none 0 0, .slice none 0 0] 41)) o
  have hsz : ((w.alloc (.cells #[.slice A its.length c] 35)).alloc (.cells #[.bool false, .slice none 0 0, .slice none 0 0] 41)).heap.size = w.heap.size + 2 := by rw [alloc_size, alloc_size]
  have HZ := Lib.hid hsz
  clear hv hsz
  go_enter Tryz.func48, Tryz.ntmps48
  go_wp2_with fail
  refine (noMay_any _ _).mono ?_
  rintro e w1 ⟨x, y, rfl, hown, hb⟩
  have hlt : w.heap.size + 1 < ((w.alloc (.cells #[.slice A its.length c] 35)).alloc (.cells #[.bool false, .slice none 0 0, .slice none 0 0] 41)).heap.size := HR.out.1
  replace HR := Lib.hid (HR.out.below hb hlt)
  have HO := Lib.hid (planOver (w0 := w) hown hlt (by rw [HZ.out]; omega))
  replace HB := Lib.hid (belowNext HB.out hb)
  have hform := Lib.hid (plan_own.1 hown)
  clear hb hown hlt HV
  obtain ⟨x1, y1, S1, S2, hcs, hx, hy, -⟩ := hform.out
  obtain ⟨rfl, rfl⟩ : x = x1 ∧ y = y1 := by simpa using hcs
  obtain ⟨xa, xc, hxf, -, -⟩ := hx.row.form
  obtain ⟨ya, yc, hyf, -, -⟩ := hy.row.form
  subst hxf hyf
  clear hx hy hcs hform
  have p0 := HR.out.of 0 _ rfl
  have p1 := HR.out.of 1 _ rfl
  have p2 := HR.out.of 2 _ rfl
  have fr := HR.out.2.1
  go_wp2
  clear p0 p1 p2 fr
  have HQ := HR.out.put3 (.bool false) (.slice xa 0 xc) (.slice ya 0 yc)
  have q0 := HQ.of 0 _ rfl
  have q1 := HQ.of 1 _ rfl
  have q2 := HQ.of 2 _ rfl
  refine bodyPost_ret (v := .tuple #[.agg #[.bool false, .slice xa 0 xc, .slice ya 0 yc], .bool false]) (by simp only [results, Tryz.results48, go_sem]; simp [go_sem, q0, q1, q2]) rfl ⟨_, _, rfl, HO.out _ _ _, belowPut3 HB.out (w.heap.size + 1) (by omega) _ _ _⟩

set_option maxRecDepth 100000 in
theorem meth13 (w : World) (o : Op) : (method 294 122 (opV o) "loop.example/janitor/impl.planDone").run Tryz.prog w = .ok (141, opV o) w := by kernel_rfl
set_option maxRecDepth 100000 in
set_option maxHeartbeats 1000000 in
theorem planAt13 (w : World) (o : Op) (v : Value) (its : List Item) (hv : Items w w.heap.size v its) (hs : stoB its = true) (_hf : formB 2 its = true ∨ 3 ≠ 2) (_ho : opB o = true) (tx : Int) (h0 : 0 ≤ tx) (h9 : tx ≤ 29) :
    Calls Tryz.prog 48 #[.int .i64 3, .agg #[v], .int .i64 tx, .iface 122 (opV o)] w (Planned (doneP its tx o) true w) := by
  obtain ⟨A, c, rfl, hc2, hc1⟩ := hv.form
  clear hc1 hc2
  have HV := Lib.hid hv
  have HB := Lib.hid (belowTwo w (.cells #[.slice A its.length c] 35) (.cells #[.bool false, .slice none 0 0, .slice none 0 0] 41))
  have HR := Lib.hid (Held.new1 w (.cells #[.slice A its.length c] 35) #[.bool false, .slice none 0 0, .slice none 0 0] 41)
  have hm := meth13 ((w.alloc (.cells #[.slice A its.length c] 35)).alloc (.cells #[.bool false, .slice none 0 0, .slice none 0 0] 41)) o
  have hsz : ((w.alloc (.cells #[.slice A its.length c] 35)).alloc (.cells #[.bool false, .slice none 0 0, .slice none 0 0] 41)).heap.size = w.heap.size + 2 := by rw [alloc_size, alloc_size]
  have HZ := Lib.hid hsz
  clear hv hsz
  go_enter Tryz.func48, Tryz.ntmps48
  go_wp2_with fail
  refine (planDone_any _ o _ its ((HV.out.below HB.out).more HB.out.size) hs tx h0 h9).mono ?_
  rintro e w1 ⟨x, y, rfl, hown, hb⟩
  have hlt : w.heap.size + 1 < ((w.alloc (.cells #[.slice A its.length c] 35)).alloc (.cells #[.bool false, .slice none 0 0, .slice none 0 0] 41)).heap.size := HR.out.1
  replace HR := Lib.hid (HR.out.below hb hlt)
  have HO := Lib.hid (planOver (w0 := w) hown hlt (by rw [HZ.out]; omega))
  replace HB := Lib.hid (belowNext HB.out hb)
  have hform := Lib.hid (plan_own.1 hown)
  clear hb hown hlt HV
  obtain ⟨x1, y1, S1, S2, hcs, hx, hy, -⟩ := hform.out
  obtain ⟨rfl, rfl⟩ : x = x1 ∧ y = y1 := by simpa using hcs
  obtain ⟨xa, xc, hxf, -, -⟩ := hx.row.form
  obtain ⟨ya, yc, hyf, -, -⟩ := hy.row.form
  subst hxf hyf
  clear hx hy hcs hform
  have p0 := HR.out.of 0 _ rfl
  have p1 := HR.out.of 1 _ rfl
  have p2 := HR.out.of 2 _ rfl
  have fr := HR.out.2.1
  go_wp2
  clear p0 p1 p2 fr
  have HQ := HR.out.put3 (.bool (doneP its tx o).ok) (.slice xa (doneP its tx o).locks.length xc) (.slice ya (doneP its tx o).writes.length yc)
  have q0 := HQ.of 0 _ rfl
  have q1 := HQ.of 1 _ rfl
  have q2 := HQ.of 2 _ rfl
  refine bodyPost_ret (v := .tuple #[.agg #[.bool (doneP its tx o).ok, .slice xa (doneP its tx o).locks.length xc, .slice ya (doneP its tx o).writes.length yc], .bool true]) (by simp only [results, Tryz.results48, go_sem]; simp [go_sem, q0, q1, q2]) rfl ⟨_, _, rfl, HO.out _ _ _, belowPut3 HB.out (w.heap.size + 1) (by omega) _ _ _⟩

set_option maxRecDepth 100000 in
theorem meth21 (w : World) (o : Op) : (method 294 124 (opV o) "loop.example/janitor/impl.planIn").run Tryz.prog w = .ok (162, opV o) w := by kernel_rfl
set_option maxRecDepth 100000 in
set_option maxHeartbeats 1000000 in
theorem planAt21 (w : World) (o : Op) (v : Value) (its : List Item) (hv : Items w w.heap.size v its) (hs : stoB its = true) (_hf : formB 2 its = true ∨ 1 ≠ 2) (ho : opB o = true) (tx : Int) (_h0 : 0 ≤ tx) (_h9 : tx ≤ 29) :
    Calls Tryz.prog 48 #[.int .i64 1, .agg #[v], .int .i64 tx, .iface 124 (opV o)] w (Planned (inP2 its o) true w) := by
  obtain ⟨A, c, rfl, hc2, hc1⟩ := hv.form
  clear hc1 hc2
  have HV := Lib.hid hv
  have HB := Lib.hid (belowTwo w (.cells #[.slice A its.length c] 35) (.cells #[.bool false, .slice none 0 0, .slice none 0 0] 41))
  have HR := Lib.hid (Held.new1 w (.cells #[.slice A its.length c] 35) #[.bool false, .slice none 0 0, .slice none 0 0] 41)
  have hm := meth21 ((w.alloc (.cells #[.slice A its.length c] 35)).alloc (.cells #[.bool false, .slice none 0 0, .slice none 0 0] 41)) o
  have hsz : ((w.alloc (.cells #[.slice A its.length c] 35)).alloc (.cells #[.bool false, .slice none 0 0, .slice none 0 0] 41)).heap.size = w.heap.size + 2 := by rw [alloc_size, alloc_size]
  have HZ := Lib.hid hsz
  clear hv hsz
  go_enter Tryz.func48, Tryz.ntmps48
  go_wp2_with fail
  refine (letIn_any _ o _ its ((HV.out.below HB.out).more HB.out.size) hs ho).mono ?_
  rintro e w1 ⟨x, y, rfl, hown, hb⟩
  have hlt : w.heap.size + 1 < ((w.alloc (.cells #[.slice A its.length c] 35)).alloc (.cells #[.bool false, .slice none 0 0, .slice none 0 0] 41)).heap.size := HR.out.1
  replace HR := Lib.hid (HR.out.below hb hlt)
  have HO := Lib.hid (planOver (w0 := w) hown hlt (by rw [HZ.out]; omega))
  replace HB := Lib.hid (belowNext HB.out hb)
  have hform := Lib.hid (plan_own.1 hown)
  clear hb hown hlt HV
  obtain ⟨x1, y1, S1, S2, hcs, hx, hy, -⟩ := hform.out
  obtain ⟨rfl, rfl⟩ : x = x1 ∧ y = y1 := by simpa using hcs
  obtain ⟨xa, xc, hxf, -, -⟩ := hx.row.form
  obtain ⟨ya, yc, hyf, -, -⟩ := hy.row.form
  subst hxf hyf
  clear hx hy hcs hform
  have p0 := HR.out.of 0 _ rfl
  have p1 := HR.out.of 1 _ rfl
  have p2 := HR.out.of 2 _ rfl
  have fr := HR.out.2.1
  go_wp2
  clear p0 p1 p2 fr
  have HQ := HR.out.put3 (.bool (inP2 its o).ok) (.slice xa (inP2 its o).locks.length xc) (.slice ya (inP2 its o).writes.length yc)
  have q0 := HQ.of 0 _ rfl
  have q1 := HQ.of 1 _ rfl
  have q2 := HQ.of 2 _ rfl
  refine bodyPost_ret (v := .tuple #[.agg #[.bool (inP2 its o).ok, .slice xa (inP2 its o).locks.length xc, .slice ya (inP2 its o).writes.length yc], .bool true]) (by simp only [results, Tryz.results48, go_sem]; simp [go_sem, q0, q1, q2]) rfl ⟨_, _, rfl, HO.out _ _ _, belowPut3 HB.out (w.heap.size + 1) (by omega) _ _ _⟩

set_option maxRecDepth 100000 in
theorem meth22 (w : World) (o : Op) : (method 294 124 (opV o) "loop.example/janitor/impl.planMay").run Tryz.prog w = .ok (163, opV o) w := by kernel_rfl
set_option maxRecDepth 100000 in
set_option maxHeartbeats 1000000 in
theorem planAt22 (w : World) (o : Op) (v : Value) (its : List Item) (hv : Items w w.heap.size v its) (hs : stoB its = true) (_hf : formB 2 its = true ∨ 2 ≠ 2) (ho : opB o = true) (tx : Int) (_h0 : 0 ≤ tx) (_h9 : tx ≤ 29) :
    Calls Tryz.prog 48 #[.int .i64 2, .agg #[v], .int .i64 tx, .iface 124 (opV o)] w (Planned (mayP2 its o) true w) := by
  obtain ⟨A, c, rfl, hc2, hc1⟩ := hv.form
  clear hc1 hc2
  have HV := Lib.hid hv
  have HB := Lib.hid (belowTwo w (.cells #[.slice A its.length c] 35) (.cells #[.bool false, .slice none 0 0, .slice none 0 0] 41))
  have HR := Lib.hid (Held.new1 w (.cells #[.slice A its.length c] 35) #[.bool false, .slice none 0 0, .slice none 0 0] 41)
  have hm := meth22 ((w.alloc (.cells #[.slice A its.length c] 35)).alloc (.cells #[.bool false, .slice none 0 0, .slice none 0 0] 41)) o
  have hsz : ((w.alloc (.cells #[.slice A its.length c] 35)).alloc (.cells #[.bool false, .slice none 0 0, .slice none 0 0] 41)).heap.size = w.heap.size + 2 := by rw [alloc_size, alloc_size]
  have HZ := Lib.hid hsz
  clear hv hsz
  go_enter Tryz.func48, Tryz.ntmps48
  go_wp2_with fail
  refine (letMay_any _ o _ its ((HV.out.below HB.out).more HB.out.size) hs ho).mono ?_
  rintro e w1 ⟨x, y, rfl, hown, hb⟩
  have hlt : w.heap.size + 1 < ((w.alloc (.cells #[.slice A its.length c] 35)).alloc (.cells #[.bool false, .slice none 0 0, .slice none 0 0] 41)).heap.size := HR.out.1
  replace HR := Lib.hid (HR.out.below hb hlt)
  have HO := Lib.hid (planOver (w0 := w) hown hlt (by rw [HZ.out]; omega))
  replace HB := Lib.hid (belowNext HB.out hb)
  have hform := Lib.hid (plan_own.1 hown)
  clear hb hown hlt HV
  obtain ⟨x1, y1, S1, S2, hcs, hx, hy, -⟩ := hform.out
  obtain ⟨rfl, rfl⟩ : x = x1 ∧ y = y1 := by simpa using hcs
  obtain ⟨xa, xc, hxf, -, -⟩ := hx.row.form
  obtain ⟨ya, yc, hyf, -, -⟩ := hy.row.form
  subst hxf hyf
  clear hx hy hcs hform
  have p0 := HR.out.of 0 _ rfl
  have p1 := HR.out.of 1 _ rfl
  have p2 := HR.out.of 2 _ rfl
  have fr := HR.out.2.1
  go_wp2
  clear p0 p1 p2 fr
  have HQ := HR.out.put3 (.bool (mayP2 its o).ok) (.slice xa (mayP2 its o).locks.length xc) (.slice ya (mayP2 its o).writes.length yc)
  have q0 := HQ.of 0 _ rfl
  have q1 := HQ.of 1 _ rfl
  have q2 := HQ.of 2 _ rfl
  refine bodyPost_ret (v := .tuple #[.agg #[.bool (mayP2 its o).ok, .slice xa (mayP2 its o).locks.length xc, .slice ya (mayP2 its o).writes.length yc], .bool true]) (by simp only [results, Tryz.results48, go_sem]; simp [go_sem, q0, q1, q2]) rfl ⟨_, _, rfl, HO.out _ _ _, belowPut3 HB.out (w.heap.size + 1) (by omega) _ _ _⟩

set_option maxRecDepth 100000 in
theorem meth23 (w : World) (o : Op) : (method 294 124 (opV o) "loop.example/janitor/impl.planDone").run Tryz.prog w = .ok (141, opV o) w := by kernel_rfl
set_option maxRecDepth 100000 in
set_option maxHeartbeats 1000000 in
theorem planAt23 (w : World) (o : Op) (v : Value) (its : List Item) (hv : Items w w.heap.size v its) (hs : stoB its = true) (_hf : formB 2 its = true ∨ 3 ≠ 2) (_ho : opB o = true) (tx : Int) (h0 : 0 ≤ tx) (h9 : tx ≤ 29) :
    Calls Tryz.prog 48 #[.int .i64 3, .agg #[v], .int .i64 tx, .iface 124 (opV o)] w (Planned (doneP its tx o) true w) := by
  obtain ⟨A, c, rfl, hc2, hc1⟩ := hv.form
  clear hc1 hc2
  have HV := Lib.hid hv
  have HB := Lib.hid (belowTwo w (.cells #[.slice A its.length c] 35) (.cells #[.bool false, .slice none 0 0, .slice none 0 0] 41))
  have HR := Lib.hid (Held.new1 w (.cells #[.slice A its.length c] 35) #[.bool false, .slice none 0 0, .slice none 0 0] 41)
  have hm := meth23 ((w.alloc (.cells #[.slice A its.length c] 35)).alloc (.cells #[.bool false, .slice none 0 0, .slice none 0 0] 41)) o
  have hsz : ((w.alloc (.cells #[.slice A its.length c] 35)).alloc (.cells #[.bool false, .slice none 0 0, .slice none 0 0] 41)).heap.size = w.heap.size + 2 := by rw [alloc_size, alloc_size]
  have HZ := Lib.hid hsz
  clear hv hsz
  go_enter Tryz.func48, Tryz.ntmps48
  go_wp2_with fail
  refine (planDone_any _ o _ its ((HV.out.below HB.out).more HB.out.size) hs tx h0 h9).mono ?_
  rintro e w1 ⟨x, y, rfl, hown, hb⟩
  have hlt : w.heap.size + 1 < ((w.alloc (.cells #[.slice A its.length c] 35)).alloc (.cells #[.bool false, .slice none 0 0, .slice none 0 0] 41)).heap.size := HR.out.1
  replace HR := Lib.hid (HR.out.below hb hlt)
  have HO := Lib.hid (planOver (w0 := w) hown hlt (by rw [HZ.out]; omega))
  replace HB := Lib.hid (belowNext HB.out hb)
  have hform := Lib.hid (plan_own.1 hown)
  clear hb hown hlt HV
  obtain ⟨x1, y1, S1, S2, hcs, hx, hy, -⟩ := hform.out
  obtain ⟨rfl, rfl⟩ : x = x1 ∧ y = y1 := by simpa using hcs
  obtain ⟨xa, xc, hxf, -, -⟩ := hx.row.form
  obtain ⟨ya, yc, hyf, -, -⟩ := hy.row.form
  subst hxf hyf
  clear hx hy hcs hform
  have p0 := HR.out.of 0 _ rfl
  have p1 := HR.out.of 1 _ rfl
  have p2 := HR.out.of 2 _ rfl
  have fr := HR.out.2.1
  go_wp2
  clear p0 p1 p2 fr
  have HQ := HR.out.put3 (.bool (doneP its tx o).ok) (.slice xa (doneP its tx o).locks.length xc) (.slice ya (doneP its tx o).writes.length yc)
  have q0 := HQ.of 0 _ rfl
  have q1 := HQ.of 1 _ rfl
  have q2 := HQ.of 2 _ rfl
  refine bodyPost_ret (v := .tuple #[.agg #[.bool (doneP its tx o).ok, .slice xa (doneP its tx o).locks.length xc, .slice ya (doneP its tx o).writes.length yc], .bool true]) (by simp only [results, Tryz.results48, go_sem]; simp [go_sem, q0, q1, q2]) rfl ⟨_, _, rfl, HO.out _ _ _, belowPut3 HB.out (w.heap.size + 1) (by omega) _ _ _⟩

set_option maxRecDepth 100000 in
theorem meth31 (w : World) (o : Op) : (method 294 127 (opV o) "loop.example/janitor/impl.planIn").run Tryz.prog w = .ok (165, .agg #[]) w := by kernel_rfl
set_option maxRecDepth 100000 in
set_option maxHeartbeats 1000000 in
theorem planAt31 (w : World) (o : Op) (v : Value) (its : List Item) (hv : Items w w.heap.size v its) (_hs : stoB its = true) (_hf : formB 2 its = true ∨ 1 ≠ 2) (_ho : opB o = true) (tx : Int) (_h0 : 0 ≤ tx) (_h9 : tx ≤ 29) :
    Calls Tryz.prog 48 #[.int .i64 1, .agg #[v], .int .i64 tx, .iface 127 (opV o)] w (Planned ⟨false, [], []⟩ false w) := by
  obtain ⟨A, c, rfl, hc2, hc1⟩ := hv.form
  clear hc1 hc2
  have HV := Lib.hid hv
  have HB := Lib.hid (belowTwo w (.cells #[.slice A its.length c] 35) (.cells #[.bool false, .slice none 0 0, .slice none 0 0] 41))
  have HR := Lib.hid (Held.new1 w (.cells #[.slice A its.length c] 35) #[.bool false, .slice none 0 0, .slice none 0 0] 41)
  have hm := meth31 ((w.alloc (.cells #[.slice A its.length c] 35)).alloc (.cells #[.bool false, .slice none 0 0, .slice none 0 0] 41)) o
  have hsz : ((w.alloc (.cells #[.slice A its.length c] 35)).alloc (.cells #[.bool false, .slice none 0 0, .slice none 0 0] 41)).heap.size = w.heap.size + 2 := by rw [alloc_size, alloc_size]
  have HZ := Lib.hid hsz
  clear hv hsz
  go_enter Tryz.func48, Tryz.ntmps48
  go_wp2_with fail
  refine (noIn_any _ _).mono ?_
  rintro e w1 ⟨x, y, rfl, hown, hb⟩
  have hlt : w.heap.size + 1 < ((w.alloc (.cells #[.slice A its.length c] 35)).alloc (.cells #[.bool false, .slice none 0 0, .slice none 0 0] 41)).heap.size := HR.out.1
  replace HR := Lib.hid (HR.out.below hb hlt)
  have HO := Lib.hid (planOver (w0 := w) hown hlt (by rw [HZ.out]; omega))
  replace HB := Lib.hid (belowNext HB.out hb)
  have hform := Lib.hid (plan_own.1 hown)
  clear hb hown hlt HV
  obtain ⟨x1, y1, S1, S2, hcs, hx, hy, -⟩ := hform.out
  obtain ⟨rfl, rfl⟩ : x = x1 ∧ y = y1 := by simpa using hcs
  obtain ⟨xa, xc, hxf, -, -⟩ := hx.row.form
  obtain ⟨ya, yc, hyf, -, -⟩ := hy.row.form
  subst hxf hyf
  clear hx hy hcs hform
  have p0 := HR.out.of 0 _ rfl
  have p1 := HR.out.of 1 _ rfl
  have p2 := HR.out.of 2 _ rfl
  have fr := HR.out.2.1
  go_wp2
  clear p0 p1 p2 fr
  have HQ := HR.out.put3 (.bool false) (.slice xa 0 xc) (.slice ya 0 yc)
  have q0 := HQ.of 0 _ rfl
  have q1 := HQ.of 1 _ rfl
  have q2 := HQ.of 2 _ rfl
  refine bodyPost_ret (v := .tuple #[.agg #[.bool false, .slice xa 0 xc, .slice ya 0 yc], .bool false]) (by simp only [results, Tryz.results48, go_sem]; simp [go_sem, q0, q1, q2]) rfl ⟨_, _, rfl, HO.out _ _ _, belowPut3 HB.out (w.heap.size + 1) (by omega) _ _ _⟩

set_option maxRecDepth 100000 in
theorem meth32 (w : World) (o : Op) : (method 294 127 (opV o) "loop.example/janitor/impl.planMay").run Tryz.prog w = .ok (166, opV o) w := by kernel_rfl
set_option maxRecDepth 100000 in
set_option maxHeartbeats 1000000 in
theorem planAt32 (w : World) (o : Op) (v : Value) (its : List Item) (hv : Items w w.heap.size v its) (hs : stoB its = true) (hf : formB 2 its = true ∨ 2 ≠ 2) (ho : opB o = true) (tx : Int) (_h0 : 0 ≤ tx) (_h9 : tx ≤ 29) :
    Calls Tryz.prog 48 #[.int .i64 2, .agg #[v], .int .i64 tx, .iface 127 (opV o)] w (Planned (mayP3 its o) true w) := by
  obtain ⟨A, c, rfl, hc2, hc1⟩ := hv.form
  clear hc1 hc2
  have HV := Lib.hid hv
  have HB := Lib.hid (belowTwo w (.cells #[.slice A its.length c] 35) (.cells #[.bool false, .slice none 0 0, .slice none 0 0] 41))
  have HR := Lib.hid (Held.new1 w (.cells #[.slice A its.length c] 35) #[.bool false, .slice none 0 0, .slice none 0 0] 41)
  have hm := meth32 ((w.alloc (.cells #[.slice A its.length c] 35)).alloc (.cells #[.bool false, .slice none 0 0, .slice none 0 0] 41)) o
  have hsz : ((w.alloc (.cells #[.slice A its.length c] 35)).alloc (.cells #[.bool false, .slice none 0 0, .slice none 0 0] 41)).heap.size = w.heap.size + 2 := by rw [alloc_size, alloc_size]
  have HZ := Lib.hid hsz
  clear hv hsz
  go_enter Tryz.func48, Tryz.ntmps48
  go_wp2_with fail
  refine (tradeMay_any _ o _ its ((HV.out.below HB.out).more HB.out.size) hs ho (hf.resolve_right (by decide))).mono ?_
  rintro e w1 ⟨x, y, rfl, hown, hb⟩
  have hlt : w.heap.size + 1 < ((w.alloc (.cells #[.slice A its.length c] 35)).alloc (.cells #[.bool false, .slice none 0 0, .slice none 0 0] 41)).heap.size := HR.out.1
  replace HR := Lib.hid (HR.out.below hb hlt)
  have HO := Lib.hid (planOver (w0 := w) hown hlt (by rw [HZ.out]; omega))
  replace HB := Lib.hid (belowNext HB.out hb)
  have hform := Lib.hid (plan_own.1 hown)
  clear hb hown hlt HV
  obtain ⟨x1, y1, S1, S2, hcs, hx, hy, -⟩ := hform.out
  obtain ⟨rfl, rfl⟩ : x = x1 ∧ y = y1 := by simpa using hcs
  obtain ⟨xa, xc, hxf, -, -⟩ := hx.row.form
  obtain ⟨ya, yc, hyf, -, -⟩ := hy.row.form
  subst hxf hyf
  clear hx hy hcs hform
  have p0 := HR.out.of 0 _ rfl
  have p1 := HR.out.of 1 _ rfl
  have p2 := HR.out.of 2 _ rfl
  have fr := HR.out.2.1
  go_wp2
  clear p0 p1 p2 fr
  have HQ := HR.out.put3 (.bool (mayP3 its o).ok) (.slice xa (mayP3 its o).locks.length xc) (.slice ya (mayP3 its o).writes.length yc)
  have q0 := HQ.of 0 _ rfl
  have q1 := HQ.of 1 _ rfl
  have q2 := HQ.of 2 _ rfl
  refine bodyPost_ret (v := .tuple #[.agg #[.bool (mayP3 its o).ok, .slice xa (mayP3 its o).locks.length xc, .slice ya (mayP3 its o).writes.length yc], .bool true]) (by simp only [results, Tryz.results48, go_sem]; simp [go_sem, q0, q1, q2]) rfl ⟨_, _, rfl, HO.out _ _ _, belowPut3 HB.out (w.heap.size + 1) (by omega) _ _ _⟩

set_option maxRecDepth 100000 in
theorem meth33 (w : World) (o : Op) : (method 294 127 (opV o) "loop.example/janitor/impl.planDone").run Tryz.prog w = .ok (141, opV o) w := by kernel_rfl
set_option maxRecDepth 100000 in
set_option maxHeartbeats 1000000 in
theorem planAt33 (w : World) (o : Op) (v : Value) (its : List Item) (hv : Items w w.heap.size v its) (hs : stoB its = true) (_hf : formB 2 its = true ∨ 3 ≠ 2) (_ho : opB o = true) (tx : Int) (h0 : 0 ≤ tx) (h9 : tx ≤ 29) :
    Calls Tryz.prog 48 #[.int .i64 3, .agg #[v], .int .i64 tx, .iface 127 (opV o)] w (Planned (doneP its tx o) true w) := by
  obtain ⟨A, c, rfl, hc2, hc1⟩ := hv.form
  clear hc1 hc2
  have HV := Lib.hid hv
  have HB := Lib.hid (belowTwo w (.cells #[.slice A its.length c] 35) (.cells #[.bool false, .slice none 0 0, .slice none 0 0] 41))
  have HR := Lib.hid (Held.new1 w (.cells #[.slice A its.length c] 35) #[.bool false, .slice none 0 0, .slice none 0 0] 41)
  have hm := meth33 ((w.alloc (.cells #[.slice A its.length c] 35)).alloc (.cells #[.bool false, .slice none 0 0, .slice none 0 0] 41)) o
  have hsz : ((w.alloc (.cells #[.slice A its.length c] 35)).alloc (.cells #[.bool false, .slice none 0 0, .slice none 0 0] 41)).heap.size = w.heap.size + 2 := by rw [alloc_size, alloc_size]
  have HZ := Lib.hid hsz
  clear hv hsz
  go_enter Tryz.func48, Tryz.ntmps48
  go_wp2_with fail
  refine (planDone_any _ o _ its ((HV.out.below HB.out).more HB.out.size) hs tx h0 h9).mono ?_
  rintro e w1 ⟨x, y, rfl, hown, hb⟩
  have hlt : w.heap.size + 1 < ((w.alloc (.cells #[.slice A its.length c] 35)).alloc (.cells #[.bool false, .slice none 0 0, .slice none 0 0] 41)).heap.size := HR.out.1
  replace HR := Lib.hid (HR.out.below hb hlt)
  have HO := Lib.hid (planOver (w0 := w) hown hlt (by rw [HZ.out]; omega))
  replace HB := Lib.hid (belowNext HB.out hb)
  have hform := Lib.hid (plan_own.1 hown)
  clear hb hown hlt HV
  obtain ⟨x1, y1, S1, S2, hcs, hx, hy, -⟩ := hform.out
  obtain ⟨rfl, rfl⟩ : x = x1 ∧ y = y1 := by simpa using hcs
  obtain ⟨xa, xc, hxf, -, -⟩ := hx.row.form
  obtain ⟨ya, yc, hyf, -, -⟩ := hy.row.form
  subst hxf hyf
  clear hx hy hcs hform
  have p0 := HR.out.of 0 _ rfl
  have p1 := HR.out.of 1 _ rfl
  have p2 := HR.out.of 2 _ rfl
  have fr := HR.out.2.1
  go_wp2
  clear p0 p1 p2 fr
  have HQ := HR.out.put3 (.bool (doneP its tx o).ok) (.slice xa (doneP its tx o).locks.length xc) (.slice ya (doneP its tx o).writes.length yc)
  have q0 := HQ.of 0 _ rfl
  have q1 := HQ.of 1 _ rfl
  have q2 := HQ.of 2 _ rfl
  refine bodyPost_ret (v := .tuple #[.agg #[.bool (doneP its tx o).ok, .slice xa (doneP its tx o).locks.length xc, .slice ya (doneP its tx o).writes.length yc], .bool true]) (by simp only [results, Tryz.results48, go_sem]; simp [go_sem, q0, q1, q2]) rfl ⟨_, _, rfl, HO.out _ _ _, belowPut3 HB.out (w.heap.size + 1) (by omega) _ _ _⟩

set_option maxRecDepth 100000 in
theorem meth41 (w : World) (o : Op) : (method 294 128 (opV o) "loop.example/janitor/impl.planIn").run Tryz.prog w = .ok (165, .agg #[]) w := by kernel_rfl
set_option maxRecDepth 100000 in
set_option maxHeartbeats 1000000 in
theorem planAt41 (w : World) (o : Op) (v : Value) (its : List Item) (hv : Items w w.heap.size v its) (_hs : stoB its = true) (_hf : formB 2 its = true ∨ 1 ≠ 2) (_ho : opB o = true) (tx : Int) (_h0 : 0 ≤ tx) (_h9 : tx ≤ 29) :
    Calls Tryz.prog 48 #[.int .i64 1, .agg #[v], .int .i64 tx, .iface 128 (opV o)] w (Planned ⟨false, [], []⟩ false w) := by
  obtain ⟨A, c, rfl, hc2, hc1⟩ := hv.form
  clear hc1 hc2
  have HV := Lib.hid hv
  have HB := Lib.hid (belowTwo w (.cells #[.slice A its.length c] 35) (.cells #[.bool false, .slice none 0 0, .slice none 0 0] 41))
  have HR := Lib.hid (Held.new1 w (.cells #[.slice A its.length c] 35) #[.bool false, .slice none 0 0, .slice none 0 0] 41)
  have hm := meth41 ((w.alloc (.cells #[.slice A its.length c] 35)).alloc (.cells #[.bool false, .slice none 0 0, .slice none 0 0] 41)) o
  have hsz : ((w.alloc (.cells #[.slice A its.length c] 35)).alloc (.cells #[.bool false, .slice none 0 0, .slice none 0 0] 41)).heap.size = w.heap.size + 2 := by rw [alloc_size, alloc_size]
  have HZ := Lib.hid hsz
  clear hv hsz
  go_enter Tryz.func48, Tryz.ntmps48
  go_wp2_with fail
  refine (noIn_any _ _).mono ?_
  rintro e w1 ⟨x, y, rfl, hown, hb⟩
  have hlt : w.heap.size + 1 < ((w.alloc (.cells #[.slice A its.length c] 35)).alloc (.cells #[.bool false, .slice none 0 0, .slice none 0 0] 41)).heap.size := HR.out.1
  replace HR := Lib.hid (HR.out.below hb hlt)
  have HO := Lib.hid (planOver (w0 := w) hown hlt (by rw [HZ.out]; omega))
  replace HB := Lib.hid (belowNext HB.out hb)
  have hform := Lib.hid (plan_own.1 hown)
  clear hb hown hlt HV
  obtain ⟨x1, y1, S1, S2, hcs, hx, hy, -⟩ := hform.out
  obtain ⟨rfl, rfl⟩ : x = x1 ∧ y = y1 := by simpa using hcs
  obtain ⟨xa, xc, hxf, -, -⟩ := hx.row.form
  obtain ⟨ya, yc, hyf, -, -⟩ := hy.row.form
  subst hxf hyf
  clear hx hy hcs hform
  have p0 := HR.out.of 0 _ rfl
  have p1 := HR.out.of 1 _ rfl
  have p2 := HR.out.of 2 _ rfl
  have fr := HR.out.2.1
  go_wp2
  clear p0 p1 p2 fr
  have HQ := HR.out.put3 (.bool false) (.slice xa 0 xc) (.slice ya 0 yc)
  have q0 := HQ.of 0 _ rfl
  have q1 := HQ.of 1 _ rfl
  have q2 := HQ.of 2 _ rfl
  refine bodyPost_ret (v := .tuple #[.agg #[.bool false, .slice xa 0 xc, .slice ya 0 yc], .bool false]) (by simp only [results, Tryz.results48, go_sem]; simp [go_sem, q0, q1, q2]) rfl ⟨_, _, rfl, HO.out _ _ _, belowPut3 HB.out (w.heap.size + 1) (by omega) _ _ _⟩

set_option maxRecDepth 100000 in
theorem meth42 (w : World) (o : Op) : (method 294 128 (opV o) "loop.example/janitor/impl.planMay").run Tryz.prog w = .ok (167, opV o) w := by kernel_rfl
set_option maxRecDepth 100000 in
set_option maxHeartbeats 1000000 in
theorem planAt42 (w : World) (o : Op) (v : Value) (its : List Item) (hv : Items w w.heap.size v its) (hs : stoB its = true) (hf : formB 2 its = true ∨ 2 ≠ 2) (ho : opB o = true) (tx : Int) (_h0 : 0 ≤ tx) (_h9 : tx ≤ 29) :
    Calls Tryz.prog 48 #[.int .i64 2, .agg #[v], .int .i64 tx, .iface 128 (opV o)] w (Planned (mayP4 its o) true w) := by
  obtain ⟨A, c, rfl, hc2, hc1⟩ := hv.form
  clear hc1 hc2
  have HV := Lib.hid hv
  have HB := Lib.hid (belowTwo w (.cells #[.slice A its.length c] 35) (.cells #[.bool false, .slice none 0 0, .slice none 0 0] 41))
  have HR := Lib.hid (Held.new1 w (.cells #[.slice A its.length c] 35) #[.bool false, .slice none 0 0, .slice none 0 0] 41)
  have hm := meth42 ((w.alloc (.cells #[.slice A its.length c] 35)).alloc (.cells #[.bool false, .slice none 0 0, .slice none 0 0] 41)) o
  have hsz : ((w.alloc (.cells #[.slice A its.length c] 35)).alloc (.cells #[.bool false, .slice none 0 0, .slice none 0 0] 41)).heap.size = w.heap.size + 2 := by rw [alloc_size, alloc_size]
  have HZ := Lib.hid hsz
  clear hv hsz
  go_enter Tryz.func48, Tryz.ntmps48
  go_wp2_with fail
  refine (nextMay_any _ o _ its ((HV.out.below HB.out).more HB.out.size) hs ho (hf.resolve_right (by decide))).mono ?_
  rintro e w1 ⟨x, y, rfl, hown, hb⟩
  have hlt : w.heap.size + 1 < ((w.alloc (.cells #[.slice A its.length c] 35)).alloc (.cells #[.bool false, .slice none 0 0, .slice none 0 0] 41)).heap.size := HR.out.1
  replace HR := Lib.hid (HR.out.below hb hlt)
  have HO := Lib.hid (planOver (w0 := w) hown hlt (by rw [HZ.out]; omega))
  replace HB := Lib.hid (belowNext HB.out hb)
  have hform := Lib.hid (plan_own.1 hown)
  clear hb hown hlt HV
  obtain ⟨x1, y1, S1, S2, hcs, hx, hy, -⟩ := hform.out
  obtain ⟨rfl, rfl⟩ : x = x1 ∧ y = y1 := by simpa using hcs
  obtain ⟨xa, xc, hxf, -, -⟩ := hx.row.form
  obtain ⟨ya, yc, hyf, -, -⟩ := hy.row.form
  subst hxf hyf
  clear hx hy hcs hform
  have p0 := HR.out.of 0 _ rfl
  have p1 := HR.out.of 1 _ rfl
  have p2 := HR.out.of 2 _ rfl
  have fr := HR.out.2.1
  go_wp2
  clear p0 p1 p2 fr
  have HQ := HR.out.put3 (.bool (mayP4 its o).ok) (.slice xa (mayP4 its o).locks.length xc) (.slice ya (mayP4 its o).writes.length yc)
  have q0 := HQ.of 0 _ rfl
  have q1 := HQ.of 1 _ rfl
  have q2 := HQ.of 2 _ rfl
  refine bodyPost_ret (v := .tuple #[.agg #[.bool (mayP4 its o).ok, .slice xa (mayP4 its o).locks.length xc, .slice ya (mayP4 its o).writes.length yc], .bool true]) (by simp only [results, Tryz.results48, go_sem]; simp [go_sem, q0, q1, q2]) rfl ⟨_, _, rfl, HO.out _ _ _, belowPut3 HB.out (w.heap.size + 1) (by omega) _ _ _⟩

set_option maxRecDepth 100000 in
theorem meth43 (w : World) (o : Op) : (method 294 128 (opV o) "loop.example/janitor/impl.planDone").run Tryz.prog w = .ok (141, opV o) w := by kernel_rfl
set_option maxRecDepth 100000 in
set_option maxHeartbeats 1000000 in
theorem planAt43 (w : World) (o : Op) (v : Value) (its : List Item) (hv : Items w w.heap.size v its) (hs : stoB its = true) (_hf : formB 2 its = true ∨ 3 ≠ 2) (_ho : opB o = true) (tx : Int) (h0 : 0 ≤ tx) (h9 : tx ≤ 29) :
    Calls Tryz.prog 48 #[.int .i64 3, .agg #[v], .int .i64 tx, .iface 128 (opV o)] w (Planned (doneP its tx o) true w) := by
  obtain ⟨A, c, rfl, hc2, hc1⟩ := hv.form
  clear hc1 hc2
  have HV := Lib.hid hv
  have HB := Lib.hid (belowTwo w (.cells #[.slice A its.length c] 35) (.cells #[.bool false, .slice none 0 0, .slice none 0 0] 41))
  have HR := Lib.hid (Held.new1 w (.cells #[.slice A its.length c] 35) #[.bool false, .slice none 0 0, .slice none 0 0] 41)
  have hm := meth43 ((w.alloc (.cells #[.slice A its.length c] 35)).alloc (.cells #[.bool false, .slice none 0 0, .slice none 0 0] 41)) o
  have hsz : ((w.alloc (.cells #[.slice A its.length c] 35)).alloc (.cells #[.bool false, .slice none 0 0, .slice none 0 0] 41)).heap.size = w.heap.size + 2 := by rw [alloc_size, alloc_size]
  have HZ := Lib.hid hsz
  clear hv hsz
  go_enter Tryz.func48, Tryz.ntmps48
  go_wp2_with fail
  refine (planDone_any _ o _ its ((HV.out.below HB.out).more HB.out.size) hs tx h0 h9).mono ?_
  rintro e w1 ⟨x, y, rfl, hown, hb⟩
  have hlt : w.heap.size + 1 < ((w.alloc (.cells #[.slice A its.length c] 35)).alloc (.cells #[.bool false, .slice none 0 0, .slice none 0 0] 41)).heap.size := HR.out.1
  replace HR := Lib.hid (HR.out.below hb hlt)
  have HO := Lib.hid (planOver (w0 := w) hown hlt (by rw [HZ.out]; omega))
  replace HB := Lib.hid (belowNext HB.out hb)
  have hform := Lib.hid (plan_own.1 hown)
  clear hb hown hlt HV
  obtain ⟨x1, y1, S1, S2, hcs, hx, hy, -⟩ := hform.out
  obtain ⟨rfl, rfl⟩ : x = x1 ∧ y = y1 := by simpa using hcs
  obtain ⟨xa, xc, hxf, -, -⟩ := hx.row.form
  obtain ⟨ya, yc, hyf, -, -⟩ := hy.row.form
  subst hxf hyf
  clear hx hy hcs hform
  have p0 := HR.out.of 0 _ rfl
  have p1 := HR.out.of 1 _ rfl
  have p2 := HR.out.of 2 _ rfl
  have fr := HR.out.2.1
  go_wp2
  clear p0 p1 p2 fr
  have HQ := HR.out.put3 (.bool (doneP its tx o).ok) (.slice xa (doneP its tx o).locks.length xc) (.slice ya (doneP its tx o).writes.length yc)
  have q0 := HQ.of 0 _ rfl
  have q1 := HQ.of 1 _ rfl
  have q2 := HQ.of 2 _ rfl
  refine bodyPost_ret (v := .tuple #[.agg #[.bool (doneP its tx o).ok, .slice xa (doneP its tx o).locks.length xc, .slice ya (doneP its tx o).writes.length yc], .bool true]) (by simp only [results, Tryz.results48, go_sem]; simp [go_sem, q0, q1, q2]) rfl ⟨_, _, rfl, HO.out _ _ _, belowPut3 HB.out (w.heap.size + 1) (by omega) _ _ _⟩

set_option maxRecDepth 100000 in
theorem meth51 (w : World) (o : Op) : (method 294 129 (opV o) "loop.example/janitor/impl.planIn").run Tryz.prog w = .ok (169, opV o) w := by kernel_rfl
set_option maxRecDepth 100000 in
set_option maxHeartbeats 1000000 in
theorem planAt51 (w : World) (o : Op) (v : Value) (its : List Item) (hv : Items w w.heap.size v its) (hs : stoB its = true) (_hf : formB 2 its = true ∨ 1 ≠ 2) (ho : opB o = true) (tx : Int) (_h0 : 0 ≤ tx) (_h9 : tx ≤ 29) :
    Calls Tryz.prog 48 #[.int .i64 1, .agg #[v], .int .i64 tx, .iface 129 (opV o)] w (Planned (inP5 its o) true w) := by
  obtain ⟨A, c, rfl, hc2, hc1⟩ := hv.form
  clear hc1 hc2
  have HV := Lib.hid hv
  have HB := Lib.hid (belowTwo w (.cells #[.slice A its.length c] 35) (.cells #[.bool false, .slice none 0 0, .slice none 0 0] 41))
  have HR := Lib.hid (Held.new1 w (.cells #[.slice A its.length c] 35) #[.bool false, .slice none 0 0, .slice none 0 0] 41)
  have hm := meth51 ((w.alloc (.cells #[.slice A its.length c] 35)).alloc (.cells #[.bool false, .slice none 0 0, .slice none 0 0] 41)) o
  have hsz : ((w.alloc (.cells #[.slice A its.length c] 35)).alloc (.cells #[.bool false, .slice none 0 0, .slice none 0 0] 41)).heap.size = w.heap.size + 2 := by rw [alloc_size, alloc_size]
  have HZ := Lib.hid hsz
  clear hv hsz
  go_enter Tryz.func48, Tryz.ntmps48
  go_wp2_with fail
  refine (outIn_any _ o _ its ((HV.out.below HB.out).more HB.out.size) hs ho).mono ?_
  rintro e w1 ⟨x, y, rfl, hown, hb⟩
  have hlt : w.heap.size + 1 < ((w.alloc (.cells #[.slice A its.length c] 35)).alloc (.cells #[.bool false, .slice none 0 0, .slice none 0 0] 41)).heap.size := HR.out.1
  replace HR := Lib.hid (HR.out.below hb hlt)
  have HO := Lib.hid (planOver (w0 := w) hown hlt (by rw [HZ.out]; omega))
  replace HB := Lib.hid (belowNext HB.out hb)
  have hform := Lib.hid (plan_own.1 hown)
  clear hb hown hlt HV
  obtain ⟨x1, y1, S1, S2, hcs, hx, hy, -⟩ := hform.out
  obtain ⟨rfl, rfl⟩ : x = x1 ∧ y = y1 := by simpa using hcs
  obtain ⟨xa, xc, hxf, -, -⟩ := hx.row.form
  obtain ⟨ya, yc, hyf, -, -⟩ := hy.row.form
  subst hxf hyf
  clear hx hy hcs hform
  have p0 := HR.out.of 0 _ rfl
  have p1 := HR.out.of 1 _ rfl
  have p2 := HR.out.of 2 _ rfl
  have fr := HR.out.2.1
  go_wp2
  clear p0 p1 p2 fr
  have HQ := HR.out.put3 (.bool (inP5 its o).ok) (.slice xa (inP5 its o).locks.length xc) (.slice ya (inP5 its o).writes.length yc)
  have q0 := HQ.of 0 _ rfl
  have q1 := HQ.of 1 _ rfl
  have q2 := HQ.of 2 _ rfl
  refine bodyPost_ret (v := .tuple #[.agg #[.bool (inP5 its o).ok, .slice xa (inP5 its o).locks.length xc, .slice ya (inP5 its o).writes.length yc], .bool true]) (by simp only [results, Tryz.results48, go_sem]; simp [go_sem, q0, q1, q2]) rfl ⟨_, _, rfl, HO.out _ _ _, belowPut3 HB.out (w.heap.size + 1) (by omega) _ _ _⟩

set_option maxRecDepth 100000 in
theorem meth53 (w : World) (o : Op) : (method 294 129 (opV o) "loop.example/janitor/impl.planDone").run Tryz.prog w = .ok (141, opV o) w := by kernel_rfl
set_option maxRecDepth 100000 in
set_option maxHeartbeats 1000000 in
theorem planAt53 (w : World) (o : Op) (v : Value) (its : List Item) (hv : Items w w.heap.size v its) (hs : stoB its = true) (_hf : formB 2 its = true ∨ 3 ≠ 2) (_ho : opB o = true) (tx : Int) (h0 : 0 ≤ tx) (h9 : tx ≤ 29) :
    Calls Tryz.prog 48 #[.int .i64 3, .agg #[v], .int .i64 tx, .iface 129 (opV o)] w (Planned (doneP its tx o) true w) := by
  obtain ⟨A, c, rfl, hc2, hc1⟩ := hv.form
  clear hc1 hc2
  have HV := Lib.hid hv
  have HB := Lib.hid (belowTwo w (.cells #[.slice A its.length c] 35) (.cells #[.bool false, .slice none 0 0, .slice none 0 0] 41))
  have HR := Lib.hid (Held.new1 w (.cells #[.slice A its.length c] 35) #[.bool false, .slice none 0 0, .slice none 0 0] 41)
  have hm := meth53 ((w.alloc (.cells #[.slice A its.length c] 35)).alloc (.cells #[.bool false, .slice none 0 0, .slice none 0 0] 41)) o
  have hsz : ((w.alloc (.cells #[.slice A its.length c] 35)).alloc (.cells #[.bool false, .slice none 0 0, .slice none 0 0] 41)).heap.size = w.heap.size + 2 := by rw [alloc_size, alloc_size]
  have HZ := Lib.hid hsz
  clear hv hsz
  go_enter Tryz.func48, Tryz.ntmps48
  go_wp2_with fail
  refine (planDone_any _ o _ its ((HV.out.below HB.out).more HB.out.size) hs tx h0 h9).mono ?_
  rintro e w1 ⟨x, y, rfl, hown, hb⟩
  have hlt : w.heap.size + 1 < ((w.alloc (.cells #[.slice A its.length c] 35)).alloc (.cells #[.bool false, .slice none 0 0, .slice none 0 0] 41)).heap.size := HR.out.1
  replace HR := Lib.hid (HR.out.below hb hlt)
  have HO := Lib.hid (planOver (w0 := w) hown hlt (by rw [HZ.out]; omega))
  replace HB := Lib.hid (belowNext HB.out hb)
  have hform := Lib.hid (plan_own.1 hown)
  clear hb hown hlt HV
  obtain ⟨x1, y1, S1, S2, hcs, hx, hy, -⟩ := hform.out
  obtain ⟨rfl, rfl⟩ : x = x1 ∧ y = y1 := by simpa using hcs
  obtain ⟨xa, xc, hxf, -, -⟩ := hx.row.form
  obtain ⟨ya, yc, hyf, -, -⟩ := hy.row.form
  subst hxf hyf
  clear hx hy hcs hform
  have p0 := HR.out.of 0 _ rfl
  have p1 := HR.out.of 1 _ rfl
  have p2 := HR.out.of 2 _ rfl
  have fr := HR.out.2.1
  go_wp2
  clear p0 p1 p2 fr
  have HQ := HR.out.put3 (.bool (doneP its tx o).ok) (.slice xa (doneP its tx o).locks.length xc) (.slice ya (doneP its tx o).writes.length yc)
  have q0 := HQ.of 0 _ rfl
  have q1 := HQ.of 1 _ rfl
  have q2 := HQ.of 2 _ rfl
  refine bodyPost_ret (v := .tuple #[.agg #[.bool (doneP its tx o).ok, .slice xa (doneP its tx o).locks.length xc, .slice ya (doneP its tx o).writes.length yc], .bool true]) (by simp only [results, Tryz.results48, go_sem]; simp [go_sem, q0, q1, q2]) rfl ⟨_, _, rfl, HO.out _ _ _, belowPut3 HB.out (w.heap.size + 1) (by omega) _ _ _⟩

set_option maxRecDepth 100000 in
theorem meth52 (w : World) (o : Op) : (method 294 129 (opV o) "loop.example/janitor/impl.planMay").run Tryz.prog w = .ok (170, opV o) w := by kernel_rfl
set_option maxRecDepth 100000 in
set_option maxHeartbeats 1000000 in
theorem planAt52_0 (w : World) (o : Op) (v : Value) (hv : Items w w.heap.size v []) (_hs : stoB [] = true) (_hf : formB 2 [] = true ∨ 2 ≠ 2) (ho : opB o = true) (tx : Int) (_h0 : 0 ≤ tx) (_h9 : tx ≤ 29) :
    Calls Tryz.prog 48 #[.int .i64 2, .agg #[v], .int .i64 tx, .iface 129 (opV o)] w (Planned (mayP5 [] o) true w) := by
  obtain ⟨A, c, rfl, hc2, hc1⟩ := hv.form
  clear hc1 hc2
  simp only [List.length_nil] at hv ⊢
  have HV := Lib.hid hv
  have HB := Lib.hid (belowTwo w (.cells #[.slice A 0 c] 35) (.cells #[.bool false, .slice none 0 0, .slice none 0 0] 41))
  have HR := Lib.hid (Held.new1 w (.cells #[.slice A 0 c] 35) #[.bool false, .slice none 0 0, .slice none 0 0] 41)
  have hm := meth52 ((w.alloc (.cells #[.slice A 0 c] 35)).alloc (.cells #[.bool false, .slice none 0 0, .slice none 0 0] 41)) o
  have hsz : ((w.alloc (.cells #[.slice A 0 c] 35)).alloc (.cells #[.bool false, .slice none 0 0, .slice none 0 0] 41)).heap.size = w.heap.size + 2 := by rw [alloc_size, alloc_size]
  have HZ := Lib.hid hsz
  clear hv hsz
  go_enter Tryz.func48, Tryz.ntmps48
  go_wp2_with fail
  refine (outMay0_any _ o _ ((HV.out.below HB.out).more HB.out.size) ho).mono ?_
  rintro e w1 ⟨x, y, rfl, hown, hb⟩
  have hlt : w.heap.size + 1 < ((w.alloc (.cells #[.slice A 0 c] 35)).alloc (.cells #[.bool false, .slice none 0 0, .slice none 0 0] 41)).heap.size := HR.out.1
  replace HR := Lib.hid (HR.out.below hb hlt)
  have HO := Lib.hid (planOver (w0 := w) hown hlt (by rw [HZ.out]; omega))
  replace HB := Lib.hid (belowNext HB.out hb)
  have hform := Lib.hid (plan_own.1 hown)
  clear hb hown hlt HV
  obtain ⟨x1, y1, S1, S2, hcs, hx, hy, -⟩ := hform.out
  obtain ⟨rfl, rfl⟩ : x = x1 ∧ y = y1 := by simpa using hcs
  obtain ⟨xa, xc, hxf, -, -⟩ := hx.row.form
  obtain ⟨ya, yc, hyf, -, -⟩ := hy.row.form
  subst hxf hyf
  clear hx hy hcs hform
  have p0 := HR.out.of 0 _ rfl
  have p1 := HR.out.of 1 _ rfl
  have p2 := HR.out.of 2 _ rfl
  have fr := HR.out.2.1
  go_wp2
  clear p0 p1 p2 fr
  have HQ := HR.out.put3 (.bool (mayP5 [] o).ok) (.slice xa (mayP5 [] o).locks.length xc) (.slice ya (mayP5 [] o).writes.length yc)
  have q0 := HQ.of 0 _ rfl
  have q1 := HQ.of 1 _ rfl
  have q2 := HQ.of 2 _ rfl
  refine bodyPost_ret (v := .tuple #[.agg #[.bool (mayP5 [] o).ok, .slice xa (mayP5 [] o).locks.length xc, .slice ya (mayP5 [] o).writes.length yc], .bool true]) (by simp only [results, Tryz.results48, go_sem]; simp [go_sem, q0, q1, q2]) rfl ⟨_, _, rfl, HO.out _ _ _, belowPut3 HB.out (w.heap.size + 1) (by omega) _ _ _⟩

end Go.Proofs.YtecdibpiojgppaaGreat

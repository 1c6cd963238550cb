/- Texts that follow each other, merged: DrawDiskOf, LDiskOf. -/
import Derived.Test.YtkamlibfcakblaaXDrawDisk
import Derived.Test.YtkamlibfcakblaaXDrawOpen
import Derived.Test.YtkamlibfcakblaaXFrame
import Derived.Test.YtkamlibfcakblaaXStoMap
import Derived.Test.YtkamlibfcakblaaXDiskOf
import Derived.Test.YtkamlibfcakblaaXNoteOkS
import Derived.Test.YtkamlibfcakblaaXJaPlan
import Derived.Deep.CutRange
import Derived.Deep.DeepCutAuto

/- What DrawDiskOf draws: a place's notes, and a number from -1 to 5. -/
namespace Go.Proofs.Ytkamlibfcakblaa
open Go.RowKit

/-- What DrawDiskOf leaves. -/
def DrewDO (w : World) (e : Ending) (w' : World) : Prop :=
  ∃ cs x k, e = .returned (.tuple #[.agg (List.toArray cs), .int .i64 k]) ∧ FewD 121 x ∧ -1 ≤ k ∧ k < 6 ∧ diskSh.own w' (fun b => w.heap.size ≤ b ∧ b < w'.heap.size) cs x ∧ Below w.heap.size w w'

set_option maxRecDepth 100000 in
set_option maxHeartbeats 4000000 in
theorem drawDiskOf_any (w : World) (v : Value) (n : Nat) (hv : Code8 w v n) : Calls Try.prog 12 #[v] w (DrewDO w) := by
  have HV := Lib.hid (hv.below (belowOne w (.cells #[.slice none 0 0, .int .i64 0] 25)))
  have HH := Lib.hid (Held.new w #[.slice none 0 0, .int .i64 0] 25)
  clear hv
  go_enter Try.func12, Try.ntmps12
  go_wp2_with fail
  refine (l20Open_any _ _ _ HV.out).mono ?_
  rintro e w1 ⟨rfl, hr, hb1⟩
  have HH1 := Lib.hid (HH.out.below hb1 HH.out.1)
  have HB1 := Lib.hid (belowNext (belowOne _ _) hb1)
  simp only [allocSize] at hr
  obtain ⟨g, hg⟩ : ∃ g, w.heap.size + 1 = g := ⟨_, rfl⟩
  rw [hg] at hr
  have hqg : w.heap.size < g := by omega
  have HR := Lib.hid (show Rds w1 g 0 from ⟨0, by omega, by omega, hr⟩)
  clear hr hb1 HH HV
  simp only [allocSize, hg]
  go_wp2_with fail
  refine (l20Disk_any _ g _ _ HR.out (by omega) (by omega) (by omega)).mono ?_
  rintro e w2 ⟨cs, x, rfl, hfd, ho, hd⟩
  obtain ⟨uu, rfl, hu⟩ := disk_own.1 ho
  obtain ⟨A1, c1, rfl, -, -⟩ := hu.row.form
  have HR2 := Lib.hid hd.1
  have HO2 := Lib.hid ho
  have hg1 : g < w1.heap.size := HR.out.lt
  have HH2 := Lib.hid (HH1.out.outs (Outs.of_grown (S := fun k => k = g) hd.2 (fun k e => (Option.some.inj e).symm)) (by omega))
  have HB2 := Lib.hid (HB1.out.grown hd.2 HB1.out.size (fun k e => by have := Option.some.inj e; omega))
  have HZ2 := Lib.hid hd.2.size
  clear hd ho hu
  go_wp2_with fail
  refine (pick_rds _ g _ _ HR2.out (by omega) (by omega)).mono ?_
  rintro e w3 ⟨m, rfl, hm0, hm1, hd⟩
  have hm6 : m < 7 := hm1 (by omega)
  have HO3 := Lib.hid (diskSh.okeep HO2.out (w' := w3) fun b hb hlt => hd.2.block b hlt fun e => by have := Option.some.inj e; have := hb.1; omega)
  have HH3 := Lib.hid (HH2.out.outs (Outs.of_grown (S := fun k => k = g) hd.2 (fun k e => (Option.some.inj e).symm)) (by omega))
  have HB3 := Lib.hid (HB2.out.grown hd.2 HB2.out.size (fun k e => by have := Option.some.inj e; omega))
  have HZ3 := Lib.hid hd.2.size
  clear hd hm1 HR HR2 HO2
  have x0 := HH3.out.of 0 _ rfl
  have x1 := HH3.out.of 1 _ rfl
  have xf := HH3.out.2.1
  have hwm : IntKind.i64.wrap (m - 1) = m - 1 := IntWalk.i64_in _ (by omega)
  go_wp2
  have HQ := HH3.out.put2 (.slice A1 x.notes.length c1) (.int .i64 x.safe)
  have q0 := HQ.of 0 _ rfl
  have q1 := HQ.of 1 _ rfl
  refine bodyPost_ret (v := .tuple #[.agg #[.slice A1 x.notes.length c1, .int .i64 x.safe], .int .i64 (m - 1)]) (by simp only [results, Try.results12, go_sem]; simp [go_sem, q0, q1]) rfl ⟨[.slice A1 x.notes.length c1, .int .i64 x.safe], x, m - 1, rfl, hfd, by omega, by omega, diskSh.omono (diskSh.okeep HO3.out (fun b hb _ => put2_far _ _ _ _ (by have := hb.1; omega))) (fun b hb => ⟨by have := hb.1; omega, by rw [put2_size]; exact Nat.lt_of_lt_of_le hb.2 HZ3.out⟩), belowPut2 HB3.out w.heap.size (Nat.le_refl _) _ _⟩

end Go.Proofs.Ytkamlibfcakblaa

/- The walk of FnDiskOf. By ldiskofgen.py. -/
namespace Go.Proofs.Ytkamlibfcakblaa
open Go.RowKit

/-- A note without names and writes, as it stands in a slot. -/
theorem bareNote (w : World) (k t : Int) : noteSh.rel w w.heap.size [.int .i64 k, .int .i64 t, .slice none 0 0, .slice none 0 0] ⟨k, t, [], []⟩ := note_rel.2 ⟨_, _, rfl, Sh.Row.nil _ _, Sh.Row.nil _ _⟩
theorem bareOk {k t : Int} (h0 : 0 ≤ t) (h1 : t ≤ 29) (h2 : 2 ≤ k) (h3 : k ≤ 4) : noteB ⟨k, t, [], []⟩ = true := by
  unfold noteB inB
  simp only [Bool.and_eq_true, decide_eq_true_iff]
  refine ⟨by omega, ?_⟩
  rw [if_neg (by show ¬ k = 1; omega)]
  simp
  omega
theorem noteB_tx0 {n : Note} (h : noteB n = true) : 0 ≤ n.tx ∧ n.tx ≤ 29 := by
  cases e : inB n.tx 0 29 with
  | false => rw [noteB_tx e] at h; cases h
  | true => unfold inB at e; simpa using e
theorem ofD_neg {x : Disk} {tx : Int} (h : diskB x = true) (ht : tx < 0) : ofD x tx = 0 := by
  rw [ofD_yes h]
  refine lastK_none fun j y hy => ?_
  have := noteB_tx0 ((diskB_small h).2 y (List.mem_of_getElem? hy))
  unfold hitK
  have e : ¬ y.tx = tx := by omega
  simp [e]
theorem ofD_add {x : Disk} {k t tx : Int} (h : diskB x = true) (hl : x.notes.length < 120) (hn : noteB ⟨k, t, [], []⟩ = true) :
    ofD (addD x ⟨k, t, [], []⟩ true) tx = if t = tx ∧ k ≠ 4 then k else ofD x tx := by
  have hd := diskB_add (x := x) (n := ⟨k, t, [], []⟩) (b := true)
  rw [ofD_yes hd, (addD_yes h hn hl).1, ofD_yes h]
  show lastK (x.notes ++ [⟨k, t, [], []⟩]) tx = _
  unfold lastK
  rw [List.foldl_append]
  show stepK tx (x.notes.foldl (stepK tx) 0) ⟨k, t, [], []⟩ = _
  unfold stepK hitK
  simp

set_option maxRecDepth 100000 in
set_option maxHeartbeats 4000000 in
theorem lawDiskOf_any (w : World) (v : Value) (m : Nat) (hv : Code8 w v m) :
    Calls Try.prog 3 #[v] w fun e w' => e = .returned (.bool true) ∧ Below w.heap.size w w' := by
  have HV := Lib.hid hv
  obtain ⟨A, c, f, rfl, h1, h2, -, -⟩ := hv
  unfold maxLen at h2
  by_cases hn : 1048576 < m
  · clear HV
    go_enter Try.func3, Try.ntmps3
    go_wp2
    go_ret
    exact ⟨rfl, Below.refl _ _⟩
  have hn' : m ≤ 1048576 := by omega
  clear hn
  go_enter Try.func3, Try.ntmps3
  go_wp2_with fail
  refine (drawDiskOf_any _ _ _ HV.out).mono ?_
  rintro e w1 ⟨cs, x, tx, rfl, hfd, ht0, ht1, hox, hb1⟩
  obtain ⟨u1, rfl, hu1⟩ := disk_own.1 hox
  obtain ⟨A1, c1, rfl, -, -⟩ := hu1.row.form
  clear hu1
  have HRx := Lib.hid (diskSh.orel hox)
  have HB := Lib.hid hb1
  have HZ0 := Lib.hid hb1.size
  have hxl := hfd.1
  clear hox hb1 HV hfd
  have hal := belowOne w1 (.cells #[.slice A1 x.notes.length c1, .int .i64 x.safe] 25)
  replace HB := Lib.hid (belowNext HB.out hal)
  replace HRx := Lib.hid (rel_call HRx.out hal (by have z0 := HZ0.out; omega))
  have HZ1 := Lib.hid (allocSize w1 (.cells #[.slice A1 x.notes.length c1, .int .i64 x.safe] 25))
  clear hal
  have HXx := Lib.hid (Held.new w1 #[.slice A1 x.notes.length c1, .int .i64 x.safe] 25)
  obtain ⟨how, hhw⟩ : ∃ k, ofD x tx = k := ⟨_, rfl⟩
  have HW := Lib.hid hhw
  clear hhw
  have hne : (how != how) = false := by simp
  have ax_0 := HXx.out.of 0 _ rfl
  have ax_1 := HXx.out.of 1 _ rfl
  go_wp2_with fail
  clear ax_0 ax_1
  refine (implDiskOf_any _ _ x tx (diskSh.rmore HRx.out (by have z0 := HZ0.out; have z1 := HZ1.out; omega))).mono ?_
  rintro e w2 ⟨rfl, hb⟩
  rw [HW.out]
  replace HB := Lib.hid (belowNext HB.out hb)
  replace HXx := Lib.hid (HXx.out.below hb HXx.out.1)
  replace HRx := Lib.hid (rel_call HRx.out hb (by have z0 := HZ0.out; have z1 := HZ1.out; omega))
  have HZ3 := Lib.hid hb.size
  clear hb
  have ax_0 := HXx.out.of 0 _ rfl
  have ax_1 := HXx.out.of 1 _ rfl
  go_wp2_with fail
  clear ax_0 ax_1
  refine (specDiskOf_any _ _ x tx (diskSh.rmore HRx.out (by have z0 := HZ0.out; have z1 := HZ1.out; have z3 := HZ3.out; omega))).mono ?_
  rintro e w4 ⟨rfl, hb⟩
  rw [HW.out]
  replace HB := Lib.hid (belowNext HB.out hb)
  replace HXx := Lib.hid (HXx.out.below hb HXx.out.1)
  replace HRx := Lib.hid (rel_call HRx.out hb (by have z0 := HZ0.out; have z1 := HZ1.out; have z3 := HZ3.out; omega))
  have HZ5 := Lib.hid hb.size
  clear hb
  have ax_0 := HXx.out.of 0 _ rfl
  have ax_1 := HXx.out.of 1 _ rfl
  go_wp2_with fail
  clear ax_0 ax_1
  refine (specDiskOk_any _ _ x (diskSh.rmore HRx.out (by have z0 := HZ0.out; have z1 := HZ1.out; have z3 := HZ3.out; have z5 := HZ5.out; omega))).mono ?_
  rintro e w6 ⟨rfl, hb⟩
  replace HB := Lib.hid (belowNext HB.out hb)
  replace HXx := Lib.hid (HXx.out.below hb HXx.out.1)
  replace HRx := Lib.hid (rel_call HRx.out hb (by have z0 := HZ0.out; have z1 := HZ1.out; have z3 := HZ3.out; have z5 := HZ5.out; omega))
  have HZ7 := Lib.hid hb.size
  clear hb
  cases hdx : diskB x with
  | false =>
    obtain rfl : how = 0 := by rw [← HW.out]; exact ofD_no hdx
    have hz0 : ((0 : Int) == 0) = true := by decide
    clear hne HW
    have ax_0 := HXx.out.of 0 _ rfl
    have ax_1 := HXx.out.of 1 _ rfl
    go_wp2_with fail
    clear ax_0 ax_1
    refine (jaOk_any _).mono ?_
    rintro e w8 ⟨rfl, hb⟩
    replace HB := Lib.hid (belowNext HB.out hb)
    replace HXx := Lib.hid (HXx.out.below hb HXx.out.1)
    replace HRx := Lib.hid (rel_call HRx.out hb (by have z0 := HZ0.out; have z1 := HZ1.out; have z3 := HZ3.out; have z5 := HZ5.out; have z7 := HZ7.out; omega))
    have HZ9 := Lib.hid hb.size
    clear hb
    go_wp2
    go_ret
    exact ⟨rfl, HB.out⟩
  | true =>
    by_cases htn : tx < 0
    · have ht2 : decide (tx < 0) = true := by simp; omega
      obtain rfl : how = 0 := by rw [← HW.out]; exact ofD_neg hdx htn
      have hz0 : ((0 : Int) == 0) = true := by decide
      clear hne HW
      have ax_0 := HXx.out.of 0 _ rfl
      have ax_1 := HXx.out.of 1 _ rfl
      go_wp2_with fail
      clear ax_0 ax_1
      refine (jaOk_any _).mono ?_
      rintro e w10 ⟨rfl, hb⟩
      replace HB := Lib.hid (belowNext HB.out hb)
      replace HXx := Lib.hid (HXx.out.below hb HXx.out.1)
      replace HRx := Lib.hid (rel_call HRx.out hb (by have z0 := HZ0.out; have z1 := HZ1.out; have z3 := HZ3.out; have z5 := HZ5.out; have z7 := HZ7.out; omega))
      have HZ11 := Lib.hid hb.size
      clear hb
      go_wp2
      go_ret
      exact ⟨rfl, HB.out⟩
    have ht2 : decide (tx < 0) = false := by simp; omega
    have hw1 : IntKind.i64.wrap (tx + 1) = tx + 1 := IntWalk.i64_in _ (by omega)
    have HL := Lib.hid (diskB_small hdx).1
    have ax_0 := HXx.out.of 0 _ rfl
    have ax_1 := HXx.out.of 1 _ rfl
    go_wp2_with fail
    clear ax_0 ax_1
    refine (implDiskAdd_any _ _ _ x ⟨3, tx, [], []⟩ true (diskSh.rmore HRx.out (by have z0 := HZ0.out; have z1 := HZ1.out; have z3 := HZ3.out; have z5 := HZ5.out; have z7 := HZ7.out; omega)) (bareNote _ _ _)).mono ?_
    rintro e w12 ⟨cs3, rfl, ho, hb⟩
    obtain ⟨y3, hy⟩ : ∃ y, addD x ⟨3, tx, [], []⟩ true = y := ⟨_, rfl⟩
    obtain ⟨o3, hob⟩ : ∃ o, addOk x ⟨3, tx, [], []⟩ = o := ⟨_, rfl⟩
    rw [hy] at ho
    rw [hob]
    have HY3 := Lib.hid hy
    have HO3 := Lib.hid hob
    clear hy hob
    obtain ⟨u3, rfl, hu3⟩ := disk_own.1 ho
    obtain ⟨A3, c3, rfl, -, -⟩ := hu3.row.form
    clear hu3
    replace HB := Lib.hid (belowNext HB.out hb)
    replace HXx := Lib.hid (HXx.out.below hb HXx.out.1)
    replace HRx := Lib.hid (rel_call HRx.out hb (by have z0 := HZ0.out; have z1 := HZ1.out; have z3 := HZ3.out; have z5 := HZ5.out; have z7 := HZ7.out; omega))
    have HZ13 := Lib.hid hb.size
    clear hb
    have HR3 := Lib.hid (diskSh.orel ho)
    clear ho
    have hal := belowOne w12 (.cells #[.slice A3 y3.notes.length c3, .int .i64 y3.safe] 25)
    replace HB := Lib.hid (belowNext HB.out hal)
    replace HXx := Lib.hid (HXx.out.below hal HXx.out.1)
    replace HRx := Lib.hid (rel_call HRx.out hal (by have z0 := HZ0.out; have z1 := HZ1.out; have z3 := HZ3.out; have z5 := HZ5.out; have z7 := HZ7.out; have z13 := HZ13.out; omega))
    replace HR3 := Lib.hid (rel_call HR3.out hal (by have z0 := HZ0.out; have z1 := HZ1.out; have z3 := HZ3.out; have z5 := HZ5.out; have z7 := HZ7.out; have z13 := HZ13.out; omega))
    have HZ14 := Lib.hid (allocSize w12 (.cells #[.slice A3 y3.notes.length c3, .int .i64 y3.safe] 25))
    clear hal
    have HQax := Lib.hid (Held.new w12 #[.slice A3 y3.notes.length c3, .int .i64 y3.safe] 25)
    have ax_0 := HXx.out.of 0 _ rfl
    have ax_1 := HXx.out.of 1 _ rfl
    go_wp2_with fail
    clear ax_0 ax_1
    refine (implDiskAdd_any _ _ _ x ⟨2, tx + 1, [], []⟩ true (diskSh.rmore HRx.out (by have z0 := HZ0.out; have z1 := HZ1.out; have z3 := HZ3.out; have z5 := HZ5.out; have z7 := HZ7.out; have z13 := HZ13.out; have z14 := HZ14.out; omega)) (bareNote _ _ _)).mono ?_
    rintro e w15 ⟨cs4, rfl, ho, hb⟩
    obtain ⟨y4, hy⟩ : ∃ y, addD x ⟨2, tx + 1, [], []⟩ true = y := ⟨_, rfl⟩
    obtain ⟨o4, hob⟩ : ∃ o, addOk x ⟨2, tx + 1, [], []⟩ = o := ⟨_, rfl⟩
    rw [hy] at ho
    rw [hob]
    have HY4 := Lib.hid hy
    have HO4 := Lib.hid hob
    clear hy hob
    obtain ⟨u4, rfl, hu4⟩ := disk_own.1 ho
    obtain ⟨A4, c4, rfl, -, -⟩ := hu4.row.form
    clear hu4
    replace HB := Lib.hid (belowNext HB.out hb)
    replace HXx := Lib.hid (HXx.out.below hb HXx.out.1)
    replace HQax := Lib.hid (HQax.out.below hb HQax.out.1)
    replace HRx := Lib.hid (rel_call HRx.out hb (by have z0 := HZ0.out; have z1 := HZ1.out; have z3 := HZ3.out; have z5 := HZ5.out; have z7 := HZ7.out; have z13 := HZ13.out; have z14 := HZ14.out; omega))
    replace HR3 := Lib.hid (rel_call HR3.out hb (by have z0 := HZ0.out; have z1 := HZ1.out; have z3 := HZ3.out; have z5 := HZ5.out; have z7 := HZ7.out; have z13 := HZ13.out; have z14 := HZ14.out; omega))
    have HZ16 := Lib.hid hb.size
    clear hb
    have HR4 := Lib.hid (diskSh.orel ho)
    clear ho
    have hal := belowOne w15 (.cells #[.slice A4 y4.notes.length c4, .int .i64 y4.safe] 25)
    replace HB := Lib.hid (belowNext HB.out hal)
    replace HXx := Lib.hid (HXx.out.below hal HXx.out.1)
    replace HQax := Lib.hid (HQax.out.below hal HQax.out.1)
    replace HRx := Lib.hid (rel_call HRx.out hal (by have z0 := HZ0.out; have z1 := HZ1.out; have z3 := HZ3.out; have z5 := HZ5.out; have z7 := HZ7.out; have z13 := HZ13.out; have z14 := HZ14.out; have z16 := HZ16.out; omega))
    replace HR3 := Lib.hid (rel_call HR3.out hal (by have z0 := HZ0.out; have z1 := HZ1.out; have z3 := HZ3.out; have z5 := HZ5.out; have z7 := HZ7.out; have z13 := HZ13.out; have z14 := HZ14.out; have z16 := HZ16.out; omega))
    replace HR4 := Lib.hid (rel_call HR4.out hal (by have z0 := HZ0.out; have z1 := HZ1.out; have z3 := HZ3.out; have z5 := HZ5.out; have z7 := HZ7.out; have z13 := HZ13.out; have z14 := HZ14.out; have z16 := HZ16.out; omega))
    have HZ17 := Lib.hid (allocSize w15 (.cells #[.slice A4 y4.notes.length c4, .int .i64 y4.safe] 25))
    clear hal
    have HQbx := Lib.hid (Held.new w15 #[.slice A4 y4.notes.length c4, .int .i64 y4.safe] 25)
    have ax_0 := HXx.out.of 0 _ rfl
    have ax_1 := HXx.out.of 1 _ rfl
    go_wp2_with fail
    clear ax_0 ax_1
    refine (implDiskAdd_any _ _ _ x ⟨4, tx, [], []⟩ true (diskSh.rmore HRx.out (by have z0 := HZ0.out; have z1 := HZ1.out; have z3 := HZ3.out; have z5 := HZ5.out; have z7 := HZ7.out; have z13 := HZ13.out; have z14 := HZ14.out; have z16 := HZ16.out; have z17 := HZ17.out; omega)) (bareNote _ _ _)).mono ?_
    rintro e w18 ⟨cs5, rfl, ho, hb⟩
    obtain ⟨y5, hy⟩ : ∃ y, addD x ⟨4, tx, [], []⟩ true = y := ⟨_, rfl⟩
    obtain ⟨o5, hob⟩ : ∃ o, addOk x ⟨4, tx, [], []⟩ = o := ⟨_, rfl⟩
    rw [hy] at ho
    rw [hob]
    have HY5 := Lib.hid hy
    have HO5 := Lib.hid hob
    clear hy hob
    obtain ⟨u5, rfl, hu5⟩ := disk_own.1 ho
    obtain ⟨A5, c5, rfl, -, -⟩ := hu5.row.form
    clear hu5
    replace HB := Lib.hid (belowNext HB.out hb)
    replace HXx := Lib.hid (HXx.out.below hb HXx.out.1)
    replace HQax := Lib.hid (HQax.out.below hb HQax.out.1)
    replace HQbx := Lib.hid (HQbx.out.below hb HQbx.out.1)
    replace HRx := Lib.hid (rel_call HRx.out hb (by have z0 := HZ0.out; have z1 := HZ1.out; have z3 := HZ3.out; have z5 := HZ5.out; have z7 := HZ7.out; have z13 := HZ13.out; have z14 := HZ14.out; have z16 := HZ16.out; have z17 := HZ17.out; omega))
    replace HR3 := Lib.hid (rel_call HR3.out hb (by have z0 := HZ0.out; have z1 := HZ1.out; have z3 := HZ3.out; have z5 := HZ5.out; have z7 := HZ7.out; have z13 := HZ13.out; have z14 := HZ14.out; have z16 := HZ16.out; have z17 := HZ17.out; omega))
    replace HR4 := Lib.hid (rel_call HR4.out hb (by have z0 := HZ0.out; have z1 := HZ1.out; have z3 := HZ3.out; have z5 := HZ5.out; have z7 := HZ7.out; have z13 := HZ13.out; have z14 := HZ14.out; have z16 := HZ16.out; have z17 := HZ17.out; omega))
    have HZ19 := Lib.hid hb.size
    clear hb
    have HR5 := Lib.hid (diskSh.orel ho)
    clear ho
    have hal := belowOne w18 (.cells #[.slice A5 y5.notes.length c5, .int .i64 y5.safe] 25)
    replace HB := Lib.hid (belowNext HB.out hal)
    replace HXx := Lib.hid (HXx.out.below hal HXx.out.1)
    replace HQax := Lib.hid (HQax.out.below hal HQax.out.1)
    replace HQbx := Lib.hid (HQbx.out.below hal HQbx.out.1)
    replace HRx := Lib.hid (rel_call HRx.out hal (by have z0 := HZ0.out; have z1 := HZ1.out; have z3 := HZ3.out; have z5 := HZ5.out; have z7 := HZ7.out; have z13 := HZ13.out; have z14 := HZ14.out; have z16 := HZ16.out; have z17 := HZ17.out; have z19 := HZ19.out; omega))
    replace HR3 := Lib.hid (rel_call HR3.out hal (by have z0 := HZ0.out; have z1 := HZ1.out; have z3 := HZ3.out; have z5 := HZ5.out; have z7 := HZ7.out; have z13 := HZ13.out; have z14 := HZ14.out; have z16 := HZ16.out; have z17 := HZ17.out; have z19 := HZ19.out; omega))
    replace HR4 := Lib.hid (rel_call HR4.out hal (by have z0 := HZ0.out; have z1 := HZ1.out; have z3 := HZ3.out; have z5 := HZ5.out; have z7 := HZ7.out; have z13 := HZ13.out; have z14 := HZ14.out; have z16 := HZ16.out; have z17 := HZ17.out; have z19 := HZ19.out; omega))
    replace HR5 := Lib.hid (rel_call HR5.out hal (by have z0 := HZ0.out; have z1 := HZ1.out; have z3 := HZ3.out; have z5 := HZ5.out; have z7 := HZ7.out; have z13 := HZ13.out; have z14 := HZ14.out; have z16 := HZ16.out; have z17 := HZ17.out; have z19 := HZ19.out; omega))
    have HZ20 := Lib.hid (allocSize w18 (.cells #[.slice A5 y5.notes.length c5, .int .i64 y5.safe] 25))
    clear hal
    have HQcx := Lib.hid (Held.new w18 #[.slice A5 y5.notes.length c5, .int .i64 y5.safe] 25)
    have hn3 := bareOk (k := 3) (t := tx) (by omega) (by omega) (by omega) (by omega)
    have hn4 := bareOk (k := 2) (t := tx + 1) (by omega) (by omega) (by omega) (by omega)
    have hn5 := bareOk (k := 4) (t := tx) (by omega) (by omega) (by omega) (by omega)
    by_cases hfull : x.notes.length < 120
    · obtain rfl : o3 = true := by rw [← HO3.out]; exact (addD_yes (b := true) hdx hn3 hfull).2
      obtain rfl : o4 = true := by rw [← HO4.out]; exact (addD_yes (b := true) hdx hn4 hfull).2
      obtain rfl : o5 = true := by rw [← HO5.out]; exact (addD_yes (b := true) hdx hn5 hfull).2
      have E3 := Lib.hid (show ofD y3 tx = 3 by rw [← HY3.out, ofD_add hdx hfull hn3]; simp)
      have E4 := Lib.hid (show ofD y4 tx = how by rw [← HY4.out, ofD_add hdx hfull hn4, HW.out]; exact if_neg (by omega))
      have E5 := Lib.hid (show ofD y5 tx = how by rw [← HY5.out, ofD_add hdx hfull hn5, HW.out]; simp)
      have h33 : ((3 : Int) == 3) = true := by decide
      have hhh : (how == how) = true := by simp
      clear HO3 HO4 HO5 HY3 HY4 HY5 hn3 hn4 hn5 hfull HW hw1
      have aax_0 := HQax.out.of 0 _ rfl
      have aax_1 := HQax.out.of 1 _ rfl
      go_wp2_with fail
      clear aax_0 aax_1
      refine (implDiskOf_any _ _ y3 tx (diskSh.rmore HR3.out (by have z0 := HZ0.out; have z1 := HZ1.out; have z3 := HZ3.out; have z5 := HZ5.out; have z7 := HZ7.out; have z13 := HZ13.out; have z14 := HZ14.out; have z16 := HZ16.out; have z17 := HZ17.out; have z19 := HZ19.out; have z20 := HZ20.out; omega))).mono ?_
      rintro e w21 ⟨rfl, hb⟩
      rw [E3.out]
      replace HB := Lib.hid (belowNext HB.out hb)
      replace HXx := Lib.hid (HXx.out.below hb HXx.out.1)
      replace HQax := Lib.hid (HQax.out.below hb HQax.out.1)
      replace HQbx := Lib.hid (HQbx.out.below hb HQbx.out.1)
      replace HQcx := Lib.hid (HQcx.out.below hb HQcx.out.1)
      replace HRx := Lib.hid (rel_call HRx.out hb (by have z0 := HZ0.out; have z1 := HZ1.out; have z3 := HZ3.out; have z5 := HZ5.out; have z7 := HZ7.out; have z13 := HZ13.out; have z14 := HZ14.out; have z16 := HZ16.out; have z17 := HZ17.out; have z19 := HZ19.out; have z20 := HZ20.out; omega))
      replace HR3 := Lib.hid (rel_call HR3.out hb (by have z0 := HZ0.out; have z1 := HZ1.out; have z3 := HZ3.out; have z5 := HZ5.out; have z7 := HZ7.out; have z13 := HZ13.out; have z14 := HZ14.out; have z16 := HZ16.out; have z17 := HZ17.out; have z19 := HZ19.out; have z20 := HZ20.out; omega))
      replace HR4 := Lib.hid (rel_call HR4.out hb (by have z0 := HZ0.out; have z1 := HZ1.out; have z3 := HZ3.out; have z5 := HZ5.out; have z7 := HZ7.out; have z13 := HZ13.out; have z14 := HZ14.out; have z16 := HZ16.out; have z17 := HZ17.out; have z19 := HZ19.out; have z20 := HZ20.out; omega))
      replace HR5 := Lib.hid (rel_call HR5.out hb (by have z0 := HZ0.out; have z1 := HZ1.out; have z3 := HZ3.out; have z5 := HZ5.out; have z7 := HZ7.out; have z13 := HZ13.out; have z14 := HZ14.out; have z16 := HZ16.out; have z17 := HZ17.out; have z19 := HZ19.out; have z20 := HZ20.out; omega))
      have HZ22 := Lib.hid hb.size
      clear hb
      have abx_0 := HQbx.out.of 0 _ rfl
      have abx_1 := HQbx.out.of 1 _ rfl
      go_wp2_with fail
      clear abx_0 abx_1
      refine (implDiskOf_any _ _ y4 tx (diskSh.rmore HR4.out (by have z0 := HZ0.out; have z1 := HZ1.out; have z3 := HZ3.out; have z5 := HZ5.out; have z7 := HZ7.out; have z13 := HZ13.out; have z14 := HZ14.out; have z16 := HZ16.out; have z17 := HZ17.out; have z19 := HZ19.out; have z20 := HZ20.out; have z22 := HZ22.out; omega))).mono ?_
      rintro e w23 ⟨rfl, hb⟩
      rw [E4.out]
      replace HB := Lib.hid (belowNext HB.out hb)
      replace HXx := Lib.hid (HXx.out.below hb HXx.out.1)
      replace HQax := Lib.hid (HQax.out.below hb HQax.out.1)
      replace HQbx := Lib.hid (HQbx.out.below hb HQbx.out.1)
      replace HQcx := Lib.hid (HQcx.out.below hb HQcx.out.1)
      replace HRx := Lib.hid (rel_call HRx.out hb (by have z0 := HZ0.out; have z1 := HZ1.out; have z3 := HZ3.out; have z5 := HZ5.out; have z7 := HZ7.out; have z13 := HZ13.out; have z14 := HZ14.out; have z16 := HZ16.out; have z17 := HZ17.out; have z19 := HZ19.out; have z20 := HZ20.out; have z22 := HZ22.out; omega))
      replace HR3 := Lib.hid (rel_call HR3.out hb (by have z0 := HZ0.out; have z1 := HZ1.out; have z3 := HZ3.out; have z5 := HZ5.out; have z7 := HZ7.out; have z13 := HZ13.out; have z14 := HZ14.out; have z16 := HZ16.out; have z17 := HZ17.out; have z19 := HZ19.out; have z20 := HZ20.out; have z22 := HZ22.out; omega))
      replace HR4 := Lib.hid (rel_call HR4.out hb (by have z0 := HZ0.out; have z1 := HZ1.out; have z3 := HZ3.out; have z5 := HZ5.out; have z7 := HZ7.out; have z13 := HZ13.out; have z14 := HZ14.out; have z16 := HZ16.out; have z17 := HZ17.out; have z19 := HZ19.out; have z20 := HZ20.out; have z22 := HZ22.out; omega))
      replace HR5 := Lib.hid (rel_call HR5.out hb (by have z0 := HZ0.out; have z1 := HZ1.out; have z3 := HZ3.out; have z5 := HZ5.out; have z7 := HZ7.out; have z13 := HZ13.out; have z14 := HZ14.out; have z16 := HZ16.out; have z17 := HZ17.out; have z19 := HZ19.out; have z20 := HZ20.out; have z22 := HZ22.out; omega))
      have HZ24 := Lib.hid hb.size
      clear hb
      have acx_0 := HQcx.out.of 0 _ rfl
      have acx_1 := HQcx.out.of 1 _ rfl
      go_wp2_with fail
      clear acx_0 acx_1
      refine (implDiskOf_any _ _ y5 tx (diskSh.rmore HR5.out (by have z0 := HZ0.out; have z1 := HZ1.out; have z3 := HZ3.out; have z5 := HZ5.out; have z7 := HZ7.out; have z13 := HZ13.out; have z14 := HZ14.out; have z16 := HZ16.out; have z17 := HZ17.out; have z19 := HZ19.out; have z20 := HZ20.out; have z22 := HZ22.out; have z24 := HZ24.out; omega))).mono ?_
      rintro e w25 ⟨rfl, hb⟩
      rw [E5.out]
      replace HB := Lib.hid (belowNext HB.out hb)
      replace HXx := Lib.hid (HXx.out.below hb HXx.out.1)
      replace HQax := Lib.hid (HQax.out.below hb HQax.out.1)
      replace HQbx := Lib.hid (HQbx.out.below hb HQbx.out.1)
      replace HQcx := Lib.hid (HQcx.out.below hb HQcx.out.1)
      replace HRx := Lib.hid (rel_call HRx.out hb (by have z0 := HZ0.out; have z1 := HZ1.out; have z3 := HZ3.out; have z5 := HZ5.out; have z7 := HZ7.out; have z13 := HZ13.out; have z14 := HZ14.out; have z16 := HZ16.out; have z17 := HZ17.out; have z19 := HZ19.out; have z20 := HZ20.out; have z22 := HZ22.out; have z24 := HZ24.out; omega))
      replace HR3 := Lib.hid (rel_call HR3.out hb (by have z0 := HZ0.out; have z1 := HZ1.out; have z3 := HZ3.out; have z5 := HZ5.out; have z7 := HZ7.out; have z13 := HZ13.out; have z14 := HZ14.out; have z16 := HZ16.out; have z17 := HZ17.out; have z19 := HZ19.out; have z20 := HZ20.out; have z22 := HZ22.out; have z24 := HZ24.out; omega))
      replace HR4 := Lib.hid (rel_call HR4.out hb (by have z0 := HZ0.out; have z1 := HZ1.out; have z3 := HZ3.out; have z5 := HZ5.out; have z7 := HZ7.out; have z13 := HZ13.out; have z14 := HZ14.out; have z16 := HZ16.out; have z17 := HZ17.out; have z19 := HZ19.out; have z20 := HZ20.out; have z22 := HZ22.out; have z24 := HZ24.out; omega))
      replace HR5 := Lib.hid (rel_call HR5.out hb (by have z0 := HZ0.out; have z1 := HZ1.out; have z3 := HZ3.out; have z5 := HZ5.out; have z7 := HZ7.out; have z13 := HZ13.out; have z14 := HZ14.out; have z16 := HZ16.out; have z17 := HZ17.out; have z19 := HZ19.out; have z20 := HZ20.out; have z22 := HZ22.out; have z24 := HZ24.out; omega))
      have HZ26 := Lib.hid hb.size
      clear hb
      go_wp2
      go_ret
      exact ⟨rfl, HB.out⟩
    have hl1 : x.notes.length = 120 := by have := HL.out; omega
    obtain rfl : o3 = false := by rw [← HO3.out]; exact (addD_full (b := true) hdx hn3 hl1).2
    have hf1 : ((x.notes.length : Int) == 120) = true := by simp [hl1]
    clear HO3 HO4 HO5 HY3 HY4 HY5 hn3 hn4 hn5 hfull HW hw1 hl1
    have ax_0 := HXx.out.of 0 _ rfl
    have ax_1 := HXx.out.of 1 _ rfl
    go_wp2
    go_ret
    exact ⟨rfl, HB.out⟩

end Go.Proofs.Ytkamlibfcakblaa

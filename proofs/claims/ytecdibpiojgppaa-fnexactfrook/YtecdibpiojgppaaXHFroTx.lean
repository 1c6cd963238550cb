/- The helpers of the exact laws over FroTx: a count, a copy, a comparison, marks. By shgen.py. -/
import Derived.Test.YtecdibpiojgppaaXHTo
import Derived.Test.YtecdibpiojgppaaXExInts
import Derived.Test.YtecdibpiojgppaaXExOpOk
import Derived.Test.YtecdibpiojgppaaXShapesFro
import Derived.Deep.RegionHeld3
namespace Go.Proofs.Ytecdibpiojgppaa
open Go.RowKit

theorem eqOpOp_same (w : World) (o : Op) : Calls Try.prog 154 #[opV o, opV o] w (Alike w) := by
  have HB := Lib.hid (belowTwo w (.cells #[.int .i64 o.kind, .int .i64 o.who, .int .i64 o.inn, .int .i64 o.code, .int .i64 o.sec, .int .i64 o.fam, .int .i64 o.gen] 113) (.cells #[.int .i64 o.kind, .int .i64 o.who, .int .i64 o.inn, .int .i64 o.code, .int .i64 o.sec, .int .i64 o.fam, .int .i64 o.gen] 113))
  unfold opV
  go_enter Try.func154, Try.ntmps154
  go_wp2
  go_ret
  exact ⟨rfl, HB.out⟩
theorem wtFroTx (x : FTx) : (ftxSh.wt x : Int) = (intsSh.wt x.can : Int) + (intsSh.wt x.know : Int) := by
  show (((0 + (0 + (0 + (intsSh.wt x.can + intsSh.wt x.know)))) : Nat) : Int) = _
  omega
theorem szFroTx_any (w : World) (cs : List Value) (x : FTx) (h : ftxSh.rel w w.heap.size cs x) (left : Int) (h0 : 0 ≤ left) (h1 : left ≤ 1048576) :
    Calls Try.prog 139 #[.agg cs.toArray, .int .i64 left] w (Sized left (ftxSh.wt x) w) := by
  obtain ⟨u9, u10, rfl, hu9, hu10⟩ := ftx_rel.1 h
  obtain ⟨A9, c9, rfl, hc9, hd9⟩ := hu9.form
  unfold maxLen at hc9
  have HU9 := Lib.hid fun W (hb : Below w.heap.size w W) => (hu9.below hb).more hb.size
  obtain ⟨A10, c10, rfl, hc10, hd10⟩ := hu10.form
  unfold maxLen at hc10
  have HU10 := Lib.hid fun W (hb : Below w.heap.size w W) => (hu10.below hb).more hb.size
  clear h hu9 hu10
  have HT := Lib.hid (wtFroTx x)
  have HB0 := Lib.hid (belowOne w (.cells #[.int .i64 x.tx, .int .i64 x.op.kind, .int .i64 x.op.who, .int .i64 x.op.inn, .int .i64 x.op.code, .int .i64 x.op.sec, .int .i64 x.op.fam, .int .i64 x.op.gen, .bool x.yes, .slice A9 x.can.length c9, .slice A10 x.know.length c10] 169))
  have HX0 := Lib.hid (Held.new w #[.int .i64 x.tx, .int .i64 x.op.kind, .int .i64 x.op.who, .int .i64 x.op.inn, .int .i64 x.op.code, .int .i64 x.op.sec, .int .i64 x.op.fam, .int .i64 x.op.gen, .bool x.yes, .slice A9 x.can.length c9, .slice A10 x.know.length c10] 169)
  go_enter Try.func139, Try.ntmps139
  by_cases hq0 : left < (intsSh.wt x.can : Int)
  · have hl := less_no hq0
    go_wp2_with fail
    refine (szIntS_sh _ _ _ _ (HU9.out _ HB0.out) _ (by omega) (by omega)).mono ?_
    rintro e w1 ⟨rfl, hb⟩
    rw [hl]
    have HB1 := Lib.hid (belowNext HB0.out hb)
    have HX1 := Lib.hid (HX0.out.below hb HX0.out.1)
    clear hb
    clear hl HB0 HX0
    have x0 := HX1.out.of 0 _ rfl
    have x1 := HX1.out.of 1 _ rfl
    have x2 := HX1.out.of 2 _ rfl
    have x3 := HX1.out.of 3 _ rfl
    have x4 := HX1.out.of 4 _ rfl
    have x5 := HX1.out.of 5 _ rfl
    have x6 := HX1.out.of 6 _ rfl
    have x7 := HX1.out.of 7 _ rfl
    have x8 := HX1.out.of 8 _ rfl
    have x9 := HX1.out.of 9 _ rfl
    have x10 := HX1.out.of 10 _ rfl
    go_wp2
    go_ret
    exact ⟨ret_int (by rw [less_no (by rw [HT.out]; omega)]), HB1.out⟩
  · have hl := less_yes (show (intsSh.wt x.can : Int) ≤ left by omega)
    have hq0' : (intsSh.wt x.can : Int) ≤ left := by omega
    clear hq0
    go_wp2_with fail
    refine (szIntS_sh _ _ _ _ (HU9.out _ HB0.out) _ (by omega) (by omega)).mono ?_
    rintro e w1 ⟨rfl, hb⟩
    rw [hl]
    have HB1 := Lib.hid (belowNext HB0.out hb)
    have HX1 := Lib.hid (HX0.out.below hb HX0.out.1)
    clear hb
    clear hl HB0 HX0
    have x0 := HX1.out.of 0 _ rfl
    have x1 := HX1.out.of 1 _ rfl
    have x2 := HX1.out.of 2 _ rfl
    have x3 := HX1.out.of 3 _ rfl
    have x4 := HX1.out.of 4 _ rfl
    have x5 := HX1.out.of 5 _ rfl
    have x6 := HX1.out.of 6 _ rfl
    have x7 := HX1.out.of 7 _ rfl
    have x8 := HX1.out.of 8 _ rfl
    have x9 := HX1.out.of 9 _ rfl
    have x10 := HX1.out.of 10 _ rfl
    by_cases hq1 : left - (intsSh.wt x.can : Int) < (intsSh.wt x.know : Int)
    · have hl := less_no hq1
      go_wp2_with fail
      refine (szIntS_sh _ _ _ _ (HU10.out _ HB1.out) _ (by omega) (by omega)).mono ?_
      rintro e w2 ⟨rfl, hb⟩
      rw [hl]
      have HB2 := Lib.hid (belowNext HB1.out hb)
      have HX2 := Lib.hid (HX1.out.below hb HX1.out.1)
      clear hb
      clear hl HB1 HX1
      have x0 := HX2.out.of 0 _ rfl
      have x1 := HX2.out.of 1 _ rfl
      have x2 := HX2.out.of 2 _ rfl
      have x3 := HX2.out.of 3 _ rfl
      have x4 := HX2.out.of 4 _ rfl
      have x5 := HX2.out.of 5 _ rfl
      have x6 := HX2.out.of 6 _ rfl
      have x7 := HX2.out.of 7 _ rfl
      have x8 := HX2.out.of 8 _ rfl
      have x9 := HX2.out.of 9 _ rfl
      have x10 := HX2.out.of 10 _ rfl
      go_wp2
      go_ret
      exact ⟨ret_int (by rw [less_no (by rw [HT.out]; omega)]), HB2.out⟩
    · have hl := less_yes (show (intsSh.wt x.know : Int) ≤ left - (intsSh.wt x.can : Int) by omega)
      have hq1' : (intsSh.wt x.know : Int) ≤ left - (intsSh.wt x.can : Int) := by omega
      clear hq1
      go_wp2_with fail
      refine (szIntS_sh _ _ _ _ (HU10.out _ HB1.out) _ (by omega) (by omega)).mono ?_
      rintro e w2 ⟨rfl, hb⟩
      rw [hl]
      have HB2 := Lib.hid (belowNext HB1.out hb)
      have HX2 := Lib.hid (HX1.out.below hb HX1.out.1)
      clear hb
      clear hl HB1 HX1
      have x0 := HX2.out.of 0 _ rfl
      have x1 := HX2.out.of 1 _ rfl
      have x2 := HX2.out.of 2 _ rfl
      have x3 := HX2.out.of 3 _ rfl
      have x4 := HX2.out.of 4 _ rfl
      have x5 := HX2.out.of 5 _ rfl
      have x6 := HX2.out.of 6 _ rfl
      have x7 := HX2.out.of 7 _ rfl
      have x8 := HX2.out.of 8 _ rfl
      have x9 := HX2.out.of 9 _ rfl
      have x10 := HX2.out.of 10 _ rfl
      go_wp2
      go_ret
      exact ⟨ret_int (by rw [less_yes (by rw [HT.out]; omega), HT.out] <;> omega), HB2.out⟩
set_option maxRecDepth 100000 in
theorem szFroTxS_sh (w : World) (v : Value) (xs : List FTx) (hv : ftxSh.Row w w.heap.size v xs) (left : Int) (h0 : 0 ≤ left) (h1 : left ≤ 1048576) :
    Calls Try.prog 73 #[v, .int .i64 left] w (Sized left (ftxsSh.wt xs) w) := by
  obtain ⟨A, c, rfl, hc2, hc1⟩ := hv.form
  unfold maxLen at hc2
  have HW := Lib.hid (show ftxsSh.wt xs = xs.length + cntL ftxSh.wt xs from wtL_eq _ _)
  by_cases h : left < (xs.length : Int)
  · have HL := Lib.hid (less_no (left := left) (n := (ftxsSh.wt xs : Int)) (by rw [HW.out]; omega))
    clear hv
    go_enter Try.func73, Try.ntmps73
    go_wp2
    go_ret
    exact ⟨ret_int HL.out.symm, Below.refl _ _⟩
  · have h2 : (xs.length : Int) ≤ left := by omega
    clear h
    go_enter Try.func73, Try.ntmps73
    go_wp2
    go_loopw [1, 5] (fun l i wr => ∃ (k : Nat) (r : Int), k ≤ xs.length ∧ i = .int .i64 k ∧ l = .int .i64 r ∧ 0 ≤ r ∧ r = left - xs.length - cntL ftxSh.wt (xs.take k) ∧ Below w.heap.size w wr) (fun _ i _ => xs.length - (intOf i).toNat)
    case atStart => exact ⟨0, _, Nat.zero_le _, rfl, rfl, by omega, by simp [cntL], Below.refl _ _⟩
    case round =>
      obtain ⟨k, r, hk, rfl, rfl, hr0, hr, hb⟩ := hrel
      have HR := Lib.hid hr
      have hrl : r ≤ left := by omega
      have HB := Lib.hid hb
      clear hr hb
      by_cases hlt : k < xs.length
      · obtain ⟨b, off, c', x, cs, e1, hx, hB, hrel, hcell⟩ := (hv.below HB.out).at_ (k := k) hlt
        injection e1 with e1a e1b e1c
        subst e1a
        have HV := Lib.hid (ftxSh.rmore hrel HB.out.size)
        obtain ⟨u9, u10, rfl, hu9, hu10⟩ := ftx_rel.1 hrel
        obtain ⟨A9, c9, rfl, -, -⟩ := hu9.form
        obtain ⟨A10, c10, rfl, -, -⟩ := hu10.form
        have d0 := hcell 0 _ rfl
        have d1 := hcell 1 _ rfl
        have d2 := hcell 2 _ rfl
        have d3 := hcell 3 _ rfl
        have d4 := hcell 4 _ rfl
        have d5 := hcell 5 _ rfl
        have d6 := hcell 6 _ rfl
        have d7 := hcell 7 _ rfl
        have d8 := hcell 8 _ rfl
        have d9 := hcell 9 _ rfl
        have d10 := hcell 10 _ rfl
        have hwd : ftxSh.wd = 11 := rfl
        rw [hwd] at d0 d1 d2 d3 d4 d5 d6 d7 d8 d9 d10
        simp only [Nat.add_zero] at d0
        have HC := Lib.hid (cntL_take (f := ftxSh.wt) hx)
        have HT := Lib.hid (cntL_take_le ftxSh.wt xs (k + 1))
        clear e1b e1c hv hx hcell hrel hwd hu9 hu10
        by_cases hneg : r < (ftxSh.wt x : Int)
        · have HL := Lib.hid (less_no (left := left) (n := (ftxsSh.wt xs : Int)) (by rw [HW.out]; have := HR.out; have := HC.out; have := HT.out; omega))
          have hl := less_no hneg
          go_wp2_with fail
          refine (szFroTx_any _ _ x HV.out _ hr0 (by omega)).mono ?_
          rintro e w1 ⟨rfl, hb1⟩
          rw [hl]
          clear hl
          go_wp2
          go_ret
          exact ⟨ret_int HL.out.symm, belowNext HB.out hb1⟩
        · have hge : (ftxSh.wt x : Int) ≤ r := by omega
          have hl := less_yes hge
          go_wp2_with fail
          refine (szFroTx_any _ _ x HV.out _ hr0 (by omega)).mono ?_
          rintro e w1 ⟨rfl, hb1⟩
          rw [hl]
          clear hl
          go_wp2
          go_roundw
          case rel => exact ⟨k + 1, _, by omega, by go_num, rfl, by omega, by rw [HR.out, HC.out]; omega, belowNext HB.out hb1⟩
          case measure => simp [intOf]; omega
      · have hks : k = xs.length := by omega
        have HL := Lib.hid (less_yes (left := left) (n := (ftxsSh.wt xs : Int)) (by have h1 := HR.out; rw [HW.out]; rw [hks, List.take_length] at h1; omega))
        have HE := Lib.hid (show r = left - (ftxsSh.wt xs : Int) by have h1 := HR.out; rw [HW.out]; rw [hks, List.take_length] at h1; omega)
        clear hks hv
        go_wp2
        go_ret
        exact ⟨ret_int (by rw [HL.out]; exact HE.out), HB.out⟩

set_option maxRecDepth 100000 in
theorem toFroTx_any (w : World) (cs : List Value) (x : FTx) (h : ftxSh.rel w w.heap.size cs x) (hl : ftxSh.wt x ≤ 1048576) :
    Calls Try.prog 140 #[.agg cs.toArray] w (CopiedAg ftxSh x w) := by
  have hwt := wtFroTx x
  obtain ⟨u9, u10, rfl, hu9, hu10⟩ := ftx_rel.1 h
  have hn9 : x.can.length ≤ intsSh.wt x.can := wtL_len _ _
  obtain ⟨A9, c9, rfl, hc9, hd9⟩ := hu9.form
  have HU9 := Lib.hid fun W (hb : Below w.heap.size w W) => (hu9.below hb).more hb.size
  have hm9 : intsSh.wt x.can ≤ 1048576 := by omega
  have hp9 : x.can.length ≤ 1048576 := by omega
  have hn10 : x.know.length ≤ intsSh.wt x.know := wtL_len _ _
  obtain ⟨A10, c10, rfl, hc10, hd10⟩ := hu10.form
  have HU10 := Lib.hid fun W (hb : Below w.heap.size w W) => (hu10.below hb).more hb.size
  have hm10 : intsSh.wt x.know ≤ 1048576 := by omega
  have hp10 : x.know.length ≤ 1048576 := by omega
  clear h hwt hu9 hu10
  have HI := Lib.hid (ToInv.start w #[.int .i64 x.tx, .int .i64 x.op.kind, .int .i64 x.op.who, .int .i64 x.op.inn, .int .i64 x.op.code, .int .i64 x.op.sec, .int .i64 x.op.fam, .int .i64 x.op.gen, .bool x.yes, .slice A9 x.can.length c9, .slice A10 x.know.length c10] #[.int .i64 0, .int .i64 0, .int .i64 0, .int .i64 0, .int .i64 0, .int .i64 0, .int .i64 0, .int .i64 0, .bool false, .slice none 0 0, .slice none 0 0] #[.int .i64 x.tx, .int .i64 0, .int .i64 0, .int .i64 0, .int .i64 0, .int .i64 0, .int .i64 0, .int .i64 0, .bool false, .slice none 0 0, .slice none 0 0] 169 115 115)
  go_enter Try.func140, Try.ntmps140
  go_wp2_with fail
  refine (toOpOp_any _ x.op).mono ?_
  rintro e w0 ⟨rfl, hb⟩
  unfold opV
  have hz := HI.out.size
  have HJ := Lib.hid (HI.out.call hb)
  have x0 := HJ.out.box.of 0 _ rfl
  have x1 := HJ.out.box.of 1 _ rfl
  have x2 := HJ.out.box.of 2 _ rfl
  have x3 := HJ.out.box.of 3 _ rfl
  have x4 := HJ.out.box.of 4 _ rfl
  have x5 := HJ.out.box.of 5 _ rfl
  have x6 := HJ.out.box.of 6 _ rfl
  have x7 := HJ.out.box.of 7 _ rfl
  have x8 := HJ.out.box.of 8 _ rfl
  have x9 := HJ.out.box.of 9 _ rfl
  have x10 := HJ.out.box.of 10 _ rfl
  have o0 := HJ.out.out.of 0 _ rfl
  have o1 := HJ.out.out.of 1 _ rfl
  have o2 := HJ.out.out.of 2 _ rfl
  have o3 := HJ.out.out.of 3 _ rfl
  have o4 := HJ.out.out.of 4 _ rfl
  have o5 := HJ.out.out.of 5 _ rfl
  have o6 := HJ.out.out.of 6 _ rfl
  have o7 := HJ.out.out.of 7 _ rfl
  have o8 := HJ.out.out.of 8 _ rfl
  have o9 := HJ.out.out.of 9 _ rfl
  have o10 := HJ.out.out.of 10 _ rfl
  have of := HJ.out.out.2.1
  have hzw0 : w.heap.size + 1 + 1 + 1 ≤ w0.heap.size := by have := hb.size; simp at this; omega
  replace HJ := Lib.hid (HJ.out.putOut 1 (.int .i64 x.op.kind))
  replace HJ := Lib.hid (HJ.out.putOut 2 (.int .i64 x.op.who))
  replace HJ := Lib.hid (HJ.out.putOut 3 (.int .i64 x.op.inn))
  replace HJ := Lib.hid (HJ.out.putOut 4 (.int .i64 x.op.code))
  replace HJ := Lib.hid (HJ.out.putOut 5 (.int .i64 x.op.sec))
  replace HJ := Lib.hid (HJ.out.putOut 6 (.int .i64 x.op.fam))
  replace HJ := Lib.hid (HJ.out.putOut 7 (.int .i64 x.op.gen))
  replace HJ := Lib.hid (HJ.out.putOut 8 (.bool x.yes))
  clear HI hb hz
  have HI := HJ
  clear HJ
  go_wp2_with fail
  refine (toIntS_sh _ _ x.can (HU9.out _ HI.out.bel) hp9).mono ?_
  rintro e w1 ⟨v9, rfl, ho, hb⟩
  obtain ⟨B9, e9, rfl, -, -⟩ := ho.row.form
  have hz := HI.out.size
  have HJ := Lib.hid (HI.out.call hb)
  have HS9 : Hid (CopFrom Sh.int 3 (w.heap.size + 1 + 1 + 1) (w1.heap.size) (.slice B9 x.can.length e9) x.can w1) := Lib.hid (Sh.Own.mono ho fun b hb => ⟨by have := hb.1; simp at this; omega, hb.2⟩)
  have hzw : w.heap.size + 1 + 1 + 1 ≤ w1.heap.size := by have := hb.size; simp at this; omega
  have x0 := HJ.out.box.of 0 _ rfl
  have x1 := HJ.out.box.of 1 _ rfl
  have x2 := HJ.out.box.of 2 _ rfl
  have x3 := HJ.out.box.of 3 _ rfl
  have x4 := HJ.out.box.of 4 _ rfl
  have x5 := HJ.out.box.of 5 _ rfl
  have x6 := HJ.out.box.of 6 _ rfl
  have x7 := HJ.out.box.of 7 _ rfl
  have x8 := HJ.out.box.of 8 _ rfl
  have x9 := HJ.out.box.of 9 _ rfl
  have x10 := HJ.out.box.of 10 _ rfl
  have o0 := HJ.out.out.of 0 _ rfl
  have o1 := HJ.out.out.of 1 _ rfl
  have o2 := HJ.out.out.of 2 _ rfl
  have o3 := HJ.out.out.of 3 _ rfl
  have o4 := HJ.out.out.of 4 _ rfl
  have o5 := HJ.out.out.of 5 _ rfl
  have o6 := HJ.out.out.of 6 _ rfl
  have o7 := HJ.out.out.of 7 _ rfl
  have o8 := HJ.out.out.of 8 _ rfl
  have o9 := HJ.out.out.of 9 _ rfl
  have o10 := HJ.out.out.of 10 _ rfl
  have of := HJ.out.out.2.1
  replace HJ := Lib.hid (HJ.out.putOut 9 (.slice B9 x.can.length e9))
  replace HS9 := Lib.hid (HS9.out.set (p := ⟨w.heap.size + 1 + 1, 9, none⟩) (by show w.heap.size + 1 + 1 < _; omega) (.slice B9 x.can.length e9))
  clear HI hb ho hz
  have HI := HJ
  clear HJ
  go_wp2_with fail
  refine (toIntS_sh _ _ x.know (HU10.out _ HI.out.bel) hp10).mono ?_
  rintro e w2 ⟨v10, rfl, ho, hb⟩
  obtain ⟨B10, e10, rfl, -, -⟩ := ho.row.form
  have hz := HI.out.size
  have HJ := Lib.hid (HI.out.call hb)
  have HS10 : Hid (CopFrom Sh.int 3 (w1.heap.size) (w2.heap.size) (.slice B10 x.know.length e10) x.know w2) := Lib.hid (Sh.Own.mono ho fun b hb => ⟨by have := hb.1; simp at this; omega, hb.2⟩)
  replace HS9 := Lib.hid (HS9.out.call hb)
  have hzw : w1.heap.size ≤ w2.heap.size := by have := hb.size; simp at this; omega
  have x0 := HJ.out.box.of 0 _ rfl
  have x1 := HJ.out.box.of 1 _ rfl
  have x2 := HJ.out.box.of 2 _ rfl
  have x3 := HJ.out.box.of 3 _ rfl
  have x4 := HJ.out.box.of 4 _ rfl
  have x5 := HJ.out.box.of 5 _ rfl
  have x6 := HJ.out.box.of 6 _ rfl
  have x7 := HJ.out.box.of 7 _ rfl
  have x8 := HJ.out.box.of 8 _ rfl
  have x9 := HJ.out.box.of 9 _ rfl
  have x10 := HJ.out.box.of 10 _ rfl
  have o0 := HJ.out.out.of 0 _ rfl
  have o1 := HJ.out.out.of 1 _ rfl
  have o2 := HJ.out.out.of 2 _ rfl
  have o3 := HJ.out.out.of 3 _ rfl
  have o4 := HJ.out.out.of 4 _ rfl
  have o5 := HJ.out.out.of 5 _ rfl
  have o6 := HJ.out.out.of 6 _ rfl
  have o7 := HJ.out.out.of 7 _ rfl
  have o8 := HJ.out.out.of 8 _ rfl
  have o9 := HJ.out.out.of 9 _ rfl
  have o10 := HJ.out.out.of 10 _ rfl
  have of := HJ.out.out.2.1
  replace HJ := Lib.hid (HJ.out.putOut 10 (.slice B10 x.know.length e10))
  replace HS9 := Lib.hid (HS9.out.set (p := ⟨w.heap.size + 1 + 1, 10, none⟩) (by show w.heap.size + 1 + 1 < _; omega) (.slice B10 x.know.length e10))
  replace HS10 := Lib.hid (HS10.out.set (p := ⟨w.heap.size + 1 + 1, 10, none⟩) (by show w.heap.size + 1 + 1 < _; omega) (.slice B10 x.know.length e10))
  clear HI hb ho hz
  have HI := HJ
  clear HJ
  have r0 := HI.out.res.of 0 _ rfl
  have r1 := HI.out.res.of 1 _ rfl
  have r2 := HI.out.res.of 2 _ rfl
  have r3 := HI.out.res.of 3 _ rfl
  have r4 := HI.out.res.of 4 _ rfl
  have r5 := HI.out.res.of 5 _ rfl
  have r6 := HI.out.res.of 6 _ rfl
  have r7 := HI.out.res.of 7 _ rfl
  have r8 := HI.out.res.of 8 _ rfl
  have r9 := HI.out.res.of 9 _ rfl
  have r10 := HI.out.res.of 10 _ rfl
  have rf := HI.out.res.2.1
  go_wp2
  replace HI := Lib.hid (HI.out.putRes 0 (.int .i64 x.tx))
  replace HS9 := Lib.hid (HS9.out.set (p := ⟨w.heap.size + 1, 0, none⟩) (by show w.heap.size + 1 < _; omega) (.int .i64 x.tx))
  replace HS10 := Lib.hid (HS10.out.set (p := ⟨w.heap.size + 1, 0, none⟩) (by show w.heap.size + 1 < _; omega) (.int .i64 x.tx))
  replace HI := Lib.hid (HI.out.putRes 1 (.int .i64 x.op.kind))
  replace HS9 := Lib.hid (HS9.out.set (p := ⟨w.heap.size + 1, 1, none⟩) (by show w.heap.size + 1 < _; omega) (.int .i64 x.op.kind))
  replace HS10 := Lib.hid (HS10.out.set (p := ⟨w.heap.size + 1, 1, none⟩) (by show w.heap.size + 1 < _; omega) (.int .i64 x.op.kind))
  replace HI := Lib.hid (HI.out.putRes 2 (.int .i64 x.op.who))
  replace HS9 := Lib.hid (HS9.out.set (p := ⟨w.heap.size + 1, 2, none⟩) (by show w.heap.size + 1 < _; omega) (.int .i64 x.op.who))
  replace HS10 := Lib.hid (HS10.out.set (p := ⟨w.heap.size + 1, 2, none⟩) (by show w.heap.size + 1 < _; omega) (.int .i64 x.op.who))
  replace HI := Lib.hid (HI.out.putRes 3 (.int .i64 x.op.inn))
  replace HS9 := Lib.hid (HS9.out.set (p := ⟨w.heap.size + 1, 3, none⟩) (by show w.heap.size + 1 < _; omega) (.int .i64 x.op.inn))
  replace HS10 := Lib.hid (HS10.out.set (p := ⟨w.heap.size + 1, 3, none⟩) (by show w.heap.size + 1 < _; omega) (.int .i64 x.op.inn))
  replace HI := Lib.hid (HI.out.putRes 4 (.int .i64 x.op.code))
  replace HS9 := Lib.hid (HS9.out.set (p := ⟨w.heap.size + 1, 4, none⟩) (by show w.heap.size + 1 < _; omega) (.int .i64 x.op.code))
  replace HS10 := Lib.hid (HS10.out.set (p := ⟨w.heap.size + 1, 4, none⟩) (by show w.heap.size + 1 < _; omega) (.int .i64 x.op.code))
  replace HI := Lib.hid (HI.out.putRes 5 (.int .i64 x.op.sec))
  replace HS9 := Lib.hid (HS9.out.set (p := ⟨w.heap.size + 1, 5, none⟩) (by show w.heap.size + 1 < _; omega) (.int .i64 x.op.sec))
  replace HS10 := Lib.hid (HS10.out.set (p := ⟨w.heap.size + 1, 5, none⟩) (by show w.heap.size + 1 < _; omega) (.int .i64 x.op.sec))
  replace HI := Lib.hid (HI.out.putRes 6 (.int .i64 x.op.fam))
  replace HS9 := Lib.hid (HS9.out.set (p := ⟨w.heap.size + 1, 6, none⟩) (by show w.heap.size + 1 < _; omega) (.int .i64 x.op.fam))
  replace HS10 := Lib.hid (HS10.out.set (p := ⟨w.heap.size + 1, 6, none⟩) (by show w.heap.size + 1 < _; omega) (.int .i64 x.op.fam))
  replace HI := Lib.hid (HI.out.putRes 7 (.int .i64 x.op.gen))
  replace HS9 := Lib.hid (HS9.out.set (p := ⟨w.heap.size + 1, 7, none⟩) (by show w.heap.size + 1 < _; omega) (.int .i64 x.op.gen))
  replace HS10 := Lib.hid (HS10.out.set (p := ⟨w.heap.size + 1, 7, none⟩) (by show w.heap.size + 1 < _; omega) (.int .i64 x.op.gen))
  replace HI := Lib.hid (HI.out.putRes 8 (.bool x.yes))
  replace HS9 := Lib.hid (HS9.out.set (p := ⟨w.heap.size + 1, 8, none⟩) (by show w.heap.size + 1 < _; omega) (.bool x.yes))
  replace HS10 := Lib.hid (HS10.out.set (p := ⟨w.heap.size + 1, 8, none⟩) (by show w.heap.size + 1 < _; omega) (.bool x.yes))
  replace HI := Lib.hid (HI.out.putRes 9 (.slice B9 x.can.length e9))
  replace HS9 := Lib.hid (HS9.out.set (p := ⟨w.heap.size + 1, 9, none⟩) (by show w.heap.size + 1 < _; omega) (.slice B9 x.can.length e9))
  replace HS10 := Lib.hid (HS10.out.set (p := ⟨w.heap.size + 1, 9, none⟩) (by show w.heap.size + 1 < _; omega) (.slice B9 x.can.length e9))
  replace HI := Lib.hid (HI.out.putRes 10 (.slice B10 x.know.length e10))
  replace HS9 := Lib.hid (HS9.out.set (p := ⟨w.heap.size + 1, 10, none⟩) (by show w.heap.size + 1 < _; omega) (.slice B10 x.know.length e10))
  replace HS10 := Lib.hid (HS10.out.set (p := ⟨w.heap.size + 1, 10, none⟩) (by show w.heap.size + 1 < _; omega) (.slice B10 x.know.length e10))
  have q0 := HI.out.res.of 0 _ rfl
  have q1 := HI.out.res.of 1 _ rfl
  have q2 := HI.out.res.of 2 _ rfl
  have q3 := HI.out.res.of 3 _ rfl
  have q4 := HI.out.res.of 4 _ rfl
  have q5 := HI.out.res.of 5 _ rfl
  have q6 := HI.out.res.of 6 _ rfl
  have q7 := HI.out.res.of 7 _ rfl
  have q8 := HI.out.res.of 8 _ rfl
  have q9 := HI.out.res.of 9 _ rfl
  have q10 := HI.out.res.of 10 _ rfl
  refine bodyPost_ret (v := .agg #[.int .i64 x.tx, .int .i64 x.op.kind, .int .i64 x.op.who, .int .i64 x.op.inn, .int .i64 x.op.code, .int .i64 x.op.sec, .int .i64 x.op.fam, .int .i64 x.op.gen, .bool x.yes, .slice B9 x.can.length e9, .slice B10 x.know.length e10]) (by simp [results, Try.results140, go_sem, q0, q1, q2, q3, q4, q5, q6, q7, q8, q9, q10]) rfl ⟨[.int .i64 x.tx, .int .i64 x.op.kind, .int .i64 x.op.who, .int .i64 x.op.inn, .int .i64 x.op.code, .int .i64 x.op.sec, .int .i64 x.op.fam, .int .i64 x.op.gen, .bool x.yes, .slice B9 x.can.length e9, .slice B10 x.know.length e10], rfl, ?_, HI.out.bel⟩
  refine ftx_own.2 ⟨_, _, _, _, rfl, HS9.out, HS10.out, ?_, ?_, ?_⟩
  · intro b hb; exact ⟨by have := hb.1; omega, by simp [World.setCell]; have := hb.2; omega⟩
  · intro b hb; exact ⟨by have := hb.1; omega, by simp [World.setCell]; have := hb.2; omega⟩
  · intro b hb hb'; have := hb.2; have := hb'.1; omega

theorem infoFroTxH : (Try.prog.info? 115).map (fun i => (i.zero, i.size, i.bytes)) = some (some (.agg #[.int .i64 0, .int .i64 0, .int .i64 0, .int .i64 0, .int .i64 0, .int .i64 0, .int .i64 0, .int .i64 0, .bool false, .slice none 0 0, .slice none 0 0]), 11, 120) := by kernel_rfl
theorem madeFroTx (n : Nat) (hbytes : 120 * n ≤ 281474976710656) (w : World) :
    (Instr.makeSlice 55 (.int .i64 (n : Int)) (.int .i64 (n : Int))).run Try.prog w = .ok (.slice (some ⟨w.heap.size, 0, none⟩) n n) (w.alloc (.cells (madeCells #[.int .i64 0, .int .i64 0, .int .i64 0, .int .i64 0, .int .i64 0, .int .i64 0, .int .i64 0, .int .i64 0, .bool false, .slice none 0 0, .slice none 0 0] (n * 11)) 115)) := by
  obtain ⟨i, hi, hzz⟩ := Option.map_eq_some_iff.1 infoFroTxH
  simp only [Prod.mk.injEq] at hzz
  obtain ⟨hz, hs, hb⟩ := hzz
  have hb' : (i.bytes : Int) * (n : Int) ≤ 281474976710656 := by
    have h : ((i.bytes * n : Nat) : Int) ≤ 281474976710656 := by rw [hb]; omega
    rwa [Int.natCast_mul] at h
  have hr := run_make (P := Try.prog) w 55 115 i _ Try.underlying55 hi hz .i64 .i64 n n (by omega) (Int.le_refl _) hb' (by omega)
  simp only [Int.toNat_natCast, hs] at hr
  exact hr
set_option maxRecDepth 100000 in
theorem toFroTxS_sh (w : World) (v : Value) (xs : List FTx) (hv : ftxSh.Row w w.heap.size v xs) (hl : ftxsSh.wt xs ≤ 1048576) :
    Calls Try.prog 78 #[v] w (CopiedSl ftxSh 115 xs w) := by
  obtain ⟨A, c, rfl, hc2, hc1⟩ := hv.form
  unfold maxLen at hc2
  have hlen : xs.length ≤ 1048576 := Nat.le_trans (wtL_len ftxSh.wt xs) hl
  have hmk := fun W => madeFroTx xs.length (by omega) W
  have HM : Hid (ftxSh.Own 115 (w.alloc (.cells (madeCells #[.int .i64 0, .int .i64 0, .int .i64 0, .int .i64 0, .int .i64 0, .int .i64 0, .int .i64 0, .int .i64 0, .bool false, .slice none 0 0, .slice none 0 0] (xs.length * 11)) 115)) (fun b => b = w.heap.size) (.slice (some ⟨w.heap.size, 0, none⟩) xs.length xs.length) (xs.take 0 ++ List.replicate (xs.length - 0) ftxSh.z)) :=
    Lib.hid (Sh.Own.made ftxSh 115 w xs.length (by unfold maxLen; omega))
  have HW := Lib.hid (belowOne w (.cells (madeCells #[.int .i64 0, .int .i64 0, .int .i64 0, .int .i64 0, .int .i64 0, .int .i64 0, .int .i64 0, .int .i64 0, .bool false, .slice none 0 0, .slice none 0 0] (xs.length * 11)) 115))
  go_enter Try.func78, Try.ntmps78
  go_wp2
  clear hmk
  go_loopw [4] (fun i wr => ∃ k : Nat, k ≤ xs.length ∧ i = .int .i64 k ∧ ftxSh.Own 115 wr (fun b => w.heap.size ≤ b ∧ b < wr.heap.size) (.slice (some ⟨w.heap.size, 0, none⟩) xs.length xs.length) (xs.take k ++ List.replicate (xs.length - k) ftxSh.z) ∧ Below w.heap.size w wr) (fun i _ => xs.length - (intOf i).toNat)
  case atStart => exact ⟨0, Nat.zero_le _, rfl, HM.out.mono fun b hb => ⟨by omega, by simp; omega⟩, HW.out⟩
  case round =>
    clear HM HW
    obtain ⟨k, hk, rfl, ho, hb⟩ := hrel
    by_cases hlt : k < xs.length
    · obtain ⟨b, off, c', x, cs, e1, hx, hB, hrel, hcell⟩ := (hv.below hb).at_ (k := k) hlt
      injection e1 with e1a e1b e1c
      subst e1a
      have HV := Lib.hid (ftxSh.rmore hrel hb.size)
      have hxl : ftxSh.wt x ≤ 1048576 := by have := wtL_at_le (f := ftxSh.wt) hx; have h2 : wtL ftxSh.wt xs ≤ 1048576 := hl; omega
      obtain ⟨u9, u10, rfl, hu9, hu10⟩ := ftx_rel.1 hrel
      obtain ⟨A9, c9, rfl, -, -⟩ := hu9.form
      obtain ⟨A10, c10, rfl, -, -⟩ := hu10.form
      have d0 := hcell 0 _ rfl
      have d1 := hcell 1 _ rfl
      have d2 := hcell 2 _ rfl
      have d3 := hcell 3 _ rfl
      have d4 := hcell 4 _ rfl
      have d5 := hcell 5 _ rfl
      have d6 := hcell 6 _ rfl
      have d7 := hcell 7 _ rfl
      have d8 := hcell 8 _ rfl
      have d9 := hcell 9 _ rfl
      have d10 := hcell 10 _ rfl
      have hwd : ftxSh.wd = 11 := rfl
      rw [hwd] at d0 d1 d2 d3 d4 d5 d6 d7 d8 d9 d10
      simp only [Nat.add_zero] at d0
      clear e1b e1c hv hcell hrel hu9 hu10
      have HO := Lib.hid ho
      have HB := Lib.hid hb
      have HX := Lib.hid hx
      clear ho hb hx
      go_wp2_with fail
      refine (toFroTx_any _ _ x HV.out hxl).mono ?_
      rintro e w1 ⟨cs, rfl, hc, hb1⟩
      obtain ⟨g, cap, y, ds, Sj, e2, -, hSg, -, hds, -, hcell, hfr, -, -⟩ := (HO.out.below hb1).at_ (j := k) (by simp; omega)
      have HLn : Hid (xs.length = (xs.take k ++ List.replicate (xs.length - k) ftxSh.z).length) := Lib.hid (by simp; omega)
      injection e2 with e2a e2b e2c
      injection e2a with e2a
      injection e2a with e2a
      subst e2a
      obtain ⟨y9, y10, rfl, -, -⟩ := ftx_rel.1 (ftxSh.orel hds)
      have r0 := hcell 0 _ rfl
      have r1 := hcell 1 _ rfl
      have r2 := hcell 2 _ rfl
      have r3 := hcell 3 _ rfl
      have r4 := hcell 4 _ rfl
      have r5 := hcell 5 _ rfl
      have r6 := hcell 6 _ rfl
      have r7 := hcell 7 _ rfl
      have r8 := hcell 8 _ rfl
      have r9 := hcell 9 _ rfl
      have r10 := hcell 10 _ rfl
      rw [hwd] at r0 r1 r2 r3 r4 r5 r6 r7 r8 r9 r10
      simp only [Nat.add_zero] at r0
      have hput := Sh.Own.put (HO.out) (j := k) (g := w.heap.size) (cap := xs.length) (by rw [← HLn.out]; exact hlt) (by rw [← HLn.out]) (w1 := w1) (fun b _ hlt => hb1.block b hlt) hc (fun b hb hb2 => by have := hb.1; have := hb2.2; omega)
      rw [repl_take HX.out] at hput
      obtain ⟨v9, v10, rfl, hv9, hv10⟩ := ftx_rel.1 (ftxSh.orel hc)
      obtain ⟨B9, e9, rfl, -, -⟩ := hv9.form
      obtain ⟨B10, e10, rfl, -, -⟩ := hv10.form
      have HP := Lib.hid hput
      have HS := Lib.hid (Nat.le_trans HB.out.size hb1.size)
      have HN := Lib.hid (belowNext HB.out hb1)
      have hsz := hb1.size
      clear hput hcell hds hc hb1 hSg e2b e2c HV HLn hwd hv9 hv10
      go_wp2
      go_roundw
      case rel =>
        refine ⟨k + 1, by omega, by go_num, Sh.Own.mono HP.out (fun b hb => ?_), (((((((((((HN.out.setCell (Nat.le_refl _) _).setCell (Nat.le_refl _) _).setCell (Nat.le_refl _) _).setCell (Nat.le_refl _) _).setCell (Nat.le_refl _) _).setCell (Nat.le_refl _) _).setCell (Nat.le_refl _) _).setCell (Nat.le_refl _) _).setCell (Nat.le_refl _) _).setCell (Nat.le_refl _) _).setCell (Nat.le_refl _) _)⟩
        have h0 := HS.out
        simp only [World.setCell, Array.size_modify]
        rcases hb with hb | hb
        · have h1 := hb.1; have h2 := hb.2; exact ⟨h1, by omega⟩
        · have h1 := hb.1; have h2 := hb.2; exact ⟨by have := HB.out.size; omega, h2⟩
      case measure => simp [intOf]; omega
    · have hks : k = xs.length := by omega
      have HO : Hid (ftxSh.Own 115 wr (fun b => w.heap.size ≤ b ∧ b < wr.heap.size) (.slice (some ⟨w.heap.size, 0, none⟩) xs.length xs.length) xs) := by
        subst hks; exact Lib.hid (by simpa using ho)
      clear hks hv ho
      go_wp2
      go_ret
      exact ⟨_, rfl, HO.out, hb⟩

set_option maxRecDepth 100000 in
theorem eqFroTx_same (w : World) (cs ds : List Value) (x : FTx) (h : ftxSh.rel w w.heap.size cs x) (h2 : ftxSh.rel w w.heap.size ds x) :
    Calls Try.prog 144 #[.agg cs.toArray, .agg ds.toArray] w (Alike w) := by
  obtain ⟨u9, u10, rfl, hu9, hu10⟩ := ftx_rel.1 h
  obtain ⟨v9, v10, rfl, hv9, hv10⟩ := ftx_rel.1 h2
  obtain ⟨A9, c9, rfl, hc9, hd9⟩ := hu9.form
  obtain ⟨B9, e9, rfl, hc9', hd9'⟩ := hv9.form
  have HU9 := Lib.hid fun W (hb : Below w.heap.size w W) => (hu9.below hb).more hb.size
  have HV9 := Lib.hid fun W (hb : Below w.heap.size w W) => (hv9.below hb).more hb.size
  obtain ⟨A10, c10, rfl, hc10, hd10⟩ := hu10.form
  obtain ⟨B10, e10, rfl, hc10', hd10'⟩ := hv10.form
  have HU10 := Lib.hid fun W (hb : Below w.heap.size w W) => (hu10.below hb).more hb.size
  have HV10 := Lib.hid fun W (hb : Below w.heap.size w W) => (hv10.below hb).more hb.size
  clear h h2 hu9 hv9 hu10 hv10
  have HI := Lib.hid (TwoInv.start w #[.int .i64 x.tx, .int .i64 x.op.kind, .int .i64 x.op.who, .int .i64 x.op.inn, .int .i64 x.op.code, .int .i64 x.op.sec, .int .i64 x.op.fam, .int .i64 x.op.gen, .bool x.yes, .slice A9 x.can.length c9, .slice A10 x.know.length c10] #[.int .i64 x.tx, .int .i64 x.op.kind, .int .i64 x.op.who, .int .i64 x.op.inn, .int .i64 x.op.code, .int .i64 x.op.sec, .int .i64 x.op.fam, .int .i64 x.op.gen, .bool x.yes, .slice B9 x.can.length e9, .slice B10 x.know.length e10] 115 115)
  go_enter Try.func144, Try.ntmps144
  go_wp2_with fail
  refine (eqOpOp_same _ x.op).mono ?_
  rintro e w0 ⟨rfl, hb⟩
  replace HI := Lib.hid (HI.out.call hb)
  clear hb
  have x_0 := HI.out.one.of 0 _ rfl
  have x_1 := HI.out.one.of 1 _ rfl
  have x_2 := HI.out.one.of 2 _ rfl
  have x_3 := HI.out.one.of 3 _ rfl
  have x_4 := HI.out.one.of 4 _ rfl
  have x_5 := HI.out.one.of 5 _ rfl
  have x_6 := HI.out.one.of 6 _ rfl
  have x_7 := HI.out.one.of 7 _ rfl
  have x_8 := HI.out.one.of 8 _ rfl
  have x_9 := HI.out.one.of 9 _ rfl
  have x_10 := HI.out.one.of 10 _ rfl
  have y_0 := HI.out.two.of 0 _ rfl
  have y_1 := HI.out.two.of 1 _ rfl
  have y_2 := HI.out.two.of 2 _ rfl
  have y_3 := HI.out.two.of 3 _ rfl
  have y_4 := HI.out.two.of 4 _ rfl
  have y_5 := HI.out.two.of 5 _ rfl
  have y_6 := HI.out.two.of 6 _ rfl
  have y_7 := HI.out.two.of 7 _ rfl
  have y_8 := HI.out.two.of 8 _ rfl
  have y_9 := HI.out.two.of 9 _ rfl
  have y_10 := HI.out.two.of 10 _ rfl
  go_wp2_with fail
  refine (eqIntS_same _ _ _ _ x.can (HU9.out _ HI.out.bel) (HV9.out _ HI.out.bel)).mono ?_
  rintro e w1 ⟨rfl, hb⟩
  replace HI := Lib.hid (HI.out.call hb)
  clear hb
  have x0_0 := HI.out.one.of 0 _ rfl
  have x0_1 := HI.out.one.of 1 _ rfl
  have x0_2 := HI.out.one.of 2 _ rfl
  have x0_3 := HI.out.one.of 3 _ rfl
  have x0_4 := HI.out.one.of 4 _ rfl
  have x0_5 := HI.out.one.of 5 _ rfl
  have x0_6 := HI.out.one.of 6 _ rfl
  have x0_7 := HI.out.one.of 7 _ rfl
  have x0_8 := HI.out.one.of 8 _ rfl
  have x0_9 := HI.out.one.of 9 _ rfl
  have x0_10 := HI.out.one.of 10 _ rfl
  have y0_0 := HI.out.two.of 0 _ rfl
  have y0_1 := HI.out.two.of 1 _ rfl
  have y0_2 := HI.out.two.of 2 _ rfl
  have y0_3 := HI.out.two.of 3 _ rfl
  have y0_4 := HI.out.two.of 4 _ rfl
  have y0_5 := HI.out.two.of 5 _ rfl
  have y0_6 := HI.out.two.of 6 _ rfl
  have y0_7 := HI.out.two.of 7 _ rfl
  have y0_8 := HI.out.two.of 8 _ rfl
  have y0_9 := HI.out.two.of 9 _ rfl
  have y0_10 := HI.out.two.of 10 _ rfl
  go_wp2_with fail
  refine (eqIntS_same _ _ _ _ x.know (HU10.out _ HI.out.bel) (HV10.out _ HI.out.bel)).mono ?_
  rintro e w2 ⟨rfl, hb⟩
  replace HI := Lib.hid (HI.out.call hb)
  clear hb
  have x1_0 := HI.out.one.of 0 _ rfl
  have x1_1 := HI.out.one.of 1 _ rfl
  have x1_2 := HI.out.one.of 2 _ rfl
  have x1_3 := HI.out.one.of 3 _ rfl
  have x1_4 := HI.out.one.of 4 _ rfl
  have x1_5 := HI.out.one.of 5 _ rfl
  have x1_6 := HI.out.one.of 6 _ rfl
  have x1_7 := HI.out.one.of 7 _ rfl
  have x1_8 := HI.out.one.of 8 _ rfl
  have x1_9 := HI.out.one.of 9 _ rfl
  have x1_10 := HI.out.one.of 10 _ rfl
  have y1_0 := HI.out.two.of 0 _ rfl
  have y1_1 := HI.out.two.of 1 _ rfl
  have y1_2 := HI.out.two.of 2 _ rfl
  have y1_3 := HI.out.two.of 3 _ rfl
  have y1_4 := HI.out.two.of 4 _ rfl
  have y1_5 := HI.out.two.of 5 _ rfl
  have y1_6 := HI.out.two.of 6 _ rfl
  have y1_7 := HI.out.two.of 7 _ rfl
  have y1_8 := HI.out.two.of 8 _ rfl
  have y1_9 := HI.out.two.of 9 _ rfl
  have y1_10 := HI.out.two.of 10 _ rfl
  go_wp2
  go_ret
  exact ⟨rfl, HI.out.bel⟩

set_option maxRecDepth 100000 in
theorem eqFroTxS_same (w : World) (v u : Value) (xs : List FTx) (hv : ftxSh.Row w w.heap.size v xs) (hu : ftxSh.Row w w.heap.size u xs) :
    Calls Try.prog 84 #[v, u] w (Alike w) := by
  obtain ⟨A, c, rfl, hc2, hc1⟩ := hv.form
  obtain ⟨A', c', rfl, hc2', hc1'⟩ := hu.form
  unfold maxLen at hc2 hc2'
  go_enter Try.func84, Try.ntmps84
  go_wp2
  go_loopw [5] (fun i wr => ∃ k : Nat, k ≤ xs.length ∧ i = .int .i64 k ∧ Below w.heap.size w wr) (fun i _ => xs.length - (intOf i).toNat)
  case atStart => exact ⟨0, Nat.zero_le _, rfl, Below.refl _ _⟩
  case round =>
    obtain ⟨k, hk, rfl, hb⟩ := hrel
    by_cases hlt : k < xs.length
    · obtain ⟨b, off, d, x, cs, e1, hx, hB, hr, hcell⟩ := hv.at_ (k := k) hlt
      obtain ⟨b2, off2, d2, x2, cs2, e2, hx2, hB2, hr2, hcell2⟩ := hu.at_ (k := k) hlt
      rw [hx] at hx2
      injection hx2 with hx2
      subst hx2
      injection e1 with e1a e1b e1c
      injection e2 with e2a e2b e2c
      subst e1a e2a
      have HR := Lib.hid fun (y : World) (hy : Below w.heap.size w y) => ftxSh.rmore (ftxSh.rbelow hr hy) hy.size
      have HR2 := Lib.hid fun (y : World) (hy : Below w.heap.size w y) => ftxSh.rmore (ftxSh.rbelow hr2 hy) hy.size
      obtain ⟨u9, u10, rfl, hu9, hu10⟩ := ftx_rel.1 hr
      obtain ⟨v9, v10, rfl, hv9, hv10⟩ := ftx_rel.1 hr2
      obtain ⟨A9, c9, rfl, -, -⟩ := hu9.form
      obtain ⟨B9, e9, rfl, -, -⟩ := hv9.form
      obtain ⟨A10, c10, rfl, -, -⟩ := hu10.form
      obtain ⟨B10, e10, rfl, -, -⟩ := hv10.form
      have p0 := hcell 0 _ rfl
      have p1 := hcell 1 _ rfl
      have p2 := hcell 2 _ rfl
      have p3 := hcell 3 _ rfl
      have p4 := hcell 4 _ rfl
      have p5 := hcell 5 _ rfl
      have p6 := hcell 6 _ rfl
      have p7 := hcell 7 _ rfl
      have p8 := hcell 8 _ rfl
      have p9 := hcell 9 _ rfl
      have p10 := hcell 10 _ rfl
      have q0 := hcell2 0 _ rfl
      have q1 := hcell2 1 _ rfl
      have q2 := hcell2 2 _ rfl
      have q3 := hcell2 3 _ rfl
      have q4 := hcell2 4 _ rfl
      have q5 := hcell2 5 _ rfl
      have q6 := hcell2 6 _ rfl
      have q7 := hcell2 7 _ rfl
      have q8 := hcell2 8 _ rfl
      have q9 := hcell2 9 _ rfl
      have q10 := hcell2 10 _ rfl
      have hwd : ftxSh.wd = 11 := rfl
      rw [hwd] at p0 q0 p1 q1 p2 q2 p3 q3 p4 q4 p5 q5 p6 q6 p7 q7 p8 q8 p9 q9 p10 q10
      simp only [Nat.add_zero] at p0 q0
      have HS := Lib.hid fun (y : World) (hy : Below w.heap.size w y) => And.intro ((hy.cell (p := ⟨b, off + k * 11, none⟩) hB).trans p0) (And.intro ((hy.cell (p := ⟨b, off + k * 11 + 1, none⟩) hB).trans p1) (And.intro ((hy.cell (p := ⟨b, off + k * 11 + 2, none⟩) hB).trans p2) (And.intro ((hy.cell (p := ⟨b, off + k * 11 + 3, none⟩) hB).trans p3) (And.intro ((hy.cell (p := ⟨b, off + k * 11 + 4, none⟩) hB).trans p4) (And.intro ((hy.cell (p := ⟨b, off + k * 11 + 5, none⟩) hB).trans p5) (And.intro ((hy.cell (p := ⟨b, off + k * 11 + 6, none⟩) hB).trans p6) (And.intro ((hy.cell (p := ⟨b, off + k * 11 + 7, none⟩) hB).trans p7) (And.intro ((hy.cell (p := ⟨b, off + k * 11 + 8, none⟩) hB).trans p8) (And.intro ((hy.cell (p := ⟨b, off + k * 11 + 9, none⟩) hB).trans p9) (And.intro ((hy.cell (p := ⟨b, off + k * 11 + 10, none⟩) hB).trans p10) (And.intro ((hy.cell (p := ⟨b2, off2 + k * 11, none⟩) hB2).trans q0) (And.intro ((hy.cell (p := ⟨b2, off2 + k * 11 + 1, none⟩) hB2).trans q1) (And.intro ((hy.cell (p := ⟨b2, off2 + k * 11 + 2, none⟩) hB2).trans q2) (And.intro ((hy.cell (p := ⟨b2, off2 + k * 11 + 3, none⟩) hB2).trans q3) (And.intro ((hy.cell (p := ⟨b2, off2 + k * 11 + 4, none⟩) hB2).trans q4) (And.intro ((hy.cell (p := ⟨b2, off2 + k * 11 + 5, none⟩) hB2).trans q5) (And.intro ((hy.cell (p := ⟨b2, off2 + k * 11 + 6, none⟩) hB2).trans q6) (And.intro ((hy.cell (p := ⟨b2, off2 + k * 11 + 7, none⟩) hB2).trans q7) (And.intro ((hy.cell (p := ⟨b2, off2 + k * 11 + 8, none⟩) hB2).trans q8) (And.intro ((hy.cell (p := ⟨b2, off2 + k * 11 + 9, none⟩) hB2).trans q9) ((hy.cell (p := ⟨b2, off2 + k * 11 + 10, none⟩) hB2).trans q10)))))))))))))))))))))
      obtain ⟨d0', d1', d2', d3', d4', d5', d6', d7', d8', d9', d10', d11', d12', d13', d14', d15', d16', d17', d18', d19', d20', d21'⟩ := HS.out wr hb
      have hb0 := hb.drew
      have f3 : (0 : Int) ≤ (k : Int) := by omega
      have f4 : (k : Int) < (xs.length : Int) := by omega
      clear e1b e1c e2b e2c hv hu hx hr hr2 hcell hcell2 hwd p0 q0 p1 q1 p2 q2 p3 q3 p4 q4 p5 q5 p6 q6 p7 q7 p8 q8 p9 q9 p10 q10 hu9 hv9 hu10 hv10
      go_wp2
      go_region_held3 (fun w' => w'.cell? ⟨b, off + k * 11, none⟩ = some (.int .i64 x.tx) ∧ w'.cell? ⟨b, off + k * 11 + 1, none⟩ = some (.int .i64 x.op.kind) ∧ w'.cell? ⟨b, off + k * 11 + 2, none⟩ = some (.int .i64 x.op.who) ∧ w'.cell? ⟨b, off + k * 11 + 3, none⟩ = some (.int .i64 x.op.inn) ∧ w'.cell? ⟨b, off + k * 11 + 4, none⟩ = some (.int .i64 x.op.code) ∧ w'.cell? ⟨b, off + k * 11 + 5, none⟩ = some (.int .i64 x.op.sec) ∧ w'.cell? ⟨b, off + k * 11 + 6, none⟩ = some (.int .i64 x.op.fam) ∧ w'.cell? ⟨b, off + k * 11 + 7, none⟩ = some (.int .i64 x.op.gen) ∧ w'.cell? ⟨b, off + k * 11 + 8, none⟩ = some (.bool x.yes) ∧ w'.cell? ⟨b, off + k * 11 + 9, none⟩ = some (.slice A9 x.can.length c9) ∧ w'.cell? ⟨b, off + k * 11 + 10, none⟩ = some (.slice A10 x.know.length c10) ∧ w'.cell? ⟨b2, off2 + k * 11, none⟩ = some (.int .i64 x.tx) ∧ w'.cell? ⟨b2, off2 + k * 11 + 1, none⟩ = some (.int .i64 x.op.kind) ∧ w'.cell? ⟨b2, off2 + k * 11 + 2, none⟩ = some (.int .i64 x.op.who) ∧ w'.cell? ⟨b2, off2 + k * 11 + 3, none⟩ = some (.int .i64 x.op.inn) ∧ w'.cell? ⟨b2, off2 + k * 11 + 4, none⟩ = some (.int .i64 x.op.code) ∧ w'.cell? ⟨b2, off2 + k * 11 + 5, none⟩ = some (.int .i64 x.op.sec) ∧ w'.cell? ⟨b2, off2 + k * 11 + 6, none⟩ = some (.int .i64 x.op.fam) ∧ w'.cell? ⟨b2, off2 + k * 11 + 7, none⟩ = some (.int .i64 x.op.gen) ∧ w'.cell? ⟨b2, off2 + k * 11 + 8, none⟩ = some (.bool x.yes) ∧ w'.cell? ⟨b2, off2 + k * 11 + 9, none⟩ = some (.slice B9 x.can.length e9) ∧ w'.cell? ⟨b2, off2 + k * 11 + 10, none⟩ = some (.slice B10 x.know.length e10))
        (first | exact HS.out _ hb0 | exact HS.out _ (by assumption))
        (first | (go_at_call 144; refine (eqFroTx_same _ _ _ x (HR.out _ hb0) (HR2.out _ hb0)).mono ?_; rintro e w' ⟨rfl, hb'⟩; have hq := belowNext hb0 hb'; clear hb'))
      go_wp2
      go_roundw
      case rel => exact ⟨k + 1, by omega, by go_num, by assumption⟩
      case measure => simp [intOf]; omega
    · clear hv hu
      go_wp2
      go_ret
      exact ⟨rfl, hb⟩

end Go.Proofs.Ytecdibpiojgppaa

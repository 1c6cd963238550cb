/- The helpers of the exact laws over FroState: a count, a copy, a comparison. -/
import Derived.Test.YtecdibpiojgppaaXHFroTx
import Derived.Test.YtecdibpiojgppaaXHLogDisk
namespace Go.Proofs.Ytecdibpiojgppaa
open Go.RowKit

theorem wtFroState (x : Fro) : (froSh.wt x : Int) = (diskSh.wt x.disk : Int) + (ftxsSh.wt x.way : Int) := by
  show (((diskSh.wt x.disk + ftxsSh.wt x.way) : Nat) : Int) = _
  omega
set_option maxRecDepth 100000 in
theorem szFroState_any (w : World) (cs : List Value) (x : Fro) (h : froSh.rel w w.heap.size cs x) (left : Int) (h0 : 0 ≤ left) (h1 : left ≤ 1048576) :
    Calls Try.prog 23 #[.agg cs.toArray, .int .i64 left] w (Sized left (froSh.wt x) w) := by
  obtain ⟨un, uw, rfl, hn, hw⟩ := fro_rel.1 h
  obtain ⟨An, cn, rfl, -, -⟩ := hn.form
  obtain ⟨Aw, cw, rfl, -, -⟩ := hw.form
  have HN := Lib.hid fun W (hb : Below w.heap.size w W) => (hn.below hb).more hb.size
  have HW := Lib.hid fun W (hb : Below w.heap.size w W) => (hw.below hb).more hb.size
  clear h hn hw
  have HT := Lib.hid (wtFroState x)
  have HB0 := Lib.hid (belowOne w (.cells #[.slice An x.disk.notes.length cn, .int .i64 x.disk.safe, .slice Aw x.way.length cw] 49))
  have HX0 := Lib.hid (Held.new w #[.slice An x.disk.notes.length cn, .int .i64 x.disk.safe, .slice Aw x.way.length cw] 49)
  go_enter Try.func23, Try.ntmps23
  have HD := Lib.hid (szLogDisk_any _ [.slice An x.disk.notes.length cn, .int .i64 x.disk.safe] x.disk (disk_rel.2 ⟨_, rfl, HN.out _ HB0.out⟩) left h0 h1)
  by_cases hq0 : left < (diskSh.wt x.disk : Int)
  · have hl := less_no hq0
    go_wp2_with fail
    refine HD.out.mono ?_
    rintro e w1 ⟨rfl, hb⟩
    rw [hl]
    have HB1 := Lib.hid (belowNext HB0.out hb)
    clear hb hl HB0 HX0 HD
    go_wp2
    go_ret
    exact ⟨ret_int (by rw [less_no (by rw [HT.out]; omega)]), HB1.out⟩
  · have hl := less_yes (show (diskSh.wt x.disk : Int) ≤ left by omega)
    have hq0' : (diskSh.wt x.disk : Int) ≤ left := by omega
    clear hq0
    go_wp2_with fail
    refine HD.out.mono ?_
    rintro e w1 ⟨rfl, hb⟩
    rw [hl]
    have HB1 := Lib.hid (belowNext HB0.out hb)
    have HX1 := Lib.hid (HX0.out.below hb HX0.out.1)
    clear hb hl HB0 HX0 HD
    have x0 := HX1.out.of 0 _ rfl
    have x1 := HX1.out.of 1 _ rfl
    have x2 := HX1.out.of 2 _ rfl
    by_cases hq1 : left - (diskSh.wt x.disk : Int) < (ftxsSh.wt x.way : Int)
    · have hl := less_no hq1
      go_wp2_with fail
      refine (szFroTxS_sh _ _ _ (HW.out _ HB1.out) _ (by omega) (by omega)).mono ?_
      rintro e w2 ⟨rfl, hb⟩
      rw [hl]
      have HB2 := Lib.hid (belowNext HB1.out hb)
      clear hb hl HB1 HX1
      go_wp2
      go_ret
      exact ⟨ret_int (by rw [less_no (by rw [HT.out]; omega)]), HB2.out⟩
    · have hl := less_yes (show (ftxsSh.wt x.way : Int) ≤ left - (diskSh.wt x.disk : Int) by omega)
      have hq1' : (ftxsSh.wt x.way : Int) ≤ left - (diskSh.wt x.disk : Int) := by omega
      clear hq1
      go_wp2_with fail
      refine (szFroTxS_sh _ _ _ (HW.out _ HB1.out) _ (by omega) (by omega)).mono ?_
      rintro e w2 ⟨rfl, hb⟩
      rw [hl]
      have HB2 := Lib.hid (belowNext HB1.out hb)
      clear hb hl HB1 HX1
      go_wp2
      go_ret
      exact ⟨ret_int (by rw [less_yes (by rw [HT.out]; omega), HT.out] <;> omega), HB2.out⟩
set_option maxRecDepth 100000 in
theorem eqFroState_same (w : World) (cs ds : List Value) (x : Fro) (h : froSh.rel w w.heap.size cs x) (h2 : froSh.rel w w.heap.size ds x) :
    Calls Try.prog 27 #[.agg cs.toArray, .agg ds.toArray] w (Alike w) := by
  obtain ⟨un, uw, rfl, hn, hw⟩ := fro_rel.1 h
  obtain ⟨vn, vw, rfl, kn, kw⟩ := fro_rel.1 h2
  obtain ⟨An, cn, rfl, -, -⟩ := hn.form
  obtain ⟨Aw, cw, rfl, -, -⟩ := hw.form
  obtain ⟨Bn, dn, rfl, -, -⟩ := kn.form
  obtain ⟨Bw, dw, rfl, -, -⟩ := kw.form
  have HN := Lib.hid fun W (hb : Below w.heap.size w W) => (hn.below hb).more hb.size
  have HW := Lib.hid fun W (hb : Below w.heap.size w W) => (hw.below hb).more hb.size
  have KN := Lib.hid fun W (hb : Below w.heap.size w W) => (kn.below hb).more hb.size
  have KW := Lib.hid fun W (hb : Below w.heap.size w W) => (kw.below hb).more hb.size
  clear h h2 hn hw kn kw
  have HI := Lib.hid (TwoInv.start w #[.slice An x.disk.notes.length cn, .int .i64 x.disk.safe, .slice Aw x.way.length cw] #[.slice Bn x.disk.notes.length dn, .int .i64 x.disk.safe, .slice Bw x.way.length dw] 57 57)
  go_enter Try.func27, Try.ntmps27
  go_wp2_with fail
  refine (eqLogDisk_same _ [.slice An x.disk.notes.length cn, .int .i64 x.disk.safe] [.slice Bn x.disk.notes.length dn, .int .i64 x.disk.safe] x.disk (disk_rel.2 ⟨_, rfl, HN.out _ HI.out.bel⟩) (disk_rel.2 ⟨_, rfl, KN.out _ HI.out.bel⟩)).mono ?_
  rintro e w1 ⟨rfl, hb⟩
  replace HI := Lib.hid (HI.out.call hb)
  clear hb
  have x0 := HI.out.one.of 0 _ rfl
  have x1 := HI.out.one.of 1 _ rfl
  have x2 := HI.out.one.of 2 _ rfl
  have y0 := HI.out.two.of 0 _ rfl
  have y1 := HI.out.two.of 1 _ rfl
  have y2 := HI.out.two.of 2 _ rfl
  go_wp2_with fail
  refine (eqFroTxS_same _ _ _ x.way (HW.out _ HI.out.bel) (KW.out _ HI.out.bel)).mono ?_
  rintro e w2 ⟨rfl, hb⟩
  replace HI := Lib.hid (HI.out.call hb)
  clear hb
  go_wp2
  go_ret
  exact ⟨rfl, HI.out.bel⟩
set_option maxRecDepth 100000 in
theorem toFroState_any (w : World) (cs : List Value) (x : Fro) (h : froSh.rel w w.heap.size cs x) (hl : froSh.wt x ≤ 1048576) :
    Calls Try.prog 25 #[.agg cs.toArray] w (CopiedAg froSh x w) := by
  have hwt := wtFroState x
  obtain ⟨un, uw, rfl, hn, hw⟩ := fro_rel.1 h
  obtain ⟨An, cn, rfl, -, -⟩ := hn.form
  obtain ⟨Aw, cw, rfl, -, -⟩ := hw.form
  have hm1 : diskSh.wt x.disk ≤ 1048576 := by omega
  have hm2 : ftxsSh.wt x.way ≤ 1048576 := by omega
  have HN := Lib.hid fun W (hb : Below w.heap.size w W) => (hn.below hb).more hb.size
  have HW := Lib.hid fun W (hb : Below w.heap.size w W) => (hw.below hb).more hb.size
  clear h hwt hn hw
  have HI := Lib.hid (ToInv.start w #[.slice An x.disk.notes.length cn, .int .i64 x.disk.safe, .slice Aw x.way.length cw] #[.slice none 0 0, .int .i64 0, .slice none 0 0] #[.slice none 0 0, .int .i64 0, .slice none 0 0] 49 57 57)
  go_enter Try.func25, Try.ntmps25
  go_wp2_with fail
  refine (toLogDisk_any _ [.slice An x.disk.notes.length cn, .int .i64 x.disk.safe] x.disk (disk_rel.2 ⟨_, rfl, HN.out _ HI.out.bel⟩) hm1).mono ?_
  rintro e w1 ⟨cs1, rfl, ho, hb⟩
  obtain ⟨v1, rfl, ho1⟩ := disk_own.1 ho
  obtain ⟨B1, e1, rfl, -, -⟩ := ho1.row.form
  have hz := HI.out.size
  have HJ := Lib.hid (HI.out.call hb)
  have HS1 : Hid (CopFrom noteSh 36 (w.heap.size + 1 + 1 + 1) (w1.heap.size) (.slice B1 x.disk.notes.length e1) x.disk.notes w1) := Lib.hid (Sh.Own.mono ho1 fun b hb => ⟨by have := hb.1; simp at this; omega, hb.2⟩)
  have hzw : w.heap.size + 1 + 1 + 1 ≤ w1.heap.size := by have := hb.size; simp at this; omega
  have x0 := HJ.out.box.of 0 _ rfl
  have x1 := HJ.out.box.of 1 _ rfl
  have x2 := HJ.out.box.of 2 _ rfl
  have o0 := HJ.out.out.of 0 _ rfl
  have o1 := HJ.out.out.of 1 _ rfl
  have o2 := HJ.out.out.of 2 _ rfl
  have of := HJ.out.out.2.1
  replace HJ := Lib.hid (HJ.out.putOut 0 (.slice B1 x.disk.notes.length e1))
  replace HS1 := Lib.hid (HS1.out.set (p := ⟨w.heap.size + 1 + 1, 0, none⟩) (by show w.heap.size + 1 + 1 < _; omega) (.slice B1 x.disk.notes.length e1))
  replace HJ := Lib.hid (HJ.out.putOut 1 (.int .i64 x.disk.safe))
  replace HS1 := Lib.hid (HS1.out.set (p := ⟨w.heap.size + 1 + 1, 1, none⟩) (by show w.heap.size + 1 + 1 < _; omega) (.int .i64 x.disk.safe))
  clear HI hb ho ho1 hz
  have HI := HJ
  clear HJ
  go_wp2_with fail
  refine (toFroTxS_sh _ _ x.way (HW.out _ HI.out.bel) hm2).mono ?_
  rintro e w2 ⟨v2, rfl, ho, hb⟩
  obtain ⟨B2, e2, rfl, -, -⟩ := ho.row.form
  have hz := HI.out.size
  have HJ := Lib.hid (HI.out.call hb)
  have HS2 : Hid (CopFrom ftxSh 115 (w1.heap.size) (w2.heap.size) (.slice B2 x.way.length e2) x.way w2) := Lib.hid (Sh.Own.mono ho fun b hb => ⟨by have := hb.1; simp at this; omega, hb.2⟩)
  replace HS1 := Lib.hid (HS1.out.call hb)
  have hzw2 : w1.heap.size ≤ w2.heap.size := by have := hb.size; simp at this; omega
  have x0 := HJ.out.box.of 0 _ rfl
  have x1 := HJ.out.box.of 1 _ rfl
  have x2 := HJ.out.box.of 2 _ rfl
  have o0 := HJ.out.out.of 0 _ rfl
  have o1 := HJ.out.out.of 1 _ rfl
  have o2 := HJ.out.out.of 2 _ rfl
  have of := HJ.out.out.2.1
  replace HJ := Lib.hid (HJ.out.putOut 2 (.slice B2 x.way.length e2))
  replace HS1 := Lib.hid (HS1.out.set (p := ⟨w.heap.size + 1 + 1, 2, none⟩) (by show w.heap.size + 1 + 1 < _; omega) (.slice B2 x.way.length e2))
  replace HS2 := Lib.hid (HS2.out.set (p := ⟨w.heap.size + 1 + 1, 2, none⟩) (by show w.heap.size + 1 + 1 < _; omega) (.slice B2 x.way.length e2))
  clear HI hb ho hz
  have HI := HJ
  clear HJ
  have r0 := HI.out.res.of 0 _ rfl
  have r1 := HI.out.res.of 1 _ rfl
  have r2 := HI.out.res.of 2 _ rfl
  have rf := HI.out.res.2.1
  go_wp2
  replace HI := Lib.hid (HI.out.putRes 0 (.slice B1 x.disk.notes.length e1))
  replace HS1 := Lib.hid (HS1.out.set (p := ⟨w.heap.size + 1, 0, none⟩) (by show w.heap.size + 1 < _; omega) (.slice B1 x.disk.notes.length e1))
  replace HS2 := Lib.hid (HS2.out.set (p := ⟨w.heap.size + 1, 0, none⟩) (by show w.heap.size + 1 < _; omega) (.slice B1 x.disk.notes.length e1))
  replace HI := Lib.hid (HI.out.putRes 1 (.int .i64 x.disk.safe))
  replace HS1 := Lib.hid (HS1.out.set (p := ⟨w.heap.size + 1, 1, none⟩) (by show w.heap.size + 1 < _; omega) (.int .i64 x.disk.safe))
  replace HS2 := Lib.hid (HS2.out.set (p := ⟨w.heap.size + 1, 1, none⟩) (by show w.heap.size + 1 < _; omega) (.int .i64 x.disk.safe))
  replace HI := Lib.hid (HI.out.putRes 2 (.slice B2 x.way.length e2))
  replace HS1 := Lib.hid (HS1.out.set (p := ⟨w.heap.size + 1, 2, none⟩) (by show w.heap.size + 1 < _; omega) (.slice B2 x.way.length e2))
  replace HS2 := Lib.hid (HS2.out.set (p := ⟨w.heap.size + 1, 2, none⟩) (by show w.heap.size + 1 < _; omega) (.slice B2 x.way.length e2))
  have q0 := HI.out.res.of 0 _ rfl
  have q1 := HI.out.res.of 1 _ rfl
  have q2 := HI.out.res.of 2 _ rfl
  refine bodyPost_ret (v := .agg #[.slice B1 x.disk.notes.length e1, .int .i64 x.disk.safe, .slice B2 x.way.length e2]) (by simp [results, Try.results25, go_sem, q0, q1, q2]) rfl ⟨[.slice B1 x.disk.notes.length e1, .int .i64 x.disk.safe, .slice B2 x.way.length e2], rfl, ?_, HI.out.bel⟩
  refine fro_own.2 ⟨_, _, _, _, rfl, HS1.out, HS2.out, ?_, ?_, ?_⟩
  · intro b hb; exact ⟨by have := hb.1; omega, by simp [World.setCell]; have := hb.2; omega⟩
  · intro b hb; exact ⟨by have := hb.1; omega, by simp [World.setCell]; have := hb.2; omega⟩
  · intro b hb hb'; have := hb.2; have := hb'.1; omega

end Go.Proofs.Ytecdibpiojgppaa

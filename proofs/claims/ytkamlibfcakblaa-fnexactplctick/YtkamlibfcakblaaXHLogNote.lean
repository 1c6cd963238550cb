/- The helpers of the exact laws over LogNote: a count, a copy, a comparison, marks. By shgen.py. -/
import Derived.Test.YtkamlibfcakblaaXMarkWt
import Derived.Test.YtkamlibfcakblaaXFrameRow
import Derived.Deep.RegionHeld3
namespace Go.Proofs.Ytkamlibfcakblaa
open Go.RowKit

theorem wtLogNote (x : Note) : (noteSh.wt x : Int) = (strsSh.wt x.locks : Int) + (wrsSh.wt x.writes : Int) := by
  show (((0 + (0 + (strsSh.wt x.locks + wrsSh.wt x.writes))) : Nat) : Int) = _
  omega
theorem szLogNote_any (w : World) (cs : List Value) (x : Note) (h : noteSh.rel w w.heap.size cs x) (left : Int) (h0 : 0 ≤ left) (h1 : left ≤ 1048576) :
    Calls Try.prog 126 #[.agg cs.toArray, .int .i64 left] w (Sized left (noteSh.wt x) w) := by
  obtain ⟨u2, u3, rfl, hu2, hu3⟩ := note_rel.1 h
  obtain ⟨A2, c2, rfl, hc2, hd2⟩ := hu2.form
  unfold maxLen at hc2
  have HU2 := Lib.hid fun W (hb : Below w.heap.size w W) => (hu2.below hb).more hb.size
  obtain ⟨A3, c3, rfl, hc3, hd3⟩ := hu3.form
  unfold maxLen at hc3
  have HU3 := Lib.hid fun W (hb : Below w.heap.size w W) => (hu3.below hb).more hb.size
  clear h hu2 hu3
  have HT := Lib.hid (wtLogNote x)
  have HB0 := Lib.hid (belowOne w (.cells #[.int .i64 x.kind, .int .i64 x.tx, .slice A2 x.locks.length c2, .slice A3 x.writes.length c3] 149))
  have HX0 := Lib.hid (Held.new w #[.int .i64 x.kind, .int .i64 x.tx, .slice A2 x.locks.length c2, .slice A3 x.writes.length c3] 149)
  go_enter Try.func126, Try.ntmps126
  by_cases hq0 : left < (strsSh.wt x.locks : Int)
  · have hl := less_no hq0
    go_wp2_with fail
    refine (szStringS_sh _ _ _ _ (HU2.out _ HB0.out) _ (by omega) (by omega)).mono ?_
    rintro e w1 ⟨rfl, hb⟩
    rw [hl]
    have HB1 := Lib.hid (belowNext HB0.out hb)
    have HX1 := Lib.hid (HX0.out.below hb HX0.out.1)
    clear hb
    clear hl HB0 HX0
    have x0 := HX1.out.of 0 _ rfl
    have x1 := HX1.out.of 1 _ rfl
    have x2 := HX1.out.of 2 _ rfl
    have x3 := HX1.out.of 3 _ rfl
    go_wp2
    go_ret
    exact ⟨ret_int (by rw [less_no (by rw [HT.out]; omega)]), HB1.out⟩
  · have hl := less_yes (show (strsSh.wt x.locks : Int) ≤ left by omega)
    have hq0' : (strsSh.wt x.locks : Int) ≤ left := by omega
    clear hq0
    go_wp2_with fail
    refine (szStringS_sh _ _ _ _ (HU2.out _ HB0.out) _ (by omega) (by omega)).mono ?_
    rintro e w1 ⟨rfl, hb⟩
    rw [hl]
    have HB1 := Lib.hid (belowNext HB0.out hb)
    have HX1 := Lib.hid (HX0.out.below hb HX0.out.1)
    clear hb
    clear hl HB0 HX0
    have x0 := HX1.out.of 0 _ rfl
    have x1 := HX1.out.of 1 _ rfl
    have x2 := HX1.out.of 2 _ rfl
    have x3 := HX1.out.of 3 _ rfl
    by_cases hq1 : left - (strsSh.wt x.locks : Int) < (wrsSh.wt x.writes : Int)
    · have hl := less_no hq1
      go_wp2_with fail
      refine (szStoWriteS_sh _ _ _ (HU3.out _ HB1.out) _ (by omega) (by omega)).mono ?_
      rintro e w2 ⟨rfl, hb⟩
      rw [hl]
      have HB2 := Lib.hid (belowNext HB1.out hb)
      have HX2 := Lib.hid (HX1.out.below hb HX1.out.1)
      clear hb
      clear hl HB1 HX1
      have x0 := HX2.out.of 0 _ rfl
      have x1 := HX2.out.of 1 _ rfl
      have x2 := HX2.out.of 2 _ rfl
      have x3 := HX2.out.of 3 _ rfl
      go_wp2
      go_ret
      exact ⟨ret_int (by rw [less_no (by rw [HT.out]; omega)]), HB2.out⟩
    · have hl := less_yes (show (wrsSh.wt x.writes : Int) ≤ left - (strsSh.wt x.locks : Int) by omega)
      have hq1' : (wrsSh.wt x.writes : Int) ≤ left - (strsSh.wt x.locks : Int) := by omega
      clear hq1
      go_wp2_with fail
      refine (szStoWriteS_sh _ _ _ (HU3.out _ HB1.out) _ (by omega) (by omega)).mono ?_
      rintro e w2 ⟨rfl, hb⟩
      rw [hl]
      have HB2 := Lib.hid (belowNext HB1.out hb)
      have HX2 := Lib.hid (HX1.out.below hb HX1.out.1)
      clear hb
      clear hl HB1 HX1
      have x0 := HX2.out.of 0 _ rfl
      have x1 := HX2.out.of 1 _ rfl
      have x2 := HX2.out.of 2 _ rfl
      have x3 := HX2.out.of 3 _ rfl
      go_wp2
      go_ret
      exact ⟨ret_int (by rw [less_yes (by rw [HT.out]; omega), HT.out] <;> omega), HB2.out⟩
set_option maxRecDepth 100000 in
theorem szLogNoteS_sh (w : World) (v : Value) (xs : List Note) (hv : noteSh.Row w w.heap.size v xs) (left : Int) (h0 : 0 ≤ left) (h1 : left ≤ 1048576) :
    Calls Try.prog 93 #[v, .int .i64 left] w (Sized left (notesSh.wt xs) w) := by
  obtain ⟨A, c, rfl, hc2, hc1⟩ := hv.form
  unfold maxLen at hc2
  have HW := Lib.hid (show notesSh.wt xs = xs.length + cntL noteSh.wt xs from wtL_eq _ _)
  by_cases h : left < (xs.length : Int)
  · have HL := Lib.hid (less_no (left := left) (n := (notesSh.wt xs : Int)) (by rw [HW.out]; omega))
    clear hv
    go_enter Try.func93, Try.ntmps93
    go_wp2
    go_ret
    exact ⟨ret_int HL.out.symm, Below.refl _ _⟩
  · have h2 : (xs.length : Int) ≤ left := by omega
    clear h
    go_enter Try.func93, Try.ntmps93
    go_wp2
    go_loopw [1, 5] (fun l i wr => ∃ (k : Nat) (r : Int), k ≤ xs.length ∧ i = .int .i64 k ∧ l = .int .i64 r ∧ 0 ≤ r ∧ r = left - xs.length - cntL noteSh.wt (xs.take k) ∧ Below w.heap.size w wr) (fun _ i _ => xs.length - (intOf i).toNat)
    case atStart => exact ⟨0, _, Nat.zero_le _, rfl, rfl, by omega, by simp [cntL], Below.refl _ _⟩
    case round =>
      obtain ⟨k, r, hk, rfl, rfl, hr0, hr, hb⟩ := hrel
      have HR := Lib.hid hr
      have hrl : r ≤ left := by omega
      have HB := Lib.hid hb
      clear hr hb
      by_cases hlt : k < xs.length
      · obtain ⟨b, off, c', x, cs, e1, hx, hB, hrel, hcell⟩ := (hv.below HB.out).at_ (k := k) hlt
        injection e1 with e1a e1b e1c
        subst e1a
        have HV := Lib.hid (noteSh.rmore hrel HB.out.size)
        obtain ⟨u2, u3, rfl, hu2, hu3⟩ := note_rel.1 hrel
        obtain ⟨A2, c2, rfl, -, -⟩ := hu2.form
        obtain ⟨A3, c3, rfl, -, -⟩ := hu3.form
        have d0 := hcell 0 _ rfl
        have d1 := hcell 1 _ rfl
        have d2 := hcell 2 _ rfl
        have d3 := hcell 3 _ rfl
        have hwd : noteSh.wd = 4 := rfl
        rw [hwd] at d0 d1 d2 d3
        simp only [Nat.add_zero] at d0
        have HC := Lib.hid (cntL_take (f := noteSh.wt) hx)
        have HT := Lib.hid (cntL_take_le noteSh.wt xs (k + 1))
        clear e1b e1c hv hx hcell hrel hwd hu2 hu3
        by_cases hneg : r < (noteSh.wt x : Int)
        · have HL := Lib.hid (less_no (left := left) (n := (notesSh.wt xs : Int)) (by rw [HW.out]; have := HR.out; have := HC.out; have := HT.out; omega))
          have hl := less_no hneg
          go_wp2_with fail
          refine (szLogNote_any _ _ x HV.out _ hr0 (by omega)).mono ?_
          rintro e w1 ⟨rfl, hb1⟩
          rw [hl]
          clear hl
          go_wp2
          go_ret
          exact ⟨ret_int HL.out.symm, belowNext HB.out hb1⟩
        · have hge : (noteSh.wt x : Int) ≤ r := by omega
          have hl := less_yes hge
          go_wp2_with fail
          refine (szLogNote_any _ _ x HV.out _ hr0 (by omega)).mono ?_
          rintro e w1 ⟨rfl, hb1⟩
          rw [hl]
          clear hl
          go_wp2
          go_roundw
          case rel => exact ⟨k + 1, _, by omega, by go_num, rfl, by omega, by rw [HR.out, HC.out]; omega, belowNext HB.out hb1⟩
          case measure => simp [intOf]; omega
      · have hks : k = xs.length := by omega
        have HL := Lib.hid (less_yes (left := left) (n := (notesSh.wt xs : Int)) (by have h1 := HR.out; rw [HW.out]; rw [hks, List.take_length] at h1; omega))
        have HE := Lib.hid (show r = left - (notesSh.wt xs : Int) by have h1 := HR.out; rw [HW.out]; rw [hks, List.take_length] at h1; omega)
        clear hks hv
        go_wp2
        go_ret
        exact ⟨ret_int (by rw [HL.out]; exact HE.out), HB.out⟩

set_option maxRecDepth 100000 in
theorem toLogNote_any (w : World) (cs : List Value) (x : Note) (h : noteSh.rel w w.heap.size cs x) (hl : noteSh.wt x ≤ 1048576) :
    Calls Try.prog 127 #[.agg cs.toArray] w (CopiedAg noteSh x w) := by
  have hwt := wtLogNote x
  obtain ⟨u2, u3, rfl, hu2, hu3⟩ := note_rel.1 h
  have hn2 : x.locks.length ≤ strsSh.wt x.locks := wtL_len _ _
  obtain ⟨A2, c2, rfl, hc2, hd2⟩ := hu2.form
  have HU2 := Lib.hid fun W (hb : Below w.heap.size w W) => (hu2.below hb).more hb.size
  have hm2 : strsSh.wt x.locks ≤ 1048576 := by omega
  have hp2 : x.locks.length ≤ 1048576 := by omega
  have hn3 : x.writes.length ≤ wrsSh.wt x.writes := wtL_len _ _
  obtain ⟨A3, c3, rfl, hc3, hd3⟩ := hu3.form
  have HU3 := Lib.hid fun W (hb : Below w.heap.size w W) => (hu3.below hb).more hb.size
  have hm3 : wrsSh.wt x.writes ≤ 1048576 := by omega
  have hp3 : x.writes.length ≤ 1048576 := by omega
  clear h hwt hu2 hu3
  have HI := Lib.hid (ToInv.start w #[.int .i64 x.kind, .int .i64 x.tx, .slice A2 x.locks.length c2, .slice A3 x.writes.length c3] #[.int .i64 0, .int .i64 0, .slice none 0 0, .slice none 0 0] #[.int .i64 x.kind, .int .i64 x.tx, .slice none 0 0, .slice none 0 0] 149 36 36)
  go_enter Try.func127, Try.ntmps127
  go_wp2_with fail
  refine (toStringS_sh _ _ x.locks (HU2.out _ HI.out.bel) hp2).mono ?_
  rintro e w1 ⟨v2, rfl, ho, hb⟩
  obtain ⟨B2, e2, rfl, -, -⟩ := ho.row.form
  have hz := HI.out.size
  have HJ := Lib.hid (HI.out.call hb)
  have HS2 : Hid (CopFrom strSh 9 (w.heap.size + 1 + 1 + 1) (w1.heap.size) (.slice B2 x.locks.length e2) x.locks w1) := Lib.hid (Sh.Own.mono ho fun b hb => ⟨by have := hb.1; simp at this; omega, hb.2⟩)
  have hzw : w.heap.size + 1 + 1 + 1 ≤ w1.heap.size := by have := hb.size; simp at this; omega
  have x0 := HJ.out.box.of 0 _ rfl
  have x1 := HJ.out.box.of 1 _ rfl
  have x2 := HJ.out.box.of 2 _ rfl
  have x3 := HJ.out.box.of 3 _ rfl
  have o0 := HJ.out.out.of 0 _ rfl
  have o1 := HJ.out.out.of 1 _ rfl
  have o2 := HJ.out.out.of 2 _ rfl
  have o3 := HJ.out.out.of 3 _ rfl
  have of := HJ.out.out.2.1
  replace HJ := Lib.hid (HJ.out.putOut 2 (.slice B2 x.locks.length e2))
  replace HS2 := Lib.hid (HS2.out.set (p := ⟨w.heap.size + 1 + 1, 2, none⟩) (by show w.heap.size + 1 + 1 < _; omega) (.slice B2 x.locks.length e2))
  clear HI hb ho hz
  have HI := HJ
  clear HJ
  go_wp2_with fail
  refine (toStoWriteS_sh _ _ x.writes (HU3.out _ HI.out.bel) hm3).mono ?_
  rintro e w2 ⟨v3, rfl, ho, hb⟩
  obtain ⟨B3, e3, rfl, -, -⟩ := ho.row.form
  have hz := HI.out.size
  have HJ := Lib.hid (HI.out.call hb)
  have HS3 : Hid (CopFrom wrSh 86 (w1.heap.size) (w2.heap.size) (.slice B3 x.writes.length e3) x.writes w2) := Lib.hid (Sh.Own.mono ho fun b hb => ⟨by have := hb.1; simp at this; omega, hb.2⟩)
  replace HS2 := Lib.hid (HS2.out.call hb)
  have hzw : w1.heap.size ≤ w2.heap.size := by have := hb.size; simp at this; omega
  have x0 := HJ.out.box.of 0 _ rfl
  have x1 := HJ.out.box.of 1 _ rfl
  have x2 := HJ.out.box.of 2 _ rfl
  have x3 := HJ.out.box.of 3 _ rfl
  have o0 := HJ.out.out.of 0 _ rfl
  have o1 := HJ.out.out.of 1 _ rfl
  have o2 := HJ.out.out.of 2 _ rfl
  have o3 := HJ.out.out.of 3 _ rfl
  have of := HJ.out.out.2.1
  replace HJ := Lib.hid (HJ.out.putOut 3 (.slice B3 x.writes.length e3))
  replace HS2 := Lib.hid (HS2.out.set (p := ⟨w.heap.size + 1 + 1, 3, none⟩) (by show w.heap.size + 1 + 1 < _; omega) (.slice B3 x.writes.length e3))
  replace HS3 := Lib.hid (HS3.out.set (p := ⟨w.heap.size + 1 + 1, 3, none⟩) (by show w.heap.size + 1 + 1 < _; omega) (.slice B3 x.writes.length e3))
  clear HI hb ho hz
  have HI := HJ
  clear HJ
  have r0 := HI.out.res.of 0 _ rfl
  have r1 := HI.out.res.of 1 _ rfl
  have r2 := HI.out.res.of 2 _ rfl
  have r3 := HI.out.res.of 3 _ rfl
  have rf := HI.out.res.2.1
  go_wp2
  replace HI := Lib.hid (HI.out.putRes 0 (.int .i64 x.kind))
  replace HS2 := Lib.hid (HS2.out.set (p := ⟨w.heap.size + 1, 0, none⟩) (by show w.heap.size + 1 < _; omega) (.int .i64 x.kind))
  replace HS3 := Lib.hid (HS3.out.set (p := ⟨w.heap.size + 1, 0, none⟩) (by show w.heap.size + 1 < _; omega) (.int .i64 x.kind))
  replace HI := Lib.hid (HI.out.putRes 1 (.int .i64 x.tx))
  replace HS2 := Lib.hid (HS2.out.set (p := ⟨w.heap.size + 1, 1, none⟩) (by show w.heap.size + 1 < _; omega) (.int .i64 x.tx))
  replace HS3 := Lib.hid (HS3.out.set (p := ⟨w.heap.size + 1, 1, none⟩) (by show w.heap.size + 1 < _; omega) (.int .i64 x.tx))
  replace HI := Lib.hid (HI.out.putRes 2 (.slice B2 x.locks.length e2))
  replace HS2 := Lib.hid (HS2.out.set (p := ⟨w.heap.size + 1, 2, none⟩) (by show w.heap.size + 1 < _; omega) (.slice B2 x.locks.length e2))
  replace HS3 := Lib.hid (HS3.out.set (p := ⟨w.heap.size + 1, 2, none⟩) (by show w.heap.size + 1 < _; omega) (.slice B2 x.locks.length e2))
  replace HI := Lib.hid (HI.out.putRes 3 (.slice B3 x.writes.length e3))
  replace HS2 := Lib.hid (HS2.out.set (p := ⟨w.heap.size + 1, 3, none⟩) (by show w.heap.size + 1 < _; omega) (.slice B3 x.writes.length e3))
  replace HS3 := Lib.hid (HS3.out.set (p := ⟨w.heap.size + 1, 3, none⟩) (by show w.heap.size + 1 < _; omega) (.slice B3 x.writes.length e3))
  have q0 := HI.out.res.of 0 _ rfl
  have q1 := HI.out.res.of 1 _ rfl
  have q2 := HI.out.res.of 2 _ rfl
  have q3 := HI.out.res.of 3 _ rfl
  refine bodyPost_ret (v := .agg #[.int .i64 x.kind, .int .i64 x.tx, .slice B2 x.locks.length e2, .slice B3 x.writes.length e3]) (by simp [results, Try.results127, go_sem, q0, q1, q2, q3]) rfl ⟨[.int .i64 x.kind, .int .i64 x.tx, .slice B2 x.locks.length e2, .slice B3 x.writes.length e3], rfl, ?_, HI.out.bel⟩
  refine note_own.2 ⟨_, _, _, _, rfl, HS2.out, HS3.out, ?_, ?_, ?_⟩
  · intro b hb; exact ⟨by have := hb.1; omega, by simp [World.setCell]; have := hb.2; omega⟩
  · intro b hb; exact ⟨by have := hb.1; omega, by simp [World.setCell]; have := hb.2; omega⟩
  · intro b hb hb'; have := hb.2; have := hb'.1; omega

theorem infoLogNoteH : (Try.prog.info? 36).map (fun i => (i.zero, i.size, i.bytes)) = some (some (.agg #[.int .i64 0, .int .i64 0, .slice none 0 0, .slice none 0 0]), 4, 64) := by kernel_rfl
theorem madeLogNote (n : Nat) (hbytes : 64 * n ≤ 281474976710656) (w : World) :
    (Instr.makeSlice 23 (.int .i64 (n : Int)) (.int .i64 (n : Int))).run Try.prog w = .ok (.slice (some ⟨w.heap.size, 0, none⟩) n n) (w.alloc (.cells (madeCells #[.int .i64 0, .int .i64 0, .slice none 0 0, .slice none 0 0] (n * 4)) 36)) := by
  obtain ⟨i, hi, hzz⟩ := Option.map_eq_some_iff.1 infoLogNoteH
  simp only [Prod.mk.injEq] at hzz
  obtain ⟨hz, hs, hb⟩ := hzz
  have hb' : (i.bytes : Int) * (n : Int) ≤ 281474976710656 := by
    have h : ((i.bytes * n : Nat) : Int) ≤ 281474976710656 := by rw [hb]; omega
    rwa [Int.natCast_mul] at h
  have hr := run_make (P := Try.prog) w 23 36 i _ Try.underlying23 hi hz .i64 .i64 n n (by omega) (Int.le_refl _) hb' (by omega)
  simp only [Int.toNat_natCast, hs] at hr
  exact hr
set_option maxRecDepth 100000 in
theorem toLogNoteS_sh (w : World) (v : Value) (xs : List Note) (hv : noteSh.Row w w.heap.size v xs) (hl : notesSh.wt xs ≤ 1048576) :
    Calls Try.prog 94 #[v] w (CopiedSl noteSh 36 xs w) := by
  obtain ⟨A, c, rfl, hc2, hc1⟩ := hv.form
  unfold maxLen at hc2
  have hlen : xs.length ≤ 1048576 := Nat.le_trans (wtL_len noteSh.wt xs) hl
  have hmk := fun W => madeLogNote xs.length (by omega) W
  have HM : Hid (noteSh.Own 36 (w.alloc (.cells (madeCells #[.int .i64 0, .int .i64 0, .slice none 0 0, .slice none 0 0] (xs.length * 4)) 36)) (fun b => b = w.heap.size) (.slice (some ⟨w.heap.size, 0, none⟩) xs.length xs.length) (xs.take 0 ++ List.replicate (xs.length - 0) noteSh.z)) :=
    Lib.hid (Sh.Own.made noteSh 36 w xs.length (by unfold maxLen; omega))
  have HW := Lib.hid (belowOne w (.cells (madeCells #[.int .i64 0, .int .i64 0, .slice none 0 0, .slice none 0 0] (xs.length * 4)) 36))
  go_enter Try.func94, Try.ntmps94
  go_wp2
  clear hmk
  go_loopw [4] (fun i wr => ∃ k : Nat, k ≤ xs.length ∧ i = .int .i64 k ∧ noteSh.Own 36 wr (fun b => w.heap.size ≤ b ∧ b < wr.heap.size) (.slice (some ⟨w.heap.size, 0, none⟩) xs.length xs.length) (xs.take k ++ List.replicate (xs.length - k) noteSh.z) ∧ Below w.heap.size w wr) (fun i _ => xs.length - (intOf i).toNat)
  case atStart => exact ⟨0, Nat.zero_le _, rfl, HM.out.mono fun b hb => ⟨by omega, by simp; omega⟩, HW.out⟩
  case round =>
    clear HM HW
    obtain ⟨k, hk, rfl, ho, hb⟩ := hrel
    by_cases hlt : k < xs.length
    · obtain ⟨b, off, c', x, cs, e1, hx, hB, hrel, hcell⟩ := (hv.below hb).at_ (k := k) hlt
      injection e1 with e1a e1b e1c
      subst e1a
      have HV := Lib.hid (noteSh.rmore hrel hb.size)
      have hxl : noteSh.wt x ≤ 1048576 := by have := wtL_at_le (f := noteSh.wt) hx; have h2 : wtL noteSh.wt xs ≤ 1048576 := hl; omega
      obtain ⟨u2, u3, rfl, hu2, hu3⟩ := note_rel.1 hrel
      obtain ⟨A2, c2, rfl, -, -⟩ := hu2.form
      obtain ⟨A3, c3, rfl, -, -⟩ := hu3.form
      have d0 := hcell 0 _ rfl
      have d1 := hcell 1 _ rfl
      have d2 := hcell 2 _ rfl
      have d3 := hcell 3 _ rfl
      have hwd : noteSh.wd = 4 := rfl
      rw [hwd] at d0 d1 d2 d3
      simp only [Nat.add_zero] at d0
      clear e1b e1c hv hcell hrel hu2 hu3
      have HO := Lib.hid ho
      have HB := Lib.hid hb
      have HX := Lib.hid hx
      clear ho hb hx
      go_wp2_with fail
      refine (toLogNote_any _ _ x HV.out hxl).mono ?_
      rintro e w1 ⟨cs, rfl, hc, hb1⟩
      obtain ⟨g, cap, y, ds, Sj, e2, -, hSg, -, hds, -, hcell, hfr, -, -⟩ := (HO.out.below hb1).at_ (j := k) (by simp; omega)
      have HLn : Hid (xs.length = (xs.take k ++ List.replicate (xs.length - k) noteSh.z).length) := Lib.hid (by simp; omega)
      injection e2 with e2a e2b e2c
      injection e2a with e2a
      injection e2a with e2a
      subst e2a
      obtain ⟨y2, y3, rfl, -, -⟩ := note_rel.1 (noteSh.orel hds)
      have r0 := hcell 0 _ rfl
      have r1 := hcell 1 _ rfl
      have r2 := hcell 2 _ rfl
      have r3 := hcell 3 _ rfl
      rw [hwd] at r0 r1 r2 r3
      simp only [Nat.add_zero] at r0
      have hput := Sh.Own.put (HO.out) (j := k) (g := w.heap.size) (cap := xs.length) (by rw [← HLn.out]; exact hlt) (by rw [← HLn.out]) (w1 := w1) (fun b _ hlt => hb1.block b hlt) hc (fun b hb hb2 => by have := hb.1; have := hb2.2; omega)
      rw [repl_take HX.out] at hput
      obtain ⟨v2, v3, rfl, hv2, hv3⟩ := note_rel.1 (noteSh.orel hc)
      obtain ⟨B2, e2, rfl, -, -⟩ := hv2.form
      obtain ⟨B3, e3, rfl, -, -⟩ := hv3.form
      have HP := Lib.hid hput
      have HS := Lib.hid (Nat.le_trans HB.out.size hb1.size)
      have HN := Lib.hid (belowNext HB.out hb1)
      have hsz := hb1.size
      clear hput hcell hds hc hb1 hSg e2b e2c HV HLn hwd hv2 hv3
      go_wp2
      go_roundw
      case rel =>
        refine ⟨k + 1, by omega, by go_num, Sh.Own.mono HP.out (fun b hb => ?_), ((((HN.out.setCell (Nat.le_refl _) _).setCell (Nat.le_refl _) _).setCell (Nat.le_refl _) _).setCell (Nat.le_refl _) _)⟩
        have h0 := HS.out
        simp only [World.setCell, Array.size_modify]
        rcases hb with hb | hb
        · have h1 := hb.1; have h2 := hb.2; exact ⟨h1, by omega⟩
        · have h1 := hb.1; have h2 := hb.2; exact ⟨by have := HB.out.size; omega, h2⟩
      case measure => simp [intOf]; omega
    · have hks : k = xs.length := by omega
      have HO : Hid (noteSh.Own 36 wr (fun b => w.heap.size ≤ b ∧ b < wr.heap.size) (.slice (some ⟨w.heap.size, 0, none⟩) xs.length xs.length) xs) := by
        subst hks; exact Lib.hid (by simpa using ho)
      clear hks hv ho
      go_wp2
      go_ret
      exact ⟨_, rfl, HO.out, hb⟩

set_option maxRecDepth 100000 in
theorem eqLogNote_same (w : World) (cs ds : List Value) (x : Note) (h : noteSh.rel w w.heap.size cs x) (h2 : noteSh.rel w w.heap.size ds x) :
    Calls Try.prog 128 #[.agg cs.toArray, .agg ds.toArray] w (Alike w) := by
  obtain ⟨u2, u3, rfl, hu2, hu3⟩ := note_rel.1 h
  obtain ⟨v2, v3, rfl, hv2, hv3⟩ := note_rel.1 h2
  obtain ⟨A2, c2, rfl, hc2, hd2⟩ := hu2.form
  obtain ⟨B2, e2, rfl, hc2', hd2'⟩ := hv2.form
  have HU2 := Lib.hid fun W (hb : Below w.heap.size w W) => (hu2.below hb).more hb.size
  have HV2 := Lib.hid fun W (hb : Below w.heap.size w W) => (hv2.below hb).more hb.size
  obtain ⟨A3, c3, rfl, hc3, hd3⟩ := hu3.form
  obtain ⟨B3, e3, rfl, hc3', hd3'⟩ := hv3.form
  have HU3 := Lib.hid fun W (hb : Below w.heap.size w W) => (hu3.below hb).more hb.size
  have HV3 := Lib.hid fun W (hb : Below w.heap.size w W) => (hv3.below hb).more hb.size
  clear h h2 hu2 hv2 hu3 hv3
  have HI := Lib.hid (TwoInv.start w #[.int .i64 x.kind, .int .i64 x.tx, .slice A2 x.locks.length c2, .slice A3 x.writes.length c3] #[.int .i64 x.kind, .int .i64 x.tx, .slice B2 x.locks.length e2, .slice B3 x.writes.length e3] 36 36)
  go_enter Try.func128, Try.ntmps128
  go_wp2_with fail
  refine (eqStringS_same _ _ _ _ x.locks (HU2.out _ HI.out.bel) (HV2.out _ HI.out.bel)).mono ?_
  rintro e w1 ⟨rfl, hb⟩
  replace HI := Lib.hid (HI.out.call hb)
  clear hb
  have x0_0 := HI.out.one.of 0 _ rfl
  have x0_1 := HI.out.one.of 1 _ rfl
  have x0_2 := HI.out.one.of 2 _ rfl
  have x0_3 := HI.out.one.of 3 _ rfl
  have y0_0 := HI.out.two.of 0 _ rfl
  have y0_1 := HI.out.two.of 1 _ rfl
  have y0_2 := HI.out.two.of 2 _ rfl
  have y0_3 := HI.out.two.of 3 _ rfl
  go_wp2_with fail
  refine (eqStoWriteS_same _ _ _ x.writes (HU3.out _ HI.out.bel) (HV3.out _ HI.out.bel)).mono ?_
  rintro e w2 ⟨rfl, hb⟩
  replace HI := Lib.hid (HI.out.call hb)
  clear hb
  have x1_0 := HI.out.one.of 0 _ rfl
  have x1_1 := HI.out.one.of 1 _ rfl
  have x1_2 := HI.out.one.of 2 _ rfl
  have x1_3 := HI.out.one.of 3 _ rfl
  have y1_0 := HI.out.two.of 0 _ rfl
  have y1_1 := HI.out.two.of 1 _ rfl
  have y1_2 := HI.out.two.of 2 _ rfl
  have y1_3 := HI.out.two.of 3 _ rfl
  go_wp2
  go_ret
  exact ⟨rfl, HI.out.bel⟩

set_option maxRecDepth 100000 in
theorem eqLogNoteS_same (w : World) (v u : Value) (xs : List Note) (hv : noteSh.Row w w.heap.size v xs) (hu : noteSh.Row w w.heap.size u xs) :
    Calls Try.prog 95 #[v, u] w (Alike w) := by
  obtain ⟨A, c, rfl, hc2, hc1⟩ := hv.form
  obtain ⟨A', c', rfl, hc2', hc1'⟩ := hu.form
  unfold maxLen at hc2 hc2'
  go_enter Try.func95, Try.ntmps95
  go_wp2
  go_loopw [5] (fun i wr => ∃ k : Nat, k ≤ xs.length ∧ i = .int .i64 k ∧ Below w.heap.size w wr) (fun i _ => xs.length - (intOf i).toNat)
  case atStart => exact ⟨0, Nat.zero_le _, rfl, Below.refl _ _⟩
  case round =>
    obtain ⟨k, hk, rfl, hb⟩ := hrel
    by_cases hlt : k < xs.length
    · obtain ⟨b, off, d, x, cs, e1, hx, hB, hr, hcell⟩ := hv.at_ (k := k) hlt
      obtain ⟨b2, off2, d2, x2, cs2, e2, hx2, hB2, hr2, hcell2⟩ := hu.at_ (k := k) hlt
      rw [hx] at hx2
      injection hx2 with hx2
      subst hx2
      injection e1 with e1a e1b e1c
      injection e2 with e2a e2b e2c
      subst e1a e2a
      have HR := Lib.hid fun (y : World) (hy : Below w.heap.size w y) => noteSh.rmore (noteSh.rbelow hr hy) hy.size
      have HR2 := Lib.hid fun (y : World) (hy : Below w.heap.size w y) => noteSh.rmore (noteSh.rbelow hr2 hy) hy.size
      obtain ⟨u2, u3, rfl, hu2, hu3⟩ := note_rel.1 hr
      obtain ⟨v2, v3, rfl, hv2, hv3⟩ := note_rel.1 hr2
      obtain ⟨A2, c2, rfl, -, -⟩ := hu2.form
      obtain ⟨B2, e2, rfl, -, -⟩ := hv2.form
      obtain ⟨A3, c3, rfl, -, -⟩ := hu3.form
      obtain ⟨B3, e3, rfl, -, -⟩ := hv3.form
      have p0 := hcell 0 _ rfl
      have p1 := hcell 1 _ rfl
      have p2 := hcell 2 _ rfl
      have p3 := hcell 3 _ rfl
      have q0 := hcell2 0 _ rfl
      have q1 := hcell2 1 _ rfl
      have q2 := hcell2 2 _ rfl
      have q3 := hcell2 3 _ rfl
      have hwd : noteSh.wd = 4 := rfl
      rw [hwd] at p0 q0 p1 q1 p2 q2 p3 q3
      simp only [Nat.add_zero] at p0 q0
      have HS := Lib.hid fun (y : World) (hy : Below w.heap.size w y) => And.intro ((hy.cell (p := ⟨b, off + k * 4, none⟩) hB).trans p0) (And.intro ((hy.cell (p := ⟨b, off + k * 4 + 1, none⟩) hB).trans p1) (And.intro ((hy.cell (p := ⟨b, off + k * 4 + 2, none⟩) hB).trans p2) (And.intro ((hy.cell (p := ⟨b, off + k * 4 + 3, none⟩) hB).trans p3) (And.intro ((hy.cell (p := ⟨b2, off2 + k * 4, none⟩) hB2).trans q0) (And.intro ((hy.cell (p := ⟨b2, off2 + k * 4 + 1, none⟩) hB2).trans q1) (And.intro ((hy.cell (p := ⟨b2, off2 + k * 4 + 2, none⟩) hB2).trans q2) ((hy.cell (p := ⟨b2, off2 + k * 4 + 3, none⟩) hB2).trans q3)))))))
      obtain ⟨d0', d1', d2', d3', d4', d5', d6', d7'⟩ := HS.out wr hb
      have hb0 := hb.drew
      have f3 : (0 : Int) ≤ (k : Int) := by omega
      have f4 : (k : Int) < (xs.length : Int) := by omega
      clear e1b e1c e2b e2c hv hu hx hr hr2 hcell hcell2 hwd p0 q0 p1 q1 p2 q2 p3 q3 hu2 hv2 hu3 hv3
      go_wp2
      go_region_held3 (fun w' => w'.cell? ⟨b, off + k * 4, none⟩ = some (.int .i64 x.kind) ∧ w'.cell? ⟨b, off + k * 4 + 1, none⟩ = some (.int .i64 x.tx) ∧ w'.cell? ⟨b, off + k * 4 + 2, none⟩ = some (.slice A2 x.locks.length c2) ∧ w'.cell? ⟨b, off + k * 4 + 3, none⟩ = some (.slice A3 x.writes.length c3) ∧ w'.cell? ⟨b2, off2 + k * 4, none⟩ = some (.int .i64 x.kind) ∧ w'.cell? ⟨b2, off2 + k * 4 + 1, none⟩ = some (.int .i64 x.tx) ∧ w'.cell? ⟨b2, off2 + k * 4 + 2, none⟩ = some (.slice B2 x.locks.length e2) ∧ w'.cell? ⟨b2, off2 + k * 4 + 3, none⟩ = some (.slice B3 x.writes.length e3))
        (first | exact HS.out _ hb0 | exact HS.out _ (by assumption))
        (first | (go_at_call 128; refine (eqLogNote_same _ _ _ x (HR.out _ hb0) (HR2.out _ hb0)).mono ?_; rintro e w' ⟨rfl, hb'⟩; have hq := belowNext hb0 hb'; clear hb'))
      go_wp2
      go_roundw
      case rel => exact ⟨k + 1, by omega, by go_num, by assumption⟩
      case measure => simp [intOf]; omega
    · clear hv hu
      go_wp2
      go_ret
      exact ⟨rfl, hb⟩

end Go.Proofs.Ytkamlibfcakblaa

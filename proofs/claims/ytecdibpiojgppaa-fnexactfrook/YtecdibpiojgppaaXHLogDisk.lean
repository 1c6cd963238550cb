/- The helpers of the exact laws over LogDisk: a count, a copy, a comparison, marks. By shgen.py. -/
import Derived.Test.YtecdibpiojgppaaXHLogNote
import Derived.Test.YtecdibpiojgppaaXDisksSh
import Derived.Deep.RegionHeld3
namespace Go.Proofs.Ytecdibpiojgppaa
open Go.RowKit

theorem wtLogDisk (x : Disk) : (diskSh.wt x : Int) = (notesSh.wt x.notes : Int) := by
  show (((notesSh.wt x.notes + 0) : Nat) : Int) = _
  omega
theorem szLogDisk_any (w : World) (cs : List Value) (x : Disk) (h : diskSh.rel w w.heap.size cs x) (left : Int) (h0 : 0 ≤ left) (h1 : left ≤ 1048576) :
    Calls Try.prog 28 #[.agg cs.toArray, .int .i64 left] w (Sized left (diskSh.wt x) w) := by
  obtain ⟨u0, rfl, hu0⟩ := disk_rel.1 h
  obtain ⟨A0, c0, rfl, hc0, hd0⟩ := hu0.form
  unfold maxLen at hc0
  have HU0 := Lib.hid fun W (hb : Below w.heap.size w W) => (hu0.below hb).more hb.size
  clear h hu0
  have HT := Lib.hid (wtLogDisk x)
  have HB0 := Lib.hid (belowOne w (.cells #[.slice A0 x.notes.length c0, .int .i64 x.safe] 46))
  have HX0 := Lib.hid (Held.new w #[.slice A0 x.notes.length c0, .int .i64 x.safe] 46)
  go_enter Try.func28, Try.ntmps28
  by_cases hq0 : left < (notesSh.wt x.notes : Int)
  · have hl := less_no hq0
    go_wp2_with fail
    refine (szLogNoteS_sh _ _ _ (HU0.out _ HB0.out) _ (by omega) (by omega)).mono ?_
    rintro e w1 ⟨rfl, hb⟩
    rw [hl]
    have HB1 := Lib.hid (belowNext HB0.out hb)
    have HX1 := Lib.hid (HX0.out.below hb HX0.out.1)
    clear hb
    clear hl HB0 HX0
    have x0 := HX1.out.of 0 _ rfl
    have x1 := HX1.out.of 1 _ rfl
    go_wp2
    go_ret
    exact ⟨ret_int (by rw [less_no (by rw [HT.out]; omega)]), HB1.out⟩
  · have hl := less_yes (show (notesSh.wt x.notes : Int) ≤ left by omega)
    have hq0' : (notesSh.wt x.notes : Int) ≤ left := by omega
    clear hq0
    go_wp2_with fail
    refine (szLogNoteS_sh _ _ _ (HU0.out _ HB0.out) _ (by omega) (by omega)).mono ?_
    rintro e w1 ⟨rfl, hb⟩
    rw [hl]
    have HB1 := Lib.hid (belowNext HB0.out hb)
    have HX1 := Lib.hid (HX0.out.below hb HX0.out.1)
    clear hb
    clear hl HB0 HX0
    have x0 := HX1.out.of 0 _ rfl
    have x1 := HX1.out.of 1 _ rfl
    go_wp2
    go_ret
    exact ⟨ret_int (by rw [less_yes (by rw [HT.out]; omega), HT.out] <;> omega), HB1.out⟩
set_option maxRecDepth 100000 in
theorem toLogDisk_any (w : World) (cs : List Value) (x : Disk) (h : diskSh.rel w w.heap.size cs x) (hl : diskSh.wt x ≤ 1048576) :
    Calls Try.prog 31 #[.agg cs.toArray] w (CopiedAg diskSh x w) := by
  have hwt := wtLogDisk x
  obtain ⟨u0, rfl, hu0⟩ := disk_rel.1 h
  have hn0 : x.notes.length ≤ notesSh.wt x.notes := wtL_len _ _
  obtain ⟨A0, c0, rfl, hc0, hd0⟩ := hu0.form
  have HU0 := Lib.hid fun W (hb : Below w.heap.size w W) => (hu0.below hb).more hb.size
  have hm0 : notesSh.wt x.notes ≤ 1048576 := by omega
  have hp0 : x.notes.length ≤ 1048576 := by omega
  clear h hwt hu0
  have HI := Lib.hid (ToInv.start w #[.slice A0 x.notes.length c0, .int .i64 x.safe] #[.slice none 0 0, .int .i64 0] #[.slice none 0 0, .int .i64 0] 46 54 54)
  go_enter Try.func31, Try.ntmps31
  go_wp2_with fail
  refine (toLogNoteS_sh _ _ x.notes (HU0.out _ HI.out.bel) hm0).mono ?_
  rintro e w1 ⟨v0, rfl, ho, hb⟩
  obtain ⟨B0, e0, rfl, -, -⟩ := ho.row.form
  have hz := HI.out.size
  have HJ := Lib.hid (HI.out.call hb)
  have HS0 : Hid (CopFrom noteSh 36 (w.heap.size + 1 + 1 + 1) (w1.heap.size) (.slice B0 x.notes.length e0) x.notes w1) := Lib.hid (Sh.Own.mono ho fun b hb => ⟨by have := hb.1; simp at this; omega, hb.2⟩)
  have hzw : w.heap.size + 1 + 1 + 1 ≤ w1.heap.size := by have := hb.size; simp at this; omega
  have x0 := HJ.out.box.of 0 _ rfl
  have x1 := HJ.out.box.of 1 _ rfl
  have o0 := HJ.out.out.of 0 _ rfl
  have o1 := HJ.out.out.of 1 _ rfl
  have of := HJ.out.out.2.1
  replace HJ := Lib.hid (HJ.out.putOut 0 (.slice B0 x.notes.length e0))
  replace HS0 := Lib.hid (HS0.out.set (p := ⟨w.heap.size + 1 + 1, 0, none⟩) (by show w.heap.size + 1 + 1 < _; omega) (.slice B0 x.notes.length e0))
  replace HJ := Lib.hid (HJ.out.putOut 1 (.int .i64 x.safe))
  replace HS0 := Lib.hid (HS0.out.set (p := ⟨w.heap.size + 1 + 1, 1, none⟩) (by show w.heap.size + 1 + 1 < _; omega) (.int .i64 x.safe))
  clear HI hb ho hz
  have HI := HJ
  clear HJ
  have r0 := HI.out.res.of 0 _ rfl
  have r1 := HI.out.res.of 1 _ rfl
  have rf := HI.out.res.2.1
  go_wp2
  replace HI := Lib.hid (HI.out.putRes 0 (.slice B0 x.notes.length e0))
  replace HS0 := Lib.hid (HS0.out.set (p := ⟨w.heap.size + 1, 0, none⟩) (by show w.heap.size + 1 < _; omega) (.slice B0 x.notes.length e0))
  replace HI := Lib.hid (HI.out.putRes 1 (.int .i64 x.safe))
  replace HS0 := Lib.hid (HS0.out.set (p := ⟨w.heap.size + 1, 1, none⟩) (by show w.heap.size + 1 < _; omega) (.int .i64 x.safe))
  have q0 := HI.out.res.of 0 _ rfl
  have q1 := HI.out.res.of 1 _ rfl
  refine bodyPost_ret (v := .agg #[.slice B0 x.notes.length e0, .int .i64 x.safe]) (by simp [results, Try.results31, go_sem, q0, q1]) rfl ⟨[.slice B0 x.notes.length e0, .int .i64 x.safe], rfl, ?_, HI.out.bel⟩
  exact disk_own.2 ⟨_, rfl, Sh.Own.mono HS0.out fun b hb => ⟨by have := hb.1; omega, by simp [World.setCell]; exact hb.2⟩⟩

theorem infoLogDiskH : (Try.prog.info? 54).map (fun i => (i.zero, i.size, i.bytes)) = some (some (.agg #[.slice none 0 0, .int .i64 0]), 2, 32) := by kernel_rfl
theorem madeLogDisk (n : Nat) (hbytes : 32 * n ≤ 281474976710656) (w : World) :
    (Instr.makeSlice 75 (.int .i64 (n : Int)) (.int .i64 (n : Int))).run Try.prog w = .ok (.slice (some ⟨w.heap.size, 0, none⟩) n n) (w.alloc (.cells (madeCells #[.slice none 0 0, .int .i64 0] (n * 2)) 54)) := by
  obtain ⟨i, hi, hzz⟩ := Option.map_eq_some_iff.1 infoLogDiskH
  simp only [Prod.mk.injEq] at hzz
  obtain ⟨hz, hs, hb⟩ := hzz
  have hb' : (i.bytes : Int) * (n : Int) ≤ 281474976710656 := by
    have h : ((i.bytes * n : Nat) : Int) ≤ 281474976710656 := by rw [hb]; omega
    rwa [Int.natCast_mul] at h
  have hr := run_make (P := Try.prog) w 75 54 i _ Try.underlying75 hi hz .i64 .i64 n n (by omega) (Int.le_refl _) hb' (by omega)
  simp only [Int.toNat_natCast, hs] at hr
  exact hr
set_option maxRecDepth 100000 in
theorem eqLogDisk_same (w : World) (cs ds : List Value) (x : Disk) (h : diskSh.rel w w.heap.size cs x) (h2 : diskSh.rel w w.heap.size ds x) :
    Calls Try.prog 34 #[.agg cs.toArray, .agg ds.toArray] w (Alike w) := by
  obtain ⟨u0, rfl, hu0⟩ := disk_rel.1 h
  obtain ⟨v0, rfl, hv0⟩ := disk_rel.1 h2
  obtain ⟨A0, c0, rfl, hc0, hd0⟩ := hu0.form
  obtain ⟨B0, e0, rfl, hc0', hd0'⟩ := hv0.form
  have HU0 := Lib.hid fun W (hb : Below w.heap.size w W) => (hu0.below hb).more hb.size
  have HV0 := Lib.hid fun W (hb : Below w.heap.size w W) => (hv0.below hb).more hb.size
  clear h h2 hu0 hv0
  have HI := Lib.hid (TwoInv.start w #[.slice A0 x.notes.length c0, .int .i64 x.safe] #[.slice B0 x.notes.length e0, .int .i64 x.safe] 54 54)
  go_enter Try.func34, Try.ntmps34
  go_wp2_with fail
  refine (eqLogNoteS_same _ _ _ x.notes (HU0.out _ HI.out.bel) (HV0.out _ HI.out.bel)).mono ?_
  rintro e w1 ⟨rfl, hb⟩
  replace HI := Lib.hid (HI.out.call hb)
  clear hb
  have x0_0 := HI.out.one.of 0 _ rfl
  have x0_1 := HI.out.one.of 1 _ rfl
  have y0_0 := HI.out.two.of 0 _ rfl
  have y0_1 := HI.out.two.of 1 _ rfl
  go_wp2
  go_ret
  exact ⟨rfl, HI.out.bel⟩

set_option maxRecDepth 100000 in
theorem eqLogDiskS_same (w : World) (v u : Value) (xs : List Disk) (hv : diskSh.Row w w.heap.size v xs) (hu : diskSh.Row w w.heap.size u xs) :
    Calls Try.prog 104 #[v, u] w (Alike w) := by
  obtain ⟨A, c, rfl, hc2, hc1⟩ := hv.form
  obtain ⟨A', c', rfl, hc2', hc1'⟩ := hu.form
  unfold maxLen at hc2 hc2'
  go_enter Try.func104, Try.ntmps104
  go_wp2
  go_loopw [5] (fun i wr => ∃ k : Nat, k ≤ xs.length ∧ i = .int .i64 k ∧ Below w.heap.size w wr) (fun i _ => xs.length - (intOf i).toNat)
  case atStart => exact ⟨0, Nat.zero_le _, rfl, Below.refl _ _⟩
  case round =>
    obtain ⟨k, hk, rfl, hb⟩ := hrel
    by_cases hlt : k < xs.length
    · obtain ⟨b, off, d, x, cs, e1, hx, hB, hr, hcell⟩ := hv.at_ (k := k) hlt
      obtain ⟨b2, off2, d2, x2, cs2, e2, hx2, hB2, hr2, hcell2⟩ := hu.at_ (k := k) hlt
      rw [hx] at hx2
      injection hx2 with hx2
      subst hx2
      injection e1 with e1a e1b e1c
      injection e2 with e2a e2b e2c
      subst e1a e2a
      have HR := Lib.hid fun (y : World) (hy : Below w.heap.size w y) => diskSh.rmore (diskSh.rbelow hr hy) hy.size
      have HR2 := Lib.hid fun (y : World) (hy : Below w.heap.size w y) => diskSh.rmore (diskSh.rbelow hr2 hy) hy.size
      obtain ⟨u0, rfl, hu0⟩ := disk_rel.1 hr
      obtain ⟨v0, rfl, hv0⟩ := disk_rel.1 hr2
      obtain ⟨A0, c0, rfl, -, -⟩ := hu0.form
      obtain ⟨B0, e0, rfl, -, -⟩ := hv0.form
      have p0 := hcell 0 _ rfl
      have p1 := hcell 1 _ rfl
      have q0 := hcell2 0 _ rfl
      have q1 := hcell2 1 _ rfl
      have hwd : diskSh.wd = 2 := rfl
      rw [hwd] at p0 q0 p1 q1
      simp only [Nat.add_zero] at p0 q0
      have HS := Lib.hid fun (y : World) (hy : Below w.heap.size w y) => And.intro ((hy.cell (p := ⟨b, off + k * 2, none⟩) hB).trans p0) (And.intro ((hy.cell (p := ⟨b, off + k * 2 + 1, none⟩) hB).trans p1) (And.intro ((hy.cell (p := ⟨b2, off2 + k * 2, none⟩) hB2).trans q0) ((hy.cell (p := ⟨b2, off2 + k * 2 + 1, none⟩) hB2).trans q1)))
      obtain ⟨d0', d1', d2', d3'⟩ := HS.out wr hb
      have hb0 := hb.drew
      have f3 : (0 : Int) ≤ (k : Int) := by omega
      have f4 : (k : Int) < (xs.length : Int) := by omega
      clear e1b e1c e2b e2c hv hu hx hr hr2 hcell hcell2 hwd p0 q0 p1 q1 hu0 hv0
      go_wp2
      go_region_held3 (fun w' => w'.cell? ⟨b, off + k * 2, none⟩ = some (.slice A0 x.notes.length c0) ∧ w'.cell? ⟨b, off + k * 2 + 1, none⟩ = some (.int .i64 x.safe) ∧ w'.cell? ⟨b2, off2 + k * 2, none⟩ = some (.slice B0 x.notes.length e0) ∧ w'.cell? ⟨b2, off2 + k * 2 + 1, none⟩ = some (.int .i64 x.safe))
        (first | exact HS.out _ hb0 | exact HS.out _ (by assumption))
        (first | (go_at_call 34; refine (eqLogDisk_same _ _ _ x (HR.out _ hb0) (HR2.out _ hb0)).mono ?_; rintro e w' ⟨rfl, hb'⟩; have hq := belowNext hb0 hb'; clear hb'))
      go_wp2
      go_roundw
      case rel => exact ⟨k + 1, by omega, by go_num, by assumption⟩
      case measure => simp [intOf]; omega
    · clear hv hu
      go_wp2
      go_ret
      exact ⟨rfl, hb⟩

end Go.Proofs.Ytecdibpiojgppaa

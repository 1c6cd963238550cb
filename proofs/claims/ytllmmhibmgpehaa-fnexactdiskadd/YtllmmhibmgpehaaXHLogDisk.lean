/- Texts that follow each other, merged: HLogDisk, MExact, ExKit. -/
import Derived.Test.YtllmmhibmgpehaaXHLogNote
import Derived.Test.YtllmmhibmgpehaaXMLogNote
import Derived.Deep.RegionHeld3
import Derived.Test.YtllmmhibmgpehaaXMarkSize
import Derived.Test.YtllmmhibmgpehaaXShOwn

/- The helpers of the exact laws over LogDisk: a count, a copy, a comparison, marks. By shgen.py. -/
namespace Go.Proofs.Ytllmmhibmgpehaa
open Go.RowKit

theorem wtLogDisk (x : Disk) : (diskSh.wt x : Int) = (notesSh.wt x.notes : Int) := by
  show (((notesSh.wt x.notes + 0) : Nat) : Int) = _
  omega
theorem szLogDisk_any (w : World) (cs : List Value) (x : Disk) (h : diskSh.rel w w.heap.size cs x) (left : Int) (h0 : 0 ≤ left) (h1 : left ≤ 1048576) :
    Calls Try.prog 19 #[.agg cs.toArray, .int .i64 left] w (Sized left (diskSh.wt x) w) := by
  obtain ⟨u0, rfl, hu0⟩ := disk_rel.1 h
  obtain ⟨A0, c0, rfl, hc0, hd0⟩ := hu0.form
  unfold maxLen at hc0
  have HU0 := Lib.hid fun W (hb : Below w.heap.size w W) => (hu0.below hb).more hb.size
  clear h hu0
  have HT := Lib.hid (wtLogDisk x)
  have HB0 := Lib.hid (belowOne w (.cells #[.slice A0 x.notes.length c0, .int .i64 x.safe] 37))
  have HX0 := Lib.hid (Held.new w #[.slice A0 x.notes.length c0, .int .i64 x.safe] 37)
  go_enter Try.func19, Try.ntmps19
  by_cases hq0 : left < (notesSh.wt x.notes : Int)
  · have hl := less_no hq0
    go_wp2_with fail
    refine (szLogNoteS_sh _ _ _ (HU0.out _ HB0.out) _ (by omega) (by omega)).mono ?_
    rintro e w1 ⟨rfl, hb⟩
    rw [hl]
    have HB1 := Lib.hid (belowNext HB0.out hb)
    have HX1 := Lib.hid (HX0.out.below hb HX0.out.1)
    clear hb
    clear hl HB0 HX0
    have x0 := HX1.out.of 0 _ rfl
    have x1 := HX1.out.of 1 _ rfl
    go_wp2
    go_ret
    exact ⟨ret_int (by rw [less_no (by rw [HT.out]; omega)]), HB1.out⟩
  · have hl := less_yes (show (notesSh.wt x.notes : Int) ≤ left by omega)
    have hq0' : (notesSh.wt x.notes : Int) ≤ left := by omega
    clear hq0
    go_wp2_with fail
    refine (szLogNoteS_sh _ _ _ (HU0.out _ HB0.out) _ (by omega) (by omega)).mono ?_
    rintro e w1 ⟨rfl, hb⟩
    rw [hl]
    have HB1 := Lib.hid (belowNext HB0.out hb)
    have HX1 := Lib.hid (HX0.out.below hb HX0.out.1)
    clear hb
    clear hl HB0 HX0
    have x0 := HX1.out.of 0 _ rfl
    have x1 := HX1.out.of 1 _ rfl
    go_wp2
    go_ret
    exact ⟨ret_int (by rw [less_yes (by rw [HT.out]; omega), HT.out] <;> omega), HB1.out⟩
set_option maxRecDepth 100000 in
theorem toLogDisk_any (w : World) (cs : List Value) (x : Disk) (h : diskSh.rel w w.heap.size cs x) (hl : diskSh.wt x ≤ 1048576) :
    Calls Try.prog 22 #[.agg cs.toArray] w (CopiedAg diskSh x w) := by
  have hwt := wtLogDisk x
  obtain ⟨u0, rfl, hu0⟩ := disk_rel.1 h
  have hn0 : x.notes.length ≤ notesSh.wt x.notes := wtL_len _ _
  obtain ⟨A0, c0, rfl, hc0, hd0⟩ := hu0.form
  have HU0 := Lib.hid fun W (hb : Below w.heap.size w W) => (hu0.below hb).more hb.size
  have hm0 : notesSh.wt x.notes ≤ 1048576 := by omega
  have hp0 : x.notes.length ≤ 1048576 := by omega
  clear h hwt hu0
  have HI := Lib.hid (ToInv.start w #[.slice A0 x.notes.length c0, .int .i64 x.safe] #[.slice none 0 0, .int .i64 0] #[.slice none 0 0, .int .i64 0] 37 45 45)
  go_enter Try.func22, Try.ntmps22
  go_wp2_with fail
  refine (toLogNoteS_sh _ _ x.notes (HU0.out _ HI.out.bel) hm0).mono ?_
  rintro e w1 ⟨v0, rfl, ho, hb⟩
  obtain ⟨B0, e0, rfl, -, -⟩ := ho.row.form
  have hz := HI.out.size
  have HJ := Lib.hid (HI.out.call hb)
  have HS0 : Hid (CopFrom noteSh 26 (w.heap.size + 1 + 1 + 1) (w1.heap.size) (.slice B0 x.notes.length e0) x.notes w1) := Lib.hid (Sh.Own.mono ho fun b hb => ⟨by have := hb.1; simp at this; omega, hb.2⟩)
  have hzw : w.heap.size + 1 + 1 + 1 ≤ w1.heap.size := by have := hb.size; simp at this; omega
  have x0 := HJ.out.box.of 0 _ rfl
  have x1 := HJ.out.box.of 1 _ rfl
  have o0 := HJ.out.out.of 0 _ rfl
  have o1 := HJ.out.out.of 1 _ rfl
  have of := HJ.out.out.2.1
  replace HJ := Lib.hid (HJ.out.putOut 0 (.slice B0 x.notes.length e0))
  replace HS0 := Lib.hid (HS0.out.set (p := ⟨w.heap.size + 1 + 1, 0, none⟩) (by show w.heap.size + 1 + 1 < _; omega) (.slice B0 x.notes.length e0))
  replace HJ := Lib.hid (HJ.out.putOut 1 (.int .i64 x.safe))
  replace HS0 := Lib.hid (HS0.out.set (p := ⟨w.heap.size + 1 + 1, 1, none⟩) (by show w.heap.size + 1 + 1 < _; omega) (.int .i64 x.safe))
  clear HI hb ho hz
  have HI := HJ
  clear HJ
  have r0 := HI.out.res.of 0 _ rfl
  have r1 := HI.out.res.of 1 _ rfl
  have rf := HI.out.res.2.1
  go_wp2
  replace HI := Lib.hid (HI.out.putRes 0 (.slice B0 x.notes.length e0))
  replace HS0 := Lib.hid (HS0.out.set (p := ⟨w.heap.size + 1, 0, none⟩) (by show w.heap.size + 1 < _; omega) (.slice B0 x.notes.length e0))
  replace HI := Lib.hid (HI.out.putRes 1 (.int .i64 x.safe))
  replace HS0 := Lib.hid (HS0.out.set (p := ⟨w.heap.size + 1, 1, none⟩) (by show w.heap.size + 1 < _; omega) (.int .i64 x.safe))
  have q0 := HI.out.res.of 0 _ rfl
  have q1 := HI.out.res.of 1 _ rfl
  refine bodyPost_ret (v := .agg #[.slice B0 x.notes.length e0, .int .i64 x.safe]) (by simp [results, Try.results22, go_sem, q0, q1]) rfl ⟨[.slice B0 x.notes.length e0, .int .i64 x.safe], rfl, ?_, HI.out.bel⟩
  exact disk_own.2 ⟨_, rfl, Sh.Own.mono HS0.out fun b hb => ⟨by have := hb.1; omega, by simp [World.setCell]; exact hb.2⟩⟩

theorem infoLogDiskH : (Try.prog.info? 45).map (fun i => (i.zero, i.size, i.bytes)) = some (some (.agg #[.slice none 0 0, .int .i64 0]), 2, 32) := by kernel_rfl
set_option maxRecDepth 100000 in
theorem eqLogDisk_same (w : World) (cs ds : List Value) (x : Disk) (h : diskSh.rel w w.heap.size cs x) (h2 : diskSh.rel w w.heap.size ds x) :
    Calls Try.prog 25 #[.agg cs.toArray, .agg ds.toArray] w (Alike w) := by
  obtain ⟨u0, rfl, hu0⟩ := disk_rel.1 h
  obtain ⟨v0, rfl, hv0⟩ := disk_rel.1 h2
  obtain ⟨A0, c0, rfl, hc0, hd0⟩ := hu0.form
  obtain ⟨B0, e0, rfl, hc0', hd0'⟩ := hv0.form
  have HU0 := Lib.hid fun W (hb : Below w.heap.size w W) => (hu0.below hb).more hb.size
  have HV0 := Lib.hid fun W (hb : Below w.heap.size w W) => (hv0.below hb).more hb.size
  clear h h2 hu0 hv0
  have HI := Lib.hid (TwoInv.start w #[.slice A0 x.notes.length c0, .int .i64 x.safe] #[.slice B0 x.notes.length e0, .int .i64 x.safe] 45 45)
  go_enter Try.func25, Try.ntmps25
  go_wp2_with fail
  refine (eqLogNoteS_same _ _ _ x.notes (HU0.out _ HI.out.bel) (HV0.out _ HI.out.bel)).mono ?_
  rintro e w1 ⟨rfl, hb⟩
  replace HI := Lib.hid (HI.out.call hb)
  clear hb
  have x0_0 := HI.out.one.of 0 _ rfl
  have x0_1 := HI.out.one.of 1 _ rfl
  have y0_0 := HI.out.two.of 0 _ rfl
  have y0_1 := HI.out.two.of 1 _ rfl
  go_wp2
  go_ret
  exact ⟨rfl, HI.out.bel⟩

end Go.Proofs.Ytllmmhibmgpehaa

/- Marks on a place's notes and on a note, as records. -/
namespace Go.Proofs.Ytllmmhibmgpehaa
open Go.RowKit

/-- What marking a record leaves. -/
def MarkedAg {α : Type} (A : Sh α) (cn : α → Nat) (mk : Int → α → Prop) (S : Nat → Prop) (cs : List Value) (x : α) (k : Int) (w : World) (e : Ending) (w' : World) : Prop :=
  ∃ y, e = .returned (.int .i64 (k + cn x)) ∧ cn y = cn x ∧ mk k y ∧ A.own w' S cs y ∧ Outs S w w'
set_option maxRecDepth 100000 in
theorem markLogDisk_r (w : World) (S : Nat → Prop) (cs : List Value) (x : Disk) (hv : diskSh.own w S cs x) (k : Int) (hl : diskSh.wt x ≤ 1048576) (h0 : 1 ≤ k) (h1 : k + 16 * (diskSh.wt x : Int) ≤ 1000000000000000) :
    Calls Try.prog 27 #[.agg cs.toArray, .int .i64 k] w (MarkedAg diskSh dCnt dMk S cs x k w) := by
  have hwt := wtLogDisk x
  obtain ⟨u, rfl, hu⟩ := disk_own.1 hv
  obtain ⟨A, c, rfl, -, -⟩ := hu.row.form
  have HV := Lib.hid (hu.below (belowOne w (.cells #[.slice A x.notes.length c, .int .i64 x.safe] 45)))
  clear hv hu
  go_enter Try.func27, Try.ntmps27
  go_wp2_with fail
  refine (markLogNoteS_sh _ S _ x.notes HV.out k (by omega) h0 (by omega)).mono ?_
  rintro e w1 ⟨ys, rfl, hy1, hy2, hy3, hy4, hy5⟩
  have HF := Lib.hid (And.intro hy1 (And.intro hy2 (And.intro hy3 (And.intro hy4 hy5))))
  clear hy1 hy2 hy3 hy4 hy5
  go_wp2
  go_ret
  obtain ⟨hy1, hy2, hy3, hy4, hy5⟩ := HF.out
  exact ⟨⟨ys, x.safe⟩, rfl, hy2, hy3, disk_own.2 ⟨_, rfl, hy4⟩, (Outs.of_below (belowOne w _)).trans hy5⟩
set_option maxRecDepth 100000 in
theorem heldLogDisk_r (w : World) (cs : List Value) (x : Disk) (hv : diskSh.rel w w.heap.size cs x) (k : Int) (hl : diskSh.wt x ≤ 1048576) (h0 : 1 ≤ k) (h1 : k + 16 * (diskSh.wt x : Int) ≤ 1000000000000000) (hm : dMk k x) :
    Calls Try.prog 29 #[.agg cs.toArray, .int .i64 k] w fun e w' => e = .returned (.int .i64 (k + dCnt x)) ∧ Below w.heap.size w w' := by
  have hwt := wtLogDisk x
  obtain ⟨u, rfl, hu⟩ := disk_rel.1 hv
  obtain ⟨A, c, rfl, -, -⟩ := hu.form
  have HV := Lib.hid ((hu.alloc (Nat.le_refl _) (.cells #[.slice A x.notes.length c, .int .i64 x.safe] 45)).more (B' := (w.alloc (.cells #[.slice A x.notes.length c, .int .i64 x.safe] 45)).heap.size) (by simp))
  have HM := Lib.hid hm
  have hcn : ¬ (k + (cntL noteSh.cnt x.notes : Int) < 0) := by omega
  clear hv hu hm
  go_enter Try.func29, Try.ntmps29
  go_wp2_with fail
  refine (heldLogNoteS_sh _ _ x.notes HV.out k (by omega) h0 (by omega) HM.out).mono ?_
  rintro e w1 ⟨rfl, hb⟩
  have HB := Lib.hid (belowNext (belowOne w (.cells #[.slice A x.notes.length c, .int .i64 x.safe] 45)) hb)
  clear hb
  go_wp2
  go_ret
  exact ⟨rfl, HB.out⟩
set_option maxRecDepth 100000 in
theorem markLogNote_r (w : World) (S : Nat → Prop) (cs : List Value) (x : Note) (hv : noteSh.own w S cs x) (k : Int) (hl : noteSh.wt x ≤ 1048576) (h0 : 1 ≤ k) (h1 : k + 32 * (noteSh.wt x : Int) ≤ 1000000000000000) :
    Calls Try.prog 28 #[.agg cs.toArray, .int .i64 k] w (MarkedAg noteSh nCnt nMk S cs x k w) := by
  have hwt := wtLogNote x
  obtain ⟨u, v, S1, S2, rfl, hu, hw, s1, s2, hd⟩ := note_own.1 (noteSh.ocap hv)
  obtain ⟨A, c, rfl, -, -⟩ := hu.row.form
  obtain ⟨A2, c2, rfl, -, -⟩ := hw.row.form
  have HX := Lib.hid (Held.new w #[.int .i64 x.kind, .int .i64 x.tx, .slice A x.locks.length c, .slice A2 x.writes.length c2] 26)
  have HV := Lib.hid (hu.below (belowOne w (.cells #[.int .i64 x.kind, .int .i64 x.tx, .slice A x.locks.length c, .slice A2 x.writes.length c2] 26)))
  have HW := Lib.hid (hw.below (belowOne w (.cells #[.int .i64 x.kind, .int .i64 x.tx, .slice A x.locks.length c, .slice A2 x.writes.length c2] 26)))
  have HD := Lib.hid hd
  have HS := Lib.hid (And.intro s1 s2)
  have hcb : cntL strSh.cnt x.locks ≤ 0 + 16 * strsSh.wt x.locks := cntL_le strSh.cnt strSh.wt strSh.base (by decide) strSh.cntLe x.locks
  clear hv hu hw s1 s2 hd
  go_enter Try.func28, Try.ntmps28
  go_wp2_with fail
  refine (markStringS_sh _ S1 _ x.locks HV.out k (by omega) h0 (by omega)).mono ?_
  rintro e w1 ⟨ys, rfl, hy1, hy2, hy3, hy4, hy5⟩
  have HX1 := Lib.hid (HX.out.outs hy5 (fun h => by have := (HS.out.1 _ h).2; omega))
  have HW1 := Lib.hid (HW.out.keep fun b hb hlt => hy5.block b hlt fun h => HD.out b h hb)
  have HF := Lib.hid (And.intro hy1 (And.intro hy2 (And.intro hy3 (And.intro hy4 hy5))))
  clear hy1 hy2 hy3 hy4 hy5
  have x3 := HX1.out.of 3 _ rfl
  go_wp2_with fail
  refine (markStoWriteS_sh _ S2 _ x.writes HW1.out _ (by omega) (by omega) (by omega)).mono ?_
  rintro e w2 ⟨zs, rfl, hz1, hz2, hz3, hz4, hz5⟩
  have HG := Lib.hid (And.intro hz1 (And.intro hz2 (And.intro hz3 (And.intro hz4 hz5))))
  clear hz1 hz2 hz3 hz4 hz5
  go_wp2
  go_ret
  obtain ⟨hy1, hy2, hy3, hy4, hy5⟩ := HF.out
  obtain ⟨hz1, hz2, hz3, hz4, hz5⟩ := HG.out
  refine ⟨⟨x.kind, x.tx, ys, zs⟩, ?_, ?_, ⟨hy3, ?_⟩, note_own.2 ⟨_, _, S1, S2, ?_, hy4.keep fun b hb hlt => hz5.block b hlt fun h => HD.out b hb h, hz4, fun b hb => (HS.out.1 b hb).1, fun b hb => (HS.out.2 b hb).1, HD.out⟩, ?_⟩
  · show Ending.returned _ = Ending.returned (.int .i64 (k + ((cntL strSh.cnt x.locks + cntL wrSh.cnt x.writes : Nat) : Int)))
    exact ret_int (by omega)
  · show cntL strSh.cnt ys + cntL wrSh.cnt zs = cntL strSh.cnt x.locks + cntL wrSh.cnt x.writes
    rw [hy2, hz2]
  · show mkdL wrSh.cnt wrSh.mkd (k + (cntL strSh.cnt ys : Int)) zs
    rw [hy2]; exact hz3
  · show [Value.int .i64 x.kind, .int .i64 x.tx, .slice A x.locks.length c, .slice A2 x.writes.length c2] = _
    rfl
  · exact ((Outs.of_below (belowOne w _)).trans (hy5.mono fun b _ hb => (HS.out.1 b hb).1)).trans (hz5.mono fun b _ hb => (HS.out.2 b hb).1)

end Go.Proofs.Ytllmmhibmgpehaa

/- How what is owned, or read, is carried through a call, and through the marks on other blocks. Nothing of the program. -/
namespace Go.Proofs.Ytllmmhibmgpehaa
open Go.RowKit

section
variable {α : Type} {A : Sh α} {w w' : World} {S T : Nat → Prop} {B n : Nat} {cs : List Value} {x : α} {e : TypeId} {v : Value} {xs : List α}
theorem own_call (h : A.own w S cs x) (hb : Below w.heap.size w w') : A.own w' S cs x := A.okeep h fun b _ hlt => hb.block b hlt
theorem own_mark (h : A.own w S cs x) (ht : Outs T w w') (hd : ∀ b, S b → T b → False) : A.own w' S cs x := A.okeep h fun b hb hlt => ht.block b hlt fun h => hd b hb h
theorem rel_call (h : A.rel w B cs x) (hb : Below w.heap.size w w') (hB : B ≤ w.heap.size) : A.rel w' B cs x := A.rbelow h (hb.mono hB)
theorem rel_mark (h : A.rel w B cs x) (ht : Outs T w w') (hB : B ≤ w.heap.size) (hd : ∀ b, T b → B ≤ b) : A.rel w' B cs x :=
  A.rkeep h fun b o hb => World.cell?_of_block (a := ⟨b, o, none⟩) (ht.block b (by omega) fun h => by have := hd b h; omega)
theorem own_sl_call (h : A.Own e w S v xs) (hb : Below w.heap.size w w') : A.Own e w' S v xs := h.keep fun b _ hlt => hb.block b hlt
theorem own_sl_mark (h : A.Own e w S v xs) (ht : Outs T w w') (hd : ∀ b, S b → T b → False) : A.Own e w' S v xs := h.keep fun b hb hlt => ht.block b hlt fun h => hd b hb h
theorem row_call (h : A.Row w B v xs) (hb : Below w.heap.size w w') (hB : B ≤ w.heap.size) : A.Row w' B v xs := h.below (hb.mono hB)
theorem row_mark (h : A.Row w B v xs) (ht : Outs T w w') (hB : B ≤ w.heap.size) (hd : ∀ b, T b → B ≤ b) : A.Row w' B v xs :=
  h.keep fun b o hb => World.cell?_of_block (a := ⟨b, o, none⟩) (ht.block b (by omega) fun h => by have := hd b h; omega)
theorem below_mark (h : Below n w w') {w2 : World} (ht : Outs T w' w2) (hn : n ≤ w'.heap.size) (hd : ∀ b, T b → n ≤ b) : Below n w w2 := h.trans (ht.below hn hd)
end

end Go.Proofs.Ytllmmhibmgpehaa

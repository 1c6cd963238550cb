/- Texts that follow each other, merged: HLogDisk, MExact, ExKit, TickW. -/
import Derived.Test.YtkamlibfcakblaaXHLogNote
import Derived.Test.YtkamlibfcakblaaXMLogNote
import Derived.Deep.RegionHeld3
import Derived.Test.YtkamlibfcakblaaXMarkWt
import Derived.Test.YtkamlibfcakblaaXShOwn
import Derived.Test.YtkamlibfcakblaaXMsgP
import Derived.Test.YtkamlibfcakblaaXMMsgMsg

/- The helpers of the exact laws over LogDisk: a count, a copy, a comparison, marks. By shgen.py. -/
namespace Go.Proofs.Ytkamlibfcakblaa
open Go.RowKit

theorem wtLogDisk (x : Disk) : (diskSh.wt x : Int) = (notesSh.wt x.notes : Int) := by
  show (((notesSh.wt x.notes + 0) : Nat) : Int) = _
  omega
theorem szLogDisk_any (w : World) (cs : List Value) (x : Disk) (h : diskSh.rel w w.heap.size cs x) (left : Int) (h0 : 0 ≤ left) (h1 : left ≤ 1048576) :
    Calls Try.prog 39 #[.agg cs.toArray, .int .i64 left] w (Sized left (diskSh.wt x) w) := by
  obtain ⟨u0, rfl, hu0⟩ := disk_rel.1 h
  obtain ⟨A0, c0, rfl, hc0, hd0⟩ := hu0.form
  unfold maxLen at hc0
  have HU0 := Lib.hid fun W (hb : Below w.heap.size w W) => (hu0.below hb).more hb.size
  clear h hu0
  have HT := Lib.hid (wtLogDisk x)
  have HB0 := Lib.hid (belowOne w (.cells #[.slice A0 x.notes.length c0, .int .i64 x.safe] 61))
  have HX0 := Lib.hid (Held.new w #[.slice A0 x.notes.length c0, .int .i64 x.safe] 61)
  go_enter Try.func39, Try.ntmps39
  by_cases hq0 : left < (notesSh.wt x.notes : Int)
  · have hl := less_no hq0
    go_wp2_with fail
    refine (szLogNoteS_sh _ _ _ (HU0.out _ HB0.out) _ (by omega) (by omega)).mono ?_
    rintro e w1 ⟨rfl, hb⟩
    rw [hl]
    have HB1 := Lib.hid (belowNext HB0.out hb)
    have HX1 := Lib.hid (HX0.out.below hb HX0.out.1)
    clear hb
    clear hl HB0 HX0
    have x0 := HX1.out.of 0 _ rfl
    have x1 := HX1.out.of 1 _ rfl
    go_wp2
    go_ret
    exact ⟨ret_int (by rw [less_no (by rw [HT.out]; omega)]), HB1.out⟩
  · have hl := less_yes (show (notesSh.wt x.notes : Int) ≤ left by omega)
    have hq0' : (notesSh.wt x.notes : Int) ≤ left := by omega
    clear hq0
    go_wp2_with fail
    refine (szLogNoteS_sh _ _ _ (HU0.out _ HB0.out) _ (by omega) (by omega)).mono ?_
    rintro e w1 ⟨rfl, hb⟩
    rw [hl]
    have HB1 := Lib.hid (belowNext HB0.out hb)
    have HX1 := Lib.hid (HX0.out.below hb HX0.out.1)
    clear hb
    clear hl HB0 HX0
    have x0 := HX1.out.of 0 _ rfl
    have x1 := HX1.out.of 1 _ rfl
    go_wp2
    go_ret
    exact ⟨ret_int (by rw [less_yes (by rw [HT.out]; omega), HT.out] <;> omega), HB1.out⟩
set_option maxRecDepth 100000 in
theorem toLogDisk_any (w : World) (cs : List Value) (x : Disk) (h : diskSh.rel w w.heap.size cs x) (hl : diskSh.wt x ≤ 1048576) :
    Calls Try.prog 40 #[.agg cs.toArray] w (CopiedAg diskSh x w) := by
  have hwt := wtLogDisk x
  obtain ⟨u0, rfl, hu0⟩ := disk_rel.1 h
  have hn0 : x.notes.length ≤ notesSh.wt x.notes := wtL_len _ _
  obtain ⟨A0, c0, rfl, hc0, hd0⟩ := hu0.form
  have HU0 := Lib.hid fun W (hb : Below w.heap.size w W) => (hu0.below hb).more hb.size
  have hm0 : notesSh.wt x.notes ≤ 1048576 := by omega
  have hp0 : x.notes.length ≤ 1048576 := by omega
  clear h hwt hu0
  have HI := Lib.hid (ToInv.start w #[.slice A0 x.notes.length c0, .int .i64 x.safe] #[.slice none 0 0, .int .i64 0] #[.slice none 0 0, .int .i64 0] 61 25 25)
  go_enter Try.func40, Try.ntmps40
  go_wp2_with fail
  refine (toLogNoteS_sh _ _ x.notes (HU0.out _ HI.out.bel) hm0).mono ?_
  rintro e w1 ⟨v0, rfl, ho, hb⟩
  obtain ⟨B0, e0, rfl, -, -⟩ := ho.row.form
  have hz := HI.out.size
  have HJ := Lib.hid (HI.out.call hb)
  have HS0 : Hid (CopFrom noteSh 36 (w.heap.size + 1 + 1 + 1) (w1.heap.size) (.slice B0 x.notes.length e0) x.notes w1) := Lib.hid (Sh.Own.mono ho fun b hb => ⟨by have := hb.1; simp at this; omega, hb.2⟩)
  have hzw : w.heap.size + 1 + 1 + 1 ≤ w1.heap.size := by have := hb.size; simp at this; omega
  have x0 := HJ.out.box.of 0 _ rfl
  have x1 := HJ.out.box.of 1 _ rfl
  have o0 := HJ.out.out.of 0 _ rfl
  have o1 := HJ.out.out.of 1 _ rfl
  have of := HJ.out.out.2.1
  replace HJ := Lib.hid (HJ.out.putOut 0 (.slice B0 x.notes.length e0))
  replace HS0 := Lib.hid (HS0.out.set (p := ⟨w.heap.size + 1 + 1, 0, none⟩) (by show w.heap.size + 1 + 1 < _; omega) (.slice B0 x.notes.length e0))
  replace HJ := Lib.hid (HJ.out.putOut 1 (.int .i64 x.safe))
  replace HS0 := Lib.hid (HS0.out.set (p := ⟨w.heap.size + 1 + 1, 1, none⟩) (by show w.heap.size + 1 + 1 < _; omega) (.int .i64 x.safe))
  clear HI hb ho hz
  have HI := HJ
  clear HJ
  have r0 := HI.out.res.of 0 _ rfl
  have r1 := HI.out.res.of 1 _ rfl
  have rf := HI.out.res.2.1
  go_wp2
  replace HI := Lib.hid (HI.out.putRes 0 (.slice B0 x.notes.length e0))
  replace HS0 := Lib.hid (HS0.out.set (p := ⟨w.heap.size + 1, 0, none⟩) (by show w.heap.size + 1 < _; omega) (.slice B0 x.notes.length e0))
  replace HI := Lib.hid (HI.out.putRes 1 (.int .i64 x.safe))
  replace HS0 := Lib.hid (HS0.out.set (p := ⟨w.heap.size + 1, 1, none⟩) (by show w.heap.size + 1 < _; omega) (.int .i64 x.safe))
  have q0 := HI.out.res.of 0 _ rfl
  have q1 := HI.out.res.of 1 _ rfl
  refine bodyPost_ret (v := .agg #[.slice B0 x.notes.length e0, .int .i64 x.safe]) (by simp [results, Try.results40, go_sem, q0, q1]) rfl ⟨[.slice B0 x.notes.length e0, .int .i64 x.safe], rfl, ?_, HI.out.bel⟩
  exact disk_own.2 ⟨_, rfl, Sh.Own.mono HS0.out fun b hb => ⟨by have := hb.1; omega, by simp [World.setCell]; exact hb.2⟩⟩

theorem infoLogDiskH : (Try.prog.info? 25).map (fun i => (i.zero, i.size, i.bytes)) = some (some (.agg #[.slice none 0 0, .int .i64 0]), 2, 32) := by kernel_rfl
set_option maxRecDepth 100000 in
theorem eqLogDisk_same (w : World) (cs ds : List Value) (x : Disk) (h : diskSh.rel w w.heap.size cs x) (h2 : diskSh.rel w w.heap.size ds x) :
    Calls Try.prog 42 #[.agg cs.toArray, .agg ds.toArray] w (Alike w) := by
  obtain ⟨u0, rfl, hu0⟩ := disk_rel.1 h
  obtain ⟨v0, rfl, hv0⟩ := disk_rel.1 h2
  obtain ⟨A0, c0, rfl, hc0, hd0⟩ := hu0.form
  obtain ⟨B0, e0, rfl, hc0', hd0'⟩ := hv0.form
  have HU0 := Lib.hid fun W (hb : Below w.heap.size w W) => (hu0.below hb).more hb.size
  have HV0 := Lib.hid fun W (hb : Below w.heap.size w W) => (hv0.below hb).more hb.size
  clear h h2 hu0 hv0
  have HI := Lib.hid (TwoInv.start w #[.slice A0 x.notes.length c0, .int .i64 x.safe] #[.slice B0 x.notes.length e0, .int .i64 x.safe] 25 25)
  go_enter Try.func42, Try.ntmps42
  go_wp2_with fail
  refine (eqLogNoteS_same _ _ _ x.notes (HU0.out _ HI.out.bel) (HV0.out _ HI.out.bel)).mono ?_
  rintro e w1 ⟨rfl, hb⟩
  replace HI := Lib.hid (HI.out.call hb)
  clear hb
  have x0_0 := HI.out.one.of 0 _ rfl
  have x0_1 := HI.out.one.of 1 _ rfl
  have y0_0 := HI.out.two.of 0 _ rfl
  have y0_1 := HI.out.two.of 1 _ rfl
  go_wp2
  go_ret
  exact ⟨rfl, HI.out.bel⟩

end Go.Proofs.Ytkamlibfcakblaa

/- Marks on a place's notes and on a note, as records. -/
namespace Go.Proofs.Ytkamlibfcakblaa
open Go.RowKit

/-- What marking a record leaves. -/
def MarkedAg {α : Type} (A : Sh α) (cn : α → Nat) (mk : Int → α → Prop) (S : Nat → Prop) (cs : List Value) (x : α) (k : Int) (w : World) (e : Ending) (w' : World) : Prop :=
  ∃ y, e = .returned (.int .i64 (k + cn x)) ∧ cn y = cn x ∧ mk k y ∧ A.own w' S cs y ∧ Outs S w w'
set_option maxRecDepth 100000 in
theorem markLogDisk_r (w : World) (S : Nat → Prop) (cs : List Value) (x : Disk) (hv : diskSh.own w S cs x) (k : Int) (hl : diskSh.wt x ≤ 1048576) (h0 : 1 ≤ k) (h1 : k + 16 * (diskSh.wt x : Int) ≤ 1000000000000000) :
    Calls Try.prog 43 #[.agg cs.toArray, .int .i64 k] w (MarkedAg diskSh dCnt dMk S cs x k w) := by
  have hwt := wtLogDisk x
  obtain ⟨u, rfl, hu⟩ := disk_own.1 hv
  obtain ⟨A, c, rfl, -, -⟩ := hu.row.form
  have HV := Lib.hid (hu.below (belowOne w (.cells #[.slice A x.notes.length c, .int .i64 x.safe] 25)))
  clear hv hu
  go_enter Try.func43, Try.ntmps43
  go_wp2_with fail
  refine (markLogNoteS_sh _ S _ x.notes HV.out k (by omega) h0 (by omega)).mono ?_
  rintro e w1 ⟨ys, rfl, hy1, hy2, hy3, hy4, hy5⟩
  have HF := Lib.hid (And.intro hy1 (And.intro hy2 (And.intro hy3 (And.intro hy4 hy5))))
  clear hy1 hy2 hy3 hy4 hy5
  go_wp2
  go_ret
  obtain ⟨hy1, hy2, hy3, hy4, hy5⟩ := HF.out
  exact ⟨⟨ys, x.safe⟩, rfl, hy2, hy3, disk_own.2 ⟨_, rfl, hy4⟩, (Outs.of_below (belowOne w _)).trans hy5⟩
end Go.Proofs.Ytkamlibfcakblaa

/- How what is owned, or read, is carried through a call, and through the marks on other blocks. Nothing of the program. -/
namespace Go.Proofs.Ytkamlibfcakblaa
open Go.RowKit

section
variable {α : Type} {A : Sh α} {w w' : World} {S T : Nat → Prop} {B n : Nat} {cs : List Value} {x : α} {e : TypeId} {v : Value} {xs : List α}
theorem own_call (h : A.own w S cs x) (hb : Below w.heap.size w w') : A.own w' S cs x := A.okeep h fun b _ hlt => hb.block b hlt
theorem own_mark (h : A.own w S cs x) (ht : Outs T w w') (hd : ∀ b, S b → T b → False) : A.own w' S cs x := A.okeep h fun b hb hlt => ht.block b hlt fun h => hd b hb h
theorem rel_call (h : A.rel w B cs x) (hb : Below w.heap.size w w') (hB : B ≤ w.heap.size) : A.rel w' B cs x := A.rbelow h (hb.mono hB)
theorem rel_mark (h : A.rel w B cs x) (ht : Outs T w w') (hB : B ≤ w.heap.size) (hd : ∀ b, T b → B ≤ b) : A.rel w' B cs x :=
  A.rkeep h fun b o hb => World.cell?_of_block (a := ⟨b, o, none⟩) (ht.block b (by omega) fun h => by have := hd b h; omega)
theorem own_sl_call (h : A.Own e w S v xs) (hb : Below w.heap.size w w') : A.Own e w' S v xs := h.keep fun b _ hlt => hb.block b hlt
theorem own_sl_mark (h : A.Own e w S v xs) (ht : Outs T w w') (hd : ∀ b, S b → T b → False) : A.Own e w' S v xs := h.keep fun b hb hlt => ht.block b hlt fun h => hd b hb h
theorem row_call (h : A.Row w B v xs) (hb : Below w.heap.size w w') (hB : B ≤ w.heap.size) : A.Row w' B v xs := h.below (hb.mono hB)
theorem row_mark (h : A.Row w B v xs) (ht : Outs T w w') (hB : B ≤ w.heap.size) (hd : ∀ b, T b → B ≤ b) : A.Row w' B v xs :=
  h.keep fun b o hb => World.cell?_of_block (a := ⟨b, o, none⟩) (ht.block b (by omega) fun h => by have := hd b h; omega)
theorem below_mark (h : Below n w w') {w2 : World} (ht : Outs T w' w2) (hn : n ≤ w'.heap.size) (hd : ∀ b, T b → n ≤ b) : Below n w w2 := h.trans (ht.below hn hd)
end

end Go.Proofs.Ytkamlibfcakblaa

/- How much the questions weigh, also with marks. -/
namespace Go.Proofs.Ytkamlibfcakblaa
open Go.RowKit

theorem eqMsgMsgS_w (w : World) (B : Nat) (v u : Value) (xs : List Msg) (hv : msgSh.Row w B v xs) (hu : msgSh.Row w B u xs) (hBw : B ≤ w.heap.size := by exact Nat.le_refl _) : Calls Try.prog 54 #[v, u] w (Alike w) := eqMsgMsgS_same w B v u xs hv hu hBw
theorem msgs_wt : ∀ xs : List Msg, msgsSh.wt xs = xs.length
  | [] => rfl
  | x :: xs => by
    have h := msgs_wt xs
    have e : msgsSh.wt (x :: xs) = wtL msgSh.wt (x :: xs) := rfl
    have e2 : msgsSh.wt xs = wtL msgSh.wt xs := rfl
    rw [e2] at h
    rw [e]
    simp only [wtL, List.length_cons, h]
    have e3 : msgSh.wt x = 0 := rfl
    omega
theorem msgs_cnt : ∀ xs : List Msg, cntL msgSh.cnt xs = 11 * xs.length
  | [] => rfl
  | x :: xs => by
    have h := msgs_cnt xs
    simp only [cntL, List.length_cons, h]
    have e3 : msgSh.cnt x = 11 := rfl
    omega
theorem msgs_marked {xs ys : List Msg} {k : Int} {c : Nat} (hl : ys.length = xs.length) (_ : mkdL msgSh.cnt msgSh.mkd k ys) (_ : 0 ≤ k) (_ : cntL msgSh.cnt ys = c) (h : xs.length ≤ 99999) : msgsSh.wt ys ≤ 1048576 := by
  rw [msgs_wt]; omega
theorem tickD_small {p : Int} {x : Disk} : (tickD p x).length ≤ 120 ∧ cntL msgSh.cnt (tickD p x) ≤ 1320 ∧ msgsSh.wt (tickD p x) ≤ 120 := by
  have h : (tickD p x).length ≤ 120 := by
    unfold tickD; split
    · rw [List.length_map]; exact openD_len120 x
    · simp
  exact ⟨h, by rw [msgs_cnt]; omega, by rw [msgs_wt]; exact h⟩

end Go.Proofs.Ytkamlibfcakblaa

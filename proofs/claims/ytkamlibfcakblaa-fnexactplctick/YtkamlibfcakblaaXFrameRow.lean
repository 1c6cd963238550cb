/- Texts that follow each other, merged: FrameRow, ShapesLog, FrameSh, Cmp, NotePlain. -/
import Derived.Test.YtkamlibfcakblaaXPlain
import Derived.Test.YtkamlibfcakblaaXMark
import Derived.Deep.Strs
import Derived.Lib.Bytealg
import Derived.Lib.Strings
import Derived.WideShapes

/- From the reading of an argument to the words of shapes: rows, records, writes. -/
namespace Go.Proofs.Ytkamlibfcakblaa
open Go.ChangeShapes Go.WideShapes Go.ChangeAt Go.RowKit Go.Joins Go.Deep

/-- Cells of a type that came in read as something of a shape. -/
def Reads {α : Type} (A : Sh α) (t : TypeId) (W : World) {H : Type} (enc : TypeId × Value → H) : Prop :=
  ∀ (fuel : Nat) (cs : List Value) (y : DataW H × List MemPlace), DataW.trod enc Try.prog W 0 (fun _ => true) true fuel t cs = some y → ∃ x, A.rel W W.heap.size cs x

section
variable {α : Type} {A : Sh α} {H : Type} {enc : TypeId × Value → H} {W : World}
theorem reads_int {t : TypeId} (ht : Try.prog.underlying t = some (.int .i64)) : Reads Sh.int t W enc := fun fuel cs y h => by
  obtain ⟨n, hcs, _⟩ := DataW.trod_int ht h
  exact ⟨n, hcs⟩
theorem reads_bool {t : TypeId} (ht : Try.prog.underlying t = some .bool) : Reads Sh.bool t W enc := fun fuel cs y h => by
  obtain ⟨n, hcs, _⟩ := DataW.trod_bool ht h
  exact ⟨n, hcs⟩
theorem reads_str {t : TypeId} (ht : Try.prog.underlying t = some .string) : Reads strSh t W enc := fun fuel cs y h => by
  obtain ⟨s, hcs, _, hs⟩ := DataW.trod_string ht h
  exact ⟨s, hcs, hs⟩
theorem reads_row {t e : TypeId} (ht : Try.prog.underlying t = some (.slice e)) (hc : Try.prog.cellsOf e = A.wd) (hwd : 0 < A.wd) (hA : Reads A e W enc) {fuel : Nat} {cs : List Value} {y : DataW H × List MemPlace}
    (h : DataW.trod enc Try.prog W 0 (fun _ => true) true fuel t cs = some y) : ∃ v xs, cs = [v] ∧ A.Row W W.heap.size v xs := by
  rcases open_slice ht h with ⟨hcs, _⟩ | ⟨a, len, cap, m, n, D, Pl, hcs, _, hl, hm, hmm, _, hi⟩
  · exact ⟨_, [], hcs, Sh.Row.nil _ _⟩
  · have hmc : m = cap := by simpa using hmm
    rw [hc] at hi
    have hat : ∀ i, i < len → ∃ x : α, ∃ cs', A.rel W W.heap.size cs' x ∧ ∀ j u, cs'[j]? = some u → W.cell? ((a.add (i * A.wd)).add j) = some u := by
      intro i hil
      obtain ⟨cs', hcc, ht'⟩ := hi i (by omega)
      obtain ⟨x, hx⟩ := hA _ _ _ ht'
      obtain ⟨_, hcl, hcell⟩ := World.cells?_some hcc
      refine ⟨x, cs', hx, fun j u hu => ?_⟩
      have hj : j < A.wd := by have := (List.getElem?_eq_some_iff.1 hu).1; omega
      rw [hcell j hj, hu]
    obtain ⟨xs, hlen, hq⟩ := listOf len hat
    refine ⟨_, xs, hcs, some a, cap, by rw [hlen], by omega, hm, fun hp => ?_⟩
    obtain ⟨cs0, hr0, hc0⟩ := hq 0 _ (List.getElem?_eq_getElem hp)
    have hl0 : 0 < cs0.length := by rw [A.rlen hr0]; exact hwd
    have h0 := hc0 0 _ (List.getElem?_eq_getElem hl0)
    obtain ⟨b, off, spot⟩ := a
    have hspot : spot = none := by
      have := World.cell?_spot h0
      simpa [Addr.add] using this
    subst hspot
    have hb : b < W.heap.size := cellLt (o := off) (by simpa [Addr.add] using h0)
    refine ⟨b, off, rfl, hb, fun j x hx => ?_⟩
    obtain ⟨cs', hr, hcell⟩ := hq j x hx
    refine ⟨cs', hr, fun i u hu => ?_⟩
    have := hcell i u hu
    rwa [add_none, add_none] at this
theorem reads_sl {t e tid : TypeId} {hb : A.base ≤ 16} (ht : Try.prog.underlying t = some (.slice e)) (hc : Try.prog.cellsOf e = A.wd) (hwd : 0 < A.wd) (hA : Reads A e W enc) : Reads (A.sl tid hb) t W enc := fun fuel cs y h => by
  obtain ⟨v, xs, h1, h2⟩ := reads_row ht hc hwd hA h
  exact ⟨xs, v, h1, h2⟩
end

theorem list3 {α : Type} {l : List α} (h : l.length = 3) : ∃ a b c, l = [a, b, c] := by
  match l, h with
  | [a, b, c], _ => exact ⟨a, b, c, rfl⟩
theorem list4 {α : Type} {l : List α} (h : l.length = 4) : ∃ a b c d, l = [a, b, c, d] := by
  match l, h with
  | [a, b, c, d], _ => exact ⟨a, b, c, d, rfl⟩

theorem cellsBool : Try.prog.cellsOf 4 = 1 := by kernel_rfl
theorem cellsSlS : Try.prog.cellsOf 33 = 1 := by kernel_rfl
theorem cellsWr : Try.prog.cellsOf 165 = 3 := by kernel_rfl
theorem cellsSlW : Try.prog.cellsOf 147 = 1 := by kernel_rfl

section
variable {H : Type} {enc : TypeId × Value → H} {W : World}
theorem reads_ints : Reads intsSh 39 W enc := reads_sl Try.underlying39 cellsInt (by decide) (reads_int Try.underlying3)
theorem reads_strs : Reads strsSh 33 W enc := reads_sl Try.underlying33 cellsStr (by decide) (reads_str Try.underlying9)
theorem reads_wr : Reads wrSh 165 W enc := fun fuel cs y h => by
  obtain ⟨y0, y1, y2, n, _, hl, t0, t1, t2⟩ := trod_struct3 Try.underlying165 h
  obtain ⟨c0, c1, c2, rfl⟩ := list3 (hl.trans cellsWr)
  simp only [cellsStr, cellsBool, cellsSl] at t0 t1 t2
  obtain ⟨k, e0, hk⟩ := reads_str (enc := enc) Try.underlying9 _ _ _ t0
  obtain ⟨d, e1⟩ := reads_bool (enc := enc) Try.underlying4 _ _ _ t1
  obtain ⟨xs, v, e2, h2⟩ := reads_ints (enc := enc) _ _ _ t2
  have e1' : List.take 1 (List.drop 1 [c0, c1, c2]) = [.bool d] := e1
  simp at e0 e1' e2
  subst e0 e1' e2
  exact ⟨⟨k, d, xs⟩, wr_rel.2 ⟨_, rfl, hk, h2⟩⟩
theorem reads_wrs : Reads wrsSh 147 W enc := reads_sl Try.underlying147 cellsWr (by decide) reads_wr
set_option maxRecDepth 100000 in
/-- A record by value. -/
theorem readsAg {α : Type} {A : Sh α} {t : TypeId} {fs : Array Field} (ht : Try.prog.underlying t = some (.struct fs)) (hA : Reads A t W enc) {b0 : Nat} {v : Value} {d : DataW H} {p : List MemPlace}
    (hv : Value.okWide Try.prog W .any b0 t v) (h : DataW.Trod enc Try.prog W 0 (fun _ => true) true t v d p) : ∃ cs x, v = .agg (List.toArray cs) ∧ A.rel W W.heap.size cs x := by
  obtain ⟨cs, rfl, hsz⟩ := okWide_struct ht hv
  obtain ⟨fuel, hf⟩ := h
  obtain ⟨l⟩ := cs
  obtain ⟨x, hx⟩ := hA _ _ _ hf
  exact ⟨l, x, rfl, by simpa [Value.cells] using hx⟩
end

end Go.Proofs.Ytkamlibfcakblaa

/- The shapes of notes and of a place's notes. -/
namespace Go.Proofs.Ytkamlibfcakblaa
open Go.RowKit

/-- A note: its kind, whose it is, the names that it holds, what it writes. -/
structure Note where
  kind : Int
  tx : Int
  locks : List ByteArray
  writes : List Wr
def noteSh : Sh Note := (Sh.int.pair (Sh.int.pair (strsSh.pair wrsSh))).conv (fun x => (x.kind, x.tx, x.locks, x.writes)) (fun p => ⟨p.1, p.2.1, p.2.2.1, p.2.2.2⟩) rfl
abbrev notesSh : Sh (List Note) := noteSh.sl 36 (by decide)
/-- A place's notes, and how many are safe. -/
structure Disk where
  notes : List Note
  safe : Int
def diskSh : Sh Disk := (notesSh.pair Sh.int).conv (fun x => (x.notes, x.safe)) (fun p => ⟨p.1, p.2⟩) rfl

section
variable {w : World} {B : Nat} {S : Nat → Prop} {v : Value}
theorem note_rel {cs : List Value} {x : Note} : noteSh.rel w B cs x ↔ ∃ u v, cs = [.int .i64 x.kind, .int .i64 x.tx, u, v] ∧ strSh.Row w B u x.locks ∧ wrSh.Row w B v x.writes := by
  constructor
  · rintro ⟨c1, c2, rfl, h1, c3, c4, rfl, h2, c5, c6, rfl, ⟨u, rfl, h3⟩, v, rfl, h4⟩
    have h1' : c1 = [.int .i64 x.kind] := h1
    have h2' : c3 = [.int .i64 x.tx] := h2
    subst h1' h2'
    exact ⟨u, v, rfl, h3, h4⟩
  · rintro ⟨u, v, rfl, h3, h4⟩
    exact ⟨_, _, rfl, rfl, _, _, rfl, rfl, _, _, rfl, ⟨u, rfl, h3⟩, v, rfl, h4⟩
theorem disk_rel {cs : List Value} {x : Disk} : diskSh.rel w B cs x ↔ ∃ u, cs = [u, .int .i64 x.safe] ∧ noteSh.Row w B u x.notes := by
  constructor
  · rintro ⟨c1, c2, rfl, ⟨u, rfl, h3⟩, h2⟩
    have h2' : c2 = [.int .i64 x.safe] := h2
    subst h2'
    exact ⟨u, rfl, h3⟩
  · rintro ⟨u, rfl, h3⟩
    exact ⟨_, _, rfl, ⟨u, rfl, h3⟩, rfl⟩
theorem note_own {cs : List Value} {x : Note} : noteSh.own w S cs x ↔ ∃ u v S1 S2, cs = [.int .i64 x.kind, .int .i64 x.tx, u, v] ∧ strSh.Own 9 w S1 u x.locks ∧ wrSh.Own 86 w S2 v x.writes ∧ (∀ b, S1 b → S b) ∧ (∀ b, S2 b → S b) ∧ ∀ b, S1 b → S2 b → False := by
  constructor
  · rintro ⟨c1, c2, S1, S2, rfl, h1, ⟨c3, c4, S3, S4, rfl, h2, ⟨c5, c6, S5, S6, rfl, ⟨u, rfl, h3⟩, ⟨v, rfl, h4⟩, s5, s6, d⟩, -, s4, -⟩, -, s2, -⟩
    have h1' : c1 = [.int .i64 x.kind] := h1
    have h2' : c3 = [.int .i64 x.tx] := h2
    subst h1' h2'
    exact ⟨u, v, S5, S6, rfl, h3, h4, fun b hb => s2 b (s4 b (s5 b hb)), fun b hb => s2 b (s4 b (s6 b hb)), d⟩
  · rintro ⟨u, v, S1, S2, rfl, h3, h4, s1, s2, d⟩
    exact ⟨_, _, fun _ => False, S, rfl, rfl, ⟨_, _, fun _ => False, S, rfl, rfl, ⟨_, _, S1, S2, rfl, ⟨u, rfl, h3⟩, ⟨v, rfl, h4⟩, s1, s2, d⟩, fun _ h => h.elim, fun _ h => h, fun _ h _ => h⟩, fun _ h => h.elim, fun _ h => h, fun _ h _ => h⟩
theorem disk_own {cs : List Value} {x : Disk} : diskSh.own w S cs x ↔ ∃ u, cs = [u, .int .i64 x.safe] ∧ noteSh.Own 36 w S u x.notes := by
  constructor
  · rintro ⟨c1, c2, S1, S2, rfl, ⟨u, rfl, h3⟩, h2, s1, -, -⟩
    have h2' : c2 = [.int .i64 x.safe] := h2
    subst h2'
    exact ⟨u, rfl, h3.mono s1⟩
  · rintro ⟨u, rfl, h3⟩
    exact ⟨_, _, S, fun _ => False, rfl, ⟨u, rfl, h3⟩, rfl, fun _ h => h, fun _ h => h.elim, fun _ _ h => h⟩
theorem notes_at {xs : List Note} (h : noteSh.Row w B v xs) {k : Nat} (hk : k < xs.length) : ∃ b off c x u u', v = .slice (some ⟨b, off, none⟩) xs.length c ∧ xs[k]? = some x ∧ b < B ∧
    w.cell? ⟨b, off + k * 4, none⟩ = some (.int .i64 x.kind) ∧ w.cell? ⟨b, off + k * 4 + 1, none⟩ = some (.int .i64 x.tx) ∧ w.cell? ⟨b, off + k * 4 + 2, none⟩ = some u ∧ w.cell? ⟨b, off + k * 4 + 3, none⟩ = some u' ∧ strSh.Row w B u x.locks ∧ wrSh.Row w B u' x.writes := by
  obtain ⟨b, off, c, x, cs, hv, hx, hb, hr, hc⟩ := h.at_ hk
  obtain ⟨u, u', rfl, h1, h2⟩ := note_rel.1 hr
  exact ⟨b, off, c, x, u, u', hv, hx, hb, hc 0 _ rfl, hc 1 _ rfl, hc 2 _ rfl, hc 3 _ rfl, h1, h2⟩
end

end Go.Proofs.Ytkamlibfcakblaa

/- From the reading of notes and of a place's notes. -/
namespace Go.Proofs.Ytkamlibfcakblaa
open Go.ChangeShapes Go.WideShapes Go.ChangeAt Go.RowKit Go.Joins Go.Deep

theorem cellsNote : Try.prog.cellsOf 149 = 4 := by kernel_rfl
theorem cellsSlN : Try.prog.cellsOf 59 = 1 := by kernel_rfl
theorem cellsDisk : Try.prog.cellsOf 61 = 2 := by kernel_rfl

section
variable {H : Type} {enc : TypeId × Value → H} {W : World}
theorem reads_note : Reads noteSh 149 W enc := fun fuel cs y h => by
  obtain ⟨y0, y1, y2, y3, n, _, hl, t0, t1, t2, t3⟩ := trod_struct4 Try.underlying149 h
  obtain ⟨c0, c1, c2, c3, rfl⟩ := list4 (hl.trans cellsNote)
  simp only [cellsInt, cellsSlS, cellsSlW] at t0 t1 t2 t3
  obtain ⟨k, e0⟩ := reads_int (enc := enc) Try.underlying3 _ _ _ t0
  obtain ⟨d, e1⟩ := reads_int (enc := enc) Try.underlying3 _ _ _ t1
  obtain ⟨xs, v, e2, h2⟩ := reads_strs (enc := enc) _ _ _ t2
  obtain ⟨ys, u, e3, h3⟩ := reads_wrs (enc := enc) _ _ _ t3
  have e0' : List.take 1 (List.drop 0 [c0, c1, c2, c3]) = [.int .i64 k] := e0
  have e1' : List.take 1 (List.drop 1 [c0, c1, c2, c3]) = [.int .i64 d] := e1
  simp at e0' e1' e2 e3
  subst e0' e1' e2 e3
  exact ⟨⟨k, d, xs, ys⟩, note_rel.2 ⟨_, _, rfl, h2, h3⟩⟩
theorem reads_notes : Reads notesSh 59 W enc := reads_sl Try.underlying59 cellsNote (by decide) reads_note
theorem reads_disk : Reads diskSh 61 W enc := fun fuel cs y h => by
  obtain ⟨y0, y1, n, _, hl, t0, t1⟩ := trod_struct2 Try.underlying61 h
  obtain ⟨c0, c1, rfl⟩ := list2 (hl.trans cellsDisk)
  simp only [cellsInt, cellsSlN] at t0 t1
  obtain ⟨xs, v, e0, h0⟩ := reads_notes (enc := enc) _ _ _ t0
  obtain ⟨k, e1⟩ := reads_int (enc := enc) Try.underlying3 _ _ _ t1
  have e1' : List.take 1 (List.drop 1 [c0, c1]) = [.int .i64 k] := e1
  simp at e0 e1'
  subst e0 e1'
  exact ⟨⟨xs, k⟩, disk_rel.2 ⟨_, rfl, h0⟩⟩
end

end Go.Proofs.Ytkamlibfcakblaa

/- How two names compare: plain facts. Nothing of the program. -/
namespace Go.Proofs.Ytkamlibfcakblaa
open Go.RowKit

theorem cmp_lt : ∀ x y : List UInt8, Op.bytesLess x y = decide (Lib.compareBytes x y < 0)
  | [], [] => by simp [Op.bytesLess, Lib.compareBytes]
  | [], _ :: _ => by simp [Op.bytesLess, Lib.compareBytes]
  | _ :: _, [] => by simp [Op.bytesLess, Lib.compareBytes]
  | a :: x, b :: y => by
    unfold Op.bytesLess Lib.compareBytes
    rw [cmp_lt x y]
    by_cases h : a < b
    · simp [h]
    · by_cases h' : b < a
      · have hne : (a == b) = false := by
          rw [beq_eq_false_iff_ne]
          rintro rfl; exact h h'
        simp [h, h', hne]
      · have he : a = b := by
          have h1 : ¬ a.toNat < b.toNat := by simpa [UInt8.lt_iff_toNat_lt] using h
          have h2 : ¬ b.toNat < a.toNat := by simpa [UInt8.lt_iff_toNat_lt] using h'
          exact UInt8.toNat_inj.1 (by omega)
        subst he
        simp
theorem cmp_zero : ∀ x y : List UInt8, Lib.compareBytes x y = 0 ↔ x = y
  | [], [] => by simp [Lib.compareBytes]
  | [], _ :: _ => by simp [Lib.compareBytes]
  | _ :: _, [] => by simp [Lib.compareBytes]
  | a :: x, b :: y => by
    unfold Lib.compareBytes
    by_cases h : a < b
    · simp [h]
      rintro rfl; exact absurd h (by simp)
    · by_cases h' : b < a
      · simp [h, h']
        rintro rfl; exact absurd h' (by simp)
      · have he : a = b := by
          have h1 : ¬ a.toNat < b.toNat := by simpa [UInt8.lt_iff_toNat_lt] using h
          have h2 : ¬ b.toNat < a.toNat := by simpa [UInt8.lt_iff_toNat_lt] using h'
          exact UInt8.toNat_inj.1 (by omega)
        subst he
        simp [cmp_zero x y]

theorem cmp_trans : ∀ x y z : List UInt8, Lib.compareBytes x y < 0 → Lib.compareBytes y z < 0 → Lib.compareBytes x z < 0
  | [], [], _, h, _ => by simp [Lib.compareBytes] at h
  | _ :: _, [], _, h, _ => by simp [Lib.compareBytes] at h
  | _, _ :: _, [], _, h => by simp [Lib.compareBytes] at h
  | [], _ :: _, _ :: _, _, _ => by simp [Lib.compareBytes]
  | a :: x, b :: y, c :: z, h, h' => by
    unfold Lib.compareBytes at *
    have key : ∀ {u v : UInt8}, ¬ u < v → ¬ v < u → u = v := fun {u v} h1 h2 => by
      have h1' : ¬ u.toNat < v.toNat := by simpa [UInt8.lt_iff_toNat_lt] using h1
      have h2' : ¬ v.toNat < u.toNat := by simpa [UInt8.lt_iff_toNat_lt] using h2
      exact UInt8.toNat_inj.1 (by omega)
    have tr : ∀ {u v w : UInt8}, u < v → v < w → u < w := fun {u v w} h1 h2 => by
      rw [UInt8.lt_iff_toNat_lt] at *; omega
    by_cases ab : a < b
    · by_cases bc : b < c
      · simp [tr ab bc]
      · by_cases cb : c < b
        · rw [if_neg bc, if_pos cb] at h'; exact absurd h' (by decide)
        · have := key bc cb
          subst this
          simp [ab]
    · by_cases ba : b < a
      · rw [if_neg ab, if_pos ba] at h; exact absurd h (by decide)
      · have := key ab ba
        subst this
        rw [if_neg ab, if_neg ba] at h
        by_cases bc : a < c
        · simp [bc]
        · by_cases cb : c < a
          · rw [if_neg bc, if_pos cb] at h'; exact absurd h' (by decide)
          · rw [if_neg bc, if_neg cb] at h' ⊢
            exact cmp_trans x y z h h'

/-- How two names compare: below 0, 0, above 0. -/
def cmpB (a b : ByteArray) : Int := Lib.compareBytes a.data.toList b.data.toList
theorem ltB_cmp (a b : ByteArray) : ltB a b = decide (cmpB a b < 0) := by unfold ltB cmpB; rw [Lib.toList_data, Lib.toList_data, cmp_lt]
theorem cmpB_zero (a b : ByteArray) : cmpB a b = 0 ↔ a = b := by
  unfold cmpB; rw [cmp_zero]
  exact ⟨fun h => Go.WideShapes.bytes_inj h, fun h => by rw [h]⟩
theorem ltB_trans {a b c : ByteArray} (h : ltB a b = true) (h' : ltB b c = true) : ltB a c = true := by
  rw [ltB_cmp, decide_eq_true_iff] at *
  exact cmp_trans _ _ _ h h'
theorem ltB_irrefl (a : ByteArray) : ltB a a = false := by
  rw [ltB_cmp, (cmpB_zero a a).2 rfl]; rfl
theorem eq_toList {a b : ByteArray} : (a.toList == b.toList) = decide (a = b) := by
  rw [Bool.eq_iff_iff, beq_iff_eq, decide_eq_true_iff, Lib.toList_data, Lib.toList_data]
  exact ⟨fun h => Go.WideShapes.bytes_inj h, fun h => by rw [h]⟩

/-- Of a list whose names rise any name is less than any later one. -/
theorem rise_all {its : List Item} (h : Rise its its.length) : ∀ (d i : Nat) (a b : Item), its[i]? = some a → its[i + d + 1]? = some b → ltB a.key b.key = true
  | 0, i, a, b, ha, hb => h i a b (List.getElem?_eq_some_iff.1 hb).1 ha hb
  | d + 1, i, a, b, ha, hb => by
    have hl : i + (d + 1) + 1 < its.length := (List.getElem?_eq_some_iff.1 hb).1
    have hm : its[i + d + 1]? = some its[i + d + 1] := List.getElem?_eq_getElem (by omega)
    exact ltB_trans (rise_all h d i a _ ha hm) (h (i + d + 1) _ b (by omega) hm (by rw [← hb]; congr 1))
theorem rise_lt {its : List Item} (h : Rise its its.length) {i j : Nat} {a b : Item} (hij : i < j) (ha : its[i]? = some a) (hb : its[j]? = some b) : ltB a.key b.key = true :=
  rise_all h (j - i - 1) i a b ha (by rw [← hb]; congr 1; omega)

/-- The first i names are less than key. -/
def Lo (its : List Item) (key : ByteArray) (i : Nat) : Prop := ∀ t a, t < i → its[t]? = some a → ltB a.key key = true
/-- From place j on no name is less than key. -/
def Hi (its : List Item) (key : ByteArray) (j : Nat) : Prop := ∀ t a, j ≤ t → its[t]? = some a → ltB a.key key = false
theorem Lo.start (its : List Item) (key : ByteArray) : Lo its key 0 := fun t _ h => absurd h (by omega)
theorem Hi.start (its : List Item) (key : ByteArray) : Hi its key its.length := fun t a h ha => by
  have := (List.getElem?_eq_some_iff.1 ha).1
  omega
theorem Lo.mid {its : List Item} {key : ByteArray} (hr : Rise its its.length) {h : Nat} {x : Item} (hx : its[h]? = some x) (hl : ltB x.key key = true) : Lo its key (h + 1) := by
  intro t a ht ha
  rcases Nat.lt_or_ge t h with hlt | hge
  · exact ltB_trans (rise_lt hr hlt ha hx) hl
  · have : t = h := by omega
    subst this
    rw [hx] at ha
    injection ha with ha
    rw [← ha]; exact hl
theorem Hi.mid {its : List Item} {key : ByteArray} (hr : Rise its its.length) {h : Nat} {x : Item} (hx : its[h]? = some x) (hl : ltB x.key key = false) : Hi its key h := by
  intro t a ht ha
  cases hc : ltB a.key key with
  | false => rfl
  | true =>
    rcases Nat.lt_or_ge h t with hlt | hge
    · have := ltB_trans (rise_lt hr hlt hx ha) hc
      rw [hl] at this; exact absurd this (by decide)
    · have : t = h := by omega
      subst this
      rw [hx] at ha
      injection ha with ha
      rw [← ha, hl] at hc; exact absurd hc (by decide)

/-- The thing of a name, if it is kept. -/
def look (its : List Item) (key : ByteArray) : Option Item := its.find? fun it => decide (it.key = key)
theorem look_at {its : List Item} {key : ByteArray} (hr : Rise its its.length) {i : Nat} {x : Item} (hx : its[i]? = some x) (hk : x.key = key) : look its key = some x := by
  unfold look
  rw [List.find?_eq_some_iff_getElem]
  have hl := (List.getElem?_eq_some_iff.1 hx).1
  refine ⟨by simpa using hk, i, hl, by rw [List.getElem?_eq_getElem hl] at hx; exact Option.some.inj hx, fun j hj => ?_⟩
  have := rise_lt hr hj (List.getElem?_eq_getElem (by omega)) hx
  simp only [Bool.not_eq_eq_eq_not, Bool.not_true, decide_eq_false_iff_not]
  intro he
  rw [he, ← hk, ltB_irrefl] at this
  exact absurd this (by decide)
theorem look_none {its : List Item} {key : ByteArray} {i : Nat} (hlo : Lo its key i) (hhi : Hi its key i) (hr : Rise its its.length) (hn : ∀ x, its[i]? = some x → x.key ≠ key) : look its key = none := by
  unfold look
  rw [List.find?_eq_none]
  intro x hx
  obtain ⟨t, ht, rfl⟩ := List.getElem_of_mem hx
  simp only [decide_eq_true_eq]
  intro he
  have hg := List.getElem?_eq_getElem ht
  rcases Nat.lt_trichotomy t i with h | h | h
  · have := hlo t _ h hg
    rw [he, ltB_irrefl] at this; exact absurd this (by decide)
  · subst h
    exact hn _ hg he
  · have hil : i < its.length := by omega
    have hi := List.getElem?_eq_getElem hil
    have h1 := rise_lt hr h hi hg
    rw [he, hhi i _ (Nat.le_refl _) hi] at h1; exact absurd h1 (by decide)

/-- Whether the thing at a place has that name. -/
def hitB (its : List Item) (key : ByteArray) (i : Nat) : Bool := match its[i]? with
  | some x => decide (x.key = key)
  | none => false
theorem hitB_cmp {its : List Item} {key : ByteArray} {i : Nat} {x : Item} (hx : its[i]? = some x) : hitB its key i = (cmpB x.key key == 0) := by
  simp only [hitB, hx]
  rw [Bool.eq_iff_iff, decide_eq_true_iff, beq_iff_eq]
  exact (cmpB_zero _ _).symm
theorem hitB_end {its : List Item} {key : ByteArray} {i : Nat} (h : its.length ≤ i) : hitB its key i = false := by
  simp only [hitB, List.getElem?_eq_none h]
theorem look_hit {its : List Item} {key : ByteArray} (hr : Rise its its.length) {i : Nat} {x : Item} (hx : its[i]? = some x) (hh : hitB its key i = true) : look its key = some x := by
  simp only [hitB, hx, decide_eq_true_eq] at hh
  exact look_at hr hx hh
theorem look_miss {its : List Item} {key : ByteArray} {i : Nat} (hlo : Lo its key i) (hhi : Hi its key i) (hr : Rise its its.length) (hh : hitB its key i = false) : look its key = none :=
  look_none hlo hhi hr fun x hx he => by simp [hitB, hx, he] at hh

end Go.Proofs.Ytkamlibfcakblaa

/- Notes that are ok: plain facts. Nothing of the program. -/
namespace Go.Proofs.Ytkamlibfcakblaa

/-- Of the first k each is one. -/
def AllTo {α : Type} (p : α → Bool) (xs : List α) (k : Nat) : Prop := ∀ j x, j < k → xs[j]? = some x → p x = true
section
variable {α : Type} {p : α → Bool} {xs : List α} {k : Nat} {x : α}
theorem AllTo.start (p : α → Bool) (xs : List α) : AllTo p xs 0 := fun j _ h => absurd h (by omega)
theorem AllTo.step (h : AllTo p xs k) (hx : xs[k]? = some x) (e : p x = true) : AllTo p xs (k + 1) := by
  intro j y hj hy
  rcases Nat.lt_or_ge j k with hlt | hge
  · exact h j y hlt hy
  · have : j = k := by omega
    subst this
    rw [hx] at hy
    injection hy with hy
    rw [← hy]; exact e
theorem AllTo.all (h : AllTo p xs xs.length) : xs.all p = true := by
  rw [List.all_eq_true]
  intro x hx
  obtain ⟨j, hj, rfl⟩ := List.getElem_of_mem hx
  exact h j _ hj (List.getElem?_eq_getElem hj)
theorem all_bad (hx : xs[k]? = some x) (e : p x = false) : xs.all p = false := by
  rw [List.all_eq_false]
  exact ⟨x, List.mem_of_getElem? hx, by simp [e]⟩
theorem all_at (h : xs.all p = true) (hx : xs[k]? = some x) : p x = true := List.all_eq_true.1 h x (List.mem_of_getElem? hx)
end

/-- Whether a name is one of some. -/
def hasB (l : List ByteArray) (s : ByteArray) : Bool := l.any fun k => decide (k = s)
/-- The first k are other ones. -/
def Miss (l : List ByteArray) (s : ByteArray) (k : Nat) : Prop := ∀ j x, j < k → l[j]? = some x → x ≠ s
theorem Miss.start (l : List ByteArray) (s : ByteArray) : Miss l s 0 := fun j _ h => absurd h (by omega)
theorem Miss.step {l : List ByteArray} {s x : ByteArray} {k : Nat} (h : Miss l s k) (hx : l[k]? = some x) (hn : x ≠ s) : Miss l s (k + 1) := by
  intro j y hj hy
  rcases Nat.lt_or_ge j k with hlt | hge
  · exact h j y hlt hy
  · have : j = k := by omega
    subst this
    rw [hx] at hy
    injection hy with hy
    rw [← hy]; exact hn
theorem hasB_yes {l : List ByteArray} {s : ByteArray} {k : Nat} (hx : l[k]? = some s) : hasB l s = true := by
  unfold hasB; rw [List.any_eq_true]; exact ⟨s, List.mem_of_getElem? hx, by simp⟩
theorem hasB_no {l : List ByteArray} {s : ByteArray} (h : Miss l s l.length) : hasB l s = false := by
  unfold hasB; rw [List.any_eq_false]
  intro x hx
  obtain ⟨j, hj, rfl⟩ := List.getElem_of_mem hx
  simpa using h j _ hj (List.getElem?_eq_getElem hj)

def locksB (l : List ByteArray) : Bool := decide (l.length ≤ 12) && l.all keyB
def lwB (locks : List ByteArray) (x : Wr) : Bool := x.ok && hasB locks x.key
def wrsB (locks : List ByteArray) (ws : List Wr) : Bool := decide (ws.length ≤ 12) && ws.all (lwB locks)
/-- A note that is ok. -/
def noteB (n : Note) : Bool := inB n.tx 0 29 && if n.kind = 1 then locksB n.locks && wrsB n.locks n.writes else inB n.kind 2 4 && (decide (n.locks.length = 0) && decide (n.writes.length = 0))
theorem locksB_bad {l : List ByteArray} {k : Nat} {x : ByteArray} (hx : l[k]? = some x) (e : keyB x = false) : locksB l = false := by unfold locksB; rw [all_bad hx e, Bool.and_false]
theorem locksB_all {l : List ByteArray} (h : AllTo keyB l l.length) : locksB l = decide (l.length ≤ 12) := by unfold locksB; rw [h.all, Bool.and_true]
theorem wrsB_bad {locks : List ByteArray} {ws : List Wr} {k : Nat} {x : Wr} (hx : ws[k]? = some x) (e : lwB locks x = false) : wrsB locks ws = false := by unfold wrsB; rw [all_bad hx e, Bool.and_false]
theorem wrsB_all {locks : List ByteArray} {ws : List Wr} (h : AllTo (lwB locks) ws ws.length) : wrsB locks ws = decide (ws.length ≤ 12) := by unfold wrsB; rw [h.all, Bool.and_true]
theorem lwB_ok {locks : List ByteArray} {x : Wr} (h : x.ok = false) : lwB locks x = false := by unfold lwB; rw [h]; rfl
theorem lwB_has {locks : List ByteArray} {x : Wr} (h : x.ok = true) : lwB locks x = hasB locks x.key := by unfold lwB; rw [h]; rfl
theorem noteB_tx {n : Note} (h : inB n.tx 0 29 = false) : noteB n = false := by unfold noteB; rw [h]; rfl
theorem noteB_ready {n : Note} (h : inB n.tx 0 29 = true) (hk : n.kind = 1) : noteB n = (locksB n.locks && wrsB n.locks n.writes) := by unfold noteB; rw [h, if_pos hk]; rfl
theorem noteB_other {n : Note} (h : inB n.tx 0 29 = true) (hk : n.kind ≠ 1) : noteB n = (inB n.kind 2 4 && (decide (n.locks.length = 0) && decide (n.writes.length = 0))) := by unfold noteB; rw [h, if_neg hk]; rfl
theorem noteB_kind {n : Note} (h : n.kind < 1 ∨ 4 < n.kind) : noteB n = false := by
  unfold noteB
  rw [if_neg (by omega), inB_no (n := n.kind) (by omega)]
  simp
/-- A place's notes that are ok. -/
def diskB (d : Disk) : Bool := decide (d.notes.length ≤ 120) && (inB d.safe 0 d.notes.length && d.notes.all noteB)
theorem diskB_long {d : Disk} (h : 120 < d.notes.length) : diskB d = false := by unfold diskB; rw [show decide (d.notes.length ≤ 120) = false by simp; omega]; rfl
theorem diskB_safe {d : Disk} (h : inB d.safe 0 d.notes.length = false) : diskB d = false := by unfold diskB; rw [h]; simp
theorem diskB_bad {d : Disk} {k : Nat} {x : Note} (hx : d.notes[k]? = some x) (e : noteB x = false) : diskB d = false := by unfold diskB; rw [all_bad hx e]; simp
theorem diskB_yes {d : Disk} (h1 : d.notes.length ≤ 120) (h2 : inB d.safe 0 d.notes.length = true) (h3 : AllTo noteB d.notes d.notes.length) : diskB d = true := by unfold diskB; rw [h2, h3.all]; simp [h1]
theorem diskB_parts {d : Disk} (h : diskB d = true) : d.notes.length ≤ 120 ∧ 0 ≤ d.safe ∧ d.safe ≤ d.notes.length ∧ d.notes.all noteB = true := by
  unfold diskB inB at h
  simp only [Bool.and_eq_true, decide_eq_true_eq] at h
  exact ⟨h.1, h.2.1.1, h.2.1.2, h.2.2⟩

end Go.Proofs.Ytkamlibfcakblaa

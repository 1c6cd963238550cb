/- Texts that follow each other, merged: FrameRow, ShapesLog, FrameSh, HStr. -/
import Derived.Test.YtllmmhibmgpehaaXItems
import Derived.Test.YtllmmhibmgpehaaXMark
import Derived.Deep.Strs
import Derived.Test.YtllmmhibmgpehaaXKey

/- From the reading of an argument to the words of shapes: rows, records, writes. -/
namespace Go.Proofs.Ytllmmhibmgpehaa
open Go.ChangeShapes Go.WideShapes Go.ChangeAt Go.RowKit Go.Joins Go.Deep

/-- Cells of a type that came in read as something of a shape. -/
def Reads {α : Type} (A : Sh α) (t : TypeId) (W : World) {H : Type} (enc : TypeId × Value → H) : Prop :=
  ∀ (fuel : Nat) (cs : List Value) (y : DataW H × List MemPlace), DataW.trod enc Try.prog W 0 (fun _ => true) true fuel t cs = some y → ∃ x, A.rel W W.heap.size cs x

section
variable {α : Type} {A : Sh α} {H : Type} {enc : TypeId × Value → H} {W : World}
theorem reads_int {t : TypeId} (ht : Try.prog.underlying t = some (.int .i64)) : Reads Sh.int t W enc := fun fuel cs y h => by
  obtain ⟨n, hcs, _⟩ := DataW.trod_int ht h
  exact ⟨n, hcs⟩
theorem reads_bool {t : TypeId} (ht : Try.prog.underlying t = some .bool) : Reads Sh.bool t W enc := fun fuel cs y h => by
  obtain ⟨n, hcs, _⟩ := DataW.trod_bool ht h
  exact ⟨n, hcs⟩
theorem reads_str {t : TypeId} (ht : Try.prog.underlying t = some .string) : Reads strSh t W enc := fun fuel cs y h => by
  obtain ⟨s, hcs, _, hs⟩ := DataW.trod_string ht h
  exact ⟨s, hcs, hs⟩
theorem reads_row {t e : TypeId} (ht : Try.prog.underlying t = some (.slice e)) (hc : Try.prog.cellsOf e = A.wd) (hwd : 0 < A.wd) (hA : Reads A e W enc) {fuel : Nat} {cs : List Value} {y : DataW H × List MemPlace}
    (h : DataW.trod enc Try.prog W 0 (fun _ => true) true fuel t cs = some y) : ∃ v xs, cs = [v] ∧ A.Row W W.heap.size v xs := by
  rcases open_slice ht h with ⟨hcs, _⟩ | ⟨a, len, cap, m, n, D, Pl, hcs, _, hl, hm, hmm, _, hi⟩
  · exact ⟨_, [], hcs, Sh.Row.nil _ _⟩
  · have hmc : m = cap := by simpa using hmm
    rw [hc] at hi
    have hat : ∀ i, i < len → ∃ x : α, ∃ cs', A.rel W W.heap.size cs' x ∧ ∀ j u, cs'[j]? = some u → W.cell? ((a.add (i * A.wd)).add j) = some u := by
      intro i hil
      obtain ⟨cs', hcc, ht'⟩ := hi i (by omega)
      obtain ⟨x, hx⟩ := hA _ _ _ ht'
      obtain ⟨_, hcl, hcell⟩ := World.cells?_some hcc
      refine ⟨x, cs', hx, fun j u hu => ?_⟩
      have hj : j < A.wd := by have := (List.getElem?_eq_some_iff.1 hu).1; omega
      rw [hcell j hj, hu]
    obtain ⟨xs, hlen, hq⟩ := listOf len hat
    refine ⟨_, xs, hcs, some a, cap, by rw [hlen], by omega, hm, fun hp => ?_⟩
    obtain ⟨cs0, hr0, hc0⟩ := hq 0 _ (List.getElem?_eq_getElem hp)
    have hl0 : 0 < cs0.length := by rw [A.rlen hr0]; exact hwd
    have h0 := hc0 0 _ (List.getElem?_eq_getElem hl0)
    obtain ⟨b, off, spot⟩ := a
    have hspot : spot = none := by
      have := World.cell?_spot h0
      simpa [Addr.add] using this
    subst hspot
    have hb : b < W.heap.size := cellLt (o := off) (by simpa [Addr.add] using h0)
    refine ⟨b, off, rfl, hb, fun j x hx => ?_⟩
    obtain ⟨cs', hr, hcell⟩ := hq j x hx
    refine ⟨cs', hr, fun i u hu => ?_⟩
    have := hcell i u hu
    rwa [add_none, add_none] at this
theorem reads_sl {t e tid : TypeId} {hb : A.base ≤ 16} (ht : Try.prog.underlying t = some (.slice e)) (hc : Try.prog.cellsOf e = A.wd) (hwd : 0 < A.wd) (hA : Reads A e W enc) : Reads (A.sl tid hb) t W enc := fun fuel cs y h => by
  obtain ⟨v, xs, h1, h2⟩ := reads_row ht hc hwd hA h
  exact ⟨xs, v, h1, h2⟩
end

theorem list3 {α : Type} {l : List α} (h : l.length = 3) : ∃ a b c, l = [a, b, c] := by
  match l, h with
  | [a, b, c], _ => exact ⟨a, b, c, rfl⟩
theorem list4 {α : Type} {l : List α} (h : l.length = 4) : ∃ a b c d, l = [a, b, c, d] := by
  match l, h with
  | [a, b, c, d], _ => exact ⟨a, b, c, d, rfl⟩

theorem cellsBool : Try.prog.cellsOf 4 = 1 := by kernel_rfl
theorem cellsSlS : Try.prog.cellsOf 23 = 1 := by kernel_rfl
theorem cellsWr : Try.prog.cellsOf 128 = 3 := by kernel_rfl
theorem cellsSlW : Try.prog.cellsOf 38 = 1 := by kernel_rfl

section
variable {H : Type} {enc : TypeId × Value → H} {W : World}
theorem reads_ints : Reads intsSh 31 W enc := reads_sl Try.underlying31 cellsInt (by decide) (reads_int Try.underlying3)
theorem reads_strs : Reads strsSh 23 W enc := reads_sl Try.underlying23 cellsStr (by decide) (reads_str Try.underlying9)
theorem reads_wr : Reads wrSh 128 W enc := fun fuel cs y h => by
  obtain ⟨y0, y1, y2, n, _, hl, t0, t1, t2⟩ := trod_struct3 Try.underlying128 h
  obtain ⟨c0, c1, c2, rfl⟩ := list3 (hl.trans cellsWr)
  simp only [cellsStr, cellsBool, cellsSl] at t0 t1 t2
  obtain ⟨k, e0, hk⟩ := reads_str (enc := enc) Try.underlying9 _ _ _ t0
  obtain ⟨d, e1⟩ := reads_bool (enc := enc) Try.underlying4 _ _ _ t1
  obtain ⟨xs, v, e2, h2⟩ := reads_ints (enc := enc) _ _ _ t2
  have e1' : List.take 1 (List.drop 1 [c0, c1, c2]) = [.bool d] := e1
  simp at e0 e1' e2
  subst e0 e1' e2
  exact ⟨⟨k, d, xs⟩, wr_rel.2 ⟨_, rfl, hk, h2⟩⟩
theorem reads_wrs : Reads wrsSh 38 W enc := reads_sl Try.underlying38 cellsWr (by decide) reads_wr
set_option maxRecDepth 100000 in
/-- A record by value. -/
theorem readsAg {α : Type} {A : Sh α} {t : TypeId} {fs : Array Field} (ht : Try.prog.underlying t = some (.struct fs)) (hA : Reads A t W enc) {b0 : Nat} {v : Value} {d : DataW H} {p : List MemPlace}
    (hv : Value.okWide Try.prog W .any b0 t v) (h : DataW.Trod enc Try.prog W 0 (fun _ => true) true t v d p) : ∃ cs x, v = .agg (List.toArray cs) ∧ A.rel W W.heap.size cs x := by
  obtain ⟨cs, rfl, hsz⟩ := okWide_struct ht hv
  obtain ⟨fuel, hf⟩ := h
  obtain ⟨l⟩ := cs
  obtain ⟨x, hx⟩ := hA _ _ _ hf
  exact ⟨l, x, rfl, by simpa [Value.cells] using hx⟩
end

end Go.Proofs.Ytllmmhibmgpehaa

/- The shapes of notes and of a place's notes. -/
namespace Go.Proofs.Ytllmmhibmgpehaa
open Go.RowKit

/-- A note: its kind, whose it is, the names that it holds, what it writes. -/
structure Note where
  kind : Int
  tx : Int
  locks : List ByteArray
  writes : List Wr
def noteSh : Sh Note := (Sh.int.pair (Sh.int.pair (strsSh.pair wrsSh))).conv (fun x => (x.kind, x.tx, x.locks, x.writes)) (fun p => ⟨p.1, p.2.1, p.2.2.1, p.2.2.2⟩) rfl
abbrev notesSh : Sh (List Note) := noteSh.sl 26 (by decide)
/-- A place's notes, and how many are safe. -/
structure Disk where
  notes : List Note
  safe : Int
def diskSh : Sh Disk := (notesSh.pair Sh.int).conv (fun x => (x.notes, x.safe)) (fun p => ⟨p.1, p.2⟩) rfl

section
variable {w : World} {B : Nat} {S : Nat → Prop} {v : Value}
theorem note_rel {cs : List Value} {x : Note} : noteSh.rel w B cs x ↔ ∃ u v, cs = [.int .i64 x.kind, .int .i64 x.tx, u, v] ∧ strSh.Row w B u x.locks ∧ wrSh.Row w B v x.writes := by
  constructor
  · rintro ⟨c1, c2, rfl, h1, c3, c4, rfl, h2, c5, c6, rfl, ⟨u, rfl, h3⟩, v, rfl, h4⟩
    have h1' : c1 = [.int .i64 x.kind] := h1
    have h2' : c3 = [.int .i64 x.tx] := h2
    subst h1' h2'
    exact ⟨u, v, rfl, h3, h4⟩
  · rintro ⟨u, v, rfl, h3, h4⟩
    exact ⟨_, _, rfl, rfl, _, _, rfl, rfl, _, _, rfl, ⟨u, rfl, h3⟩, v, rfl, h4⟩
theorem disk_rel {cs : List Value} {x : Disk} : diskSh.rel w B cs x ↔ ∃ u, cs = [u, .int .i64 x.safe] ∧ noteSh.Row w B u x.notes := by
  constructor
  · rintro ⟨c1, c2, rfl, ⟨u, rfl, h3⟩, h2⟩
    have h2' : c2 = [.int .i64 x.safe] := h2
    subst h2'
    exact ⟨u, rfl, h3⟩
  · rintro ⟨u, rfl, h3⟩
    exact ⟨_, _, rfl, ⟨u, rfl, h3⟩, rfl⟩
theorem note_own {cs : List Value} {x : Note} : noteSh.own w S cs x ↔ ∃ u v S1 S2, cs = [.int .i64 x.kind, .int .i64 x.tx, u, v] ∧ strSh.Own 9 w S1 u x.locks ∧ wrSh.Own 33 w S2 v x.writes ∧ (∀ b, S1 b → S b) ∧ (∀ b, S2 b → S b) ∧ ∀ b, S1 b → S2 b → False := by
  constructor
  · rintro ⟨c1, c2, S1, S2, rfl, h1, ⟨c3, c4, S3, S4, rfl, h2, ⟨c5, c6, S5, S6, rfl, ⟨u, rfl, h3⟩, ⟨v, rfl, h4⟩, s5, s6, d⟩, -, s4, -⟩, -, s2, -⟩
    have h1' : c1 = [.int .i64 x.kind] := h1
    have h2' : c3 = [.int .i64 x.tx] := h2
    subst h1' h2'
    exact ⟨u, v, S5, S6, rfl, h3, h4, fun b hb => s2 b (s4 b (s5 b hb)), fun b hb => s2 b (s4 b (s6 b hb)), d⟩
  · rintro ⟨u, v, S1, S2, rfl, h3, h4, s1, s2, d⟩
    exact ⟨_, _, fun _ => False, S, rfl, rfl, ⟨_, _, fun _ => False, S, rfl, rfl, ⟨_, _, S1, S2, rfl, ⟨u, rfl, h3⟩, ⟨v, rfl, h4⟩, s1, s2, d⟩, fun _ h => h.elim, fun _ h => h, fun _ h _ => h⟩, fun _ h => h.elim, fun _ h => h, fun _ h _ => h⟩
theorem disk_own {cs : List Value} {x : Disk} : diskSh.own w S cs x ↔ ∃ u, cs = [u, .int .i64 x.safe] ∧ noteSh.Own 26 w S u x.notes := by
  constructor
  · rintro ⟨c1, c2, S1, S2, rfl, ⟨u, rfl, h3⟩, h2, s1, -, -⟩
    have h2' : c2 = [.int .i64 x.safe] := h2
    subst h2'
    exact ⟨u, rfl, h3.mono s1⟩
  · rintro ⟨u, rfl, h3⟩
    exact ⟨_, _, S, fun _ => False, rfl, ⟨u, rfl, h3⟩, rfl, fun _ h => h, fun _ h => h.elim, fun _ _ h => h⟩
theorem notes_at {xs : List Note} (h : noteSh.Row w B v xs) {k : Nat} (hk : k < xs.length) : ∃ b off c x u u', v = .slice (some ⟨b, off, none⟩) xs.length c ∧ xs[k]? = some x ∧ b < B ∧
    w.cell? ⟨b, off + k * 4, none⟩ = some (.int .i64 x.kind) ∧ w.cell? ⟨b, off + k * 4 + 1, none⟩ = some (.int .i64 x.tx) ∧ w.cell? ⟨b, off + k * 4 + 2, none⟩ = some u ∧ w.cell? ⟨b, off + k * 4 + 3, none⟩ = some u' ∧ strSh.Row w B u x.locks ∧ wrSh.Row w B u' x.writes := by
  obtain ⟨b, off, c, x, cs, hv, hx, hb, hr, hc⟩ := h.at_ hk
  obtain ⟨u, u', rfl, h1, h2⟩ := note_rel.1 hr
  exact ⟨b, off, c, x, u, u', hv, hx, hb, hc 0 _ rfl, hc 1 _ rfl, hc 2 _ rfl, hc 3 _ rfl, h1, h2⟩
end

end Go.Proofs.Ytllmmhibmgpehaa

/- From the reading of notes and of a place's notes. -/
namespace Go.Proofs.Ytllmmhibmgpehaa
open Go.ChangeShapes Go.WideShapes Go.ChangeAt Go.RowKit Go.Joins Go.Deep

theorem cellsNote : Try.prog.cellsOf 40 = 4 := by kernel_rfl
theorem cellsSlN : Try.prog.cellsOf 35 = 1 := by kernel_rfl
theorem cellsDisk : Try.prog.cellsOf 37 = 2 := by kernel_rfl

section
variable {H : Type} {enc : TypeId × Value → H} {W : World}
theorem reads_note : Reads noteSh 40 W enc := fun fuel cs y h => by
  obtain ⟨y0, y1, y2, y3, n, _, hl, t0, t1, t2, t3⟩ := trod_struct4 Try.underlying40 h
  obtain ⟨c0, c1, c2, c3, rfl⟩ := list4 (hl.trans cellsNote)
  simp only [cellsInt, cellsSlS, cellsSlW] at t0 t1 t2 t3
  obtain ⟨k, e0⟩ := reads_int (enc := enc) Try.underlying3 _ _ _ t0
  obtain ⟨d, e1⟩ := reads_int (enc := enc) Try.underlying3 _ _ _ t1
  obtain ⟨xs, v, e2, h2⟩ := reads_strs (enc := enc) _ _ _ t2
  obtain ⟨ys, u, e3, h3⟩ := reads_wrs (enc := enc) _ _ _ t3
  have e0' : List.take 1 (List.drop 0 [c0, c1, c2, c3]) = [.int .i64 k] := e0
  have e1' : List.take 1 (List.drop 1 [c0, c1, c2, c3]) = [.int .i64 d] := e1
  simp at e0' e1' e2 e3
  subst e0' e1' e2 e3
  exact ⟨⟨k, d, xs, ys⟩, note_rel.2 ⟨_, _, rfl, h2, h3⟩⟩
theorem reads_notes : Reads notesSh 35 W enc := reads_sl Try.underlying35 cellsNote (by decide) reads_note
theorem reads_disk : Reads diskSh 37 W enc := fun fuel cs y h => by
  obtain ⟨y0, y1, n, _, hl, t0, t1⟩ := trod_struct2 Try.underlying37 h
  obtain ⟨c0, c1, rfl⟩ := list2 (hl.trans cellsDisk)
  simp only [cellsInt, cellsSlN] at t0 t1
  obtain ⟨xs, v, e0, h0⟩ := reads_notes (enc := enc) _ _ _ t0
  obtain ⟨k, e1⟩ := reads_int (enc := enc) Try.underlying3 _ _ _ t1
  have e1' : List.take 1 (List.drop 1 [c0, c1]) = [.int .i64 k] := e1
  simp at e0 e1'
  subst e0 e1'
  exact ⟨⟨xs, k⟩, disk_rel.2 ⟨_, rfl, h0⟩⟩
end

end Go.Proofs.Ytllmmhibmgpehaa

/- The helpers of the exact laws over texts: a count, a copy, a comparison, marks. -/
namespace Go.Proofs.Ytllmmhibmgpehaa
open Go.RowKit

theorem wtL_eq {α : Type} (f : α → Nat) (xs : List α) : wtL f xs = xs.length + cntL f xs := by
  induction xs with
  | nil => rfl
  | cons x l ih => simp only [wtL, cntL, List.length_cons, ih]; omega
theorem wtInts (xs : List Int) : ((intsSh.wt xs : Nat) : Int) = (xs.length : Int) := by
  have h : intsSh.wt xs = xs.length := by
    show wtL (fun _ => 0) xs = xs.length
    induction xs with
    | nil => rfl
    | cons x l ih => simp only [wtL, List.length_cons, ih]; omega
  rw [h]
theorem less_low {left n : Int} (h0 : 0 ≤ left) (hn : 0 ≤ n) : -1 ≤ less left n ∧ less left n ≤ left := by unfold less; split <;> omega
theorem less_ge {left n : Int} (h : 0 ≤ less left n) : n ≤ left := by unfold less at h; split at h <;> omega

/-- What a count leaves. -/
def Sized (left : Int) (n : Nat) (w : World) (e : Ending) (w' : World) : Prop := e = .returned (.int .i64 (less left n)) ∧ Below w.heap.size w w'
/-- What a copy of a slice leaves: one of its own, in new blocks. -/
def CopiedSl {α : Type} (A : Sh α) (t : TypeId) (xs : List α) (w : World) (e : Ending) (w' : World) : Prop :=
  ∃ v, e = .returned v ∧ A.Own t w' (fun b => w.heap.size ≤ b ∧ b < w'.heap.size) v xs ∧ Below w.heap.size w w'
/-- What a copy of a record leaves. -/
def CopiedAg {α : Type} (A : Sh α) (x : α) (w : World) (e : Ending) (w' : World) : Prop :=
  ∃ cs, e = .returned (.agg (List.toArray cs)) ∧ A.own w' (fun b => w.heap.size ≤ b ∧ b < w'.heap.size) cs x ∧ Below w.heap.size w w'
/-- What a comparison of what is the same leaves. -/
def Alike (w : World) (e : Ending) (w' : World) : Prop := e = .returned (.bool true) ∧ Below w.heap.size w w'
/-- What marking a slice of its own leaves. -/
def MarkedSl {α : Type} (A : Sh α) (t : TypeId) (S : Nat → Prop) (v : Value) (xs : List α) (k : Int) (w : World) (e : Ending) (w' : World) : Prop :=
  ∃ xs' : List α, e = .returned (.int .i64 (k + cntL A.cnt xs)) ∧ xs'.length = xs.length ∧ cntL A.cnt xs' = cntL A.cnt xs ∧ mkdL A.cnt A.mkd k xs' ∧ A.Own t w' S v xs' ∧ Outs S w w'

/-- Numbers: the same words. -/
theorem szIntS_sh (w : World) (B : Nat) (v : Value) (xs : List Int) (hv : Sh.int.Row w B v xs) (left : Int) (h0 : 0 ≤ left) (h1 : left ≤ 1048576) :
    Calls Try.prog 136 #[v, .int .i64 left] w (Sized left (intsSh.wt xs) w) :=
  (szIntS_any w B v xs (ints_row.1 hv) left h0 h1).mono fun e w' ⟨h1, h2⟩ => ⟨by rw [h1, wtInts], h2 ▸ Below.refl _ _⟩
theorem ints_own {w : World} {g : Nat} {xs : List Int} (h : w.rowIs g 3 xs.length fun j => .int .i64 (nth xs j)) (hl : xs.length ≤ maxLen) :
    Sh.int.Own 3 w (fun b => b = g) (.slice (some ⟨g, 0, none⟩) xs.length xs.length) xs := by
  obtain ⟨cs, hb, hn, hc⟩ := h
  refine ⟨fun j => [.int .i64 (nth xs j)], fun _ _ => False, ⟨by rw [flat_len (d := 1) (fun _ _ => rfl)]; rfl, .inr ⟨g, xs.length, cs, rfl, Nat.zero_le _, hb, Nat.le_refl _, hl, by rw [hn]; exact (Nat.mul_one _).symm, ?_⟩⟩, fun q hq => (Option.some.inj hq).symm, fun j x hx => ⟨?_, fun _ h => h.elim⟩, fun i j b _ _ h => h.elim⟩
  · refine flat_ext (d := 1) (fun _ _ => rfl) ?_ fun j i hj hi => ?_
    · show (List.take (xs.length * 1) cs.toList).length = xs.length * 1
      have hn' : cs.toList.length = xs.length := by rw [Array.length_toList]; exact hn
      rw [List.length_take, hn']; omega
    · have hi0 : i = 0 := by omega
      subst hi0
      show (List.take (xs.length * 1) cs.toList)[j * 1 + 0]? = _
      rw [List.getElem?_take, if_pos (by omega), Array.getElem?_toList, Nat.mul_one, Nat.add_zero, hc j hj]
      rfl
  · have hj := (List.getElem?_eq_some_iff.1 hx)
    obtain ⟨hj, rfl⟩ := hj
    show [Value.int .i64 (nth xs j)] = [.int .i64 xs[j]]
    rw [nth_get hj]
theorem toIntS_sh (w : World) (v : Value) (xs : List Int) (hv : Sh.int.Row w w.heap.size v xs) (hl : xs.length ≤ 1048576) :
    Calls Try.prog 137 #[v] w (CopiedSl Sh.int 3 xs w) :=
  (toIntS_any w v xs (ints_row.1 hv) hl).mono fun e w' ⟨h1, h2, h3, h4⟩ => ⟨_, h1, (ints_own h2 (by unfold maxLen; omega)).mono fun b hb => ⟨by omega, by omega⟩, h3⟩
theorem eqIntS_same (w : World) (B : Nat) (v u : Value) (xs : List Int) (hv : Sh.int.Row w B v xs) (hu : Sh.int.Row w B u xs) :
    Calls Try.prog 39 #[v, u] w (Alike w) :=
  (eqIntS_any w B v u xs xs (ints_row.1 hv) (ints_row.1 hu)).mono fun e w' ⟨h1, n, h2⟩ => ⟨by rw [h1]; simp, h2 ▸ belowDraws (Below.refl _ _) n⟩

theorem infoStr : (Try.prog.info? 9).map (fun i => (i.zero, i.size, i.bytes)) = some (some (.string ByteArray.empty), 1, 16) := by kernel_rfl

theorem szStringS_sh (w : World) (B : Nat) (v : Value) (xs : List ByteArray) (hv : strSh.Row w B v xs) (left : Int) (h0 : 0 ≤ left) (h1 : left ≤ 1048576) :
    Calls Try.prog 72 #[v, .int .i64 left] w (Sized left (strsSh.wt xs) w) := by
  obtain ⟨A, c, rfl, hc2, hc1⟩ := hv.form
  unfold maxLen at hc2
  have HW := Lib.hid (show strsSh.wt xs = xs.length + cntL ByteArray.size xs from wtL_eq _ _)
  by_cases h : left < (xs.length : Int)
  · have HL := Lib.hid (less_no (left := left) (n := (strsSh.wt xs : Int)) (by rw [HW.out]; omega))
    clear hv
    go_enter Try.func72, Try.ntmps72
    go_wp2
    go_ret
    exact ⟨ret_int HL.out.symm, Below.refl _ _⟩
  · have h2 : (xs.length : Int) ≤ left := by omega
    clear h
    go_enter Try.func72, Try.ntmps72
    go_wp2
    go_loop [1, 5] (fun l i => ∃ (k : Nat) (r : Int), k ≤ xs.length ∧ i = .int .i64 k ∧ l = .int .i64 r ∧ 0 ≤ r ∧ r = left - xs.length - cntL ByteArray.size (xs.take k)) (fun _ i => xs.length - (intOf i).toNat)
    case atStart => exact ⟨0, _, Nat.zero_le _, rfl, rfl, by omega, by simp [cntL]⟩
    case round =>
      obtain ⟨k, r, hk, rfl, rfl, hr0, hr⟩ := hrel
      have HR := Lib.hid hr
      have hrl : r ≤ left := by omega
      clear hr
      by_cases hlt : k < xs.length
      · obtain ⟨b, off, c', x, e1, hx, hB, hs, ck⟩ := strs_at hv hlt
        injection e1 with e1a e1b e1c
        subst e1a
        unfold maxLen at hs
        have HC := Lib.hid (cntL_take (f := ByteArray.size) hx)
        have HT := Lib.hid (cntL_take_le ByteArray.size xs (k + 1))
        clear e1b e1c hv hx
        by_cases hneg : r - (x.size : Int) < 0
        · have HL := Lib.hid (less_no (left := left) (n := (strsSh.wt xs : Int)) (by rw [HW.out]; have := HR.out; have := HC.out; have := HT.out; omega))
          go_wp2
          go_ret
          exact ⟨ret_int HL.out.symm, Below.refl _ _⟩
        · have hge : 0 ≤ r - (x.size : Int) := by omega
          go_wp2
          go_round
          case rel => exact ⟨k + 1, _, by omega, by go_num, rfl, by omega, by rw [HR.out, HC.out]; omega⟩
          case measure => simp [intOf]; omega
      · have hks : k = xs.length := by omega
        have HL := Lib.hid (less_yes (left := left) (n := (strsSh.wt xs : Int)) (by have h1 := HR.out; rw [HW.out]; rw [hks, List.take_length] at h1; omega))
        have HE := Lib.hid (show r = left - (strsSh.wt xs : Int) by have h1 := HR.out; rw [HW.out]; rw [hks, List.take_length] at h1; omega)
        clear hks hv
        go_wp2
        go_ret
        exact ⟨ret_int (by rw [HL.out]; exact HE.out), Below.refl _ _⟩

theorem made_one {P : Program} (t e : TypeId) (z0 : Value) (bytes : Nat) (ht : P.underlying t = some (.slice e)) (hinfo : (P.info? e).map (fun i => (i.zero, i.size, i.bytes)) = some (some z0, 1, bytes)) (hz0 : z0.cells = #[z0])
    (n : Nat) (hbytes : bytes * n ≤ 281474976710656) (h63 : n ≤ 9223372036854775807) (w : World) :
    (Instr.makeSlice t (.int .i64 (n : Int)) (.int .i64 (n : Int))).run P w = .ok (.slice (some ⟨w.heap.size, 0, none⟩) n n) (w.alloc (.cells (madeCells #[z0] (n * 1)) e)) := by
  obtain ⟨i, hi, hzz⟩ := Option.map_eq_some_iff.1 hinfo
  simp only [Prod.mk.injEq] at hzz
  obtain ⟨hz, hs, hb⟩ := hzz
  have hb' : (i.bytes : Int) * (n : Int) ≤ 281474976710656 := by
    have h : ((i.bytes * n : Nat) : Int) ≤ 281474976710656 := by rw [hb]; omega
    rwa [Int.natCast_mul] at h
  have hr := run_make (P := P) w t e i _ ht hi hz .i64 .i64 n n (by omega) (Int.le_refl _) hb' (by omega)
  simp only [Int.toNat_natCast, hs, hz0] at hr
  exact hr

/-- Behind k of a copy. -/
theorem repl_take {α : Type} {xs : List α} {z : α} {k : Nat} {x : α} (hx : xs[k]? = some x) : (xs.take k ++ List.replicate (xs.length - k) z).set k x = xs.take (k + 1) ++ List.replicate (xs.length - (k + 1)) z := by
  have hk : k < xs.length := (List.getElem?_eq_some_iff.1 hx).1
  have h1 : (xs.take k).length = k := by simp; omega
  have h2 : xs.length - k = (xs.length - (k + 1)) + 1 := by omega
  rw [take_snoc hx, h2, List.replicate_succ, List.set_append_right _ _ (by omega), h1]
  simp

theorem toStringS_sh (w : World) (v : Value) (xs : List ByteArray) (hv : strSh.Row w w.heap.size v xs) (hl : xs.length ≤ 1048576) :
    Calls Try.prog 77 #[v] w (CopiedSl strSh 9 xs w) := by
  obtain ⟨A, c, rfl, hc2, hc1⟩ := hv.form
  unfold maxLen at hc2
  have hmk := fun W => made_one (P := Try.prog) 23 9 (.string ByteArray.empty) 16 Try.underlying23 infoStr rfl xs.length (by omega) (by omega) W
  have HM : Hid (strSh.Own 9 (w.alloc (.cells (madeCells #[.string ByteArray.empty] xs.length) 9)) (fun b => b = w.heap.size) (.slice (some ⟨w.heap.size, 0, none⟩) xs.length xs.length) (xs.take 0 ++ List.replicate (xs.length - 0) ByteArray.empty)) :=
    Lib.hid (by have h := Sh.Own.made strSh 9 w xs.length (by unfold maxLen; omega); rw [show xs.length * strSh.wd = xs.length from Nat.mul_one _] at h; exact h)
  have HW := Lib.hid (belowOne w (.cells (madeCells #[.string ByteArray.empty] xs.length) 9))
  go_enter Try.func77, Try.ntmps77
  go_wp2
  clear hmk
  go_loopw [4] (fun i wr => ∃ k : Nat, k ≤ xs.length ∧ i = .int .i64 k ∧ strSh.Own 9 wr (fun b => b = w.heap.size) (.slice (some ⟨w.heap.size, 0, none⟩) xs.length xs.length) (xs.take k ++ List.replicate (xs.length - k) ByteArray.empty) ∧ Below w.heap.size w wr ∧ wr.heap.size = w.heap.size + 1) (fun i _ => xs.length - (intOf i).toNat)
  case atStart => exact ⟨0, Nat.zero_le _, rfl, HM.out, HW.out, by simp⟩
  case round =>
    clear HM HW
    obtain ⟨k, hk, rfl, ho, hb, hz⟩ := hrel
    by_cases hlt : k < xs.length
    · obtain ⟨b, off, c', x, e1, hx, hB, hs, ck⟩ := strs_at (hv.below hb) hlt
      injection e1 with e1a e1b e1c
      subst e1a
      obtain ⟨g, cap, y, cs, Sj, e2, -, -, -, ⟨rfl, hys⟩, hSj, hcell, hfr, -, hput⟩ := ho.at_ (j := k) (by simp; omega)
      injection e2 with e2a e2b e2c
      injection e2a with e2a
      injection e2a with e2a
      subst e2a
      have r0 : wr.cell? ⟨w.heap.size, k, none⟩ = some (.string y) := by simpa [Sh.str] using hcell 0 _ rfl
      have f0 := hfr k
      have HP : Hid (strSh.Own 9 (wr.setCell ⟨w.heap.size, k, none⟩ (.string x)) (fun b => b = w.heap.size) (.slice (some ⟨w.heap.size, 0, none⟩) xs.length xs.length) (xs.take (k + 1) ++ List.replicate (xs.length - (k + 1)) ByteArray.empty)) := by
        have h := hput 0 (.string x) (fun _ => False) x (by decide) ⟨rfl, hs⟩ (fun _ h => h.elim)
        rw [repl_take hx, show k * strSh.wd + 0 = k from Nat.mul_one k] at h
        exact Lib.hid (h.mono fun b hb => hb.elim id (fun h => h.elim))
      have HZ := Lib.hid hz
      have HB := Lib.hid (hb.setCell (p := ⟨w.heap.size, k, none⟩) (Nat.le_refl _) (.string x))
      clear e1b e1c e2b e2c hv hx ho hcell hfr hput hSj hz
      go_wp2
      go_roundw
      case rel => exact ⟨k + 1, by omega, by go_num, HP.out, HB.out, by simpa [World.setCell] using HZ.out⟩
      case measure => simp [intOf]; omega
    · have hks : k = xs.length := by omega
      have HO : Hid (strSh.Own 9 wr (fun b => b = w.heap.size) (.slice (some ⟨w.heap.size, 0, none⟩) xs.length xs.length) xs) := by
        subst hks; exact Lib.hid (by simpa using ho)
      have HZ := Lib.hid hz
      clear hks hv ho hz
      go_wp2
      go_ret
      exact ⟨_, rfl, HO.out.mono fun b hb => ⟨by omega, by rw [HZ.out]; omega⟩, hb⟩

theorem eqStringS_same (w : World) (B : Nat) (v u : Value) (xs : List ByteArray) (hv : strSh.Row w B v xs) (hu : strSh.Row w B u xs) :
    Calls Try.prog 44 #[v, u] w (Alike w) := by
  obtain ⟨A, c, rfl, hc2, hc1⟩ := hv.form
  obtain ⟨A', c', rfl, hc2', hc1'⟩ := hu.form
  unfold maxLen at hc2 hc2'
  go_enter Try.func44, Try.ntmps44
  go_wp2
  go_loopw [5] (fun i wr => ∃ k n : Nat, k ≤ xs.length ∧ i = .int .i64 k ∧ wr = w.drewN n) (fun i _ => xs.length - (intOf i).toNat)
  case atStart => exact ⟨0, 0, Nat.zero_le _, rfl, rfl⟩
  case round =>
    obtain ⟨k, n, hk, rfl, rfl⟩ := hrel
    by_cases hlt : k < xs.length
    · obtain ⟨b, off, d, x, e1, hx, hB, hs, ck⟩ := strs_at hv hlt
      obtain ⟨b2, off2, d2, x2, e2, hx2, hB2, hs2, ck2⟩ := strs_at hu hlt
      rw [hx] at hx2
      injection hx2 with hx2
      subst hx2
      injection e1 with e1a e1b e1c
      injection e2 with e2a e2b e2c
      subst e1a e2a
      clear e1b e1c e2b e2c hv hu hx
      go_wp2
      go_quiet (fail)
      go_wp2
      go_roundw
      case rel => exact ⟨k + 1, _, by omega, by go_num, rfl⟩
      case measure => simp [intOf]; omega
    · clear hv hu
      go_wp2
      go_ret
      exact ⟨rfl, belowDraws (Below.refl _ _) _⟩

end Go.Proofs.Ytllmmhibmgpehaa

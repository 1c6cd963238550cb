/- Texts that follow each other, merged: ShapesLog, FrameSh, SecSum. -/
import Derived.Test.YtecdibpiojgppaaXShapes
import Derived.Test.YtecdibpiojgppaaXFrameRow
import Derived.Test.YtecdibpiojgppaaXKey

/- The shapes of notes and of a place's notes. -/
namespace Go.Proofs.Ytecdibpiojgppaa
open Go.RowKit

/-- A note: its kind, whose it is, the names that it holds, what it writes. -/
structure Note where
  kind : Int
  tx : Int
  locks : List ByteArray
  writes : List Wr
def noteSh : Sh Note := (Sh.int.pair (Sh.int.pair (strsSh.pair wrsSh))).conv (fun x => (x.kind, x.tx, x.locks, x.writes)) (fun p => ⟨p.1, p.2.1, p.2.2.1, p.2.2.2⟩) rfl
abbrev notesSh : Sh (List Note) := noteSh.sl 36 (by decide)
/-- A place's notes, and how many are safe. -/
structure Disk where
  notes : List Note
  safe : Int
def diskSh : Sh Disk := (notesSh.pair Sh.int).conv (fun x => (x.notes, x.safe)) (fun p => ⟨p.1, p.2⟩) rfl

section
variable {w : World} {B : Nat} {S : Nat → Prop} {v : Value}
theorem note_rel {cs : List Value} {x : Note} : noteSh.rel w B cs x ↔ ∃ u v, cs = [.int .i64 x.kind, .int .i64 x.tx, u, v] ∧ strSh.Row w B u x.locks ∧ wrSh.Row w B v x.writes := by
  constructor
  · rintro ⟨c1, c2, rfl, h1, c3, c4, rfl, h2, c5, c6, rfl, ⟨u, rfl, h3⟩, v, rfl, h4⟩
    have h1' : c1 = [.int .i64 x.kind] := h1
    have h2' : c3 = [.int .i64 x.tx] := h2
    subst h1' h2'
    exact ⟨u, v, rfl, h3, h4⟩
  · rintro ⟨u, v, rfl, h3, h4⟩
    exact ⟨_, _, rfl, rfl, _, _, rfl, rfl, _, _, rfl, ⟨u, rfl, h3⟩, v, rfl, h4⟩
theorem disk_rel {cs : List Value} {x : Disk} : diskSh.rel w B cs x ↔ ∃ u, cs = [u, .int .i64 x.safe] ∧ noteSh.Row w B u x.notes := by
  constructor
  · rintro ⟨c1, c2, rfl, ⟨u, rfl, h3⟩, h2⟩
    have h2' : c2 = [.int .i64 x.safe] := h2
    subst h2'
    exact ⟨u, rfl, h3⟩
  · rintro ⟨u, rfl, h3⟩
    exact ⟨_, _, rfl, ⟨u, rfl, h3⟩, rfl⟩
theorem note_own {cs : List Value} {x : Note} : noteSh.own w S cs x ↔ ∃ u v S1 S2, cs = [.int .i64 x.kind, .int .i64 x.tx, u, v] ∧ strSh.Own 9 w S1 u x.locks ∧ wrSh.Own 43 w S2 v x.writes ∧ (∀ b, S1 b → S b) ∧ (∀ b, S2 b → S b) ∧ ∀ b, S1 b → S2 b → False := by
  constructor
  · rintro ⟨c1, c2, S1, S2, rfl, h1, ⟨c3, c4, S3, S4, rfl, h2, ⟨c5, c6, S5, S6, rfl, ⟨u, rfl, h3⟩, ⟨v, rfl, h4⟩, s5, s6, d⟩, -, s4, -⟩, -, s2, -⟩
    have h1' : c1 = [.int .i64 x.kind] := h1
    have h2' : c3 = [.int .i64 x.tx] := h2
    subst h1' h2'
    exact ⟨u, v, S5, S6, rfl, h3, h4, fun b hb => s2 b (s4 b (s5 b hb)), fun b hb => s2 b (s4 b (s6 b hb)), d⟩
  · rintro ⟨u, v, S1, S2, rfl, h3, h4, s1, s2, d⟩
    exact ⟨_, _, fun _ => False, S, rfl, rfl, ⟨_, _, fun _ => False, S, rfl, rfl, ⟨_, _, S1, S2, rfl, ⟨u, rfl, h3⟩, ⟨v, rfl, h4⟩, s1, s2, d⟩, fun _ h => h.elim, fun _ h => h, fun _ h _ => h⟩, fun _ h => h.elim, fun _ h => h, fun _ h _ => h⟩
theorem disk_own {cs : List Value} {x : Disk} : diskSh.own w S cs x ↔ ∃ u, cs = [u, .int .i64 x.safe] ∧ noteSh.Own 36 w S u x.notes := by
  constructor
  · rintro ⟨c1, c2, S1, S2, rfl, ⟨u, rfl, h3⟩, h2, s1, -, -⟩
    have h2' : c2 = [.int .i64 x.safe] := h2
    subst h2'
    exact ⟨u, rfl, h3.mono s1⟩
  · rintro ⟨u, rfl, h3⟩
    exact ⟨_, _, S, fun _ => False, rfl, ⟨u, rfl, h3⟩, rfl, fun _ h => h, fun _ h => h.elim, fun _ _ h => h⟩
theorem notes_at {xs : List Note} (h : noteSh.Row w B v xs) {k : Nat} (hk : k < xs.length) : ∃ b off c x u u', v = .slice (some ⟨b, off, none⟩) xs.length c ∧ xs[k]? = some x ∧ b < B ∧
    w.cell? ⟨b, off + k * 4, none⟩ = some (.int .i64 x.kind) ∧ w.cell? ⟨b, off + k * 4 + 1, none⟩ = some (.int .i64 x.tx) ∧ w.cell? ⟨b, off + k * 4 + 2, none⟩ = some u ∧ w.cell? ⟨b, off + k * 4 + 3, none⟩ = some u' ∧ strSh.Row w B u x.locks ∧ wrSh.Row w B u' x.writes := by
  obtain ⟨b, off, c, x, cs, hv, hx, hb, hr, hc⟩ := h.at_ hk
  obtain ⟨u, u', rfl, h1, h2⟩ := note_rel.1 hr
  exact ⟨b, off, c, x, u, u', hv, hx, hb, hc 0 _ rfl, hc 1 _ rfl, hc 2 _ rfl, hc 3 _ rfl, h1, h2⟩
end

end Go.Proofs.Ytecdibpiojgppaa

/- From the reading of notes and of a place's notes. -/
namespace Go.Proofs.Ytecdibpiojgppaa
open Go.ChangeShapes Go.WideShapes Go.ChangeAt Go.RowKit Go.Joins Go.Deep

theorem cellsNote : Try.prog.cellsOf 63 = 4 := by kernel_rfl
theorem cellsSlN : Try.prog.cellsOf 44 = 1 := by kernel_rfl
theorem cellsDisk : Try.prog.cellsOf 46 = 2 := by kernel_rfl

section
variable {H : Type} {enc : TypeId × Value → H} {W : World}
theorem reads_note : Reads noteSh 63 W enc := fun fuel cs y h => by
  obtain ⟨y0, y1, y2, y3, n, _, hl, t0, t1, t2, t3⟩ := trod_struct4 Try.underlying63 h
  obtain ⟨c0, c1, c2, c3, rfl⟩ := list4 (hl.trans cellsNote)
  simp only [cellsInt, cellsSlS, cellsSlW] at t0 t1 t2 t3
  obtain ⟨k, e0⟩ := reads_int (enc := enc) Try.underlying3 _ _ _ t0
  obtain ⟨d, e1⟩ := reads_int (enc := enc) Try.underlying3 _ _ _ t1
  obtain ⟨xs, v, e2, h2⟩ := reads_strs (enc := enc) _ _ _ t2
  obtain ⟨ys, u, e3, h3⟩ := reads_wrs (enc := enc) _ _ _ t3
  have e0' : List.take 1 (List.drop 0 [c0, c1, c2, c3]) = [.int .i64 k] := e0
  have e1' : List.take 1 (List.drop 1 [c0, c1, c2, c3]) = [.int .i64 d] := e1
  simp at e0' e1' e2 e3
  subst e0' e1' e2 e3
  exact ⟨⟨k, d, xs, ys⟩, note_rel.2 ⟨_, _, rfl, h2, h3⟩⟩
theorem reads_notes : Reads notesSh 44 W enc := reads_sl Try.underlying44 cellsNote (by decide) reads_note
theorem reads_disk : Reads diskSh 46 W enc := fun fuel cs y h => by
  obtain ⟨y0, y1, n, _, hl, t0, t1⟩ := trod_struct2 Try.underlying46 h
  obtain ⟨c0, c1, rfl⟩ := list2 (hl.trans cellsDisk)
  simp only [cellsInt, cellsSlN] at t0 t1
  obtain ⟨xs, v, e0, h0⟩ := reads_notes (enc := enc) _ _ _ t0
  obtain ⟨k, e1⟩ := reads_int (enc := enc) Try.underlying3 _ _ _ t1
  have e1' : List.take 1 (List.drop 1 [c0, c1]) = [.int .i64 k] := e1
  simp at e0 e1'
  subst e0 e1'
  exact ⟨⟨xs, k⟩, disk_rel.2 ⟨_, rfl, h0⟩⟩
end

end Go.Proofs.Ytecdibpiojgppaa

/- What SecSum answers, of the program and of the model: the same number of every number. -/
namespace Go.Proofs.Ytecdibpiojgppaa
open Go.RowKit

/-- The sum of a secret; -1 of what is none. -/
def secS (n : Int) : Int := if 0 ≤ n ∧ n ≤ 99 then (7919 * n + 104) % 9973 else -1
theorem secS_yes {n : Int} (h : 0 ≤ n) (h' : n ≤ 99) : secS n = (7919 * n + 104) % 9973 := by unfold secS; rw [if_pos ⟨h, h'⟩]
theorem secS_no {n : Int} (h : n < 0 ∨ 99 < n) : secS n = -1 := by unfold secS; rw [if_neg (by omega)]

theorem within_any (n lo hi : Int) (w : World) :
    Calls Try.prog 131 #[.int .i64 n, .int .i64 lo, .int .i64 hi] w fun e w' => e = .returned (.bool (inB n lo hi)) ∧ w = w' := by
  by_cases h1 : lo ≤ n
  · by_cases h2 : n ≤ hi
    · go_enter Try.func131, Try.ntmps131
      go_wp2
      go_ret
      exact ⟨ret_bool (by unfold inB; simp [h1, h2]), rfl⟩
    · go_enter Try.func131, Try.ntmps131
      go_wp2
      go_ret
      exact ⟨ret_bool (by unfold inB; simp [h1, h2]), rfl⟩
  · go_enter Try.func131, Try.ntmps131
    go_wp2
    go_ret
    exact ⟨ret_bool (by rw [inB_no (by omega)]), rfl⟩

theorem specSecSum_any (n : Int) (w : World) :
    Calls Try.prog 183 #[.int .i64 n] w fun e w' => e = .returned (.int .i64 (secS n)) ∧ w = w' := by
  by_cases h : 0 ≤ n ∧ n ≤ 99
  · obtain ⟨h0, h1⟩ := h
    have hb := inB_yes h0 h1
    go_enter Try.func183, Try.ntmps183
    go_wp2_with (go_at_call 68; refine (l1In_any _ _ _ _).mono ?_; rintro e w' ⟨rfl, rfl⟩)
    go_ret
    exact ⟨ret_int (by rw [secS_yes h0 h1]; omega), rfl⟩
  · have hn : n < 0 ∨ 99 < n := by omega
    have hb := inB_no hn
    clear h
    have HN := Lib.hid hn
    clear hn
    go_enter Try.func183, Try.ntmps183
    go_wp2_with (go_at_call 68; refine (l1In_any _ _ _ _).mono ?_; rintro e w' ⟨rfl, rfl⟩)
    go_ret
    exact ⟨ret_int (by rw [secS_no HN.out]), rfl⟩

end Go.Proofs.Ytecdibpiojgppaa

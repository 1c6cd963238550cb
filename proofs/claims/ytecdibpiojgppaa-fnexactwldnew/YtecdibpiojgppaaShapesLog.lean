/- The shapes of notes and of a place's notes. -/
import Derived.Test.YtecdibpiojgppaaShapes
namespace Go.Proofs.Ytecdibpiojgppaa
open Go.RowKit

/-- A note: its kind, whose it is, the names that it holds, what it writes. -/
structure Note where
  kind : Int
  tx : Int
  locks : List ByteArray
  writes : List Wr
def noteSh : Sh Note := (Sh.int.pair (Sh.int.pair (strsSh.pair wrsSh))).conv (fun x => (x.kind, x.tx, x.locks, x.writes)) (fun p => ⟨p.1, p.2.1, p.2.2.1, p.2.2.2⟩) rfl
abbrev notesSh : Sh (List Note) := noteSh.sl 36 (by decide)
/-- A place's notes, and how many are safe. -/
structure Disk where
  notes : List Note
  safe : Int
def diskSh : Sh Disk := (notesSh.pair Sh.int).conv (fun x => (x.notes, x.safe)) (fun p => ⟨p.1, p.2⟩) rfl

section
variable {w : World} {B : Nat} {S : Nat → Prop} {v : Value}
theorem note_rel {cs : List Value} {x : Note} : noteSh.rel w B cs x ↔ ∃ u v, cs = [.int .i64 x.kind, .int .i64 x.tx, u, v] ∧ strSh.Row w B u x.locks ∧ wrSh.Row w B v x.writes := by
  constructor
  · rintro ⟨c1, c2, rfl, h1, c3, c4, rfl, h2, c5, c6, rfl, ⟨u, rfl, h3⟩, v, rfl, h4⟩
    have h1' : c1 = [.int .i64 x.kind] := h1
    have h2' : c3 = [.int .i64 x.tx] := h2
    subst h1' h2'
    exact ⟨u, v, rfl, h3, h4⟩
  · rintro ⟨u, v, rfl, h3, h4⟩
    exact ⟨_, _, rfl, rfl, _, _, rfl, rfl, _, _, rfl, ⟨u, rfl, h3⟩, v, rfl, h4⟩
theorem disk_rel {cs : List Value} {x : Disk} : diskSh.rel w B cs x ↔ ∃ u, cs = [u, .int .i64 x.safe] ∧ noteSh.Row w B u x.notes := by
  constructor
  · rintro ⟨c1, c2, rfl, ⟨u, rfl, h3⟩, h2⟩
    have h2' : c2 = [.int .i64 x.safe] := h2
    subst h2'
    exact ⟨u, rfl, h3⟩
  · rintro ⟨u, rfl, h3⟩
    exact ⟨_, _, rfl, ⟨u, rfl, h3⟩, rfl⟩
theorem note_own {cs : List Value} {x : Note} : noteSh.own w S cs x ↔ ∃ u v S1 S2, cs = [.int .i64 x.kind, .int .i64 x.tx, u, v] ∧ strSh.Own 9 w S1 u x.locks ∧ wrSh.Own 43 w S2 v x.writes ∧ (∀ b, S1 b → S b) ∧ (∀ b, S2 b → S b) ∧ ∀ b, S1 b → S2 b → False := by
  constructor
  · rintro ⟨c1, c2, S1, S2, rfl, h1, ⟨c3, c4, S3, S4, rfl, h2, ⟨c5, c6, S5, S6, rfl, ⟨u, rfl, h3⟩, ⟨v, rfl, h4⟩, s5, s6, d⟩, -, s4, -⟩, -, s2, -⟩
    have h1' : c1 = [.int .i64 x.kind] := h1
    have h2' : c3 = [.int .i64 x.tx] := h2
    subst h1' h2'
    exact ⟨u, v, S5, S6, rfl, h3, h4, fun b hb => s2 b (s4 b (s5 b hb)), fun b hb => s2 b (s4 b (s6 b hb)), d⟩
  · rintro ⟨u, v, S1, S2, rfl, h3, h4, s1, s2, d⟩
    exact ⟨_, _, fun _ => False, S, rfl, rfl, ⟨_, _, fun _ => False, S, rfl, rfl, ⟨_, _, S1, S2, rfl, ⟨u, rfl, h3⟩, ⟨v, rfl, h4⟩, s1, s2, d⟩, fun _ h => h.elim, fun _ h => h, fun _ h _ => h⟩, fun _ h => h.elim, fun _ h => h, fun _ h _ => h⟩
theorem disk_own {cs : List Value} {x : Disk} : diskSh.own w S cs x ↔ ∃ u, cs = [u, .int .i64 x.safe] ∧ noteSh.Own 36 w S u x.notes := by
  constructor
  · rintro ⟨c1, c2, S1, S2, rfl, ⟨u, rfl, h3⟩, h2, s1, -, -⟩
    have h2' : c2 = [.int .i64 x.safe] := h2
    subst h2'
    exact ⟨u, rfl, h3.mono s1⟩
  · rintro ⟨u, rfl, h3⟩
    exact ⟨_, _, S, fun _ => False, rfl, ⟨u, rfl, h3⟩, rfl, fun _ h => h, fun _ h => h.elim, fun _ _ h => h⟩
theorem notes_at {xs : List Note} (h : noteSh.Row w B v xs) {k : Nat} (hk : k < xs.length) : ∃ b off c x u u', v = .slice (some ⟨b, off, none⟩) xs.length c ∧ xs[k]? = some x ∧ b < B ∧
    w.cell? ⟨b, off + k * 4, none⟩ = some (.int .i64 x.kind) ∧ w.cell? ⟨b, off + k * 4 + 1, none⟩ = some (.int .i64 x.tx) ∧ w.cell? ⟨b, off + k * 4 + 2, none⟩ = some u ∧ w.cell? ⟨b, off + k * 4 + 3, none⟩ = some u' ∧ strSh.Row w B u x.locks ∧ wrSh.Row w B u' x.writes := by
  obtain ⟨b, off, c, x, cs, hv, hx, hb, hr, hc⟩ := h.at_ hk
  obtain ⟨u, u', rfl, h1, h2⟩ := note_rel.1 hr
  exact ⟨b, off, c, x, u, u', hv, hx, hb, hc 0 _ rfl, hc 1 _ rfl, hc 2 _ rfl, hc 3 _ rfl, h1, h2⟩
end

end Go.Proofs.Ytecdibpiojgppaa

/- Texts that follow each other, merged: ShapesFro, FrameFro. -/
import Derived.Test.YtecdibpiojgppaaXShapesLog
import Derived.Test.YtecdibpiojgppaaXFrameOp

/- The shapes of what is under way, and of a front. -/
namespace Go.Proofs.Ytecdibpiojgppaa
open Go.RowKit

/-- Something under way: its number, what is done, whether it is so, who can, who knows. -/
structure FTx where
  tx : Int
  op : Op
  yes : Bool
  can : List Int
  know : List Int
def ftxSh : Sh FTx := (Sh.int.pair (opSh.pair (Sh.bool.pair (intsSh.pair intsSh)))).conv (fun x => (x.tx, x.op, x.yes, x.can, x.know)) (fun p => ⟨p.1, p.2.1, p.2.2.1, p.2.2.2.1, p.2.2.2.2⟩) rfl
abbrev ftxsSh : Sh (List FTx) := ftxSh.sl 115 (by decide)
/-- A front: its notes, and what is under way. -/
structure Fro where
  disk : Disk
  way : List FTx
def froSh : Sh Fro := (diskSh.pair ftxsSh).conv (fun x => (x.disk, x.way)) (fun p => ⟨p.1, p.2⟩) rfl

section
variable {w : World} {B : Nat} {S : Nat → Prop} {v : Value}
theorem ftx_rel {cs : List Value} {x : FTx} : ftxSh.rel w B cs x ↔ ∃ u v, cs = [.int .i64 x.tx, .int .i64 x.op.kind, .int .i64 x.op.who, .int .i64 x.op.inn, .int .i64 x.op.code, .int .i64 x.op.sec, .int .i64 x.op.fam, .int .i64 x.op.gen, .bool x.yes, u, v] ∧ Sh.int.Row w B u x.can ∧ Sh.int.Row w B v x.know := by
  constructor
  · rintro ⟨c1, c2, rfl, h1, c3, c4, rfl, h2, c5, c6, rfl, h3, c7, c8, rfl, ⟨u, rfl, h4⟩, v, rfl, h5⟩
    have h1' : c1 = [.int .i64 x.tx] := h1
    have h2' : c3 = [.int .i64 x.op.kind, .int .i64 x.op.who, .int .i64 x.op.inn, .int .i64 x.op.code, .int .i64 x.op.sec, .int .i64 x.op.fam, .int .i64 x.op.gen] := h2
    have h3' : c5 = [.bool x.yes] := h3
    subst h1' h2' h3'
    exact ⟨u, v, rfl, h4, h5⟩
  · rintro ⟨u, v, rfl, h4, h5⟩
    exact ⟨_, _, rfl, rfl, _, _, rfl, rfl, _, _, rfl, rfl, _, _, rfl, ⟨u, rfl, h4⟩, v, rfl, h5⟩
theorem fro_rel {cs : List Value} {x : Fro} : froSh.rel w B cs x ↔ ∃ u v, cs = [u, .int .i64 x.disk.safe, v] ∧ noteSh.Row w B u x.disk.notes ∧ ftxSh.Row w B v x.way := by
  constructor
  · rintro ⟨c1, c2, rfl, h1, v, rfl, h2⟩
    obtain ⟨u, hu, h3⟩ := disk_rel.1 h1
    have hu' : c1 = [u, .int .i64 x.disk.safe] := hu
    subst hu'
    exact ⟨u, v, rfl, h3, h2⟩
  · rintro ⟨u, v, rfl, h3, h2⟩
    exact ⟨[u, .int .i64 x.disk.safe], [v], rfl, disk_rel.2 ⟨u, rfl, h3⟩, v, rfl, h2⟩
theorem ftx_own {cs : List Value} {x : FTx} : ftxSh.own w S cs x ↔ ∃ u v S1 S2, cs = [.int .i64 x.tx, .int .i64 x.op.kind, .int .i64 x.op.who, .int .i64 x.op.inn, .int .i64 x.op.code, .int .i64 x.op.sec, .int .i64 x.op.fam, .int .i64 x.op.gen, .bool x.yes, u, v] ∧ Sh.int.Own 3 w S1 u x.can ∧ Sh.int.Own 3 w S2 v x.know ∧ (∀ b, S1 b → S b) ∧ (∀ b, S2 b → S b) ∧ ∀ b, S1 b → S2 b → False := by
  constructor
  · rintro ⟨c1, c2, S1, S2, rfl, h1, ⟨c3, c4, S3, S4, rfl, h2, ⟨c5, c6, S5, S6, rfl, h3, ⟨c7, c8, S7, S8, rfl, ⟨u, rfl, h4⟩, ⟨v, rfl, h5⟩, s7, s8, d⟩, -, s6, -⟩, -, s4, -⟩, -, s2, -⟩
    have h1' : c1 = [.int .i64 x.tx] := h1
    have h2' : c3 = [.int .i64 x.op.kind, .int .i64 x.op.who, .int .i64 x.op.inn, .int .i64 x.op.code, .int .i64 x.op.sec, .int .i64 x.op.fam, .int .i64 x.op.gen] := h2
    have h3' : c5 = [.bool x.yes] := h3
    subst h1' h2' h3'
    exact ⟨u, v, S7, S8, rfl, h4, h5, fun b hb => s2 b (s4 b (s6 b (s7 b hb))), fun b hb => s2 b (s4 b (s6 b (s8 b hb))), d⟩
  · rintro ⟨u, v, S1, S2, rfl, h4, h5, s1, s2, d⟩
    exact ⟨_, _, fun _ => False, S, rfl, rfl, ⟨_, _, fun _ => False, S, rfl, rfl, ⟨_, _, fun _ => False, S, rfl, rfl, ⟨_, _, S1, S2, rfl, ⟨u, rfl, h4⟩, ⟨v, rfl, h5⟩, s1, s2, d⟩, fun _ h => h.elim, fun _ h => h, fun _ h _ => h⟩, fun _ h => h.elim, fun _ h => h, fun _ h _ => h⟩, fun _ h => h.elim, fun _ h => h, fun _ h _ => h⟩
theorem fro_own {cs : List Value} {x : Fro} : froSh.own w S cs x ↔ ∃ u v S1 S2, cs = [u, .int .i64 x.disk.safe, v] ∧ noteSh.Own 36 w S1 u x.disk.notes ∧ ftxSh.Own 115 w S2 v x.way ∧ (∀ b, S1 b → S b) ∧ (∀ b, S2 b → S b) ∧ ∀ b, S1 b → S2 b → False := by
  constructor
  · rintro ⟨c1, c2, S1, S2, rfl, h1, ⟨v, rfl, h2⟩, s1, s2, d⟩
    obtain ⟨u, hu, h3⟩ := disk_own.1 h1
    have hu' : c1 = [u, .int .i64 x.disk.safe] := hu
    subst hu'
    exact ⟨u, v, S1, S2, rfl, h3, h2, s1, s2, d⟩
  · rintro ⟨u, v, S1, S2, rfl, h3, h2, s1, s2, d⟩
    exact ⟨[u, .int .i64 x.disk.safe], [v], S1, S2, rfl, disk_own.2 ⟨u, rfl, h3⟩, ⟨v, rfl, h2⟩, s1, s2, d⟩
theorem ftxs_at {xs : List FTx} (h : ftxSh.Row w B v xs) {k : Nat} (hk : k < xs.length) : ∃ b off c x u u', v = .slice (some ⟨b, off, none⟩) xs.length c ∧ xs[k]? = some x ∧ b < B ∧
    (w.cell? ⟨b, off + k * 11, none⟩ = some (.int .i64 x.tx) ∧ w.cell? ⟨b, off + k * 11 + 1, none⟩ = some (.int .i64 x.op.kind) ∧ w.cell? ⟨b, off + k * 11 + 2, none⟩ = some (.int .i64 x.op.who) ∧ w.cell? ⟨b, off + k * 11 + 3, none⟩ = some (.int .i64 x.op.inn) ∧ w.cell? ⟨b, off + k * 11 + 4, none⟩ = some (.int .i64 x.op.code) ∧ w.cell? ⟨b, off + k * 11 + 5, none⟩ = some (.int .i64 x.op.sec) ∧ w.cell? ⟨b, off + k * 11 + 6, none⟩ = some (.int .i64 x.op.fam) ∧ w.cell? ⟨b, off + k * 11 + 7, none⟩ = some (.int .i64 x.op.gen) ∧ w.cell? ⟨b, off + k * 11 + 8, none⟩ = some (.bool x.yes) ∧ w.cell? ⟨b, off + k * 11 + 9, none⟩ = some u ∧ w.cell? ⟨b, off + k * 11 + 10, none⟩ = some u') ∧ Sh.int.Row w B u x.can ∧ Sh.int.Row w B u' x.know := by
  obtain ⟨b, off, c, x, cs, hv, hx, hb, hr, hc⟩ := h.at_ hk
  obtain ⟨u, u', rfl, h1, h2⟩ := ftx_rel.1 hr
  exact ⟨b, off, c, x, u, u', hv, hx, hb, ⟨hc 0 _ rfl, hc 1 _ rfl, hc 2 _ rfl, hc 3 _ rfl, hc 4 _ rfl, hc 5 _ rfl, hc 6 _ rfl, hc 7 _ rfl, hc 8 _ rfl, hc 9 _ rfl, hc 10 _ rfl⟩, h1, h2⟩
end

end Go.Proofs.Ytecdibpiojgppaa

/- From the reading of what is under way, and of a front. -/
namespace Go.Proofs.Ytecdibpiojgppaa
open Go.ChangeShapes Go.WideShapes Go.ChangeAt Go.RowKit Go.Joins Go.Deep

theorem trod_five {P : Program} {H : Type} {enc : TypeId × Value → H} {w : World} {base : Nat} {spare : Nat → Bool} {held : Bool} {t : TypeId} {f0 f1 f2 f3 f4 : Field} {fuel : Nat} {cs : List Value} {x : DataW H × List MemPlace} (ht : P.underlying t = some (.struct #[f0, f1, f2, f3, f4])) (h : DataW.trod enc P w base spare held fuel t cs = some x) :
    ∃ y0 y1 y2 y3 y4 n, cs.length = P.cellsOf t ∧ DataW.trod enc P w base spare held n f0.type ((cs.drop f0.offset).take (P.cellsOf f0.type)) = some y0 ∧ DataW.trod enc P w base spare held n f1.type ((cs.drop f1.offset).take (P.cellsOf f1.type)) = some y1 ∧ DataW.trod enc P w base spare held n f2.type ((cs.drop f2.offset).take (P.cellsOf f2.type)) = some y2 ∧ DataW.trod enc P w base spare held n f3.type ((cs.drop f3.offset).take (P.cellsOf f3.type)) = some y3 ∧ DataW.trod enc P w base spare held n f4.type ((cs.drop f4.offset).take (P.cellsOf f4.type)) = some y4 := by
  obtain ⟨xs, n, _, rfl, hl, hlen, hf⟩ := DataW.trod_struct ht h
  match xs, hlen with
  | [y0, y1, y2, y3, y4], _ => exact ⟨y0, y1, y2, y3, y4, n, hl, by simpa using hf 0 f0 rfl, by simpa using hf 1 f1 rfl, by simpa using hf 2 f2 rfl, by simpa using hf 3 f3 rfl, by simpa using hf 4 f4 rfl⟩
theorem list_eleven {α : Type} {l : List α} (h : l.length = 11) : ∃ a b c d e f g i j k m, l = [a, b, c, d, e, f, g, i, j, k, m] := by
  match l, h with
  | [a, b, c, d, e, f, g, i, j, k, m], _ => exact ⟨a, b, c, d, e, f, g, i, j, k, m, rfl⟩
theorem cellsFtx : Try.prog.cellsOf 169 = 11 := by kernel_rfl
theorem cellsSlF : Try.prog.cellsOf 47 = 1 := by kernel_rfl
theorem cellsFro : Try.prog.cellsOf 49 = 3 := by kernel_rfl
theorem cellsSlZ : Try.prog.cellsOf 41 = 1 := by kernel_rfl

section
variable {H : Type} {enc : TypeId × Value → H} {W : World}
set_option maxRecDepth 100000 in
theorem reads_ftx : Reads ftxSh 169 W enc := fun fuel cs y h => by
  obtain ⟨y0, y1, y2, y3, y4, n, hl, t0, t1, t2, t3, t4⟩ := trod_five Try.underlying169 h
  obtain ⟨a, b, c, d, e, f, g, i, j, k, m, rfl⟩ := list_eleven (hl.trans cellsFtx)
  simp only [cellsInt] at t0
  simp only [cellsOp] at t1
  simp only [cellsBool] at t2
  simp only [cellsSlZ] at t3 t4
  obtain ⟨k0, e0⟩ := reads_int (enc := enc) Try.underlying3 _ _ _ t0
  obtain ⟨o, e1⟩ := opCells t1
  obtain ⟨l, e2⟩ := reads_bool (enc := enc) Try.underlying4 _ _ _ t2
  obtain ⟨xs, v, e3, h3⟩ := reads_ints (enc := enc) _ _ _ t3
  obtain ⟨ys, u, e4, h4⟩ := reads_ints (enc := enc) _ _ _ t4
  have e0' : List.take 1 (List.drop 0 [a, b, c, d, e, f, g, i, j, k, m]) = [.int .i64 k0] := e0
  have e2' : List.take 1 (List.drop 8 [a, b, c, d, e, f, g, i, j, k, m]) = [.bool l] := e2
  simp at e0' e1 e2' e3 e4
  obtain ⟨rfl, rfl, rfl, rfl, rfl, rfl, rfl⟩ := e1
  subst e0' e2' e3 e4
  exact ⟨⟨k0, o, l, xs, ys⟩, ftx_rel.2 ⟨_, _, rfl, h3, h4⟩⟩
theorem reads_ftxs : Reads ftxsSh 47 W enc := reads_sl Try.underlying47 cellsFtx (by decide) reads_ftx
theorem reads_fro : Reads froSh 49 W enc := fun fuel cs y h => by
  obtain ⟨y0, y1, n, _, hl, t0, t1⟩ := trod_struct2 Try.underlying49 h
  obtain ⟨c0, c1, c2, rfl⟩ := list3 (hl.trans cellsFro)
  simp only [cellsDisk] at t0
  simp only [cellsSlF] at t1
  obtain ⟨d, h0⟩ := reads_disk (enc := enc) _ _ _ t0
  obtain ⟨u, e0, hn⟩ := disk_rel.1 h0
  obtain ⟨ws, v, e1, h1⟩ := reads_ftxs (enc := enc) _ _ _ t1
  simp at e0 e1
  obtain ⟨rfl, rfl⟩ := e0
  subst e1
  exact ⟨⟨d, ws⟩, fro_rel.2 ⟨_, _, rfl, hn, h1⟩⟩
end

end Go.Proofs.Ytecdibpiojgppaa

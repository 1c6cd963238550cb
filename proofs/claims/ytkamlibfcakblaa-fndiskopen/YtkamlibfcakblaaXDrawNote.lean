/- A drawn note. By drawnotegen.py. -/
import Derived.Test.YtkamlibfcakblaaXDrawWrts2
import Derived.Test.YtkamlibfcakblaaXL2Note
import Derived.Test.YtkamlibfcakblaaXNoteOk
import Derived.Deep.CutRange
import Derived.Deep.DeepCutAuto
namespace Go.Proofs.Ytkamlibfcakblaa
open Go.RowKit

def ntGood (g zb : Nat) (i : Nat) (w : World) (u : Value) : Prop :=
  match i with
  | 0 => rowIn w g 5 (1) (5) u
  | 1 => u = .pointer (some ⟨g, 0, none⟩)
  | 2 => intIn (0) (5) u
  | 3 => atIn w g (1) (5) u
  | 4 => intIn (1) (5) u
  | 5 => u = .pointer (some ⟨g, 0, none⟩)
  | 6 => intIn (0) (5) u
  | 7 => ∃ a b : Int, u = .agg #[.int .i64 a, .int .i64 b, .slice none 0 0, .slice none 0 0] ∧ 1 ≤ a ∧ a < 5 ∧ 0 ≤ b ∧ b < 5
  | 8 => ∃ q, u = .pointer (some ⟨q, 0, none⟩) ∧ zb < q ∧ g < q ∧ Held w q [.int .i64 0, .int .i64 0, .slice none 0 0, .slice none 0 0]
  | _ => True
theorem ntGood_stable {g zb : Nat}  {w w' : World} (h : w.grownBy w' (some g)) (i : Nat) (u : Value) (hg : ntGood g zb i w u) : ntGood g zb i w' u := by
  match i, hg with
  | 0, hg => exact rowIn_stable h hg
  | 1, hg => exact hg
  | 2, hg => exact hg
  | 3, hg => exact atIn_stable h hg
  | 4, hg => exact hg
  | 5, hg => exact hg
  | 6, hg => exact hg
  | 7, hg => exact hg
  | 8, ⟨q, e, h0, h1, h2⟩ => exact ⟨q, e, h0, h1, h2.outs (Outs.of_grown (S := fun b => some g = some b) h (fun _ e => e)) (fun e => by have := Option.some.inj e; omega)⟩
  | k + 9, _ => exact trivial
def ntCnt (L : Nat → Bool) : Int := (if L 2 then 1 else 0) + (if L 6 then 1 else 0)
theorem ntCnt_same {L : Nat → Bool} {i : Nat} (h2 : i ≠ 2) (h6 : i ≠ 6) : ntCnt (upd L i true) = ntCnt L := by
  unfold ntCnt
  rw [upd_other _ _ (Ne.symm h2), upd_other _ _ (Ne.symm h6)]
theorem ntCnt_2 {L : Nat → Bool} (hL : L 2 = false) : ntCnt (upd L 2 true) = ntCnt L + 1 := by
  unfold ntCnt
  simp [upd, hL] <;> omega
theorem ntCnt_6 {L : Nat → Bool} (hL : L 6 = false) : ntCnt (upd L 6 true) = ntCnt L + 1 := by
  unfold ntCnt
  simp [upd, hL] <;> omega
theorem ntCnt_bound (L : Nat → Bool) : 0 ≤ ntCnt L ∧ ntCnt L ≤ 2 := by
  unfold ntCnt; repeat' split
  all_goals omega

theorem Held.keep4 {w : World} {b q : Nat} {cs : List Value} (h : Held w b cs) (hne : b ≠ q) (b0 b1 b2 b3 : Value) : Held (Go.Proofs.Ytkamlibfcakblaa.put4 w q b0 b1 b2 b3) b cs :=
  (((h.farS (p := ⟨q, 0, none⟩) hne b0).farS (p := ⟨q, 1, none⟩) hne b1).farS (p := ⟨q, 2, none⟩) hne b2).farS (p := ⟨q, 3, none⟩) hne b3
theorem Drew.put4 {g : Nat} {P : Int} {w a : World} (h : Drew g P w a) (b : Nat) (hb : w.heap.size ≤ b) (hgw : g < w.heap.size) (b0 b1 b2 b3 : Value) : Drew g P w (Go.Proofs.Ytkamlibfcakblaa.put4 a b b0 b1 b2 b3) :=
  (((h.setCell (p := ⟨b, 0, none⟩) hb hgw b0).setCell (p := ⟨b, 1, none⟩) hb hgw b1).setCell (p := ⟨b, 2, none⟩) hb hgw b2).setCell (p := ⟨b, 3, none⟩) hb hgw b3
/-- What holds while a note is drawn: its box, its names, its writes. -/
structure NtC (w : World) (g : Nat) (P : Int) (bx : Nat) (x : Note) (ul uw : Value) (Su Sw : Nat → Prop) (W : World) : Prop where
  hr : Held W w.heap.size [.int .i64 0, .int .i64 0, .slice none 0 0, .slice none 0 0]
  hx : Held W bx [.int .i64 x.kind, .int .i64 x.tx, ul, uw]
  lo : strSh.Own 9 W Su ul x.locks
  wo : wrSh.Own 86 W Sw uw x.writes
  su : ∀ b, Su b → w.heap.size < b ∧ b < W.heap.size ∧ b ≠ bx
  sw : ∀ b, Sw b → w.heap.size < b ∧ b < W.heap.size ∧ b ≠ bx
  ds : ∀ b, Su b → ¬ Sw b
  dr : Drew g P w W
  gw : g < w.heap.size
  hb : w.heap.size < bx
section
variable {w W W' : World} {g bx : Nat} {P P' : Int} {x : Note} {ul uw ul' uw' : Value} {Su Sw S' : Nat → Prop} {ls : List ByteArray} {ws : List Wr}
theorem NtC.draw (h : NtC w g P bx x ul uw Su Sw W) (hd : Drew g P' W W') : NtC w g P' bx x ul uw Su Sw W' := by
  have g1 := h.gw
  have g2 := h.hb
  have g3 := hd.2.size
  exact ⟨h.hr.drew hd (by omega), h.hx.drew hd (by omega), sh_drew h.lo hd (fun b hb => by have := h.su b hb; omega), sh_drew h.wo hd (fun b hb => by have := h.sw b hb; omega), fun b hb => by have := h.su b hb; omega, fun b hb => by have := h.sw b hb; omega, h.ds, h.dr.trans hd, h.gw, h.hb⟩
theorem NtC.more (h : NtC w g P bx x ul uw Su Sw W) (hP : P ≤ P') : NtC w g P' bx x ul uw Su Sw W := ⟨h.hr, h.hx, h.lo, h.wo, h.su, h.sw, h.ds, ⟨h.dr.1.more hP, h.dr.2⟩, h.gw, h.hb⟩
theorem NtC.then_ (h : NtC w g P bx x ul uw Su Sw W) (hb : Below W.heap.size W W') : NtC w g P bx x ul uw Su Sw W' := by
  have g3 := hb.size
  exact ⟨h.hr.below hb h.hr.1, h.hx.below hb h.hx.1, h.lo.below hb, h.wo.below hb, fun b hb => by have := h.su b hb; omega, fun b hb => by have := h.sw b hb; omega, h.ds, h.dr.then_ hb, h.gw, h.hb⟩
theorem NtC.setInt (h : NtC w g P bx x ul uw Su Sw W) (a b : Int) {i : Nat} {u : Value} (hc : [Value.int .i64 x.kind, .int .i64 x.tx, ul, uw].set i u = [.int .i64 a, .int .i64 b, ul, uw]) : NtC w g P bx ⟨a, b, x.locks, x.writes⟩ ul uw Su Sw (W.setCell ⟨bx, i, none⟩ u) := by
  have g2 := h.hb
  have hs : (W.setCell ⟨bx, i, none⟩ u).heap.size = W.heap.size := by simp [World.setCell]
  refine ⟨h.hr.farS (by show w.heap.size ≠ bx; omega) _, by have h1 := h.hx.set_ (i := i) u; rw [hc] at h1; exact h1, h.lo.keep fun b hb _ => Below.heap_setCell _ _ _ _ (h.su b hb).2.2, h.wo.keep fun b hb _ => Below.heap_setCell _ _ _ _ (h.sw b hb).2.2, fun b hb => by rw [hs]; exact h.su b hb, fun b hb => by rw [hs]; exact h.sw b hb, h.ds, h.dr.setCell (p := ⟨bx, i, none⟩) (by show w.heap.size ≤ bx; omega) h.gw _, h.gw, h.hb⟩
/-- Names appended. -/
theorem NtC.putL (h : NtC w g P bx x ul uw Su Sw W) (ho : strSh.Own 9 W' (fun b => Su b ∨ b = W.heap.size) ul' ls) (hg : W.grownBy W' ul.ownBlock) : NtC w g P bx ⟨x.kind, x.tx, ls, x.writes⟩ ul' uw (fun b => (Su b ∨ b = W.heap.size) ∧ b < W'.heap.size) Sw (W'.setCell ⟨bx, 2, none⟩ ul') := by
  have g2 := h.hb
  have g3 := h.hx.1
  have g4 := hg.size
  have hs : (W'.setCell ⟨bx, 2, none⟩ ul').heap.size = W'.heap.size := by simp [World.setCell]
  have hO : Outs Su W W' := Outs.of_grown hg (fun k e => h.lo.blk k e)
  have hset : ∀ b, (Su b ∨ b = W.heap.size) ∧ b < W'.heap.size → w.heap.size < b ∧ b < W'.heap.size ∧ b ≠ bx := fun b hb => by
    rcases hb.1 with h1 | h1
    · have := h.su b h1; omega
    · omega
  refine ⟨(h.hr.outs hO (fun e => by have := h.su _ e; omega)).farS (by show w.heap.size ≠ bx; omega) _, (h.hx.outs hO (fun e => (h.su _ e).2.2 rfl)).set_ (i := 2) ul', ho.cap.keep fun b hb _ => Below.heap_setCell _ _ _ _ (hset b hb).2.2, (h.wo.keep (w' := W') fun b hb hlt => hO.block b hlt fun e => h.ds b e hb).keep fun b hb _ => Below.heap_setCell _ _ _ _ (h.sw b hb).2.2, fun b hb => by rw [hs]; exact hset b hb, fun b hb => by rw [hs]; have := h.sw b hb; omega, fun b hb hb2 => ?_, (h.dr.grown hg (fun k e => by have := h.su k (h.lo.blk k e); omega) h.gw).setCell (p := ⟨bx, 2, none⟩) (by show w.heap.size ≤ bx; omega) h.gw _, h.gw, h.hb⟩
  rcases hb.1 with h1 | h1
  · exact h.ds b h1 hb2
  · have := h.sw b hb2; omega
/-- Writes appended. -/
theorem NtC.putW (h : NtC w g P bx x ul uw Su Sw W) (hS : ∀ b, S' b → w.heap.size < b ∧ b < W.heap.size ∧ b ≠ bx ∧ ¬ Su b) (ho : wrSh.Own 86 W' (fun b => Sw b ∨ S' b ∨ b = W.heap.size) uw' ws) (hg : W.grownBy W' uw.ownBlock) : NtC w g P bx ⟨x.kind, x.tx, x.locks, ws⟩ ul uw' Su (fun b => (Sw b ∨ S' b ∨ b = W.heap.size) ∧ b < W'.heap.size) (W'.setCell ⟨bx, 3, none⟩ uw') := by
  have g2 := h.hb
  have g3 := h.hx.1
  have g4 := hg.size
  have hs : (W'.setCell ⟨bx, 3, none⟩ uw').heap.size = W'.heap.size := by simp [World.setCell]
  have hO : Outs Sw W W' := Outs.of_grown hg (fun k e => h.wo.blk k e)
  have hset : ∀ b, (Sw b ∨ S' b ∨ b = W.heap.size) ∧ b < W'.heap.size → w.heap.size < b ∧ b < W'.heap.size ∧ b ≠ bx ∧ ¬ Su b := fun b hb => by
    rcases hb.1 with h1 | h1 | h1
    · have := h.sw b h1; exact ⟨this.1, hb.2, this.2.2, fun e => h.ds b e h1⟩
    · have := hS b h1; exact ⟨this.1, hb.2, this.2.2.1, this.2.2.2⟩
    · exact ⟨by omega, hb.2, by omega, fun e => by have := h.su b e; omega⟩
  refine ⟨(h.hr.outs hO (fun e => by have := h.sw _ e; omega)).farS (by show w.heap.size ≠ bx; omega) _, (h.hx.outs hO (fun e => (h.sw _ e).2.2 rfl)).set_ (i := 3) uw', (h.lo.keep (w' := W') fun b hb hlt => hO.block b hlt fun e => h.ds b hb e).keep fun b hb _ => Below.heap_setCell _ _ _ _ (h.su b hb).2.2, ho.cap.keep fun b hb _ => Below.heap_setCell _ _ _ _ (hset b hb).2.2.1, fun b hb => by rw [hs]; have := h.su b hb; omega, fun b hb => by rw [hs]; exact ⟨(hset b hb).1, (hset b hb).2.1, (hset b hb).2.2.1⟩, fun b hb hb2 => (hset b hb2).2.2.2 hb, (h.dr.grown hg (fun k e => by have := h.sw k (h.wo.blk k e); omega) h.gw).setCell (p := ⟨bx, 3, none⟩) (by show w.heap.size ≤ bx; omega) h.gw _, h.gw, h.hb⟩
/-- Writes of another make, where there were none. -/
theorem NtC.newW (h : NtC w g P bx x ul uw Su Sw W) (hS : ∀ b, S' b → w.heap.size < b ∧ b < W.heap.size ∧ b ≠ bx ∧ ¬ Su b) (ho : wrSh.Own 86 W S' uw' ws) : NtC w g P bx ⟨x.kind, x.tx, x.locks, ws⟩ ul uw' Su S' (W.setCell ⟨bx, 3, none⟩ uw') := by
  have g2 := h.hb
  have hs : (W.setCell ⟨bx, 3, none⟩ uw').heap.size = W.heap.size := by simp [World.setCell]
  refine ⟨h.hr.farS (by show w.heap.size ≠ bx; omega) _, h.hx.set_ (i := 3) uw', h.lo.keep fun b hb _ => Below.heap_setCell _ _ _ _ (h.su b hb).2.2, ho.keep fun b hb _ => Below.heap_setCell _ _ _ _ (hS b hb).2.2.1, fun b hb => by rw [hs]; exact h.su b hb, fun b hb => by rw [hs]; have := hS b hb; omega, fun b hb hb2 => (hS b hb2).2.2.2 hb, h.dr.setCell (p := ⟨bx, 3, none⟩) (by show w.heap.size ≤ bx; omega) h.gw _, h.gw, h.hb⟩
end
/-- The same, with what is known of the note alone. -/
def NtW (w : World) (g : Nat) (P : Int) (bx : Nat) (x : Note) (W : World) : Prop := ∃ Al cl Aw cw Su Sw, NtC w g P bx x (.slice Al x.locks.length cl) (.slice Aw x.writes.length cw) Su Sw W
/-- As much as a drawn note has. -/
def FewN (nl nw : Nat) (x : Note) : Prop := x.locks.length ≤ nl ∧ x.writes.length ≤ nw ∧ (∀ s ∈ x.locks, s.size ≤ 1000002) ∧ ∀ y ∈ x.writes, Drawn1 y
theorem few_lock {nl nw : Nat} {x : Note} (h : FewN nl nw x) {s : ByteArray} (hs : s.size ≤ 1000002) : FewN (nl + 1) nw ⟨x.kind, x.tx, x.locks ++ [s], x.writes⟩ := by
  obtain ⟨h1, h2, h3, h4⟩ := h
  refine ⟨by simp; omega, h2, fun k hk => ?_, h4⟩
  rcases List.mem_append.1 hk with h | h
  · exact h3 k h
  · rw [List.mem_singleton.1 h]; exact hs
theorem few_write {nl nw : Nat} {x : Note} (h : FewN nl nw x) {y : Wr} (hs : Drawn1 y) : FewN nl (nw + 1) ⟨x.kind, x.tx, x.locks, x.writes ++ [y]⟩ := by
  obtain ⟨h1, h2, h3, h4⟩ := h
  refine ⟨h1, by simp; omega, h3, fun k hk => ?_⟩
  rcases List.mem_append.1 hk with h | h
  · exact h4 k h
  · rw [List.mem_singleton.1 h]; exact hs
theorem few_more {nl nw nl' nw' : Nat} {x : Note} (h : FewN nl nw x) (h1 : nl ≤ nl') (h2 : nw ≤ nw') : FewN nl' nw' x := ⟨by have := h.1; omega, by have := h.2.1; omega, h.2.2⟩
theorem str_one (w : World) (s : ByteArray) (hs : s.size ≤ maxLen) : strSh.Row (w.alloc (.cells #[.string s] 9)) (w.heap.size + 1) (.slice (some ⟨w.heap.size, 0, none⟩) 1 1) [s] := by
  refine ⟨_, 1, rfl, Nat.le_refl _, by unfold maxLen; omega, fun _ => ⟨w.heap.size, 0, rfl, by omega, fun j x hx => ?_⟩⟩
  have hj : j = 0 := by have := (List.getElem?_eq_some_iff.1 hx).1; simp at this; omega
  subst hj
  have hx' : x = s := by simpa using hx.symm
  subst hx'
  refine ⟨[.string x], ⟨rfl, hs⟩, fun i u hu => ?_⟩
  have h := (Held.new w #[.string x] 9).of i u hu
  simpa using h
theorem lt_cell {w : World} {b o : Nat} {u : Value} (h : w.cell? ⟨b, o, none⟩ = some u) : b < w.heap.size := by
  rcases Nat.lt_or_ge b w.heap.size with h' | h'
  · exact h'
  · simp [World.cell?, Array.getElem?_eq_none h'] at h
/-- What a draw of a note leaves. -/
def DrewNote (g : Nat) (P : Int) (w : World) (e : Ending) (w' : World) : Prop :=
  ∃ cs x, e = .returned (.agg (List.toArray cs)) ∧ FewN 8 8 x ∧ noteSh.own w' (fun b => w.heap.size ≤ b ∧ b < w'.heap.size) cs x ∧ Drew g P w w'

/-- What holds while the first region goes on. -/
def ntInv (w : World) (g : Nat) (P : Int) (L : Nat → Bool) (U : Nat → Value) (W : World) : Prop :=
  (L 9 = false → (∀ j, L j = true → ntGood g w.heap.size j W (U j)) ∧ Rds W g (P + ntCnt L) ∧ (w.alloc (.cells #[.int .i64 0, .int .i64 0, .slice none 0 0, .slice none 0 0] 36)).grownBy W (some g)) ∧
    (L 9 = true → ∃ q a b, U 8 = .pointer (some ⟨q, 0, none⟩) ∧ 1 ≤ a ∧ a < 5 ∧ 0 ≤ b ∧ b < 5 ∧ NtW w g (P + 2) q ⟨a, b, [], []⟩ W)
theorem ntStep {w : World} {g : Nat} {P : Int} {L : Nat → Bool} {U : Nat → Value} {W W' : World} {i : Nat} {u : Value} (hi : i < 9) (h9 : L 9 = false) (hG : ∀ j, L j = true → ntGood g w.heap.size j W (U j)) (hst : ∀ j u, ntGood g w.heap.size j W u → ntGood g w.heap.size j W' u) (hu : ntGood g w.heap.size i W' u)
    (hR : Rds W' g (P + ntCnt (upd L i true))) (hg : (w.alloc (.cells #[.int .i64 0, .int .i64 0, .slice none 0 0, .slice none 0 0] 36)).grownBy W' (some g)) : ntInv w g P (upd L i true) (upd U i u) W' := by
  have e : upd L i true 9 = false := by rw [upd_other _ _ (by omega)]; exact h9
  refine ⟨fun _ => ⟨RInv.next (Good := fun j W u => ntGood g w.heap.size j W u) hG (fun j x h => hst j x h) hu, hR, hg⟩, fun h => ?_⟩
  rw [e] at h; cases h

set_option maxRecDepth 100000 in
set_option maxHeartbeats 4000000 in
theorem l20Note_any (w : World) (g : Nat) (P n : Int) (hr : Rds w g P) (hP0 : 0 ≤ P) (hP : P ≤ 600000000) (hn : n ≤ 1000000) :
    Calls Try.prog 77 #[.pointer (some ⟨g, 0, none⟩), .int .i64 n] w (DrewNote g (P + 1000) w) := by
  have hgw := hr.lt
  have HR := Lib.hid (hr.alloc (.cells #[.int .i64 0, .int .i64 0, .slice none 0 0, .slice none 0 0] 36))
  have HH := Lib.hid (Held.new w #[.int .i64 0, .int .i64 0, .slice none 0 0, .slice none 0 0] 36)
  clear hr
  go_enter Try.func77, Try.ntmps77
  go_upto_region 1 with fail
  go_cut [5] from 7 to 14 (fun u wc => ∃ q a b, u = .pointer (some ⟨q, 0, none⟩) ∧ 1 ≤ a ∧ a < 5 ∧ 0 ≤ b ∧ b < 5 ∧ NtW w g (P + 2) q ⟨a, b, [], []⟩ wc)
  case first =>
    refine wp_region_inv4 (by kernel_rfl) (fun L a W => ∃ U : Nat → Value, a = { tmps := #[.pointer (some ⟨g, 0, none⟩), .int .i64 n, undef, undef, .pointer (some ⟨w.heap.size, 0, none⟩), U 8, undef, U 0, U 1, U 2, U 3, U 4, U 5, U 6, U 7, undef, undef, undef, undef, undef, undef, undef, undef, undef, undef, undef, undef, undef, undef, undef, undef, undef, undef, undef, undef, undef, undef, undef, undef, undef, undef, undef, undef, undef, undef, undef, undef, undef, undef, undef, undef, undef, undef, undef, undef, undef, undef, undef, undef, undef, undef, undef, undef, undef, undef, undef, undef, undef, undef, undef, undef, undef, undef, undef, undef, undef, undef, undef, undef, undef, undef, undef, undef, undef, undef, undef, undef, undef, undef, undef, undef, undef, undef, undef], defers := [] } ∧ ntInv w g P L U W) (by kernel_rfl) ?h0 ?hstep ?hend
    case h0 => exact ⟨fun _ => undef, rfl, fun _ => ⟨fun j h => absurd h (by simp), by have h := HR.out; exact h.more (by have := ntCnt_bound (fun _ => false); omega), ⟨rfl, rfl, rfl, Nat.le_refl _, fun _ _ _ => rfl⟩⟩, fun h => absurd h (by simp)⟩
    case hstep =>
      rintro L a W i o ho hLi hpre hdn ⟨U, rfl, h1, -⟩ K hK
      have hi : i < 10 := (Array.getElem?_eq_some_iff.1 ho).1
      have hd9 : ∀ j, j < 9 → L j = false → L 9 = false := fun j hj hL => hdn.notYet 12 9 9 (by kernel_rfl) hj hL
      clear hdn
      have HK := Lib.hid hK
      clear hK
      have hcb := ntCnt_bound L
      by_cases hi9 : i < 9
      · have h9 := hd9 i hi9 hLi
        obtain ⟨hG, hRd, hGr⟩ := h1 h9
        have HG := Lib.hid hG
        have HRd := Lib.hid hRd
        have HGr := Lib.hid hGr
        have hWz : w.heap.size < W.heap.size := by have := hGr.size; rw [allocSize] at this; omega
        clear hG hRd hGr h1 hd9
        rcases (by omega : i = 0 ∨ i = 1 ∨ i = 2 ∨ i = 3 ∨ i = 4 ∨ i = 5 ∨ i = 6 ∨ i = 7 ∨ i = 8) with rfl | rfl | rfl | rfl | rfl | rfl | rfl | rfl | rfl
        all_goals (simp at ho; subst ho; simp [Region.binds] at hpre)
        · have hz := HRd.out.lt
          have hrow := rowIn_lit (w := W) (g := g) (lo := 1) (hi := 5) [(1), (1), (2), (3), (4)] hz (by decide)
          have HRw := Lib.hid hrow
          clear hrow
          go_simp
          exact HK.out _ _ ⟨upd U 0 (.slice (some ⟨W.heap.size, 0, none⟩) 5 5), by simp [upd], ntStep (by decide) h9 HG.out (fun j u h => ntGood_stable (World.grownBy_alloc _ _ _) j u h) (HRw.out) ((Rds.alloc HRd.out _).more (by rw [ntCnt_same (by decide) (by decide)]; omega)) (HGr.out.trans (World.grownBy_alloc _ _ _))⟩
        · go_simp
          exact HK.out _ _ ⟨upd U 1 (.pointer (some ⟨g, 0, none⟩)), by simp [upd], ntStep (by decide) h9 HG.out (fun _ _ h => h) (rfl) (HRd.out.more (by rw [ntCnt_same (by decide) (by decide)]; omega)) (HGr.out)⟩
        · have e1 : U 1 = .pointer (some ⟨g, 0, none⟩) := HG.out 1 (by simp [hpre])
          have HC := Lib.hid (ntCnt_2 hLi)
          go_simp
          go_wp2_with (go_at_call 59; refine (pick_rds _ g _ _ HRd.out (by omega) (by omega)).mono ?_; rintro e w' ⟨m, rfl, hm0, hm1, hd⟩)
          exact HK.out _ _ ⟨upd U 2 (.int .i64 m), by simp [upd, e1], ntStep (by decide) h9 HG.out (fun j u h => ntGood_stable hd.2 j u h) (⟨m, rfl, hm0, by have := hm1 (by omega); omega⟩) (hd.1.more (by rw [HC.out]; omega)) (HGr.out.trans hd.2)⟩
        · obtain ⟨B, e0, hB1, hB2, hB3⟩ := HG.out 0 (by simp [hpre])
          obtain ⟨m, e1, hm0, hm1⟩ := HG.out 2 (by simp [hpre])
          obtain ⟨k, rfl⟩ := Int.eq_ofNat_of_zero_le (show 0 ≤ m by omega)
          have hk : k < 5 := by omega
          have hk0 : (0 : Int) ≤ (k : Int) := by omega
          have hk1 : (k : Int) < 5 := by omega
          obtain ⟨x, hx, hxs⟩ := hB3 k hk
          have HB := Lib.hid (And.intro hx hxs)
          clear hB3 hm0 hx hxs
          go_simp
          exact HK.out _ _ ⟨upd U 3 (.pointer (some ⟨B, k, none⟩)), by simp [upd, e0, e1], ntStep (by decide) h9 HG.out (fun _ _ h => h) (⟨B, k, x, rfl, hB1, hB2, HB.out.1, HB.out.2⟩) (HRd.out.more (by rw [ntCnt_same (by decide) (by decide)]; omega)) (HGr.out)⟩
        · obtain ⟨B, j, x, e1, hB1, hB2, hx, m, rfl, hm0, hm1⟩ := HG.out 3 (by simp [hpre])
          go_simp
          exact HK.out _ _ ⟨upd U 4 (.int .i64 m), by simp [upd, e1], ntStep (by decide) h9 HG.out (fun _ _ h => h) (⟨m, rfl, hm0, hm1⟩) (HRd.out.more (by rw [ntCnt_same (by decide) (by decide)]; omega)) (HGr.out)⟩
        · go_simp
          exact HK.out _ _ ⟨upd U 5 (.pointer (some ⟨g, 0, none⟩)), by simp [upd], ntStep (by decide) h9 HG.out (fun _ _ h => h) (rfl) (HRd.out.more (by rw [ntCnt_same (by decide) (by decide)]; omega)) (HGr.out)⟩
        · have e1 : U 5 = .pointer (some ⟨g, 0, none⟩) := HG.out 5 (by simp [hpre])
          have HC := Lib.hid (ntCnt_6 hLi)
          go_simp
          go_wp2_with (go_at_call 59; refine (pick_rds _ g _ _ HRd.out (by omega) (by omega)).mono ?_; rintro e w' ⟨m, rfl, hm0, hm1, hd⟩)
          exact HK.out _ _ ⟨upd U 6 (.int .i64 m), by simp [upd, e1], ntStep (by decide) h9 HG.out (fun j u h => ntGood_stable hd.2 j u h) (⟨m, rfl, hm0, by have := hm1 (by omega); omega⟩) (hd.1.more (by rw [HC.out]; omega)) (HGr.out.trans hd.2)⟩
        · obtain ⟨a, e4, ha0, ha1⟩ := HG.out 4 (by simp [hpre])
          obtain ⟨b, e6, hb0, hb1⟩ := HG.out 6 (by simp [hpre])
          go_simp
          exact HK.out _ _ ⟨upd U 7 (.agg #[.int .i64 a, .int .i64 b, .slice none 0 0, .slice none 0 0]), by simp [upd, e4, e6], ntStep (by decide) h9 HG.out (fun _ _ h => h) ⟨a, b, rfl, ha0, ha1, hb0, hb1⟩ (HRd.out.more (by rw [ntCnt_same (by decide) (by decide)]; omega)) HGr.out⟩
        · go_simp
          exact HK.out _ _ ⟨upd U 8 (.pointer (some ⟨W.heap.size, 0, none⟩)), by simp [upd], ntStep (by decide) h9 HG.out (fun j u h => ntGood_stable (World.grownBy_alloc _ _ _) j u h) ⟨W.heap.size, rfl, by omega, by omega, Held.new W #[.int .i64 0, .int .i64 0, .slice none 0 0, .slice none 0 0] 36⟩ ((Rds.alloc HRd.out _).more (by rw [ntCnt_same (by decide) (by decide)]; omega)) (HGr.out.trans (World.grownBy_alloc _ _ _))⟩
      · obtain rfl : i = 9 := by omega
        obtain ⟨hG, hRd, hGr⟩ := h1 hLi
        simp at ho; subst ho; simp [Region.binds] at hpre
        obtain ⟨a, b, e7, ha0, ha1, hb0, hb1⟩ : ∃ a b : Int, U 7 = .agg #[.int .i64 a, .int .i64 b, .slice none 0 0, .slice none 0 0] ∧ 1 ≤ a ∧ a < 5 ∧ 0 ≤ b ∧ b < 5 := hG 7 (by simp [hpre])
        obtain ⟨q, e8, hq0, hq1, hq⟩ : ∃ q, U 8 = .pointer (some ⟨q, 0, none⟩) ∧ w.heap.size < q ∧ g < q ∧ Held W q [.int .i64 0, .int .i64 0, .slice none 0 0, .slice none 0 0] := hG 8 (by simp [hpre])
        have x0 := hq.of 0 _ rfl
        have x1 := hq.of 1 _ rfl
        have x2 := hq.of 2 _ rfl
        have x3 := hq.of 3 _ rfl
        have xf := hq.2.1
        have hc : ntCnt L ≤ 2 := by have := hcb; omega
        have HN := Lib.hid (show NtW w g (P + 2) q ⟨a, b, [], []⟩ (put4 W q (.int .i64 a) (.int .i64 b) (.slice none 0 0) (.slice none 0 0)) from
          ⟨none, 0, none, 0, fun _ => False, fun _ => False, ((HH.out.outs (Outs.of_grown (S := fun k => k = g) hGr (fun k e => (Option.some.inj e).symm)) (by omega)).keep4 (by omega) _ _ _ _), hq.put4 _ _ _ _, Sh.Own.nil _ _, Sh.Own.nil _ _, fun _ h => h.elim, fun _ h => h.elim, fun _ h => h.elim,
            Drew.put4 ⟨hRd.more (by omega), (World.grownBy_alloc w _ _).trans hGr⟩ q (by omega) hgw _ _ _ _, hgw, hq0⟩)
        clear hG hRd hGr h1 hd9 hq
        go_simp
        exact HK.out _ _ ⟨U, by simp [e7, e8], fun h => absurd h (by simp [upd]), fun _ => ⟨q, a, b, e8, ha0, ha1, hb0, hb1, HN.out⟩⟩
    case hend =>
      rintro L a W hL ⟨U, rfl, -, h⟩
      have HF := Lib.hid (h (hL 9 (by decide)))
      clear h
      dsimp only
      go_wp2
      go_meet
      case rel => exact HF.out
  case rest =>
    obtain ⟨q, a, b, rfl, ha0, ha1, hb0, hb1, hN⟩ := hcut
    have HN := Lib.hid hN
    clear hN
    obtain ⟨A0, d0, B0, e0, Su0, Sw0, hC⟩ := HN.out
    have HC := Lib.hid hC
    clear HN hC
    have x0 := HC.out.hx.of 0 _ rfl
    have hgq := HC.out.hb
    go_upto_if 17 with fail
    go_cut [6] from 17 to 48 (fun _ wd => ∃ x, FewN 7 6 x ∧ NtW w g (P + 400) q x wd)
    case first =>
      by_cases hk : a = 1
      · have hk1 : (a == 1) = true := by simp [hk]
        clear hk x0
        have x3 := HC.out.hx.of 3 _ rfl
        have xf := HC.out.hx.2.1
        go_wp2_with fail
        refine (l20Writes_own _ g _ _ HC.out.dr.1 (by omega) (by omega) (by omega)).mono ?_
        rintro e w1 ⟨v1, ws, rfl, hl1, hd1, ho1, hdr1⟩
        obtain ⟨Aw, cw, hf1, -, -⟩ := ho1.row.form
        subst hf1
        have hwc := HC.out.hx.1
        have HC1 := Lib.hid (HC.out.draw hdr1)
        have HC2 := Lib.hid (HC1.out.newW (S' := fun b => wc.heap.size ≤ b ∧ b < w1.heap.size) (fun b hb => ⟨by have := hb.1; omega, hb.2, by have := hb.1; omega, fun h => by have := HC.out.su b h; have := hb.1; omega⟩) ho1)
        have HD := Lib.hid hd1
        have x3' := HC1.out.hx.of 3 _ rfl
        have xf' := HC1.out.hx.2.1
        clear hdr1 ho1 x3 xf hd1 HC
        go_wp2
        clear x3' xf'
        generalize w1.setCell ⟨q, 3, none⟩ (.slice Aw ws.length cw) = w2 at *
        go_loopw [6] (fun i wr => ∃ (k : Nat) (x : Note), k ≤ ws.length ∧ i = .int .i64 k ∧ x.writes = ws ∧ FewN k 6 x ∧ NtW w g (P + 302) q x wr) (fun i _ => ws.length - (intOf i).toNat)
        case atStart => exact ⟨0, _, Nat.zero_le _, rfl, rfl, ⟨by simp, hl1, fun _ h => absurd h (by simp), HD.out⟩, _, _, _, _, _, _, HC2.out.more (by omega)⟩
        case round =>
          clear HC1 HC2
          obtain ⟨k, x, hk, rfl, hxw, hfew, A2, c2, A3, c3, Su, Sw, hC⟩ := hrel
          subst hxw
          have x3 := hC.hx.of 3 _ rfl
          by_cases hlt : k < x.writes.length
          · obtain ⟨b3, off, cc, y, A4, n4, d4, e1, hy, hb3, hys, y0, -, -, -⟩ := wrs_at hC.wo.row hlt
            injection e1 with e1a e1b e1c
            subst e1a
            have hy1 := hfew.2.2.2 y (List.mem_of_getElem? hy)
            have hkl := hfew.1
            have hsb : Sw b3 := by
              rcases hC.wo.form with ⟨h2, -⟩ | ⟨gg, cap, h2, h3, -, -, -⟩
              · injection h2 with h2 _ _; cases h2
              · injection h2 with h2 _ _; injection h2 with h2; injection h2 with h2 h2b h2c; subst h2; exact h3
            have HC := Lib.hid hC
            have HY := Lib.hid hy1
            have HFw := Lib.hid hfew
            have hqr : q < wr.heap.size := hC.hx.1
            have k0 : wr.drew.cell? ⟨q, 2, none⟩ = some (.slice A2 x.locks.length c2) ∧ wr.drew.cell? ⟨q, 3, none⟩ = some (.slice (some ⟨b3, off, none⟩) x.writes.length c3) ∧ wr.drew.cell? ⟨b3, off + k * 3, none⟩ = some (.string y.key) := ⟨hC.hx.of 2 _ rfl, hC.hx.of 3 _ rfl, y0⟩
            have HL0 := Lib.hid (show strSh.Own 9 (wr.drew.alloc (.cells #[.string y.key] 9)) Su (.slice A2 x.locks.length c2) x.locks from Sh.Own.below (w := wr) hC.lo ((Below.refl _ wr).drew.trans (belowOne wr.drew (.cells #[.string y.key] 9))))
            have HC0 := Lib.hid (show NtC w g (P + 302) q x (.slice A2 x.locks.length c2) (.slice (some ⟨b3, off, none⟩) x.writes.length c3) Su Sw (wr.drew.alloc (.cells #[.string y.key] 9)) from hC.then_ ((Below.refl _ wr).drew.trans (belowOne wr.drew (.cells #[.string y.key] 9))))
            have HRs := Lib.hid (show strSh.Row (wr.drew.alloc (.cells #[.string y.key] 9)) (wr.heap.size + 1) (.slice (some ⟨wr.heap.size, 0, none⟩) 1 1) [y.key] from str_one wr.drew y.key hys)
            have k1 : (wr.alloc (.cells #[.string y.key] 9)).drew.cell? ⟨q, 2, none⟩ = some (.slice A2 x.locks.length c2) ∧ (wr.alloc (.cells #[.string y.key] 9)).drew.cell? ⟨q, 3, none⟩ = some (.slice (some ⟨b3, off, none⟩) x.writes.length c3) ∧ (wr.alloc (.cells #[.string y.key] 9)).drew.cell? ⟨b3, off + k * 3, none⟩ = some (.string y.key) := ⟨HC0.out.hx.of 2 _ rfl, HC0.out.hx.of 3 _ rfl, ((belowOne wr.drew (.cells #[.string y.key] 9)).cell (p := ⟨b3, off + k * 3, none⟩) hb3).trans y0⟩
            clear e1b e1c hC hy hb3 y0 hy1 hfew
            go_wp2
            clear x3
            refine region_l (S := (fun w' => w'.cell? ⟨q, 2, none⟩ = some (.slice A2 x.locks.length c2) ∧ w'.cell? ⟨q, 3, none⟩ = some (.slice (some ⟨b3, off, none⟩) x.writes.length c3) ∧ w'.cell? ⟨b3, off + k * 3, none⟩ = some (.string y.key))) 11 (by kernel_rfl) ?hSr (fun hHeldr => ?str)
            case hSr => (first | (dsimp only; (first | with_reducible exact k2 | with_reducible exact k1 | exact k0)) | (first | with_reducible exact k2 | with_reducible exact k1 | exact k0))
            refine take_l 0 28 (v := ?vr_1) rfl rfl (by kernel_rfl) (by kernel_rfl) (by kernel_rfl) (by kernel_rfl) (fun _ _ _ h => h) (by rfl) ?yr_1 (by assumption) ?rr_1
            case yr_1 => (intro w hSw; (try dsimp only at hSw); go_simp; (try with_reducible rfl))
            simp only [Act.put, List.setIfInBounds_toArray, List.set_cons_zero, List.set_cons_succ]
            refine take_l 1 29 (v := ?vr_2) rfl rfl (by kernel_rfl) (by kernel_rfl) (by kernel_rfl) (by kernel_rfl) (fun _ _ _ h => h) (by rfl) ?yr_2 (by assumption) ?rr_2
            case yr_2 => (intro w hSw; (try dsimp only at hSw); go_simp; (try with_reducible rfl))
            simp only [Act.put, List.setIfInBounds_toArray, List.set_cons_zero, List.set_cons_succ]
            refine take_l 2 30 (v := ?vr_3) rfl rfl (by kernel_rfl) (by kernel_rfl) (by kernel_rfl) (by kernel_rfl) (fun _ _ _ h => h) (by rfl) ?yr_3 (by assumption) ?rr_3
            case yr_3 => (intro w hSw; (try dsimp only at hSw); go_simp; (try with_reducible rfl))
            simp only [Act.put, List.setIfInBounds_toArray, List.set_cons_zero, List.set_cons_succ]
            refine take_l 3 31 (v := ?vr_4) rfl rfl (by kernel_rfl) (by kernel_rfl) (by kernel_rfl) (by kernel_rfl) (fun _ _ _ h => h) (by rfl) ?yr_4 (by assumption) ?rr_4
            case yr_4 => (intro w hSw; (try dsimp only at hSw); go_simp; (try with_reducible rfl))
            simp only [Act.put, List.setIfInBounds_toArray, List.set_cons_zero, List.set_cons_succ]
            refine take_l 4 32 (v := ?vr_5) rfl rfl (by kernel_rfl) (by kernel_rfl) (by kernel_rfl) (by kernel_rfl) (fun _ _ _ h => h) (by rfl) ?yr_5 (by assumption) ?rr_5
            case yr_5 => (intro w hSw; (try dsimp only at hSw); go_simp; (try with_reducible rfl))
            simp only [Act.put, List.setIfInBounds_toArray, List.set_cons_zero, List.set_cons_succ]
            refine take_l 5 33 (v := ?vr_6) rfl rfl (by kernel_rfl) (by kernel_rfl) (by kernel_rfl) (by kernel_rfl) (fun _ _ _ h => h) (by rfl) ?yr_6 (by assumption) ?rr_6
            case yr_6 => (intro w hSw; (try dsimp only at hSw); go_simp; (try with_reducible rfl))
            simp only [Act.put, List.setIfInBounds_toArray, List.set_cons_zero, List.set_cons_succ]
            refine take_l 6 34 (v := ?vr_7) rfl rfl (by kernel_rfl) (by kernel_rfl) (by kernel_rfl) (by kernel_rfl) (fun _ _ _ h => h) (by rfl) ?yr_7 (by assumption) ?rr_7
            case yr_7 => (intro w hSw; (try dsimp only at hSw); go_simp; (try with_reducible rfl))
            simp only [Act.put, List.setIfInBounds_toArray, List.set_cons_zero, List.set_cons_succ]
            refine take_l 7 35 (v := ?vr_8) rfl rfl (by kernel_rfl) (by kernel_rfl) (by kernel_rfl) (by kernel_rfl) (fun _ _ _ h => h) (by rfl) ?yr_8 (by assumption) ?rr_8
            case yr_8 => (intro w hSw; (try dsimp only at hSw); go_simp; (try with_reducible rfl))
            simp only [Act.put, List.setIfInBounds_toArray, List.set_cons_zero, List.set_cons_succ]
            refine one_l 8 rfl (by kernel_rfl) (fun Kr_9 hKr_9 => ?cr_9)
            go_simp
            skip
            go_wp2_with fail
            refine hKr_9.out _ _ ?kr_9 (fun hHoldr_9 => ?dr_9)
            case kr_9 => (intro _; (first | (dsimp only; (first | with_reducible exact k2 | with_reducible exact k1 | exact k0)) | (first | with_reducible exact k2 | with_reducible exact k1 | exact k0)))
            clear hKr_9 Kr_9
            have hHeldr_9 := hHoldr_9 (by decide)
            clear hHoldr_9
            refine one_l 9 rfl (by kernel_rfl) (fun Kr_10 hKr_10 => ?cr_10)
            rw [if_pos (by rfl)]
            refine app_strs (.tmp 29) (.tmp 36) rfl Su _ x.locks [y.key] rfl HL0.out _ _ 1 1 rfl rfl HRs.out (by simp; omega) ?_; intro v9 w9 ho9 hg9; obtain ⟨A9, c9, hf9, -, -⟩ := ho9.row.form; rw [List.length_append, List.length_singleton] at hf9; subst hf9; have HC9 := Lib.hid (HC0.out.putL ho9 hg9); have HX9 := Lib.hid (HC0.out.hx.outs (Outs.of_grown (S := Su) hg9 HL0.out.blk) (fun e => (HC0.out.su _ e).2.2 rfl)); have k2 : w9.cell? ⟨q, 2, none⟩ = some (.slice A2 x.locks.length c2) ∧ w9.cell? ⟨q, 3, none⟩ = some (.slice (some ⟨b3, off, none⟩) x.writes.length c3) ∧ w9.cell? ⟨b3, off + k * 3, none⟩ = some (.string y.key) := ⟨HX9.out.of 2 _ rfl, HX9.out.of 3 _ rfl, (World.cell?_of_block (a := ⟨b3, off + k * 3, none⟩) (hg9.block b3 (lt_cell k1.2.2) (fun e => HC0.out.ds b3 (HL0.out.blk _ e.symm) hsb))).trans k1.2.2⟩; have f9 := HX9.out.2.1 2; clear ho9 hg9
            refine hKr_10.out _ _ ?kr_10 (fun hHoldr_10 => ?dr_10)
            case kr_10 => (intro _; (first | (dsimp only; (first | with_reducible exact k2 | with_reducible exact k1 | exact k0)) | (first | with_reducible exact k2 | with_reducible exact k1 | exact k0)))
            clear hKr_10 Kr_10
            have hHeldr_10 := hHoldr_10 (by decide)
            clear hHoldr_10
            refine take_l 10 38 (v := ?vr_11) rfl rfl (by kernel_rfl) (by kernel_rfl) (by kernel_rfl) (by kernel_rfl) (fun _ _ _ h => h) (by rfl) ?yr_11 (by assumption) ?rr_11
            case yr_11 => (intro w hSw; (try dsimp only at hSw); go_simp; (try with_reducible rfl))
            simp only [Act.put, List.setIfInBounds_toArray]
            refine one_l 11 rfl (by kernel_rfl) (fun Kr_12 hKr_12 => ?cr_12)
            go_simp
            skip
            go_wp2_with fail
            refine hKr_12.out _ _ ?kr_12 (fun hHoldr_12 => ?dr_12)
            case kr_12 => exact fun h => absurd rfl h
            clear hKr_12 Kr_12
            clear hHoldr_12
            refine done_l (by kernel_rfl) ?er _
            have HF9 := Lib.hid (few_lock HFw.out HY.out.1)
            have HN9 := Lib.hid (show NtW w g (P + 302) q ⟨x.kind, x.tx, x.locks ++ [y.key], x.writes⟩ (w9.setCell ⟨q, 2, none⟩ (.slice A9 (x.locks.length + 1) c9)) from ⟨A9, c9, _, _, _, _, by have h := HC9.out; rw [show x.locks.length + 1 = (x.locks ++ [y.key]).length by simp] at h ⊢; exact h⟩)
            clear HC HC0 HL0 HRs HC9 HX9 k0 k1 k2 f9
            go_wp2
            go_roundw
            case rel => exact ⟨k + 1, ⟨x.kind, x.tx, x.locks ++ [y.key], x.writes⟩, by omega, by go_num, rfl, HF9.out, HN9.out⟩
            case measure => simp [intOf]; omega
          · have HC := Lib.hid hC
            have HFw := Lib.hid (few_more (nl' := 6) hfew (by have := hfew.2.1; omega) (Nat.le_refl _))
            clear hC hfew
            go_wp2_with fail
            clear x3
            refine (pick_rds _ g _ _ HC.out.dr.1 (by omega) (by omega)).mono ?_
            rintro e w5 ⟨m, rfl, hm0, hm1, hdr5⟩
            have HC5 := Lib.hid (HC.out.draw hdr5)
            clear hdr5 HC
            by_cases hm : m = 0
            · have hmb : (m == 0) = true := by simp [hm]
              clear hm hm0 hm1
              have k0 : w5.drew.cell? ⟨q, 2, none⟩ = some (.slice A2 x.locks.length c2) := HC5.out.hx.of 2 _ rfl
              have hgw5 : g < w5.heap.size := HC5.out.dr.1.lt
              have HCd := Lib.hid (show NtC w g (P + 302 + 1) q x (.slice A2 x.locks.length c2) (.slice A3 x.writes.length c3) Su Sw w5.drew from HC5.out.then_ (Below.refl _ w5).drew)
              go_wp2
              refine region_l (S := (fun w' => w'.cell? ⟨q, 2, none⟩ = some (.slice A2 x.locks.length c2))) 7 (by kernel_rfl) ?hSs (fun hHelds => ?sts)
              case hSs => (first | (dsimp only; (first | with_reducible exact k3 | with_reducible exact k2 | with_reducible exact k1 | exact k0)) | (first | with_reducible exact k3 | with_reducible exact k2 | with_reducible exact k1 | exact k0))
              refine take_l 0 42 (v := ?vs_1) rfl rfl (by kernel_rfl) (by kernel_rfl) (by kernel_rfl) (by kernel_rfl) (fun _ _ _ h => h) (by rfl) ?ys_1 (by assumption) ?rs_1
              case ys_1 => (intro w hSw; (try dsimp only at hSw); go_simp; (try with_reducible rfl))
              simp only [Act.put, List.setIfInBounds_toArray, List.set_cons_zero, List.set_cons_succ]
              refine take_l 1 43 (v := ?vs_2) rfl rfl (by kernel_rfl) (by kernel_rfl) (by kernel_rfl) (by kernel_rfl) (fun _ _ _ h => h) (by rfl) ?ys_2 (by assumption) ?rs_2
              case ys_2 => (intro w hSw; (try dsimp only at hSw); go_simp; (try with_reducible rfl))
              simp only [Act.put, List.setIfInBounds_toArray, List.set_cons_zero, List.set_cons_succ]
              refine take_l 2 44 (v := ?vs_3) rfl rfl (by kernel_rfl) (by kernel_rfl) (by kernel_rfl) (by kernel_rfl) (fun _ _ _ h => h) (by rfl) ?ys_3 (by assumption) ?rs_3
              case ys_3 => (intro w hSw; (try dsimp only at hSw); go_simp; (try with_reducible rfl))
              simp only [Act.put, List.setIfInBounds_toArray, List.set_cons_zero, List.set_cons_succ]
              refine one_l 3 rfl (by kernel_rfl) (fun Ks_4 hKs_4 => ?cs_4)
              go_simp
              refine (l20Key_any _ g _ _ HCd.out.dr.1 (by omega) (by omega) (by omega)).mono ?_; rintro e w6 ⟨sk, rfl, hsk, hdr6⟩; have HC6 := Lib.hid (HCd.out.draw hdr6); have k1 := HC6.out.hx.of 2 _ rfl; have HC7 := Lib.hid (HC6.out.then_ (belowOne w6 (.cells #[.string sk] 9))); have k2 := HC7.out.hx.of 2 _ rfl; have HRs := Lib.hid (show strSh.Row (w6.alloc (.cells #[.string sk] 9)) (w6.heap.size + 1) (.slice (some ⟨w6.heap.size, 0, none⟩) 1 1) [sk] from str_one w6 sk (by unfold maxLen; omega)); clear hdr6
              go_wp2_with fail
              refine hKs_4.out _ _ ?ks_4 (fun hHolds_4 => ?ds_4)
              case ks_4 => (intro _; (first | (dsimp only; (first | with_reducible exact k3 | with_reducible exact k2 | with_reducible exact k1 | exact k0)) | (first | with_reducible exact k3 | with_reducible exact k2 | with_reducible exact k1 | exact k0)))
              clear hKs_4 Ks_4
              have hHelds_4 := hHolds_4 (by decide)
              clear hHolds_4
              refine one_l 4 rfl (by kernel_rfl) (fun Ks_5 hKs_5 => ?cs_5)
              go_simp
              skip
              go_wp2_with fail
              refine hKs_5.out _ _ ?ks_5 (fun hHolds_5 => ?ds_5)
              case ks_5 => (intro _; (first | (dsimp only; (first | with_reducible exact k3 | with_reducible exact k2 | with_reducible exact k1 | exact k0)) | (first | with_reducible exact k3 | with_reducible exact k2 | with_reducible exact k1 | exact k0)))
              clear hKs_5 Ks_5
              have hHelds_5 := hHolds_5 (by decide)
              clear hHolds_5
              refine one_l 5 rfl (by kernel_rfl) (fun Ks_6 hKs_6 => ?cs_6)
              rw [if_pos (by rfl)]
              refine app_strs (.tmp 43) (.tmp 46) rfl Su _ x.locks [sk] rfl HC7.out.lo _ _ 1 1 rfl rfl HRs.out (by have := HFw.out.1; simp; omega) ?_; intro v9 w9 ho9 hg9; obtain ⟨A9, c9, hf9, -, -⟩ := ho9.row.form; rw [List.length_append, List.length_singleton] at hf9; subst hf9; have HC9 := Lib.hid (HC7.out.putL ho9 hg9); have HX9 := Lib.hid (HC7.out.hx.outs (Outs.of_grown (S := Su) hg9 HC7.out.lo.blk) (fun e => (HC7.out.su _ e).2.2 rfl)); have k3 := HX9.out.of 2 _ rfl; have f9 := HX9.out.2.1 2; clear ho9 hg9
              refine hKs_6.out _ _ ?ks_6 (fun hHolds_6 => ?ds_6)
              case ks_6 => (intro _; (first | (dsimp only; (first | with_reducible exact k3 | with_reducible exact k2 | with_reducible exact k1 | exact k0)) | (first | with_reducible exact k3 | with_reducible exact k2 | with_reducible exact k1 | exact k0)))
              clear hKs_6 Ks_6
              have hHelds_6 := hHolds_6 (by decide)
              clear hHolds_6
              refine take_l 6 48 (v := ?vs_7) rfl rfl (by kernel_rfl) (by kernel_rfl) (by kernel_rfl) (by kernel_rfl) (fun _ _ _ h => h) (by rfl) ?ys_7 (by assumption) ?rs_7
              case ys_7 => (intro w hSw; (try dsimp only at hSw); go_simp; (try with_reducible rfl))
              simp only [Act.put, List.setIfInBounds_toArray]
              refine one_l 7 rfl (by kernel_rfl) (fun Ks_8 hKs_8 => ?cs_8)
              go_simp
              skip
              go_wp2_with fail
              refine hKs_8.out _ _ ?ks_8 (fun hHolds_8 => ?ds_8)
              case ks_8 => exact fun h => absurd rfl h
              clear hKs_8 Ks_8
              clear hHolds_8
              refine done_l (by kernel_rfl) ?es _
              have HF9 := Lib.hid (few_lock HFw.out hsk)
              have HN9 := Lib.hid (show NtW w g (P + 400) q ⟨x.kind, x.tx, x.locks ++ [sk], x.writes⟩ (w9.setCell ⟨q, 2, none⟩ (.slice A9 (x.locks.length + 1) c9)) from ⟨A9, c9, _, _, _, _, by have h := HC9.out.more (P' := P + 400) (by omega); rw [show x.locks.length + 1 = (x.locks ++ [sk]).length by simp] at h ⊢; exact h⟩)
              clear HC5 HCd HC6 HC7 HRs HC9 HX9 k0 k1 k2 k3 f9
              go_wp2
              go_meet
              case rel => exact ⟨_, HF9.out, HN9.out⟩
            · have hmb : (m == 0) = false := by simp [hm]
              clear hm hm0 hm1
              go_wp2
              go_meet
              case rel => exact ⟨x, few_more HFw.out (by omega) (by omega), _, _, _, _, _, _, HC5.out.more (by omega)⟩
      · have hk1 : (a == 1) = false := by simp [hk]
        clear hk
        go_wp2
        go_meet
        case rel => exact ⟨⟨a, b, [], []⟩, ⟨by simp, by simp, fun _ h => absurd h (by simp), fun _ h => absurd h (by simp)⟩, _, _, _, _, _, _, HC.out.more (by omega)⟩
    case rest =>
      obtain ⟨x, hfew, A2, c2, A3, c3, Su, Sw, hC⟩ := hcut
      have HC := Lib.hid hC
      have HFw := Lib.hid hfew
      clear hC hfew
      have hgq2 := HC.out.hb
      go_wp2_with fail
      refine (odd_any _ g _ _ HC.out.dr.1 (by omega) hn).mono ?_
      rintro e w5 ⟨bb, rfl, -, hdr5⟩
      have HC5 := Lib.hid (HC.out.draw hdr5)
      clear hdr5 HC
      go_upto_if 51 with fail
      go_cut [] from 51 to 92 (fun we => ∃ x, FewN 8 8 x ∧ NtW w g (P + 900) q x we)
      case first =>
        cases bb
        · go_wp2
          go_meet
          case rel => exact ⟨x, few_more HFw.out (by omega) (by omega), _, _, _, _, _, _, HC5.out.more (by omega)⟩
        · go_wp2_with fail
          refine (pick_rds _ g _ _ HC5.out.dr.1 (by omega) (by omega)).mono ?_
          rintro e w6 ⟨m, rfl, hm0, hm1, hdr6⟩
          have HC6 := Lib.hid (HC5.out.draw hdr6)
          clear hdr6 HC5
          rcases (by have := hm1 (by omega); omega : m = 0 ∨ m = 1 ∨ m = 2 ∨ m = 3 ∨ (m ≠ 0 ∧ m ≠ 1 ∧ m ≠ 2 ∧ m ≠ 3)) with hm | hm | hm | hm | ⟨h0, h1, h2, h3⟩
          · have e0 : (m == 0) = true := by simp [hm]
            clear hm
            have HC7 := Lib.hid (HC6.out.then_ (belowOne w6 (.cells #[.int .i64 (0), .int .i64 (5)] 3)))
            have HLt := Lib.hid (Held.new w6 #[.int .i64 (0), .int .i64 (5)] 3)
            go_wp2_with fail
            refine (pick_rds _ g _ _ HC7.out.dr.1 (by omega) (by omega)).mono ?_
            rintro e w8 ⟨k, rfl, hk0, hk1, hdr8⟩
            have HC8 := Lib.hid (HC7.out.draw hdr8)
            have HL8 := Lib.hid (HLt.out.drew hdr8 (by have := HC6.out.dr.1.lt; omega))
            have hk2 := hk1 (by omega)
            clear hdr8 HC7 HLt hk1
            have l0 := HL8.out.of 0 _ rfl
            have l1 := HL8.out.of 1 _ rfl
            have x0 := HC8.out.hx.of 0 _ rfl
            have xf := HC8.out.hx.2.1
            rcases (by omega : k = 0 ∨ k = 1) with rfl | rfl
            · have HN := Lib.hid (HC8.out.setInt (0) x.tx (i := 0) (u := .int .i64 (0)) rfl)
              go_wp2
              go_meet
              case rel => exact ⟨_, few_more (x := ⟨(0), x.tx, x.locks, x.writes⟩) HFw.out (by omega) (by omega), _, _, _, _, _, _, HN.out.more (by omega)⟩
            · have HN := Lib.hid (HC8.out.setInt (5) x.tx (i := 0) (u := .int .i64 (5)) rfl)
              go_wp2
              go_meet
              case rel => exact ⟨_, few_more (x := ⟨(5), x.tx, x.locks, x.writes⟩) HFw.out (by omega) (by omega), _, _, _, _, _, _, HN.out.more (by omega)⟩
          · have e0 : (m == 0) = false := by simp [hm]
            have e1 : (m == 1) = true := by simp [hm]
            clear hm
            have HC7 := Lib.hid (HC6.out.then_ (belowOne w6 (.cells #[.int .i64 (-1), .int .i64 (30)] 3)))
            have HLt := Lib.hid (Held.new w6 #[.int .i64 (-1), .int .i64 (30)] 3)
            go_wp2_with fail
            refine (pick_rds _ g _ _ HC7.out.dr.1 (by omega) (by omega)).mono ?_
            rintro e w8 ⟨k, rfl, hk0, hk1, hdr8⟩
            have HC8 := Lib.hid (HC7.out.draw hdr8)
            have HL8 := Lib.hid (HLt.out.drew hdr8 (by have := HC6.out.dr.1.lt; omega))
            have hk2 := hk1 (by omega)
            clear hdr8 HC7 HLt hk1
            have l0 := HL8.out.of 0 _ rfl
            have l1 := HL8.out.of 1 _ rfl
            have x1 := HC8.out.hx.of 1 _ rfl
            have xf := HC8.out.hx.2.1
            rcases (by omega : k = 0 ∨ k = 1) with rfl | rfl
            · have HN := Lib.hid (HC8.out.setInt x.kind (-1) (i := 1) (u := .int .i64 (-1)) rfl)
              go_wp2
              go_meet
              case rel => exact ⟨_, few_more (x := ⟨x.kind, (-1), x.locks, x.writes⟩) HFw.out (by omega) (by omega), _, _, _, _, _, _, HN.out.more (by omega)⟩
            · have HN := Lib.hid (HC8.out.setInt x.kind (30) (i := 1) (u := .int .i64 (30)) rfl)
              go_wp2
              go_meet
              case rel => exact ⟨_, few_more (x := ⟨x.kind, (30), x.locks, x.writes⟩) HFw.out (by omega) (by omega), _, _, _, _, _, _, HN.out.more (by omega)⟩
          · have e0 : (m == 0) = false := by simp [hm]
            have e1 : (m == 1) = false := by simp [hm]
            have e2 : (m == 2) = true := by simp [hm]
            clear hm
            have HC7 := Lib.hid (HC6.out.then_ (belowOne w6 (.cells #[.string ⟨#[]⟩] 9)))
            have HRs := Lib.hid (str_one w6 ⟨#[]⟩ (by unfold maxLen; exact Nat.zero_le _))
            have x2 := HC6.out.hx.of 2 _ rfl
            have x2' := HC7.out.hx.of 2 _ rfl
            go_wp2_with (at_builtin; refine wpl_append_strs rfl _ _ rfl Su _ x.locks [⟨#[]⟩] rfl HC7.out.lo _ _ 1 1 rfl rfl HRs.out (by have := HFw.out.1; simp; omega) ?_; intro v9 w9 ho9 hg9 _; obtain ⟨A9, c9, hf9, -, -⟩ := ho9.row.form; rw [List.length_append, List.length_singleton] at hf9; subst hf9; have HC9 := Lib.hid (HC7.out.putL ho9 hg9); have HX9 := Lib.hid (HC7.out.hx.outs (Outs.of_grown (S := Su) hg9 HC7.out.lo.blk) (fun e => (HC7.out.su _ e).2.2 rfl)); have y9 := HX9.out.of 2 _ rfl; have f9 := HX9.out.2.1; clear ho9 hg9)
            have HF9 := Lib.hid (few_lock (s := ⟨#[]⟩) HFw.out (by exact Nat.zero_le _))
            have HN9 := Lib.hid (show NtW w g (P + 900) q ⟨x.kind, x.tx, x.locks ++ [⟨#[]⟩], x.writes⟩ (w9.setCell ⟨q, 2, none⟩ (.slice A9 (x.locks.length + 1) c9)) from ⟨A9, c9, _, _, _, _, by have h := HC9.out.more (P' := P + 900) (by omega); rw [show x.locks.length + 1 = (x.locks ++ [(⟨#[]⟩ : ByteArray)]).length by simp] at h ⊢; exact h⟩)
            clear HC6 HC7 HRs HC9 HX9 x2 x2' y9 f9
            go_meet
            case rel => exact ⟨_, few_more HF9.out (by omega) (by omega), HN9.out⟩
          · have e0 : (m == 0) = false := by simp [hm]
            have e1 : (m == 1) = false := by simp [hm]
            have e2 : (m == 2) = false := by simp [hm]
            have e3 : (m == 3) = true := by simp [hm]
            clear hm
            have HC7 := Lib.hid (HC6.out.then_ (belowTwo w6 (.cells #[.int .i64 1] 3) (.cells #[.string ⟨#[122, 49]⟩, .bool false, .slice (some ⟨w6.heap.size, 0, none⟩) 1 1] 86)))
            have HHz := Lib.hid (show Held ((w6.alloc (.cells #[.int .i64 1] 3)).alloc (.cells #[.string ⟨#[122, 49]⟩, .bool false, .slice (some ⟨w6.heap.size, 0, none⟩) 1 1] 86)) (w6.heap.size + 1) [.string ⟨#[122, 49]⟩, .bool false, .slice (some ⟨w6.heap.size, 0, none⟩) 1 1] from by have h := Held.new (w6.alloc (.cells #[.int .i64 1] 3)) #[.string ⟨#[122, 49]⟩, .bool false, .slice (some ⟨w6.heap.size, 0, none⟩) 1 1] 86; rwa [allocSize] at h)
            have HOi := Lib.hid (show Sh.int.Own 3 ((w6.alloc (.cells #[.int .i64 1] 3)).alloc (.cells #[.string ⟨#[122, 49]⟩, .bool false, .slice (some ⟨w6.heap.size, 0, none⟩) 1 1] 86)) (fun b => w6.heap.size ≤ b ∧ b < w6.heap.size + 1) (.slice (some ⟨w6.heap.size, 0, none⟩) 1 1) [1] from by
              have h0 := OwnInts.lit w6 w6.heap.size (Nat.le_refl _) [1] (by unfold maxLen; simp)
              have h : OwnInts (w6.alloc (.cells #[.int .i64 1] 3)) w6.heap.size (.slice (some ⟨w6.heap.size, 0, none⟩) 1 1) [1] := by simpa using h0
              have h2 := (OwnInts.sh h).below (belowOne _ (.cells #[.string ⟨#[122, 49]⟩, .bool false, .slice (some ⟨w6.heap.size, 0, none⟩) 1 1] 86))
              exact h2.mono fun b hb => ⟨hb.1, by have := hb.2; simpa using this⟩)
            have x3 := HC6.out.hx.of 3 _ rfl
            have x3' := HC7.out.hx.of 3 _ rfl
            have hw6 : q < w6.heap.size := HC6.out.hx.1
            go_wp2_with (at_builtin; refine wpl_one wrSh 34 86 _ 48 Try.underlying34 infoWrD rfl (by decide) (by omega) rfl _ _ rfl Sw (fun b => w6.heap.size ≤ b ∧ b < w6.heap.size + 1) _ x.writes rfl HC7.out.wo (w6.heap.size + 1) rfl [.string ⟨#[122, 49]⟩, .bool false, .slice (some ⟨w6.heap.size, 0, none⟩) 1 1] ⟨⟨#[122, 49]⟩, false, [1]⟩ (wr_own.2 ⟨_, rfl, by unfold maxLen; show (2 : Nat) ≤ _; omega, HOi.out⟩) HHz.out (fun b hb hb2 => by have := HC6.out.sw b hb; have := hb2.1; omega) (by have := HFw.out.2.1; omega) ?_; intro v9 w9 ho9 hg9 _; obtain ⟨A9, c9, hf9, -, -⟩ := ho9.row.form; rw [List.length_append, List.length_singleton] at hf9; subst hf9; have HC9 := Lib.hid (HC7.out.putW (fun b hb => ⟨by omega, by simp; omega, by omega, fun h => by have := HC6.out.su b h; omega⟩) ho9 hg9); have HX9 := Lib.hid (HC7.out.hx.outs (Outs.of_grown (S := Sw) hg9 HC7.out.wo.blk) (fun e => (HC7.out.sw _ e).2.2 rfl)); have y9 := HX9.out.of 3 _ rfl; have f9 := HX9.out.2.1; clear ho9 hg9)
            have HF9 := Lib.hid (few_write (y := ⟨⟨#[122, 49]⟩, false, [1]⟩) HFw.out ⟨by show (2 : Nat) ≤ _; omega, by simp⟩)
            have HN9 := Lib.hid (show NtW w g (P + 900) q ⟨x.kind, x.tx, x.locks, x.writes ++ [⟨⟨#[122, 49]⟩, false, [1]⟩]⟩ (w9.setCell ⟨q, 3, none⟩ (.slice A9 (x.writes.length + 1) c9)) from ⟨_, _, A9, c9, _, _, by have h := HC9.out.more (P' := P + 900) (by omega); rw [show x.writes.length + 1 = (x.writes ++ [(⟨⟨#[122, 49]⟩, false, [1]⟩ : Wr)]).length by simp] at h ⊢; exact h⟩)
            clear HC6 HC7 HHz HOi HC9 HX9 x3 x3' y9 f9
            go_meet
            case rel => exact ⟨_, few_more HF9.out (by omega) (by omega), HN9.out⟩
          · have e0 : (m == 0) = false := by simp [h0]
            have e1 : (m == 1) = false := by simp [h1]
            have e2 : (m == 2) = false := by simp [h2]
            have e3 : (m == 3) = false := by simp [h3]
            clear h0 h1 h2 h3
            have k0 : w6.drew.cell? ⟨q, 3, none⟩ = some (.slice A3 x.writes.length c3) := HC6.out.hx.of 3 _ rfl
            have HCd := Lib.hid (show NtC w g (P + 400 + 1 + 1) q x (.slice A2 x.locks.length c2) (.slice A3 x.writes.length c3) Su Sw w6.drew from HC6.out.then_ (Below.refl _ w6).drew)
            have hw6 : q < w6.heap.size := HC6.out.hx.1
            go_wp2
            refine region_l (S := (fun w' => w'.cell? ⟨q, 3, none⟩ = some (.slice A3 x.writes.length c3))) 7 (by kernel_rfl) ?hSt (fun hHeldt => ?stt)
            case hSt => (first | (dsimp only; (first | with_reducible exact k3 | with_reducible exact k2 | with_reducible exact k1 | exact k0)) | (first | with_reducible exact k3 | with_reducible exact k2 | with_reducible exact k1 | exact k0))
            refine take_l 0 54 (v := ?vt_1) rfl rfl (by kernel_rfl) (by kernel_rfl) (by kernel_rfl) (by kernel_rfl) (fun _ _ _ h => h) (by rfl) ?yt_1 (by assumption) ?rt_1
            case yt_1 => (intro w hSw; (try dsimp only at hSw); go_simp; (try with_reducible rfl))
            simp only [Act.put, List.setIfInBounds_toArray, List.set_cons_zero, List.set_cons_succ]
            refine take_l 1 55 (v := ?vt_2) rfl rfl (by kernel_rfl) (by kernel_rfl) (by kernel_rfl) (by kernel_rfl) (fun _ _ _ h => h) (by rfl) ?yt_2 (by assumption) ?rt_2
            case yt_2 => (intro w hSw; (try dsimp only at hSw); go_simp; (try with_reducible rfl))
            simp only [Act.put, List.setIfInBounds_toArray, List.set_cons_zero, List.set_cons_succ]
            refine take_l 2 56 (v := ?vt_3) rfl rfl (by kernel_rfl) (by kernel_rfl) (by kernel_rfl) (by kernel_rfl) (fun _ _ _ h => h) (by rfl) ?yt_3 (by assumption) ?rt_3
            case yt_3 => (intro w hSw; (try dsimp only at hSw); go_simp; (try with_reducible rfl))
            simp only [Act.put, List.setIfInBounds_toArray, List.set_cons_zero, List.set_cons_succ]
            refine one_l 3 rfl (by kernel_rfl) (fun Kt_4 hKt_4 => ?ct_4)
            go_simp
            refine (l20Write_any _ g _ _ HCd.out.dr.1 (by omega) (by omega) (by omega)).mono ?_; rintro e w7 ⟨s, dd, vv, xs, rfl, hs, hxs, hown, hdr7⟩; obtain ⟨Av, cv, hvf, -, -⟩ := hown.ints.form; subst hvf; have HC7 := Lib.hid (HCd.out.draw hdr7); have k1 := HC7.out.hx.of 3 _ rfl; have HC8 := Lib.hid (HC7.out.then_ (belowOne w7 (.cells #[.string s, .bool dd, .slice Av xs.length cv] 86))); have k2 := HC8.out.hx.of 3 _ rfl; have HQ := Lib.hid (Sh.Own.below (w' := w7.alloc (.cells #[.string s, .bool dd, .slice Av xs.length cv] 86)) hown.sh (belowOne w7 _)); have hz7 := hdr7.2.size; clear hdr7 hown
            go_wp2_with fail
            refine hKt_4.out _ _ ?kt_4 (fun hHoldt_4 => ?dt_4)
            case kt_4 => (intro _; (first | (dsimp only; (first | with_reducible exact k3 | with_reducible exact k2 | with_reducible exact k1 | exact k0)) | (first | with_reducible exact k3 | with_reducible exact k2 | with_reducible exact k1 | exact k0)))
            clear hKt_4 Kt_4
            have hHeldt_4 := hHoldt_4 (by decide)
            clear hHoldt_4
            refine one_l 4 rfl (by kernel_rfl) (fun Kt_5 hKt_5 => ?ct_5)
            go_simp
            skip
            go_wp2_with fail
            refine hKt_5.out _ _ ?kt_5 (fun hHoldt_5 => ?dt_5)
            case kt_5 => (intro _; (first | (dsimp only; (first | with_reducible exact k3 | with_reducible exact k2 | with_reducible exact k1 | exact k0)) | (first | with_reducible exact k3 | with_reducible exact k2 | with_reducible exact k1 | exact k0)))
            clear hKt_5 Kt_5
            have hHeldt_5 := hHoldt_5 (by decide)
            clear hHoldt_5
            refine one_l 5 rfl (by kernel_rfl) (fun Kt_6 hKt_6 => ?ct_6)
            rw [if_pos (by rfl)]
            refine app_one wrSh 34 86 _ 48 Try.underlying34 infoWrD rfl (by decide) (by omega) (.tmp 55) (.tmp 58) rfl Sw _ _ x.writes rfl HC8.out.wo w7.heap.size rfl [.string s, .bool dd, .slice Av xs.length cv] ⟨s, dd, xs⟩ (wr_own.2 ⟨_, rfl, by unfold maxLen; show s.size ≤ _; omega, HQ.out⟩) (Held.new w7 _ _) (fun b hb hb2 => by have := HC6.out.sw b hb; have := hb2.1; have : w6.drew.heap.size = w6.heap.size := rfl; omega) (by have := HFw.out.2.1; omega) ?_; intro v9 w9 ho9 hg9 _; obtain ⟨A9, c9, hf9, -, -⟩ := ho9.row.form; rw [List.length_append, List.length_singleton] at hf9; subst hf9; have HC9 := Lib.hid (HC8.out.putW (S' := fun b => w6.drew.heap.size ≤ b ∧ b < w7.heap.size) (fun b hb => by have h7 : w6.drew.heap.size = w6.heap.size := rfl; have h8 := hb.1; have h9 := hb.2; exact ⟨by omega, by simp; omega, by omega, fun h => by have := HC6.out.su b h; omega⟩) ho9 hg9); have HX9 := Lib.hid (HC8.out.hx.outs (Outs.of_grown (S := Sw) hg9 HC8.out.wo.blk) (fun e => (HC8.out.sw _ e).2.2 rfl)); have k3 := HX9.out.of 3 _ rfl; have f9 := HX9.out.2.1 3; clear ho9 hg9
            refine hKt_6.out _ _ ?kt_6 (fun hHoldt_6 => ?dt_6)
            case kt_6 => (intro _; (first | (dsimp only; (first | with_reducible exact k3 | with_reducible exact k2 | with_reducible exact k1 | exact k0)) | (first | with_reducible exact k3 | with_reducible exact k2 | with_reducible exact k1 | exact k0)))
            clear hKt_6 Kt_6
            have hHeldt_6 := hHoldt_6 (by decide)
            clear hHoldt_6
            refine take_l 6 60 (v := ?vt_7) rfl rfl (by kernel_rfl) (by kernel_rfl) (by kernel_rfl) (by kernel_rfl) (fun _ _ _ h => h) (by rfl) ?yt_7 (by assumption) ?rt_7
            case yt_7 => (intro w hSw; (try dsimp only at hSw); go_simp; (try with_reducible rfl))
            simp only [Act.put, List.setIfInBounds_toArray]
            refine one_l 7 rfl (by kernel_rfl) (fun Kt_8 hKt_8 => ?ct_8)
            go_simp
            skip
            go_wp2_with fail
            refine hKt_8.out _ _ ?kt_8 (fun hHoldt_8 => ?dt_8)
            case kt_8 => exact fun h => absurd rfl h
            clear hKt_8 Kt_8
            clear hHoldt_8
            refine done_l (by kernel_rfl) ?et _
            have HF9 := Lib.hid (few_write (y := ⟨s, dd, xs⟩) HFw.out ⟨hs, hxs⟩)
            have HN9 := Lib.hid (show NtW w g (P + 900) q ⟨x.kind, x.tx, x.locks, x.writes ++ [⟨s, dd, xs⟩]⟩ (w9.setCell ⟨q, 3, none⟩ (.slice A9 (x.writes.length + 1) c9)) from ⟨_, _, A9, c9, _, _, by have h := HC9.out.more (P' := P + 900) (by omega); rw [show x.writes.length + 1 = (x.writes ++ [(⟨s, dd, xs⟩ : Wr)]).length by simp] at h ⊢; exact h⟩)
            clear HC6 HCd HC7 HC8 HQ HC9 HX9 k0 k1 k2 k3 f9
            go_wp2
            go_meet
            case rel => exact ⟨_, few_more HF9.out (by omega) (by omega), HN9.out⟩
      case rest =>
        obtain ⟨y, hfy, A5, c5, A6, c6, Su5, Sw5, hC⟩ := hcut
        have HC := Lib.hid hC
        have HFy := Lib.hid hfy
        have x0 := HC.out.hx.of 0 _ rfl
        have x1 := HC.out.hx.of 1 _ rfl
        have x2 := HC.out.hx.of 2 _ rfl
        have x3 := HC.out.hx.of 3 _ rfl
        have r0 := HC.out.hr.of 0 _ rfl
        have r1 := HC.out.hr.of 1 _ rfl
        have r2 := HC.out.hr.of 2 _ rfl
        have r3 := HC.out.hr.of 3 _ rfl
        have rf := HC.out.hr.2.1
        clear hC hfy
        go_wp2
        have HQ := HC.out.hr.put4 (.int .i64 y.kind) (.int .i64 y.tx) (.slice A5 y.locks.length c5) (.slice A6 y.writes.length c6)
        have q0 := HQ.of 0 _ rfl
        have q1 := HQ.of 1 _ rfl
        have q2 := HQ.of 2 _ rfl
        have q3 := HQ.of 3 _ rfl
        have hdf := Drew.put4 HC.out.dr w.heap.size (Nat.le_refl _) hgw (.int .i64 y.kind) (.int .i64 y.tx) (.slice A5 y.locks.length c5) (.slice A6 y.writes.length c6)
        refine bodyPost_ret (v := .agg #[.int .i64 y.kind, .int .i64 y.tx, .slice A5 y.locks.length c5, .slice A6 y.writes.length c6]) (by simp only [results, Try.results77, go_sem]; simp [go_sem, q0, q1, q2, q3]) rfl ⟨_, y, rfl, HFy.out, ?_, hdf.1.more (by omega), hdf.2⟩
        exact note_own.2 ⟨_, _, Su5, Sw5, rfl, HC.out.lo.keep fun b hb _ => put4_far _ _ _ _ _ _ (by have := HC.out.su b hb; omega), HC.out.wo.keep fun b hb _ => put4_far _ _ _ _ _ _ (by have := HC.out.sw b hb; omega), fun b hb => by have := HC.out.su b hb; rw [put4_size]; omega, fun b hb => by have := HC.out.sw b hb; rw [put4_size]; omega, fun b h1 h2 => HC.out.ds b h1 h2⟩

end Go.Proofs.Ytkamlibfcakblaa

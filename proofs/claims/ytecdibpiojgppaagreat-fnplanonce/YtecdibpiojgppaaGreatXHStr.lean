/- Texts that follow each other, merged: HStr, HTo, HStoItem. -/
import Derived.Test.YtecdibpiojgppaaGreatXExItems
import Derived.Test.YtecdibpiojgppaaGreatXVal
import Derived.Deep.RegionHeld3

/- The helpers of the exact laws over texts: a count, a copy, a comparison, marks. -/
namespace Go.Proofs.YtecdibpiojgppaaGreat
open Go.RowKit

/-- What a count leaves. -/
def Sized (left : Int) (n : Nat) (w : World) (e : Ending) (w' : World) : Prop := e = .returned (.int .i64 (less left n)) ∧ Below w.heap.size w w'
/-- What a copy of a slice leaves: one of its own, in new blocks. -/
def CopiedSl {α : Type} (A : Sh α) (t : TypeId) (xs : List α) (w : World) (e : Ending) (w' : World) : Prop :=
  ∃ v, e = .returned v ∧ A.Own t w' (fun b => w.heap.size ≤ b ∧ b < w'.heap.size) v xs ∧ Below w.heap.size w w'
/-- What a copy of a record leaves. -/
def CopiedAg {α : Type} (A : Sh α) (x : α) (w : World) (e : Ending) (w' : World) : Prop :=
  ∃ cs, e = .returned (.agg (List.toArray cs)) ∧ A.own w' (fun b => w.heap.size ≤ b ∧ b < w'.heap.size) cs x ∧ Below w.heap.size w w'
/-- What a comparison of what is the same leaves. -/
def Alike (w : World) (e : Ending) (w' : World) : Prop := e = .returned (.bool true) ∧ Below w.heap.size w w'
/-- What marking a slice of its own leaves. -/
def MarkedSl {α : Type} (A : Sh α) (t : TypeId) (S : Nat → Prop) (v : Value) (xs : List α) (k : Int) (w : World) (e : Ending) (w' : World) : Prop :=
  ∃ xs' : List α, e = .returned (.int .i64 (k + cntL A.cnt xs)) ∧ xs'.length = xs.length ∧ cntL A.cnt xs' = cntL A.cnt xs ∧ mkdL A.cnt A.mkd k xs' ∧ A.Own t w' S v xs' ∧ Outs S w w'

theorem infoStr : (Tryz.prog.info? 9).map (fun i => (i.zero, i.size, i.bytes)) = some (some (.string ByteArray.empty), 1, 16) := by kernel_rfl

end Go.Proofs.YtecdibpiojgppaaGreat

/- A copy of a record under way: the box of what came in, the result, what is being filled; and what was copied. Nothing of the program. -/
namespace Go.Proofs.YtecdibpiojgppaaGreat
open Go.RowKit

theorem Held.farS {w : World} {b : Nat} {cs : List Value} {p : Addr} (h : Held w b cs) (hp : b ≠ p.block) (u : Value) : Held (w.setCell p u) b cs := by
  have hk := Below.heap_setCell w p u b hp
  exact ⟨by simpa [World.setCell] using h.1, fun j => (World.frozen?_of_block (a := ⟨b, j, none⟩) hk).trans (h.2.1 j), fun j x hx => (World.cell?_of_block (a := ⟨b, j, none⟩) hk).trans (h.2.2 j x hx)⟩
/-- The three blocks behind w0. -/
structure ToInv (w0 : World) (bx rs ot : List Value) (W : World) : Prop where
  bel : Below w0.heap.size w0 W
  box : Held W w0.heap.size bx
  res : Held W (w0.heap.size + 1) rs
  out : Held W (w0.heap.size + 1 + 1) ot
section
variable {w0 W W' : World} {bx rs ot : List Value}
end

/-- Two boxes behind w0. -/
structure TwoInv (w0 : World) (b1 b2 : List Value) (W : World) : Prop where
  bel : Below w0.heap.size w0 W
  one : Held W w0.heap.size b1
  two : Held W (w0.heap.size + 1) b2
section
variable {w0 W W' : World} {b1 b2 : List Value}
end

/-- A slice that was copied: in blocks of its own from lo up to hi. -/
def CopFrom {α : Type} (A : Sh α) (t : TypeId) (lo hi : Nat) (v : Value) (xs : List α) (W : World) : Prop := A.Own t W (fun b => lo ≤ b ∧ b < hi) v xs
section
variable {α : Type} {A : Sh α} {t : TypeId} {lo hi : Nat} {v : Value} {xs : List α} {W W' : World}
end

end Go.Proofs.YtecdibpiojgppaaGreat

/- The helpers of the exact laws over StoItem: a count, a copy, a comparison, marks. By shgen.py. -/
namespace Go.Proofs.YtecdibpiojgppaaGreat
open Go.RowKit

end Go.Proofs.YtecdibpiojgppaaGreat

/- A copy of a record under way: the box of what came in, the result, what is being filled; and what was copied. Nothing of the program. -/
import Derived.Test.YtecdibpiojgppaaXHStr
namespace Go.Proofs.Ytecdibpiojgppaa
open Go.RowKit

theorem Held.farS {w : World} {b : Nat} {cs : List Value} {p : Addr} (h : Held w b cs) (hp : b ≠ p.block) (u : Value) : Held (w.setCell p u) b cs := by
  have hk := Below.heap_setCell w p u b hp
  exact ⟨by simpa [World.setCell] using h.1, fun j => (World.frozen?_of_block (a := ⟨b, j, none⟩) hk).trans (h.2.1 j), fun j x hx => (World.cell?_of_block (a := ⟨b, j, none⟩) hk).trans (h.2.2 j x hx)⟩
theorem Held.lit {w : World} {g : Nat} {cs : List Value} (h : Held w g cs) {g' : Nat} (e : g = g') : Held w g' cs := e ▸ h

/-- The three blocks behind w0. -/
structure ToInv (w0 : World) (bx rs ot : List Value) (W : World) : Prop where
  bel : Below w0.heap.size w0 W
  box : Held W w0.heap.size bx
  res : Held W (w0.heap.size + 1) rs
  out : Held W (w0.heap.size + 1 + 1) ot
section
variable {w0 W W' : World} {bx rs ot : List Value}
theorem ToInv.start (w0 : World) (bx rs ot : Array Value) (t1 t2 t3 : TypeId) : ToInv w0 bx.toList rs.toList ot.toList (((w0.alloc (.cells bx t1)).alloc (.cells rs t2)).alloc (.cells ot t3)) :=
  ⟨belowThree _ _ _ _, ((Held.new w0 bx t1).after _).after _, ((Held.new (w0.alloc (.cells bx t1)) rs t2).after (.cells ot t3)).lit (by simp), (Held.new ((w0.alloc (.cells bx t1)).alloc (.cells rs t2)) ot t3).lit (by simp)⟩
theorem ToInv.size (h : ToInv w0 bx rs ot W) : w0.heap.size + 1 + 1 < W.heap.size := h.out.1
theorem ToInv.call (h : ToInv w0 bx rs ot W) (hb : Below W.heap.size W W') : ToInv w0 bx rs ot W' :=
  ⟨belowNext h.bel hb, h.box.below hb h.box.1, h.res.below hb h.res.1, h.out.below hb h.out.1⟩
theorem ToInv.putOut (h : ToInv w0 bx rs ot W) (i : Nat) (u : Value) : ToInv w0 bx rs (ot.set i u) (W.setCell ⟨w0.heap.size + 1 + 1, i, none⟩ u) :=
  ⟨h.bel.setCell (by show _ ≤ w0.heap.size + 1 + 1; omega) u, h.box.farS (by show _ ≠ w0.heap.size + 1 + 1; omega) u, h.res.farS (by show _ ≠ w0.heap.size + 1 + 1; omega) u, h.out.set_ u⟩
theorem ToInv.putRes (h : ToInv w0 bx rs ot W) (i : Nat) (u : Value) : ToInv w0 bx (rs.set i u) ot (W.setCell ⟨w0.heap.size + 1, i, none⟩ u) :=
  ⟨h.bel.setCell (by show _ ≤ w0.heap.size + 1; omega) u, h.box.farS (by show _ ≠ w0.heap.size + 1; omega) u, h.res.set_ u, h.out.farS (by show _ ≠ w0.heap.size + 1; omega) u⟩
end

/-- Two boxes behind w0. -/
structure TwoInv (w0 : World) (b1 b2 : List Value) (W : World) : Prop where
  bel : Below w0.heap.size w0 W
  one : Held W w0.heap.size b1
  two : Held W (w0.heap.size + 1) b2
section
variable {w0 W W' : World} {b1 b2 : List Value}
theorem TwoInv.start (w0 : World) (b1 b2 : Array Value) (t1 t2 : TypeId) : TwoInv w0 b1.toList b2.toList ((w0.alloc (.cells b1 t1)).alloc (.cells b2 t2)) :=
  ⟨belowTwo _ _ _, (Held.new w0 b1 t1).after _, (Held.new (w0.alloc (.cells b1 t1)) b2 t2).lit (by simp)⟩
theorem TwoInv.call (h : TwoInv w0 b1 b2 W) (hb : Below W.heap.size W W') : TwoInv w0 b1 b2 W' :=
  ⟨belowNext h.bel hb, h.one.below hb h.one.1, h.two.below hb h.two.1⟩
end

/-- A slice that was copied: in blocks of its own from lo up to hi. -/
def CopFrom {α : Type} (A : Sh α) (t : TypeId) (lo hi : Nat) (v : Value) (xs : List α) (W : World) : Prop := A.Own t W (fun b => lo ≤ b ∧ b < hi) v xs
section
variable {α : Type} {A : Sh α} {t : TypeId} {lo hi : Nat} {v : Value} {xs : List α} {W W' : World}
theorem CopFrom.call (h : CopFrom A t lo hi v xs W) (hb : Below W.heap.size W W') : CopFrom A t lo hi v xs W' := Sh.Own.below h hb
theorem CopFrom.set (h : CopFrom A t lo hi v xs W) {p : Addr} (hp : p.block < lo) (u : Value) : CopFrom A t lo hi v xs (W.setCell p u) :=
  Sh.Own.keep h fun b hb _ => Below.heap_setCell W p u b (by have := hb.1; omega)
end

end Go.Proofs.Ytecdibpiojgppaa

/- Blocks of a call's own, beside a reader. -/
import Derived.Test.YtecdibpiojgppaaDrawKey
namespace Go.Proofs.Ytecdibpiojgppaa
open Go.RowKit

theorem Held.drew {w w' : World} {g b : Nat} {P : Int} {cs : List Value} (h : Held w b cs) (hd : Drew g P w w') (hb : b ≠ g) : Held w' b cs := by
  have hk := hd.2.block b h.1 (fun e => hb (Option.some.inj e))
  exact ⟨Nat.lt_of_lt_of_le h.1 hd.2.size, fun j => (World.frozen?_of_block (a := ⟨b, j, none⟩) hk).trans (h.2.1 j), fun j u hu => (World.cell?_of_block (a := ⟨b, j, none⟩) hk).trans (h.2.2 j u hu)⟩
theorem Held.cells {w : World} {b : Nat} {x y z : Value} (h : Held w b [x, y, z]) : w.cell? ⟨b, 0, none⟩ = some x ∧ w.cell? ⟨b, 1, none⟩ = some y ∧ w.cell? ⟨b, 2, none⟩ = some z := ⟨h.of 0 _ rfl, h.of 1 _ rfl, h.of 2 _ rfl⟩

theorem Drew.setCell {g : Nat} {P : Int} {w a : World} (h : Drew g P w a) {p : Addr} (hp : w.heap.size ≤ p.block) (hgw : g < w.heap.size) (u : Value) : Drew g P w (a.setCell p u) :=
  h.grown (row := some p.block) ⟨rfl, rfl, rfl, by simp [World.setCell], fun b _ hne => Below.heap_setCell a p u b (fun e => hne (by rw [e]))⟩ (fun k hk => by have := Option.some.inj hk; omega) hgw
theorem Held.far {w : World} {b : Nat} {cs : List Value} {p : Addr} (h : Held w b cs) (hp : b ≠ p.block) (u : Value) : Held (w.setCell p u) b cs := by
  have hk := Below.heap_setCell w p u b hp
  exact ⟨by simpa [World.setCell] using h.1, fun j => (World.frozen?_of_block (a := ⟨b, j, none⟩) hk).trans (h.2.1 j), fun j x hx => (World.cell?_of_block (a := ⟨b, j, none⟩) hk).trans (h.2.2 j x hx)⟩


theorem Held.new1 (w : World) (x : Obj) (cs : Array Value) (t : TypeId) : Held ((w.alloc x).alloc (.cells cs t)) (w.heap.size + 1) cs.toList := by
  have h := Held.new (w.alloc x) cs t
  rwa [show (w.alloc x).heap.size = w.heap.size + 1 by simp] at h
theorem Held.new2 (w : World) (x y : Obj) (cs : Array Value) (t : TypeId) : Held (((w.alloc x).alloc y).alloc (.cells cs t)) (w.heap.size + 1 + 1) cs.toList := by
  have h := Held.new1 (w.alloc x) y cs t
  rwa [show (w.alloc x).heap.size = w.heap.size + 1 by simp] at h

theorem Held.seven {w' : World} {b : Nat} {a0 a1 a2 a3 a4 a5 a6 : Value} (h : Held w' b [a0, a1, a2, a3, a4, a5, a6]) : w'.cell? ⟨b, 0, none⟩ = some a0 ∧ w'.cell? ⟨b, 1, none⟩ = some a1 ∧ w'.cell? ⟨b, 2, none⟩ = some a2 ∧ w'.cell? ⟨b, 3, none⟩ = some a3 ∧ w'.cell? ⟨b, 4, none⟩ = some a4 ∧ w'.cell? ⟨b, 5, none⟩ = some a5 ∧ w'.cell? ⟨b, 6, none⟩ = some a6 :=
  ⟨h.of 0 _ rfl, h.of 1 _ rfl, h.of 2 _ rfl, h.of 3 _ rfl, h.of 4 _ rfl, h.of 5 _ rfl, h.of 6 _ rfl⟩

/-- Seven cells of a block written. -/
abbrev put7 (w : World) (b : Nat) (b0 b1 b2 b3 b4 b5 b6 : Value) : World := (((((((w).setCell ⟨b, 0, none⟩ b0).setCell ⟨b, 1, none⟩ b1).setCell ⟨b, 2, none⟩ b2).setCell ⟨b, 3, none⟩ b3).setCell ⟨b, 4, none⟩ b4).setCell ⟨b, 5, none⟩ b5).setCell ⟨b, 6, none⟩ b6
theorem Held.put7 {w : World} {b : Nat} {a0 a1 a2 a3 a4 a5 a6 : Value} (h : Held w b [a0, a1, a2, a3, a4, a5, a6]) (b0 b1 b2 b3 b4 b5 b6 : Value) : Held (put7 w b b0 b1 b2 b3 b4 b5 b6) b [b0, b1, b2, b3, b4, b5, b6] :=
  ((((((h.set_ (i := 0) b0).set_ (i := 1) b1).set_ (i := 2) b2).set_ (i := 3) b3).set_ (i := 4) b4).set_ (i := 5) b5).set_ (i := 6) b6
theorem Held.far7 {w : World} {c b : Nat} {cs : List Value} (h : Held w c cs) (hp : c ≠ b) (b0 b1 b2 b3 b4 b5 b6 : Value) : Held (Go.Proofs.Ytecdibpiojgppaa.put7 w b b0 b1 b2 b3 b4 b5 b6) c cs :=
  ((((((h.far (p := ⟨b, 0, none⟩) hp b0).far (p := ⟨b, 1, none⟩) hp b1).far (p := ⟨b, 2, none⟩) hp b2).far (p := ⟨b, 3, none⟩) hp b3).far (p := ⟨b, 4, none⟩) hp b4).far (p := ⟨b, 5, none⟩) hp b5).far (p := ⟨b, 6, none⟩) hp b6
theorem Drew.put7 {g : Nat} {P : Int} {w a : World} (h : Drew g P w a) (b : Nat) (hb : w.heap.size ≤ b) (hgw : g < w.heap.size) (b0 b1 b2 b3 b4 b5 b6 : Value) : Drew g P w (Go.Proofs.Ytecdibpiojgppaa.put7 a b b0 b1 b2 b3 b4 b5 b6) :=
  ((((((h.setCell (p := ⟨b, 0, none⟩) hb hgw b0).setCell (p := ⟨b, 1, none⟩) hb hgw b1).setCell (p := ⟨b, 2, none⟩) hb hgw b2).setCell (p := ⟨b, 3, none⟩) hb hgw b3).setCell (p := ⟨b, 4, none⟩) hb hgw b4).setCell (p := ⟨b, 5, none⟩) hb hgw b5).setCell (p := ⟨b, 6, none⟩) hb hgw b6
theorem belowPut7 {B : Nat} {w a : World} (h : Below B w a) (b : Nat) (hb : B ≤ b) (b0 b1 b2 b3 b4 b5 b6 : Value) : Below B w (Go.Proofs.Ytecdibpiojgppaa.put7 a b b0 b1 b2 b3 b4 b5 b6) :=
  (((((((h.setCell (p := ⟨b, 0, none⟩) hb b0).setCell (p := ⟨b, 1, none⟩) hb b1).setCell (p := ⟨b, 2, none⟩) hb b2).setCell (p := ⟨b, 3, none⟩) hb b3).setCell (p := ⟨b, 4, none⟩) hb b4).setCell (p := ⟨b, 5, none⟩) hb b5).setCell (p := ⟨b, 6, none⟩) hb b6)

end Go.Proofs.Ytecdibpiojgppaa

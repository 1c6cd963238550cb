/- Texts that follow each other, merged: DrawOpen, ExKit. -/
import Derived.Test.YtkamlibfcakblaaXIntsOne
import Derived.Test.YtkamlibfcakblaaXDrawKey
import Derived.Test.YtkamlibfcakblaaXShOwn

/- A reader is opened over a code. -/
namespace Go.Proofs.Ytkamlibfcakblaa
open Go.RowKit

/-- What a draw out of a code leaves of a write. -/
def DrawnWrite (w : World) (e : Ending) (w' : World) : Prop :=
  ∃ s d v xs, e = .returned (.agg #[.string s, .bool d, v]) ∧ s.size ≤ 1000002 ∧ xs.length ≤ 4 ∧ Ints w' w'.heap.size v xs ∧ Below w.heap.size w w'

end Go.Proofs.Ytkamlibfcakblaa

/- How what is owned, or read, is carried through a call, and through the marks on other blocks. Nothing of the program. -/
namespace Go.Proofs.Ytkamlibfcakblaa
open Go.RowKit

section
variable {α : Type} {A : Sh α} {w w' : World} {S T : Nat → Prop} {B n : Nat} {cs : List Value} {x : α} {e : TypeId} {v : Value} {xs : List α}
theorem own_call (h : A.own w S cs x) (hb : Below w.heap.size w w') : A.own w' S cs x := A.okeep h fun b _ hlt => hb.block b hlt
theorem own_mark (h : A.own w S cs x) (ht : Outs T w w') (hd : ∀ b, S b → T b → False) : A.own w' S cs x := A.okeep h fun b hb hlt => ht.block b hlt fun h => hd b hb h
theorem rel_call (h : A.rel w B cs x) (hb : Below w.heap.size w w') (hB : B ≤ w.heap.size) : A.rel w' B cs x := A.rbelow h (hb.mono hB)
theorem rel_mark (h : A.rel w B cs x) (ht : Outs T w w') (hB : B ≤ w.heap.size) (hd : ∀ b, T b → B ≤ b) : A.rel w' B cs x :=
  A.rkeep h fun b o hb => World.cell?_of_block (a := ⟨b, o, none⟩) (ht.block b (by omega) fun h => by have := hd b h; omega)
theorem own_sl_call (h : A.Own e w S v xs) (hb : Below w.heap.size w w') : A.Own e w' S v xs := h.keep fun b _ hlt => hb.block b hlt
theorem own_sl_mark (h : A.Own e w S v xs) (ht : Outs T w w') (hd : ∀ b, S b → T b → False) : A.Own e w' S v xs := h.keep fun b hb hlt => ht.block b hlt fun h => hd b hb h
theorem row_call (h : A.Row w B v xs) (hb : Below w.heap.size w w') (hB : B ≤ w.heap.size) : A.Row w' B v xs := h.below (hb.mono hB)
theorem row_mark (h : A.Row w B v xs) (ht : Outs T w w') (hB : B ≤ w.heap.size) (hd : ∀ b, T b → B ≤ b) : A.Row w' B v xs :=
  h.keep fun b o hb => World.cell?_of_block (a := ⟨b, o, none⟩) (ht.block b (by omega) fun h => by have := hd b h; omega)
theorem below_mark (h : Below n w w') {w2 : World} (ht : Outs T w' w2) (hn : n ≤ w'.heap.size) (hd : ∀ b, T b → n ≤ b) : Below n w w2 := h.trans (ht.below hn hd)
end

end Go.Proofs.Ytkamlibfcakblaa

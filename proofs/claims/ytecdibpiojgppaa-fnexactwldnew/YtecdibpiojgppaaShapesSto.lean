/- The shape of what a place keeps, and of what some places keep. -/
import Derived.Test.YtecdibpiojgppaaShapes
namespace Go.Proofs.Ytecdibpiojgppaa
open Go.RowKit

/-- What a place keeps. -/
structure Sto where
  items : List Item
def stoSh : Sh Sto := itsSh.conv (fun x => x.items) (fun p => ⟨p⟩) rfl
abbrev stosSh : Sh (List Sto) := stoSh.sl 30 (by decide)
section
variable {w : World} {B : Nat} {S : Nat → Prop} {v : Value}
theorem sto_rel {cs : List Value} {x : Sto} : stoSh.rel w B cs x ↔ ∃ u, cs = [u] ∧ itSh.Row w B u x.items := Iff.rfl
theorem sto_own {cs : List Value} {x : Sto} : stoSh.own w S cs x ↔ ∃ u, cs = [u] ∧ itSh.Own 102 w S u x.items := Iff.rfl
/-- What one of some places keeps. -/
theorem stos_at {xs : List Sto} (h : stoSh.Row w B v xs) {k : Nat} (hk : k < xs.length) : ∃ b off c x u, v = .slice (some ⟨b, off, none⟩) xs.length c ∧ xs[k]? = some x ∧ b < B ∧ w.cell? ⟨b, off + k, none⟩ = some u ∧ itSh.Row w B u x.items := by
  obtain ⟨b, off, c, x, cs, hv, hx, hb, ⟨u, rfl, hu⟩, hc⟩ := h.at_ hk
  have := hc 0 _ rfl
  have hwd : stoSh.wd = 1 := rfl
  rw [hwd] at this
  exact ⟨b, off, c, x, u, hv, hx, hb, by simpa using this, hu⟩
end

end Go.Proofs.Ytecdibpiojgppaa

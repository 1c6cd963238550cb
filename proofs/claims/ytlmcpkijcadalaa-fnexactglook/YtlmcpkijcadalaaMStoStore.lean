/- Marks on StoStore and on slices of it. By shgen.py. -/
import Derived.Test.YtlmcpkijcadalaaMStoItem
import Derived.Test.YtlmcpkijcadalaaHStoStore
namespace Go.Proofs.Ytlmcpkijcadalaa
open Go.RowKit

theorem subStoStoreItems {w : World} {S : Nat → Prop} {cs : List Value} {x : Sto} (h : stoSh.own w S cs x) : ∃ u Sf, cs[0]? = some u ∧ itSh.Own 62 w Sf u x.items ∧ (∀ b, Sf b → S b) ∧ ∀ w' ys, itSh.Own 62 w' Sf u ys → Outs Sf w w' → stoSh.own w' S cs { x with items := ys } := by
  obtain ⟨u0, rfl, ho0⟩ := sto_own.1 h
  exact ⟨u0, S, rfl, ho0, fun _ h => h, fun w' ys hy _ => sto_own.2 ⟨u0, rfl, hy⟩⟩
end Go.Proofs.Ytlmcpkijcadalaa

/- Marks on StoItem and on slices of it. By shgen.py. -/
import Derived.Test.YtlmcpkijcadalaaHMark
import Derived.Test.YtlmcpkijcadalaaHStoItem
namespace Go.Proofs.Ytlmcpkijcadalaa
open Go.RowKit

theorem setStoItemKey {w : World} {S : Nat → Prop} {cs : List Value} {x : Item} {g o : Nat} (h : itSh.own w S cs x) (hg : ¬ S g) (a : ByteArray) (ha : a.size ≤ maxLen) : itSh.own (w.setCell ⟨g, o, none⟩ (.string a)) S (cs.set 0 (.string a)) { x with key := a } := by
  obtain ⟨u1, rfl, hs_key, ho1⟩ := it_own.1 h
  exact it_own.2 ⟨u1, rfl, ha, (ho1.keep fun b hb _ => Below.heap_setCell _ _ _ _ (by rintro rfl; exact hg (hb)))⟩
theorem subStoItemVal {w : World} {S : Nat → Prop} {cs : List Value} {x : Item} (h : itSh.own w S cs x) : ∃ u Sf, cs[1]? = some u ∧ Sh.int.Own 3 w Sf u x.val ∧ (∀ b, Sf b → S b) ∧ ∀ w' ys, Sh.int.Own 3 w' Sf u ys → Outs Sf w w' → itSh.own w' S cs { x with val := ys } := by
  obtain ⟨u1, rfl, hs_key, ho1⟩ := it_own.1 h
  exact ⟨u1, S, rfl, ho1, fun _ h => h, fun w' ys hy _ => it_own.2 ⟨u1, rfl, hs_key, hy⟩⟩
end Go.Proofs.Ytlmcpkijcadalaa

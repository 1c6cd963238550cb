/- From the reading of an argument to the words of Mem. -/
import Derived.Test.YtecdibpiojgppaaRows
import Derived.Test.YtecdibpiojgppaaMem
import Derived.WalkKit
import Derived.ProofKit
import Derived.OpenShut
import Derived.ShutString
import Derived.ChangeOld
import Derived.Lib.SmallJoins
namespace Go.Proofs.Ytecdibpiojgppaa
open Go.ChangeShapes Go.WideShapes Go.ChangeAt Go.RowKit Go.Joins

theorem own : ownKnob Try.prog.godebug = none := by kernel_rfl
theorem laidOut : laidOutB Try.prog = true := by kernel_rfl
theorem cellsInt : Try.prog.cellsOf 3 = 1 := by kernel_rfl

section
variable {H : Type} {enc : TypeId × Value → H} {W : World}
/-- A slice of integers that came in reads as some list. -/
theorem intsOf {fuel : Nat} {v : Value} {y : DataW H × List MemPlace} (h : DataW.trod enc Try.prog W 0 (fun _ => true) true fuel 41 [v] = some y) :
    ∃ xs, Ints W W.heap.size v xs ∧ ∀ x ∈ xs, (Lit.int .i64 x).wf = true := by
  rcases open_ints Try.underlying41 Try.underlying3 cellsInt h with ⟨hcs, _⟩ | ⟨a, l, c, zs, hcs, _, hl, hm, hz, _, hcell, hwz⟩
  · simp at hcs
    subst hcs
    exact ⟨[], ⟨_, _, rfl, Nat.le_refl _, Nat.zero_le _, fun h => absurd h (by simp)⟩, by simp⟩
  · simp at hcs
    subst hcs
    have hz' : zs.length = c := by simpa using hz
    refine ⟨zs.take l, ⟨some a, c, ?_, ?_, hm, ?_⟩, fun x hx => hwz x (List.mem_of_mem_take hx)⟩
    · simp; omega
    · simp; omega
    · intro hp
      obtain ⟨b, off, rfl, hc⟩ := ints_at hcell (by simp at hp; omega)
      have h0 := hc 0 (by simp at hp; omega)
      have hb : b < W.heap.size := by
        rcases Nat.lt_or_ge b W.heap.size with hlt | hge
        · exact hlt
        · simp [World.cell?, Array.getElem?_eq_none hge] at h0
      refine ⟨b, off, rfl, hb, fun j hj => ?_⟩
      simp at hj
      rw [hc j (by omega)]
      have hjl : j < l := by omega
      simp [nth, hjl]
end

end Go.Proofs.Ytecdibpiojgppaa

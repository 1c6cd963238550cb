/- Rows of what is done, written out. -/
import Derived.Test.YtlmcpkijcadalaaXOps
import Derived.Test.YtlmcpkijcadalaaXGloPlan
namespace Go.Proofs.Ytlmcpkijcadalaa
open Go.RowKit

def opC (o : Op) : List Value := [.int .i64 o.kind, .int .i64 o.who, .int .i64 o.inn, .int .i64 o.code, .int .i64 o.sec, .int .i64 o.fam, .int .i64 o.gen]
theorem flat_ops (xs : List Op) : flat (fun j => opC (xs[j]?.getD ⟨0, 0, 0, 0, 0, 0, 0⟩)) xs.length = xs.flatMap opC := by
  have e : xs = (List.range xs.length).map fun j => xs[j]?.getD ⟨0, 0, 0, 0, 0, 0, 0⟩ := by
    refine List.ext_getElem? fun i => ?_
    rw [List.getElem?_map]
    by_cases h : i < xs.length
    · rw [List.getElem?_range h, List.getElem?_eq_getElem h]
      simp [h]
    · rw [List.getElem?_eq_none (by omega), List.getElem?_eq_none (by simp; omega)]; rfl
  have h2 : xs.flatMap opC = ((List.range xs.length).map fun j => xs[j]?.getD ⟨0, 0, 0, 0, 0, 0, 0⟩).flatMap opC := congrArg (fun l => List.flatMap opC l) e
  rw [h2, List.flatMap_map]
  rfl
theorem ops_lit (w : World) (cells : Array Value) (xs : List Op) (hl : xs.length ≤ maxLen) (hc : cells.toList = xs.flatMap opC) :
    opSh.Own 27 (w.alloc (.cells cells 27)) (fun b => b = w.heap.size) (.slice (some ⟨w.heap.size, 0, none⟩) xs.length xs.length) xs := by
  have h := Sh.Own.lit opSh 27 w cells xs (fun j => opC (xs[j]?.getD ⟨0, 0, 0, 0, 0, 0, 0⟩)) (fun _ _ => False) (fun _ => False) hl (by rw [hc, flat_ops]) (fun j x hx => ⟨by rw [hx]; rfl, fun _ h => h.elim⟩) (fun _ _ _ _ _ h => h.elim)
  exact h.mono fun b hb => hb.elim False.elim id

end Go.Proofs.Ytlmcpkijcadalaa

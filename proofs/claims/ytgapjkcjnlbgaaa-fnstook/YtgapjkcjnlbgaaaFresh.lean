/- append onto an empty literal: a new row, and nothing that was there has turned. -/
import Derived.Test.YtgapjkcjnlbgaaaOwnIt
namespace Go.Proofs.Ytgapjkcjnlbgaaa
open Go.RowKit

set_option maxRecDepth 100000 in
theorem append_fresh (w : World) (B : Nat) (hv : OwnInts w B (.slice (some ⟨B, 0, none⟩) 0 0) []) (D : Nat) (A : Option Addr) (c : Nat) (ys : List Int) (hy : Ints w D (.slice A ys.length c) ys) (ty : TypeId)
    (hl : ys.length ≤ 4194304) (hB : B ≤ w.heap.size) :
    ∃ v' w', (Builtin.append_ #[32, 32] ty #[.slice (some ⟨B, 0, none⟩) 0 0, .slice A ys.length c]).run Try.prog w = .ok v' w' ∧ OwnInts w' B v' ys ∧ Below w.heap.size w w' := by
  obtain ⟨i, hi, hz, hs, hb⟩ := info_parts infoInt
  rcases Nat.eq_zero_or_pos ys.length with h0 | hp
  · have hn : ys = [] := List.length_eq_zero_iff.1 h0
    subst hn
    refine ⟨_, w, ?_, hv, Below.refl _ _⟩
    cases A with
    | none => simp [Builtin.append_, run_underlying Try.underlying32, sizeOf, typeInfo, hi, Builtin.lenOf, Builtin.firstCells, storeCells]
    | some ad => simp [Builtin.append_, run_underlying Try.underlying32, sizeOf, typeInfo, hi, Builtin.lenOf, Builtin.firstCells, storeCells, loadCells, loadCellsFrom]
  · obtain ⟨v', w', hr, hown, hg⟩ := append_ints w B _ [] hv D A c ys hy ty (by simpa using hl) hB
    refine ⟨v', w', hr, by simpa using hown, ?_⟩
    obtain ⟨A', c', e, hc1, hc2, hrow⟩ := hy
    injection e with eA _ ec
    subst eA ec
    obtain ⟨b, off, rfl, _, hc⟩ := hrow hp
    have hgr := run_append_grow (P := Try.prog) w 32 ty 3 i (.int .i64 0) Try.underlying32 hi hz ⟨B, 0, none⟩ 0 0 [] (by simp) (fun j v h => by simp at h) ⟨b, off, none⟩ ys.length c (ys.map (Value.int .i64)) (by simp [hs])
      (fun j u hu => by
        have hj : j < ys.length := by
          have := (List.getElem?_eq_some_iff.1 hu).1
          simpa using this
        rw [nth_map hj] at hu
        rw [← hu, ← hc j hj]
        congr 1
        unfold Addr.add
        by_cases h : j = 0 <;> simp [h]) (by omega) (by omega) (by rw [hb]; exact growslice_fits (by omega) (by omega))
    rw [hgr] at hr
    injection hr with _ hw
    rw [← hw]
    exact (Below.refl w.heap.size w).drew.alloc (Nat.le_refl _) _

theorem step_append_fresh {w : World} {ops : Array Oper} {o : Oper} {a : Act} {K : Act → World → Prop} {Q : Exit → Act → World → Prop} {E : Prop} (hgd : o.guard = none) (s x : Operand)
    (ho : o.op = .call { callee := .builtin .append, args := #[s, x], argTypes := #[32, 32] }) (B : Nat) (hs : a.eval s = .slice (some ⟨B, 0, none⟩) 0 0) (hv : OwnInts w B (.slice (some ⟨B, 0, none⟩) 0 0) [])
    (D : Nat) (A : Option Addr) (c : Nat) (ys : List Int) (hx : a.eval x = .slice A ys.length c) (hy : Ints w D (.slice A ys.length c) ys) (hl : ys.length ≤ 4194304) (hB : B ≤ w.heap.size)
    (h : ∀ v' w', OwnInts w' B v' ys → Below w.heap.size w w' → K (a.put o.dst v') w') : if Region.wanted o (yielded ops a.tmps) = true then Oper.wp Try.prog o a w K Q else E := by
  have hw : Region.wanted o (yielded ops a.tmps) = true := by simp [Region.wanted, hgd]
  rw [if_pos hw]
  obtain ⟨v', w', hr, h2, h3⟩ := append_fresh w B hv D A c ys hy o.type hl hB
  unfold Oper.wp execOp
  simp only [ho, resolve, invoke, builtin, Sem.run_bind, Sem.run_pure, Result.andThen_ok, List.map_toArray, List.map_cons, List.map_nil, hs, hx, hr]
  exact h v' w' h2 h3

end Go.Proofs.Ytgapjkcjnlbgaaa

/- The model's StoDo. -/
import Derived.Test.YtlmcpkijcadalaaXWrts
namespace Go.Proofs.Ytlmcpkijcadalaa
open Go.RowKit

structure DoW (w : World) (xb : Nat) (vx : Value) (cur : List Item) (W : World) : Prop where
  hr : Held W (w.heap.size + 1) [.slice none 0 0]
  hx : Held W xb [vx]
  its : ItemsIn W (· ≠ xb) vx cur
  low : Below w.heap.size w W
section
variable {w W W' : World} {xb : Nat} {vx vn : Value} {cur nxt : List Item}
theorem DoW.next (h : DoW w xb vx cur W) (hn : Below W.heap.size W W') : DoW w xb vx cur W' :=
  ⟨h.hr.below hn h.hr.1, h.hx.below hn h.hx.1, h.its.keep (fun b hb _ => hn.block b hb) hn.size (fun _ _ h => h), h.low.trans (hn.mono h.low.size)⟩
theorem DoW.drew (h : DoW w xb vx cur W) : DoW w xb vx cur W.drew := h.next (Below.refl _ _).drew
theorem DoW.put (h : DoW w xb vx cur W) (hx : w.heap.size + 1 < xb) (hi : ItemsIn W (· ≠ xb) vn nxt) : DoW w xb vn nxt (W.setCell ⟨xb, 0, none⟩ vn) :=
  ⟨h.hr.far (by show _ ≠ xb; omega) _, h.hx.set_ (i := 0) vn, hi.keep (fun b _ hb => Below.heap_setCell W ⟨xb, 0, none⟩ vn b hb) (by simp [World.setCell]) (fun _ _ h => h), h.low.setCell (by show _ ≤ xb; omega) _⟩
end
theorem doBad {its cur : List Item} {ws : List Wr} {k : Nat} {x : Wr} (hs : stoB its = true) (hx : ws[k]? = some x) (hc : (ws.take k).foldl doStep (some its) = some cur) (h : x.ok = false ∨ 40 < (wAll x.key x.del x.val cur).length) : stoDo its ws = [] := by
  have h1 : (ws.take (k + 1)).foldl doStep (some its) = none := by
    rw [doTake hx, hc]
    unfold doStep
    rcases h with h | h
    · simp [h]
    · simp [h]
  unfold stoDo doAll
  rw [if_pos hs, doStop h1]; rfl
theorem doGood {its cur : List Item} {ws : List Wr} {k : Nat} {x : Wr} (hx : ws[k]? = some x) (hc : (ws.take k).foldl doStep (some its) = some cur) (h1 : x.ok = true) (h2 : ¬ 40 < (wAll x.key x.del x.val cur).length) :
    (ws.take (k + 1)).foldl doStep (some its) = some (wAll x.key x.del x.val cur) := by
  rw [doTake hx, hc]
  unfold doStep
  simp only [Option.bind_some]
  rw [if_pos h1, if_neg h2]
theorem doEnd {its cur : List Item} {ws : List Wr} (hs : stoB its = true) (hc : (ws.take ws.length).foldl doStep (some its) = some cur) : stoDo its ws = cur := by
  rw [List.take_length] at hc
  unfold stoDo doAll
  rw [if_pos hs, hc]; rfl
theorem doNot {its : List Item} (ws : List Wr) (hs : stoB its = false) : stoDo its ws = [] := by
  unfold stoDo doAll
  rw [if_neg (by simp [hs])]; rfl

def doGd (vx : Value) (b off k : Nat) (lv arg : Value) (j : Nat) (u : Value) : Prop :=
  match j with
  | 0 => u = .agg #[vx]
  | 1 => u = lv
  | 2 => u = .int .i64 k
  | 3 => u = .pointer (some ⟨b, off + k * 3, none⟩)
  | 4 => u = arg
  | _ => True
def doInv (w : World) (xb : Nat) (vx : Value) (cur nxt : List Item) (b off k : Nat) (lv arg : Value) (w4 : World) (L : Nat → Bool) (U : Nat → Value) (W : World) : Prop :=
  (L 5 = false → (∀ j, L j = true → doGd vx b off k lv arg j (U j)) ∧ W = w4.drew) ∧ (L 5 = true → L 6 = false → ∃ u, U 5 = .agg #[u] ∧ ItemsIn W (· ≠ xb) u nxt ∧ DoW w xb vx cur W) ∧ (L 6 = true → ∃ u, DoW w xb u nxt W)
theorem doStepInv {w : World} {xb : Nat} {vx : Value} {cur nxt : List Item} {b off k : Nat} {lv arg : Value} {w4 : World} {L : Nat → Bool} {U : Nat → Value} {i : Nat} {u : Value} (hi : i < 5) (h5 : L 5 = false) (h6 : L 6 = false) (hG : ∀ j, L j = true → doGd vx b off k lv arg j (U j))
    (hu : doGd vx b off k lv arg i u) : doInv w xb vx cur nxt b off k lv arg w4 (upd L i true) (upd U i u) w4.drew := by
  have e5 : upd L i true 5 = false := by rw [upd_other _ _ (by omega)]; exact h5
  have e6 : upd L i true 6 = false := by rw [upd_other _ _ (by omega)]; exact h6
  refine ⟨fun _ => ⟨RInv.next (Good := fun j (_ : World) u => doGd vx b off k lv arg j u) (w := w4) (w' := w4) hG (fun _ _ h => h) hu, rfl⟩, fun h => ?_, fun h => ?_⟩
  · rw [e5] at h; cases h
  · rw [e6] at h; cases h

end Go.Proofs.Ytlmcpkijcadalaa

/- Plans: what they are, how they lie in memory. -/
import Derived.Test.YtfmddejgoojghabShapes
import Derived.Test.YtfmddejgoojghabHStr
namespace Go.Proofs.Ytfmddejgoojghab
open Go.RowKit

/-- A plan: whether it may be, which names it holds, what it writes. -/
structure Plan where
  ok : Bool
  locks : List ByteArray
  writes : List Wr
def planSh : Sh Plan := (Sh.bool.pair (strsSh.pair wrsSh)).conv (fun x => (x.ok, x.locks, x.writes)) (fun p => ⟨p.1, p.2.1, p.2.2⟩) rfl
section
variable {w : World} {B : Nat} {S : Nat → Prop} {v : Value}
theorem plan_rel {cs : List Value} {x : Plan} : planSh.rel w B cs x ↔ ∃ u v, cs = [.bool x.ok, u, v] ∧ strSh.Row w B u x.locks ∧ wrSh.Row w B v x.writes := by
  constructor
  · rintro ⟨c1, c2, rfl, h1, c5, c6, rfl, ⟨u, rfl, h3⟩, v, rfl, h4⟩
    have h1' : c1 = [.bool x.ok] := h1
    subst h1'
    exact ⟨u, v, rfl, h3, h4⟩
  · rintro ⟨u, v, rfl, h3, h4⟩
    exact ⟨_, _, rfl, rfl, _, _, rfl, ⟨u, rfl, h3⟩, v, rfl, h4⟩
end

/-- What a method that plans leaves: a plan of its own, and whether it is done there. -/
def Planned (pl : Plan) (here : Bool) (w : World) (e : Ending) (w' : World) : Prop :=
  ∃ u v, e = .returned (.tuple #[.agg #[.bool pl.ok, u, v], .bool here]) ∧ planSh.own w' (fun b => w.heap.size ≤ b ∧ b < w'.heap.size) [.bool pl.ok, u, v] pl ∧ Below w.heap.size w w'

section
variable {α : Type} {A : Sh α} {e : TypeId} {w : World}
/-- A literal of elements that own what they reach in blocks of S. -/
theorem Sh.Own.lit (A : Sh α) (e : TypeId) (w : World) (cells : Array Value) (xs : List α) (C : Nat → List Value) (F : Nat → Nat → Prop) (S : Nat → Prop) (hl : xs.length ≤ maxLen) (hC : cells.toList = flat C xs.length)
    (ho : ∀ j x, xs[j]? = some x → A.own w (F j) (C j) x ∧ ∀ b, F j b → S b ∧ b < w.heap.size) (hd : ∀ i j b, i < j → j < xs.length → F i b → ¬ F j b) :
    A.Own e (w.alloc (.cells cells e)) (fun b => S b ∨ b = w.heap.size) (.slice (some ⟨w.heap.size, 0, none⟩) xs.length xs.length) xs := by
  have hlen : cells.size = xs.length * A.wd := by
    have : cells.toList.length = xs.length * A.wd := by rw [hC]; exact flat_len fun j hj => A.olen (ho j _ (List.getElem?_eq_getElem hj)).1
    simpa using this
  refine ⟨C, F, ?_, fun g hg => .inr (Option.some.inj hg).symm, fun j x hx => ⟨A.okeep (ho j x hx).1 fun b _ hlt => (belowOne w (.cells cells e)).block b hlt, fun b hb => ⟨.inl ((ho j x hx).2 b hb).1, fun e1 => ?_⟩⟩, hd⟩
  · have h := World.ownsRow_lit (base := 0) (e := e) (size := A.wd) w cells xs.length (Nat.zero_le _) hl hlen
    rw [hC] at h; exact h
  · have h1 : w.heap.size = b := Option.some.inj e1
    have h2 := ((ho j x hx).2 b hb).2
    omega
end
theorem strs_lit (w : World) (xs : List ByteArray) (cells : Array Value) (hc : cells.toList = xs.map Value.string) (hx : ∀ x ∈ xs, x.size ≤ maxLen) (hl : xs.length ≤ maxLen) :
    strSh.Own 9 (w.alloc (.cells cells 9)) (fun b => b = w.heap.size) (.slice (some ⟨w.heap.size, 0, none⟩) xs.length xs.length) xs := by
  have h := Sh.Own.lit strSh 9 w cells xs (fun j => [.string (xs[j]?.getD ByteArray.empty)]) (fun _ _ => False) (fun _ => False) hl (by
    rw [hc]
    refine flat_ext (d := 1) (fun _ _ => rfl) (by simp) fun j i hj hi => ?_
    have hi0 : i = 0 := by omega
    subst hi0
    simp [hj]) (fun j x hx' => ⟨⟨by rw [hx']; rfl, hx x (List.mem_of_getElem? hx')⟩, fun _ h => h.elim⟩) (fun _ _ _ _ _ h => h.elim)
  exact h.mono fun b hb => hb.elim False.elim id
theorem ints_lit (w : World) (xs : List Int) (cells : Array Value) (hc : cells.toList = xs.map (Value.int .i64)) (hl : xs.length ≤ maxLen) :
    Sh.int.Own 3 (w.alloc (.cells cells 3)) (fun b => b = w.heap.size) (.slice (some ⟨w.heap.size, 0, none⟩) xs.length xs.length) xs := by
  have h := Sh.Own.lit Sh.int 3 w cells xs (fun j => [.int .i64 (xs[j]?.getD 0)]) (fun _ _ => False) (fun _ => False) hl (by
    rw [hc]
    refine flat_ext (d := 1) (fun _ _ => rfl) (by simp) fun j i hj hi => ?_
    have hi0 : i = 0 := by omega
    subst hi0
    simp [hj]) (fun j x hx' => ⟨by rw [hx']; rfl, fun _ h => h.elim⟩) (fun _ _ _ _ _ h => h.elim)
  exact h.mono fun b hb => hb.elim False.elim id
end Go.Proofs.Ytfmddejgoojghab

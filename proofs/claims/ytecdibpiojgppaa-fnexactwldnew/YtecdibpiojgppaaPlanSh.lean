/- Plans: what they are, how they lie in memory. -/
import Derived.Test.YtecdibpiojgppaaShapes
import Derived.Test.YtecdibpiojgppaaHStr
namespace Go.Proofs.Ytecdibpiojgppaa
open Go.RowKit

/-- A plan: whether it may be, which names it holds, what it writes. -/
structure Plan where
  ok : Bool
  locks : List ByteArray
  writes : List Wr
def planSh : Sh Plan := (Sh.bool.pair (strsSh.pair wrsSh)).conv (fun x => (x.ok, x.locks, x.writes)) (fun p => ⟨p.1, p.2.1, p.2.2⟩) rfl
section
variable {w : World} {B : Nat} {S : Nat → Prop} {v : Value}
theorem plan_rel {cs : List Value} {x : Plan} : planSh.rel w B cs x ↔ ∃ u v, cs = [.bool x.ok, u, v] ∧ strSh.Row w B u x.locks ∧ wrSh.Row w B v x.writes := by
  constructor
  · rintro ⟨c1, c2, rfl, h1, c5, c6, rfl, ⟨u, rfl, h3⟩, v, rfl, h4⟩
    have h1' : c1 = [.bool x.ok] := h1
    subst h1'
    exact ⟨u, v, rfl, h3, h4⟩
  · rintro ⟨u, v, rfl, h3, h4⟩
    exact ⟨_, _, rfl, rfl, _, _, rfl, ⟨u, rfl, h3⟩, v, rfl, h4⟩
theorem plan_own {cs : List Value} {x : Plan} : planSh.own w S cs x ↔ ∃ u v S1 S2, cs = [.bool x.ok, u, v] ∧ strSh.Own 9 w S1 u x.locks ∧ wrSh.Own 43 w S2 v x.writes ∧ (∀ b, S1 b → S b) ∧ (∀ b, S2 b → S b) ∧ ∀ b, S1 b → S2 b → False := by
  constructor
  · rintro ⟨c1, c2, S1, S2, rfl, h1, ⟨c5, c6, S5, S6, rfl, ⟨u, rfl, h3⟩, ⟨v, rfl, h4⟩, s5, s6, d⟩, -, s2, -⟩
    have h1' : c1 = [.bool x.ok] := h1
    subst h1'
    exact ⟨u, v, S5, S6, rfl, h3, h4, fun b hb => s2 b (s5 b hb), fun b hb => s2 b (s6 b hb), d⟩
  · rintro ⟨u, v, S1, S2, rfl, h3, h4, s1, s2, d⟩
    exact ⟨_, _, fun _ => False, S, rfl, rfl, ⟨_, _, S1, S2, rfl, ⟨u, rfl, h3⟩, ⟨v, rfl, h4⟩, s1, s2, d⟩, fun _ h => h.elim, fun _ h => h, fun _ h _ => h⟩
end

/-- What a method that plans leaves: a plan of its own, and whether it is done there. -/
def Planned (pl : Plan) (here : Bool) (w : World) (e : Ending) (w' : World) : Prop :=
  ∃ u v, e = .returned (.tuple #[.agg #[.bool pl.ok, u, v], .bool here]) ∧ planSh.own w' (fun b => w.heap.size ≤ b ∧ b < w'.heap.size) [.bool pl.ok, u, v] pl ∧ Below w.heap.size w w'

section
variable {α : Type} {A : Sh α} {e : TypeId} {w : World}
/-- A literal of elements that own what they reach in blocks of S. -/
theorem Sh.Own.lit (A : Sh α) (e : TypeId) (w : World) (cells : Array Value) (xs : List α) (C : Nat → List Value) (F : Nat → Nat → Prop) (S : Nat → Prop) (hl : xs.length ≤ maxLen) (hC : cells.toList = flat C xs.length)
    (ho : ∀ j x, xs[j]? = some x → A.own w (F j) (C j) x ∧ ∀ b, F j b → S b ∧ b < w.heap.size) (hd : ∀ i j b, i < j → j < xs.length → F i b → ¬ F j b) :
    A.Own e (w.alloc (.cells cells e)) (fun b => S b ∨ b = w.heap.size) (.slice (some ⟨w.heap.size, 0, none⟩) xs.length xs.length) xs := by
  have hlen : cells.size = xs.length * A.wd := by
    have : cells.toList.length = xs.length * A.wd := by rw [hC]; exact flat_len fun j hj => A.olen (ho j _ (List.getElem?_eq_getElem hj)).1
    simpa using this
  refine ⟨C, F, ?_, fun g hg => .inr (Option.some.inj hg).symm, fun j x hx => ⟨A.okeep (ho j x hx).1 fun b _ hlt => (belowOne w (.cells cells e)).block b hlt, fun b hb => ⟨.inl ((ho j x hx).2 b hb).1, fun e1 => ?_⟩⟩, hd⟩
  · have h := World.ownsRow_lit (base := 0) (e := e) (size := A.wd) w cells xs.length (Nat.zero_le _) hl hlen
    rw [hC] at h; exact h
  · have h1 : w.heap.size = b := Option.some.inj e1
    have h2 := ((ho j x hx).2 b hb).2
    omega
end
theorem strs_lit (w : World) (xs : List ByteArray) (cells : Array Value) (hc : cells.toList = xs.map Value.string) (hx : ∀ x ∈ xs, x.size ≤ maxLen) (hl : xs.length ≤ maxLen) :
    strSh.Own 9 (w.alloc (.cells cells 9)) (fun b => b = w.heap.size) (.slice (some ⟨w.heap.size, 0, none⟩) xs.length xs.length) xs := by
  have h := Sh.Own.lit strSh 9 w cells xs (fun j => [.string (xs[j]?.getD ByteArray.empty)]) (fun _ _ => False) (fun _ => False) hl (by
    rw [hc]
    refine flat_ext (d := 1) (fun _ _ => rfl) (by simp) fun j i hj hi => ?_
    have hi0 : i = 0 := by omega
    subst hi0
    simp [hj]) (fun j x hx' => ⟨⟨by rw [hx']; rfl, hx x (List.mem_of_getElem? hx')⟩, fun _ h => h.elim⟩) (fun _ _ _ _ _ h => h.elim)
  exact h.mono fun b hb => hb.elim False.elim id
theorem ints_lit (w : World) (xs : List Int) (cells : Array Value) (hc : cells.toList = xs.map (Value.int .i64)) (hl : xs.length ≤ maxLen) :
    Sh.int.Own 3 (w.alloc (.cells cells 3)) (fun b => b = w.heap.size) (.slice (some ⟨w.heap.size, 0, none⟩) xs.length xs.length) xs := by
  have h := Sh.Own.lit Sh.int 3 w cells xs (fun j => [.int .i64 (xs[j]?.getD 0)]) (fun _ _ => False) (fun _ => False) hl (by
    rw [hc]
    refine flat_ext (d := 1) (fun _ _ => rfl) (by simp) fun j i hj hi => ?_
    have hi0 : i = 0 := by omega
    subst hi0
    simp [hj]) (fun j x hx' => ⟨by rw [hx']; rfl, fun _ h => h.elim⟩) (fun _ _ _ _ _ h => h.elim)
  exact h.mono fun b hb => hb.elim False.elim id
/-- One write, made of numbers that are owned. -/
theorem wrs_lit1 (w : World) (S : Nat → Prop) (key : ByteArray) (del : Bool) (u : Value) (xs : List Int) (hk : key.size ≤ maxLen) (hu : Sh.int.Own 3 w S u xs) (hS : ∀ b, S b → b < w.heap.size) :
    wrSh.Own 43 (w.alloc (.cells #[.string key, .bool del, u] 43)) (fun b => S b ∨ b = w.heap.size) (.slice (some ⟨w.heap.size, 0, none⟩) 1 1) [⟨key, del, xs⟩] := by
  refine Sh.Own.lit wrSh 43 w #[.string key, .bool del, u] [⟨key, del, xs⟩] (fun _ => [.string key, .bool del, u]) (fun _ => S) S (by unfold maxLen; simp) (by simp [flat]) (fun j x hx => ?_) (fun i j b hij hj => by simp at hj; omega)
  have : x = ⟨key, del, xs⟩ := by
    have := List.mem_of_getElem? hx
    simpa using this
  subst this
  exact ⟨wr_own.2 ⟨u, rfl, hk, hu⟩, fun b hb => ⟨hb, hS b hb⟩⟩
/-- Two writes. -/
theorem wrs_lit2 (w : World) (S1 S2 : Nat → Prop) (k1 k2 : ByteArray) (d1 d2 : Bool) (u1 u2 : Value) (xs ys : List Int) (hk1 : k1.size ≤ maxLen) (hk2 : k2.size ≤ maxLen) (h1 : Sh.int.Own 3 w S1 u1 xs) (h2 : Sh.int.Own 3 w S2 u2 ys) (hS1 : ∀ b, S1 b → b < w.heap.size) (hS2 : ∀ b, S2 b → b < w.heap.size) (hd : ∀ b, S1 b → ¬ S2 b) :
    wrSh.Own 43 (w.alloc (.cells #[.string k1, .bool d1, u1, .string k2, .bool d2, u2] 43)) (fun b => (S1 b ∨ S2 b) ∨ b = w.heap.size) (.slice (some ⟨w.heap.size, 0, none⟩) 2 2) [⟨k1, d1, xs⟩, ⟨k2, d2, ys⟩] := by
  refine Sh.Own.lit wrSh 43 w #[.string k1, .bool d1, u1, .string k2, .bool d2, u2] [⟨k1, d1, xs⟩, ⟨k2, d2, ys⟩] (fun j => if j = 0 then [.string k1, .bool d1, u1] else [.string k2, .bool d2, u2]) (fun j => if j = 0 then S1 else S2) (fun b => S1 b ∨ S2 b) (by unfold maxLen; simp) (by simp [flat, List.range_succ]) (fun j x hx => ?_) (fun i j b hij hj => ?_)
  · match j, hx with
    | 0, hx =>
      simp at hx; subst hx
      exact ⟨wr_own.2 ⟨u1, rfl, hk1, h1⟩, fun b hb => ⟨.inl hb, hS1 b hb⟩⟩
    | 1, hx =>
      simp at hx; subst hx
      exact ⟨wr_own.2 ⟨u2, rfl, hk2, h2⟩, fun b hb => ⟨.inr hb, hS2 b hb⟩⟩
    | j + 2, hx => simp at hx
  · have hj' : j = 1 := by simp at hj; omega
    have hi' : i = 0 := by omega
    subst hj' hi'
    simpa using hd b

end Go.Proofs.Ytecdibpiojgppaa

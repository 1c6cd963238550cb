/- The model's copy of a store. -/
import Derived.Test.YtlmcpkijcadalaaXOwnIt
import Derived.Test.YtlmcpkijcadalaaXIntsOne
namespace Go.Proofs.Ytlmcpkijcadalaa
open Go.RowKit

/-- What holds of the world while a thing is copied. -/
structure CpW (w0 : World) (v vx : Value) (its : List Item) (k : Nat) (it : Item) (b off : Nat) (ux : Value) (W : World) : Prop where
  box1 : Held W w0.heap.size [v]
  box2 : Held W (w0.heap.size + 1) [.slice none 0 0]
  box3 : Held W (w0.heap.size + 1 + 1) [vx]
  own : OwnIt W (w0.heap.size + 1 + 1 + 1) (w0.heap.size + 1 + 1 + 1 ≤ ·) vx (its.take k)
  low : Below w0.heap.size w0 W
  key : W.cell? ⟨b, off + k * 2, none⟩ = some (.string it.key)
  val : W.cell? ⟨b, off + k * 2 + 1, none⟩ = some ux
  ints : Ints W w0.heap.size ux it.val
theorem CpW.next {w0 : World} {v vx : Value} {its : List Item} {k : Nat} {it : Item} {b off : Nat} {ux : Value} {W W' : World} (h : CpW w0 v vx its k it b off ux W) (hb : b < w0.heap.size) (hn : Below W.heap.size W W') : CpW w0 v vx its k it b off ux W' := by
  have hz := h.box1.1
  exact ⟨h.box1.below hn h.box1.1, h.box2.below hn h.box2.1, h.box3.below hn h.box3.1, h.own.below hn, h.low.trans (hn.mono (by omega)), (hn.cell (p := ⟨b, off + k * 2, none⟩) (by show b < _; omega)).trans h.key, (hn.cell (p := ⟨b, off + k * 2 + 1, none⟩) (by show b < _; omega)).trans h.val, h.ints.below (hn.mono (by omega))⟩

/-- What each operation's slot is good for. -/
def cpGood (w0 : World) (v vx : Value) (k : Nat) (it : Item) (b off : Nat) (ux : Value) (i : Nat) (W : World) (u : Value) : Prop :=
  match i with
  | 0 => u = .pointer (some ⟨w0.heap.size + 1 + 1, 0, none⟩)
  | 1 => u = vx
  | 2 => u = .pointer (some ⟨w0.heap.size, 0, none⟩)
  | 3 => u = v
  | 4 => u = .int .i64 k
  | 5 => u = .pointer (some ⟨b, off + k * 2, none⟩)
  | 6 => u = .pointer (some ⟨b, off + k * 2, none⟩)
  | 7 => u = .string it.key
  | 8 => ∃ B, u = .slice (some ⟨B, 0, none⟩) 0 0 ∧ OwnInts W B u [] ∧ B ≤ W.heap.size ∧ w0.heap.size + 1 + 1 + 1 ≤ B ∧ ∀ g, vx.ownBlock = some g → g < B
  | 9 => u = .pointer (some ⟨w0.heap.size, 0, none⟩)
  | 10 => u = v
  | 11 => u = .int .i64 k
  | 12 => u = .pointer (some ⟨b, off + k * 2, none⟩)
  | 13 => u = .pointer (some ⟨b, off + k * 2 + 1, none⟩)
  | 14 => u = ux
  | 15 => ∃ B, OwnInts W B u it.val ∧ w0.heap.size + 1 + 1 + 1 ≤ B ∧ ∀ g, vx.ownBlock = some g → g < B
  | 16 => ∃ u' B, u = .agg #[.string it.key, u'] ∧ OwnInts W B u' it.val ∧ w0.heap.size + 1 + 1 + 1 ≤ B ∧ ∀ g, vx.ownBlock = some g → g < B
  | 17 => ∃ u' B D, u = .slice (some ⟨D, 0, none⟩) 1 1 ∧ Held W D [.string it.key, u'] ∧ OwnInts W B u' it.val ∧ w0.heap.size + 1 + 1 + 1 ≤ B ∧ ∀ g, vx.ownBlock = some g → g < B
  | _ => True
theorem cpGood_next {w0 : World} {v vx : Value} {k : Nat} {it : Item} {b off : Nat} {ux : Value} {W W' : World} (hn : Below W.heap.size W W') (j : Nat) (u : Value) (h : cpGood w0 v vx k it b off ux j W u) : cpGood w0 v vx k it b off ux j W' u := by
  match j, h with
  | 0, h => exact h
  | 1, h => exact h
  | 2, h => exact h
  | 3, h => exact h
  | 4, h => exact h
  | 5, h => exact h
  | 6, h => exact h
  | 7, h => exact h
  | 8, ⟨B, h1, h2, h3, h4, h5⟩ => exact ⟨B, h1, h2.below hn, Nat.le_trans h3 hn.size, h4, h5⟩
  | 9, h => exact h
  | 10, h => exact h
  | 11, h => exact h
  | 12, h => exact h
  | 13, h => exact h
  | 14, h => exact h
  | 15, ⟨B, h1, h2, h3⟩ => exact ⟨B, h1.below hn, h2, h3⟩
  | 16, ⟨u', B, h0, h1, h2, h3⟩ => exact ⟨u', B, h0, h1.below hn, h2, h3⟩
  | 17, ⟨u', B, D, h0, h1, h2, h3, h4⟩ => exact ⟨u', B, D, h0, h1.below hn h1.1, h2.below hn, h3, h4⟩
  | n + 18, h => exact h

/-- What holds behind the last append, and behind the store. -/
structure CpZ (w0 : World) (v vx : Value) (its : List Item) (k : Nat) (vn : Value) (W : World) : Prop where
  box1 : Held W w0.heap.size [v]
  box2 : Held W (w0.heap.size + 1) [.slice none 0 0]
  box3 : Held W (w0.heap.size + 1 + 1) [vx]
  own : OwnIt W (w0.heap.size + 1 + 1 + 1) (w0.heap.size + 1 + 1 + 1 ≤ ·) vn (its.take (k + 1))
  low : Below w0.heap.size w0 W

def cpFrame (w0 : World) (v : Value) (k : Nat) (u6 u7 u8 u9 u10 u11 u12 u33 : Value) (U : Nat → Value) : Array Value :=
  #[.agg #[v], .pointer (some ⟨w0.heap.size, 0, none⟩), .pointer (some ⟨w0.heap.size + 1, 0, none⟩), .pointer (some ⟨w0.heap.size + 1 + 1, 0, none⟩), .int .i64 k, .agg #[.slice none 0 0], u6, u7, u8, u9, u10, u11, u12,
    U 0, U 1, U 2, U 3, U 4, U 5, U 6, U 7, U 8, U 9, U 10, U 11, U 12, U 13, U 14, U 15, U 16, U 17, U 18, U 19, u33]

def cpInv (w0 : World) (v vx : Value) (its : List Item) (k : Nat) (it : Item) (b off : Nat) (ux : Value) (u6 u7 u8 u9 u10 u11 u12 u33 : Value) (L : Nat → Bool) (a : Act) (W : World) : Prop :=
  ∃ U : Nat → Value, a = { tmps := cpFrame w0 v k u6 u7 u8 u9 u10 u11 u12 u33 U, defers := [] } ∧ (L 18 = false → (∀ j, L j = true → cpGood w0 v vx k it b off ux j W (U j)) ∧ CpW w0 v vx its k it b off ux W) ∧
    (L 18 = true → L 20 = false → CpZ w0 v vx its k (U 18) W) ∧ (L 19 = true → U 19 = .pointer (some ⟨w0.heap.size + 1 + 1, 0, none⟩)) ∧ (L 20 = true → ∃ vn, CpZ w0 v vn its k vn W)

theorem cpInv_step {w0 : World} {v vx : Value} {its : List Item} {k : Nat} {it : Item} {b off : Nat} {ux u6 u7 u8 u9 u10 u11 u12 u33 : Value} {L : Nat → Bool} {U : Nat → Value} {W W' : World} {a : Act} {i : Nat} {u : Value} (hi : i < 18) (hb : b < w0.heap.size)
    (h18 : L 18 = false) (h19 : L 19 = false) (h20 : L 20 = false) (hG : ∀ j, L j = true → cpGood w0 v vx k it b off ux j W (U j)) (hW : CpW w0 v vx its k it b off ux W) (hn : Below W.heap.size W W') (hu : cpGood w0 v vx k it b off ux i W' u)
    (ha : a = { tmps := cpFrame w0 v k u6 u7 u8 u9 u10 u11 u12 u33 (upd U i u), defers := [] }) : cpInv w0 v vx its k it b off ux u6 u7 u8 u9 u10 u11 u12 u33 (upd L i true) a W' := by
  have e18 : upd L i true 18 = false := by rw [upd_other _ _ (by omega)]; exact h18
  have e19 : upd L i true 19 = false := by rw [upd_other _ _ (by omega)]; exact h19
  have e20 : upd L i true 20 = false := by rw [upd_other _ _ (by omega)]; exact h20
  refine ⟨upd U i u, ha, fun _ => ⟨RInv.next (Good := cpGood w0 v vx k it b off ux) hG (fun j x h => cpGood_next hn j x h) hu, hW.next hb hn⟩, fun h => ?_, fun h => ?_, fun h => ?_⟩
  · rw [e18] at h; cases h
  · rw [e19] at h; cases h
  · rw [e20] at h; cases h

theorem ownItLt {w : World} {lo : Nat} {S : Nat → Prop} {v : Value} {its : List Item} (h : OwnIt w lo S v its) : ∀ g, v.ownBlock = some g → lo ≤ g ∧ g < w.heap.size := by
  obtain ⟨U, h1, _⟩ := h
  exact h1.lt
theorem takeNext {its : List Item} {k : Nat} {it : Item} (h : its[k]? = some it) : its.take k ++ [it] = its.take (k + 1) := by
  rw [List.take_add_one, h]; rfl

end Go.Proofs.Ytlmcpkijcadalaa

/- A drawn name. -/
import Derived.Test.YtfmddejgoojghaaXDrawKey
import Derived.Test.YtfmddejgoojghaaXGet
namespace Go.Proofs.Ytfmddejgoojghaa
open Go.RowKit

/-- The slots of the region. -/
def keyFrame (g : Nat) (n : Int) (U : Nat → Value) : Array Value :=
  #[.pointer (some ⟨g, 0, none⟩), .int .i64 n, undef, undef, .string ⟨#[]⟩, U 16, U 0, U 1, U 2, U 3, U 4, U 5, U 6, U 7, U 8, U 9, U 10, U 11, U 12, U 13, U 14, U 15, undef, undef, undef, undef, undef, undef, undef, undef, undef]

def intIn (lo hi : Int) (u : Value) : Prop := ∃ m : Int, u = .int .i64 m ∧ lo ≤ m ∧ m < hi
def strTo (k : Nat) (u : Value) : Prop := ∃ s : ByteArray, u = .string s ∧ s.size ≤ k
/-- What each operation's slot is good for. -/
def keyGood (g : Nat) (i : Nat) (w : World) (u : Value) : Prop :=
  match i with
  | 0 => ∃ B, u = .slice (some ⟨B, 0, none⟩) 5 5 ∧ B ≠ g ∧ B < w.heap.size ∧ ∀ j, j < 5 → ∃ x, w.cell? ⟨B, j, none⟩ = some x ∧ strTo 1 x
  | 1 => u = .pointer (some ⟨g, 0, none⟩)
  | 2 => intIn 0 5 u
  | 3 => ∃ B j x, u = .pointer (some ⟨B, j, none⟩) ∧ B ≠ g ∧ B < w.heap.size ∧ w.cell? ⟨B, j, none⟩ = some x ∧ strTo 1 x
  | 4 => strTo 1 u
  | 5 => u = .pointer (some ⟨g, 0, none⟩)
  | 6 => intIn 0 30 u
  | 7 => u = .pointer (some ⟨g, 0, none⟩)
  | 8 => intIn 0 30 u
  | 9 => ∃ B, u = .slice (some ⟨B, 0, none⟩) 2 2 ∧ B ≠ g ∧ B < w.heap.size ∧ ∀ j, j < 2 → ∃ x, w.cell? ⟨B, j, none⟩ = some x ∧ intIn 0 30 x
  | 10 => u = .pointer (some ⟨g, 0, none⟩)
  | 11 => intIn 0 2 u
  | 12 => ∃ B j x, u = .pointer (some ⟨B, j, none⟩) ∧ B ≠ g ∧ B < w.heap.size ∧ w.cell? ⟨B, j, none⟩ = some x ∧ intIn 0 30 x
  | 13 => intIn 0 30 u
  | 14 => strTo 1000001 u
  | 15 => strTo 1000002 u
  | _ => strTo 1000002 u

theorem keyGood_stable {g i : Nat} {w w' : World} (h : w.grownBy w' (some g)) (u : Value) (hg : keyGood g i w u) : keyGood g i w' u := by
  have hc : ∀ B j, B ≠ g → B < w.heap.size → w'.cell? ⟨B, j, none⟩ = w.cell? ⟨B, j, none⟩ := fun B j hne hlt => World.cell?_of_block (h.block B hlt (fun e => hne (Option.some.inj e)))
  have hz := h.size
  match i, hg with
  | 0, ⟨B, h1, h2, h3, h4⟩ => exact ⟨B, h1, h2, by omega, fun j hj => by rw [hc B j h2 h3]; exact h4 j hj⟩
  | 1, h => exact h
  | 2, h => exact h
  | 3, ⟨B, j, x, h1, h2, h3, h4, h5⟩ => exact ⟨B, j, x, h1, h2, by omega, by rw [hc B j h2 h3]; exact h4, h5⟩
  | 4, h => exact h
  | 5, h => exact h
  | 6, h => exact h
  | 7, h => exact h
  | 8, h => exact h
  | 9, ⟨B, h1, h2, h3, h4⟩ => exact ⟨B, h1, h2, by omega, fun j hj => by rw [hc B j h2 h3]; exact h4 j hj⟩
  | 10, h => exact h
  | 11, h => exact h
  | 12, ⟨B, j, x, h1, h2, h3, h4, h5⟩ => exact ⟨B, j, x, h1, h2, by omega, by rw [hc B j h2 h3]; exact h4, h5⟩
  | 13, h => exact h
  | 14, h => exact h
  | 15, h => exact h
  | k + 16, h => exact h

/-- How many picks have come up. -/
def keyCnt (L : Nat → Bool) : Int := (if L 2 then 1 else 0) + (if L 6 then 1 else 0) + (if L 8 then 1 else 0) + (if L 11 then 1 else 0)
theorem keyCnt_same {L : Nat → Bool} {i : Nat} (h2 : i ≠ 2) (h6 : i ≠ 6) (h8 : i ≠ 8) (h11 : i ≠ 11) : keyCnt (upd L i true) = keyCnt L := by
  unfold keyCnt
  rw [upd_other _ _ (Ne.symm h2), upd_other _ _ (Ne.symm h6), upd_other _ _ (Ne.symm h8), upd_other _ _ (Ne.symm h11)]
theorem keyCnt_next {L : Nat → Bool} {i : Nat} (h : i = 2 ∨ i = 6 ∨ i = 8 ∨ i = 11) (hL : L i = false) : keyCnt (upd L i true) = keyCnt L + 1 := by
  unfold keyCnt
  rcases h with rfl | rfl | rfl | rfl <;> simp [upd, hL] <;> omega
theorem keyCnt_bound (L : Nat → Bool) : 0 ≤ keyCnt L ∧ keyCnt L ≤ 4 := by
  unfold keyCnt; split <;> split <;> split <;> split <;> omega

theorem lit5 (W : World) : ∀ j, j < 5 → ∃ x, (W.alloc (.cells #[.string ⟨#[115]⟩, .string ⟨#[99]⟩, .string ⟨#[102]⟩, .string ⟨#[117]⟩, .string ⟨#[97]⟩] 9)).cell? ⟨W.heap.size, j, none⟩ = some x ∧ strTo 1 x := by
  intro j hj
  rcases (by omega : j = 0 ∨ j = 1 ∨ j = 2 ∨ j = 3 ∨ j = 4) with rfl | rfl | rfl | rfl | rfl
  · exact ⟨_, by simp, ⟨#[115]⟩, rfl, by decide⟩
  · exact ⟨_, by simp, ⟨#[99]⟩, rfl, by decide⟩
  · exact ⟨_, by simp, ⟨#[102]⟩, rfl, by decide⟩
  · exact ⟨_, by simp, ⟨#[117]⟩, rfl, by decide⟩
  · exact ⟨_, by simp, ⟨#[97]⟩, rfl, by decide⟩
theorem lit6 (W : World) : ∀ j, j < 6 → ∃ x, (W.alloc (.cells #[.string ⟨#[]⟩, .string ⟨#[115]⟩, .string ⟨#[83, 49]⟩, .string ⟨#[115, 49, 50, 51]⟩, .string ⟨#[49, 115]⟩, .string ⟨#[115, 97]⟩] 9)).cell? ⟨W.heap.size, j, none⟩ = some x ∧ strTo 4 x := by
  intro j hj
  rcases (by omega : j = 0 ∨ j = 1 ∨ j = 2 ∨ j = 3 ∨ j = 4 ∨ j = 5) with rfl | rfl | rfl | rfl | rfl | rfl
  · exact ⟨_, by simp, ⟨#[]⟩, rfl, by decide⟩
  · exact ⟨_, by simp, ⟨#[115]⟩, rfl, by decide⟩
  · exact ⟨_, by simp, ⟨#[83, 49]⟩, rfl, by decide⟩
  · exact ⟨_, by simp, ⟨#[115, 49, 50, 51]⟩, rfl, by decide⟩
  · exact ⟨_, by simp, ⟨#[49, 115]⟩, rfl, by decide⟩
  · exact ⟨_, by simp, ⟨#[115, 97]⟩, rfl, by decide⟩

end Go.Proofs.Ytfmddejgoojghaa

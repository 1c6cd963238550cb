/- Texts that follow each other, merged: Items, FrameSto, FrameInt. -/
import Derived.Test.YtllmmhibmgpehaaXPlain
import GoSem.Op.String
import Derived.Deep.Slices
import Derived.Deep.Fields

/- What a place keeps: items, and how they lie in memory. Nothing of the program. -/
namespace Go.Proofs.Ytllmmhibmgpehaa
open Go.RowKit

/-- A thing: its name and its numbers. -/
structure Item where
  key : ByteArray
  val : List Int

/-- One name is less than another, byte by byte. -/
def ltB (a b : ByteArray) : Bool := Op.bytesLess a.toList b.toList
def itemB (it : Item) : Bool := keyB it.key && valB it.val
def ascB : List Item → Bool
  | a :: b :: l => ltB a.key b.key && ascB (b :: l)
  | _ => true
/-- What a place keeps is ok. -/
def stoB (its : List Item) : Bool := decide (its.length ≤ 40) && (its.all itemB && ascB its)

/-- Of the first k things each is one. -/
def Each (its : List Item) (k : Nat) : Prop := ∀ j it, j < k → its[j]? = some it → itemB it = true
/-- The first k names rise. -/
def Rise (its : List Item) (k : Nat) : Prop := ∀ j a b, j + 1 < k → its[j]? = some a → its[j + 1]? = some b → ltB a.key b.key = true
theorem Each.start (its : List Item) : Each its 0 := fun j _ h => absurd h (by omega)
theorem Each.step {its : List Item} {k : Nat} {it : Item} (h : Each its k) (hk : its[k]? = some it) (e : itemB it = true) : Each its (k + 1) := by
  intro j x hj hx
  rcases Nat.lt_or_ge j k with hlt | hge
  · exact h j x hlt hx
  · have : j = k := by omega
    subst this
    rw [hk] at hx
    injection hx with hx
    rw [← hx]; exact e
theorem Rise.start (its : List Item) : Rise its 1 := fun j _ _ h => absurd h (by omega)
theorem Rise.zero (its : List Item) : Rise its 0 := fun j _ _ h => absurd h (by omega)
theorem Rise.step {its : List Item} {k : Nat} {a b : Item} (h : Rise its (k + 1)) (ha : its[k]? = some a) (hb : its[k + 1]? = some b) (e : ltB a.key b.key = true) : Rise its (k + 1 + 1) := by
  intro j x y hj hx hy
  rcases Nat.lt_or_ge (j + 1) (k + 1) with hlt | hge
  · exact h j x y hlt hx hy
  · have : j = k := by omega
    subst this
    rw [ha] at hx; rw [hb] at hy
    injection hx with hx; injection hy with hy
    rw [← hx, ← hy]; exact e
theorem each_all {its : List Item} (h : Each its its.length) : its.all itemB = true := by
  rw [List.all_eq_true]
  intro x hx
  obtain ⟨j, hj, rfl⟩ := List.getElem_of_mem hx
  exact h j _ hj (List.getElem?_eq_getElem hj)
theorem all_each {its : List Item} (h : its.all itemB = true) : Each its its.length := by
  intro j it _ hit
  exact List.all_eq_true.1 h it (List.mem_of_getElem? hit)
theorem rise_asc : ∀ {its : List Item}, Rise its its.length → ascB its = true
  | [], _ => rfl
  | [_], _ => rfl
  | a :: b :: l, h => by
    unfold ascB
    rw [h 0 a b (by simp) rfl rfl, Bool.true_and]
    exact rise_asc fun j x y hj hx hy => h (j + 1) x y (by simp at hj ⊢; omega) (by simpa using hx) (by simpa using hy)
theorem asc_rise : ∀ {its : List Item}, ascB its = true → Rise its its.length
  | [], _ => fun j _ _ h => absurd h (by simp)
  | [_], _ => fun j _ _ h => absurd h (by simp)
  | a :: b :: l, h => by
    unfold ascB at h
    rw [Bool.and_eq_true] at h
    intro j x y hj hx hy
    cases j with
    | zero =>
      simp at hx hy
      rw [← hx, ← hy]; exact h.1
    | succ j => exact asc_rise h.2 j x y (by simp at hj ⊢; omega) (by simpa using hx) (by simpa using hy)
theorem stoB_long {its : List Item} (h : 40 < its.length) : stoB its = false := by
  unfold stoB; rw [Bool.and_eq_false_iff]; left; simp; omega
theorem stoB_bad {its : List Item} {k : Nat} {it : Item} (hk : its[k]? = some it) (h : itemB it = false) : stoB its = false := by
  unfold stoB
  rw [Bool.and_eq_false_iff]; right; rw [Bool.and_eq_false_iff]; left
  rw [List.all_eq_false]
  exact ⟨it, List.mem_of_getElem? hk, by simp [h]⟩
theorem asc_fall {its : List Item} {k : Nat} {a b : Item} (ha : its[k]? = some a) (hb : its[k + 1]? = some b) (e : ltB a.key b.key = false) : ascB its = false := by
  cases h : ascB its with
  | false => rfl
  | true =>
    have hl : k + 1 < its.length := (List.getElem?_eq_some_iff.1 hb).1
    have := asc_rise h k a b hl ha hb
    rw [e] at this; exact absurd this (by decide)
theorem stoB_fall {its : List Item} {k : Nat} {a b : Item} (ha : its[k]? = some a) (hb : its[k + 1]? = some b) (e : ltB a.key b.key = false) : stoB its = false := by
  unfold stoB
  rw [asc_fall ha hb e, Bool.and_false, Bool.and_false]
theorem stoB_each {its : List Item} (h : its.length ≤ 40) (he : Each its its.length) : stoB its = ascB its := by
  unfold stoB; rw [each_all he]; simp [h]
theorem stoB_yes {its : List Item} (h : its.length ≤ 40) (he : Each its its.length) (hr : Rise its its.length) : stoB its = true := by
  rw [stoB_each h he, rise_asc hr]
theorem itemB_key {it : Item} (h : keyB it.key = false) : itemB it = false := by unfold itemB; rw [h]; rfl
theorem itemB_val {it : Item} (h : valB it.val = false) : itemB it = false := by unfold itemB; rw [h, Bool.and_false]
theorem itemB_yes {it : Item} (h : keyB it.key = true) (h' : valB it.val = true) : itemB it = true := by unfold itemB; rw [h, h']; rfl

/-- A slice value that reads as things, below block B. -/
def Items (w : World) (B : Nat) (v : Value) (its : List Item) : Prop :=
  ∃ A c, v = .slice A its.length c ∧ its.length ≤ c ∧ c ≤ maxLen ∧ (0 < its.length → ∃ b off, A = some ⟨b, off, none⟩ ∧ b < B ∧
    ∀ j it, its[j]? = some it → it.key.size ≤ maxLen ∧ w.cell? ⟨b, off + j * 2, none⟩ = some (.string it.key) ∧ ∃ u, w.cell? ⟨b, off + j * 2 + 1, none⟩ = some u ∧ Ints w B u it.val)
section
variable {w w' w0 w1 : World} {B B' : Nat} {v : Value} {its : List Item}
theorem Items.keep (h : Items w B v its) (hk : ∀ b o, b < B → w'.cell? ⟨b, o, none⟩ = w.cell? ⟨b, o, none⟩) : Items w' B v its := by
  obtain ⟨A, c, hv, h1, h2, hr⟩ := h
  refine ⟨A, c, hv, h1, h2, fun hn => ?_⟩
  obtain ⟨b, off, hA, hb, hc⟩ := hr hn
  refine ⟨b, off, hA, hb, fun j it hit => ?_⟩
  obtain ⟨hs, c1, u, c2, hu⟩ := hc j it hit
  exact ⟨hs, (hk b _ hb).trans c1, u, (hk b _ hb).trans c2, hu.keep hk⟩
theorem Items.below (h : Items w B v its) (hb : Below B w w') : Items w' B v its := h.keep fun b o hB => hb.cell (p := ⟨b, o, none⟩) hB
theorem Items.more (h : Items w B v its) (hB : B ≤ B') : Items w B' v its := by
  obtain ⟨A, c, hv, h1, h2, hr⟩ := h
  refine ⟨A, c, hv, h1, h2, fun hn => ?_⟩
  obtain ⟨b, off, hA, hb, hc⟩ := hr hn
  refine ⟨b, off, hA, by omega, fun j it hit => ?_⟩
  obtain ⟨hs, c1, u, c2, hu⟩ := hc j it hit
  exact ⟨hs, c1, u, c2, hu.more hB⟩
theorem Items.alloc (h : Items w B v its) (hB : B ≤ w.heap.size) (o : Obj) : Items (w.alloc o) B v its := h.below ((Below.refl B w).alloc hB o)
theorem Items.form (h : Items w B v its) : ∃ A c, v = .slice A its.length c ∧ c ≤ maxLen ∧ its.length ≤ c := by
  obtain ⟨A, c, hv, h1, h2, _⟩ := h
  exact ⟨A, c, hv, h2, h1⟩
theorem Items.onward (h : Items w B v its) (hb : Below w0.heap.size w0 w1) (hw : w0.heap = w.heap) (hB : B ≤ w.heap.size) : Items w1 w1.heap.size v its := by
  have h0 : Items w0 B v its := h.keep fun b o _ => by simp only [World.cell?, hw]
  exact (h0.below (hb.mono (by rw [hw]; exact hB))).more (Nat.le_trans (by rw [hw]; exact hB) hb.size)
/-- The thing at a place. -/
theorem Items.at_ (h : Items w B v its) {k : Nat} (hk : k < its.length) : ∃ b off c it u, v = .slice (some ⟨b, off, none⟩) its.length c ∧ its[k]? = some it ∧ b < B ∧ it.key.size ≤ maxLen ∧
    w.cell? ⟨b, off + k * 2, none⟩ = some (.string it.key) ∧ w.cell? ⟨b, off + k * 2 + 1, none⟩ = some u ∧ Ints w B u it.val := by
  obtain ⟨A, c, hv, _, _, hr⟩ := h
  obtain ⟨b, off, hA, hb, hc⟩ := hr (by omega)
  obtain ⟨hs, c1, u, c2, hu⟩ := hc k _ (List.getElem?_eq_getElem hk)
  exact ⟨b, off, c, _, u, by rw [hv, hA], List.getElem?_eq_getElem hk, hb, hs, c1, c2, hu⟩
end

end Go.Proofs.Ytllmmhibmgpehaa

/- From the reading of a store that came in to the words of Items. -/
namespace Go.Proofs.Ytllmmhibmgpehaa
open Go.ChangeShapes Go.WideShapes Go.ChangeAt Go.RowKit Go.Joins Go.Deep

/-- What is there at each place is there as a list. -/
theorem listOf {α : Type} {Q : Nat → α → Prop} : ∀ n : Nat, (∀ i, i < n → ∃ x, Q i x) → ∃ l : List α, l.length = n ∧ ∀ i x, l[i]? = some x → Q i x
  | 0, _ => ⟨[], rfl, fun i x h => by simp at h⟩
  | n + 1, h => by
    obtain ⟨l, hl, hq⟩ := listOf n fun i hi => h i (by omega)
    obtain ⟨x, hx⟩ := h n (by omega)
    refine ⟨l ++ [x], by simp [hl], fun i y hy => ?_⟩
    rcases Nat.lt_or_ge i n with hlt | hge
    · rw [List.getElem?_append_left (by omega)] at hy
      exact hq i y hy
    · rw [List.getElem?_append_right (by omega)] at hy
      have hi : i = n := by
        have := (List.getElem?_eq_some_iff.1 hy).1
        simp at this; omega
      subst hi
      simp [hl] at hy
      rw [← hy]; exact hx

theorem cellLt {W : World} {b o : Nat} {u : Value} (h : W.cell? ⟨b, o, none⟩ = some u) : b < W.heap.size := by
  rcases Nat.lt_or_ge b W.heap.size with hlt | hge
  · exact hlt
  · simp [World.cell?, Array.getElem?_eq_none hge] at h

theorem list2 {α : Type} {l : List α} (h : l.length = 2) : ∃ a b, l = [a, b] := by
  match l, h with
  | [a, b], _ => exact ⟨a, b, rfl⟩
theorem list1 {α : Type} {l : List α} (h : l.length = 1) : ∃ a, l = [a] := by
  match l, h with
  | [a], _ => exact ⟨a, rfl⟩
theorem cellsStr : Try.prog.cellsOf 9 = 1 := by kernel_rfl
theorem cellsSl : Try.prog.cellsOf 31 = 1 := by kernel_rfl
section
variable {H : Type} {enc : TypeId × Value → H} {W : World}
end

end Go.Proofs.Ytllmmhibmgpehaa

/- From the reading of a number or a bool that came in. -/
namespace Go.Proofs.Ytllmmhibmgpehaa
open Go.ChangeShapes Go.WideShapes Go.ChangeAt Go.RowKit Go.Joins

section
variable {H : Type} {enc : TypeId × Value → H} {W : World}
set_option maxRecDepth 100000 in
theorem intArg {b0 : Nat} {v : Value} {d : DataW H} {p : List MemPlace} (hv : Value.okWide Try.prog W .any b0 3 v) (h : DataW.Trod enc Try.prog W 0 (fun _ => true) true 3 v d p) : ∃ n, v = .int .i64 n ∧ (Lit.int .i64 n).wf = true := by
  obtain ⟨n, h1, _, _, h2⟩ := open_int Try.underlying3 hv h
  exact ⟨n, h1, h2⟩
set_option maxRecDepth 100000 in
theorem boolArg {b0 : Nat} {v : Value} {d : DataW H} {p : List MemPlace} (hv : Value.okWide Try.prog W .any b0 4 v) (h : DataW.Trod enc Try.prog W 0 (fun _ => true) true 4 v d p) : ∃ n, v = .bool n := by
  obtain ⟨n, h1, _⟩ := open_bool Try.underlying4 hv h
  exact ⟨n, h1⟩
end

end Go.Proofs.Ytllmmhibmgpehaa

/- Things that the call itself has made, however they lie: a row of cells, and for each thing a slice of numbers, all in blocks of their own between lo and hi. -/
import Derived.Test.YtkamlibfcakblaaXMark
import Derived.Test.YtkamlibfcakblaaXDel
namespace Go.Proofs.Ytkamlibfcakblaa
open Go.RowKit

/-- The cells of things, the numbers of the j-th at U j. -/
def cellU (its : List Item) (U : Nat → Value) (i : Nat) : Value := match its[i / 2]? with
  | some it => if i % 2 = 0 then .string it.key else U (i / 2)
  | none => .string ByteArray.empty
def cellsU (its : List Item) (U : Nat → Value) : List Value := (List.range (its.length * 2)).map (cellU its U)
theorem cellsU_len (its : List Item) (U : Nat → Value) : (cellsU its U).length = its.length * 2 := by simp [cellsU]
theorem cellsU_at (its : List Item) (U : Nat → Value) {i : Nat} (h : i < its.length * 2) : (cellsU its U)[i]? = some (cellU its U i) := by simp [cellsU, h]
theorem cellU_key {its : List Item} {U : Nat → Value} {j : Nat} {it : Item} (h : its[j]? = some it) : cellU its U (j * 2) = .string it.key := by
  have h1 : j * 2 / 2 = j := by omega
  have h2 : j * 2 % 2 = 0 := by omega
  simp [cellU, h1, h2, h]
theorem cellU_val {its : List Item} {U : Nat → Value} {j : Nat} {it : Item} (h : its[j]? = some it) : cellU its U (j * 2 + 1) = U j := by
  have h1 : (j * 2 + 1) / 2 = j := by omega
  have h2 : (j * 2 + 1) % 2 = 1 := by omega
  simp [cellU, h1, h2, h]

/-- The slice v of things its, in blocks from lo up to hi; no two slices of numbers share a block, nor with the things. -/
def Tree (w : World) (lo hi : Nat) (v : Value) (its : List Item) : Prop :=
  ∃ U : Nat → Value, w.ownsRow lo 104 2 v its.length (cellsU its U) ∧ (∀ b, v.ownBlock = some b → b < hi) ∧
    (∀ j it, its[j]? = some it → it.key.size ≤ maxLen ∧ OwnInts w lo (U j) it.val ∧ ∀ b, (U j).ownBlock = some b → b < hi ∧ v.ownBlock ≠ some b) ∧
    ∀ i j b, i < j → j < its.length → (U i).ownBlock = some b → (U j).ownBlock ≠ some b

/-- What lay outside the blocks from lo up to hi has not turned. -/
structure Out (lo hi : Nat) (w w' : World) : Prop where
  os : w'.os = w.os
  tape : w'.tape = w.tape
  output : w'.output = w.output
  size : w.heap.size ≤ w'.heap.size
  block : ∀ b, b < w.heap.size → b < lo ∨ hi ≤ b → w'.heap[b]? = w.heap[b]?
theorem Out.refl (lo hi : Nat) (w : World) : Out lo hi w w := ⟨rfl, rfl, rfl, Nat.le_refl _, fun _ _ _ => rfl⟩
theorem Out.trans {lo hi : Nat} {a b c : World} (h : Out lo hi a b) (k : Out lo hi b c) : Out lo hi a c :=
  ⟨k.os.trans h.os, k.tape.trans h.tape, k.output.trans h.output, Nat.le_trans h.size k.size, fun i hi' ho => (k.block i (Nat.lt_of_lt_of_le hi' h.size) ho).trans (h.block i hi' ho)⟩
theorem Out.of_below {lo hi : Nat} {a b : World} (h : Below a.heap.size a b) : Out lo hi a b := ⟨h.os, h.tape, h.output, h.size, fun i hi' _ => h.block i hi'⟩
theorem Out.of_grown {lo hi : Nat} {a b : World} {row : Option Nat} (h : a.grownBy b row) (hr : ∀ k, row = some k → lo ≤ k ∧ k < hi) : Out lo hi a b :=
  ⟨h.os, h.tape, h.output, h.size, fun i hi' ho => h.block i hi' (fun e => by have := hr i e.symm; omega)⟩
theorem Out.below {lo hi : Nat} {a b : World} (h : Out lo hi a b) (hl : lo ≤ a.heap.size) : Below lo a b := ⟨h.os, h.tape, h.output, h.size, fun i hi' => h.block i (by omega) (.inl hi')⟩
theorem Held.out {lo hi g : Nat} {a b : World} {cs : List Value} (h : Held a g cs) (k : Out lo hi a b) (hg : g < lo ∨ hi ≤ g) : Held b g cs := by
  have hb := k.block g h.1 hg
  exact ⟨Nat.lt_of_lt_of_le h.1 k.size, fun j => (World.frozen?_of_block (a := ⟨g, j, none⟩) hb).trans (h.2.1 j), fun j u hu => (World.cell?_of_block (a := ⟨g, j, none⟩) hb).trans (h.2.2 j u hu)⟩
theorem OwnInts.out {lo hi l : Nat} {a b : World} {v : Value} {xs : List Int} (h : OwnInts a l v xs) (k : Out lo hi a b) (hg : ∀ g, v.ownBlock = some g → g < lo ∨ hi ≤ g) : OwnInts b l v xs := by
  refine ⟨h.1, ?_⟩
  rcases h.2 with hn | ⟨g, cap, cur, rfl, hb, hgg, rest⟩
  · exact .inl hn
  · refine .inr ⟨g, cap, cur, rfl, hb, ?_, rest⟩
    rw [k.block g (Array.getElem?_eq_some_iff.1 hgg).1 (hg g rfl)]
    exact hgg

section
variable {w w' : World} {lo hi : Nat} {v : Value} {its : List Item}
theorem Tree.form (h : Tree w lo hi v its) : (v = .slice none 0 0 ∧ its = []) ∨ ∃ g cap, v = .slice (some ⟨g, 0, none⟩) its.length cap ∧ lo ≤ g ∧ g < hi ∧ g < w.heap.size ∧ its.length ≤ cap ∧ cap ≤ maxLen := by
  obtain ⟨U, h1, h2, _⟩ := h
  rcases h1.2 with ⟨hv, h0⟩ | ⟨g, cap, cur, hv, hb, hg, hn, hm, _⟩
  · exact .inl ⟨hv, List.length_eq_zero_iff.1 h0⟩
  · exact .inr ⟨g, cap, hv, hb, h2 g (by rw [hv]; rfl), (Array.getElem?_eq_some_iff.1 hg).1, hn, hm⟩
theorem Tree.kept (h : Tree w lo hi v its) (hk : ∀ b, b < hi → b < w.heap.size → w'.heap[b]? = w.heap[b]?) : Tree w' lo hi v its := by
  obtain ⟨U, h1, h2, h3, h4⟩ := h
  have key : ∀ {e size n} {u : Value} {xs : List Value}, w.ownsRow lo e size u n xs → (∀ b, u.ownBlock = some b → b < hi) → w'.ownsRow lo e size u n xs := by
    intro e size n u xs ho hb
    refine ⟨ho.1, ?_⟩
    rcases ho.2 with hn | ⟨g, cap, cur, rfl, hl, hgg, rest⟩
    · exact .inl hn
    · exact .inr ⟨g, cap, cur, rfl, hl, by rw [hk g (hb g rfl) (Array.getElem?_eq_some_iff.1 hgg).1]; exact hgg, rest⟩
  refine ⟨U, key h1 h2, h2, fun j it hit => ?_, h4⟩
  obtain ⟨a, b, c⟩ := h3 j it hit
  exact ⟨a, key b fun x hx => (c x hx).1, c⟩
theorem Tree.below (h : Tree w lo hi v its) (hb : Below w.heap.size w w') : Tree w' lo hi v its := h.kept fun b _ hlt => hb.block b hlt
theorem Tree.items (h : Tree w lo hi v its) : Items w w.heap.size v its := by
  rcases h.form with ⟨rfl, rfl⟩ | ⟨g, cap, rfl, hg0, hg1, hg2, hc1, hc2⟩
  · exact ⟨none, 0, rfl, Nat.zero_le _, Nat.zero_le _, fun h => absurd h (by simp)⟩
  · obtain ⟨U, h1, h2, h3, h4⟩ := h
    refine ⟨_, cap, rfl, hc1, hc2, fun _ => ⟨g, 0, rfl, hg2, fun j it hit => ?_⟩⟩
    have hj : j < its.length := (List.getElem?_eq_some_iff.1 hit).1
    obtain ⟨a, b, c⟩ := h3 j it hit
    refine ⟨a, ?_, U j, ?_, b.ints⟩
    · rw [Nat.zero_add, h1.cellAt (j * 2) (by omega), cellsU_at _ _ (by omega), cellU_key hit]
    · rw [Nat.zero_add, h1.cellAt (j * 2 + 1) (by omega), cellsU_at _ _ (by omega), cellU_val hit]
theorem Mine.tree {g : Nat} (h : Mine 104 3 w g its its.length its.length) (hl : lo ≤ g) (hlen : its.length ≤ maxLen) : Tree w lo w.heap.size (.slice (some ⟨g, 0, none⟩) its.length its.length) its := by
  obtain ⟨G, h1, h2, h3⟩ := h
  refine ⟨fun j => .slice (some ⟨G j, 0, none⟩) (match its[j]? with | some it => it.val.length | none => 0) (match its[j]? with | some it => it.val.length | none => 0), ?_, ?_, ?_, ?_⟩
  · obtain ⟨cs, hb, hn, hc⟩ := h1
    refine ⟨cellsU_len _ _, .inr ⟨g, its.length, cs, rfl, hl, hb, Nat.le_refl _, hlen, hn, ?_⟩⟩
    apply List.ext_getElem?
    intro i
    rcases Nat.lt_or_ge i (its.length * 2) with hi | hi
    · rw [List.getElem?_take, if_pos hi, cellsU_at _ _ hi]
      have := hc i hi
      rw [Array.getElem?_toList, this]
      have hj : i / 2 < its.length := by omega
      simp only [cellOf, cellU, hj, if_true, List.getElem?_eq_getElem hj]
    · rw [List.getElem?_take, if_neg (by omega), List.getElem?_eq_none (by rw [cellsU_len]; exact hi)]
  · intro b hb
    have : g = b := Option.some.inj hb
    subst this; exact h1.lt
  · intro j it hit
    have hj : j < its.length := (List.getElem?_eq_some_iff.1 hit).1
    obtain ⟨a, b, c, d⟩ := h2 j it hj hit
    simp only [hit]
    refine ⟨a, ?_, fun x hx => ?_⟩
    · obtain ⟨cs, hb, hn, hc⟩ := d
      refine ⟨by simp, .inr ⟨G j, it.val.length, cs, rfl, by omega, hb, Nat.le_refl _, b, by omega, ?_⟩⟩
      apply List.ext_getElem?
      intro i
      rcases Nat.lt_or_ge i it.val.length with hi | hi
      · rw [List.getElem?_take, if_pos (by omega), Array.getElem?_toList, hc i hi, nth_map hi]
      · rw [List.getElem?_take, if_neg (by omega), List.getElem?_eq_none (by simpa using hi)]
    · have : G j = x := Option.some.inj hx
      subst this
      exact ⟨d.lt, fun e => by have : g = G j := Option.some.inj e; omega⟩
  · intro i j b hij hj hi hj'
    have e1 : G i = b := Option.some.inj hi
    have e2 : G j = b := Option.some.inj hj'
    have := h3 i j hij hj
    omega
end

theorem set_get {its : List Item} {j : Nat} {x : Item} (h : j < its.length) : (its.set j x)[j]? = some x := by simp [h]
theorem set_far {its : List Item} {i j : Nat} {x : Item} (h : j ≠ i) : (its.set j x)[i]? = its[i]? := by simp [h]
theorem cellsU_setKey {its : List Item} {U : Nat → Value} {j : Nat} {it : Item} (h : its[j]? = some it) (s : ByteArray) : (cellsU its U).set (j * 2) (.string s) = cellsU (its.set j ⟨s, it.val⟩) U := by
  have hj : j < its.length := (List.getElem?_eq_some_iff.1 h).1
  apply List.ext_getElem?
  intro i
  rcases Nat.lt_or_ge i (its.length * 2) with hi | hi
  · rw [List.getElem?_set, cellsU_at (its.set j _) _ (by simpa using hi), cellsU_at its _ hi]
    by_cases e : j * 2 = i
    · subst e
      rw [if_pos rfl, if_pos (by rw [cellsU_len]; exact hi), cellU_key (set_get hj)]
    · rw [if_neg e]
      congr 1
      unfold cellU
      by_cases e2 : j = i / 2
      · subst e2
        have h2 : ¬ i % 2 = 0 := by omega
        rw [set_get hj, h]
        simp [h2]
      · rw [set_far e2]
  · rw [List.getElem?_eq_none (by simpa [cellsU_len] using hi), List.getElem?_eq_none (by simpa [cellsU_len] using hi)]
theorem cellsU_setVal {its : List Item} {U : Nat → Value} {j : Nat} {it : Item} (h : its[j]? = some it) (ys : List Int) : cellsU (its.set j ⟨it.key, ys⟩) U = cellsU its U := by
  have hj : j < its.length := (List.getElem?_eq_some_iff.1 h).1
  unfold cellsU
  rw [List.length_set]
  apply List.map_congr_left
  intro i _
  unfold cellU
  by_cases e2 : j = i / 2
  · rw [← e2, set_get hj, h]
  · rw [set_far e2]

section
variable {w w' : World} {lo hi : Nat} {v : Value} {its : List Item}
/-- A name is written. -/
theorem Tree.setKey {g cap j : Nat} {it : Item} (h : Tree w lo hi (.slice (some ⟨g, 0, none⟩) its.length cap) its) (hit : its[j]? = some it) (s : ByteArray) (hs : s.size ≤ maxLen) :
    Tree (w.setCell ⟨g, j * 2, none⟩ (.string s)) lo hi (.slice (some ⟨g, 0, none⟩) its.length cap) (its.set j ⟨s, it.val⟩) := by
  have hj : j < its.length := (List.getElem?_eq_some_iff.1 hit).1
  obtain ⟨U, h1, h2, h3, h4⟩ := h
  obtain ⟨s1, s2⟩ := h1.stored (j * 2) (.string s)
  rw [cellsU_setKey hit s] at s1
  refine ⟨U, by rw [List.length_set]; exact s1, h2, fun i x hx => ?_, fun i k b hik hk => h4 i k b hik (by simpa using hk)⟩
  have hold : ∃ y, its[i]? = some y ∧ y.val = x.val ∧ x.key.size ≤ maxLen := by
    by_cases e : j = i
    · subst e
      rw [set_get hj] at hx
      injection hx with hx
      subst hx
      exact ⟨it, hit, rfl, hs⟩
    · rw [set_far e] at hx
      exact ⟨x, hx, rfl, (h3 i x hx).1⟩
  obtain ⟨y, hy, hyv, hxs⟩ := hold
  obtain ⟨a, b, c⟩ := h3 i y hy
  refine ⟨hxs, ?_, c⟩
  rw [← hyv]
  exact World.ownsRow.kept b s2 (by
    cases hU : (U i).ownBlock with
    | none => exact .inl rfl
    | some x => exact .inr fun e => (c x hU).2 e.symm)
/-- A thing at a place: its cells, its numbers; and what becomes of all where just these are written. -/
theorem Tree.at_ {j : Nat} (h : Tree w lo hi v its) (hj : j < its.length) : ∃ g cap it u, v = .slice (some ⟨g, 0, none⟩) its.length cap ∧ its[j]? = some it ∧ lo ≤ g ∧ g < hi ∧ it.key.size ≤ maxLen ∧
    w.cell? ⟨g, j * 2, none⟩ = some (.string it.key) ∧ w.frozen? ⟨g, j * 2, none⟩ = false ∧ w.cell? ⟨g, j * 2 + 1, none⟩ = some u ∧ OwnInts w lo u it.val ∧ (∀ b, u.ownBlock = some b → lo ≤ b ∧ b < hi) ∧
    ∀ w' ys, OwnInts w' lo u ys → w.grownBy w' u.ownBlock → Tree w' lo hi v (its.set j ⟨it.key, ys⟩) := by
  rcases h.form with ⟨rfl, rfl⟩ | ⟨g, cap, rfl, hg0, hg1, hg2, hc1, hc2⟩
  · simp at hj
  · obtain ⟨U, h1, h2, h3, h4⟩ := h
    have hit := List.getElem?_eq_getElem hj
    obtain ⟨a, b, c⟩ := h3 j _ hit
    refine ⟨g, cap, _, U j, rfl, hit, hg0, hg1, a, ?_, h1.frozenAt _, ?_, b, fun x hx => ⟨(b.lt x hx).1, (c x hx).1⟩, fun w' ys hown hgr => ?_⟩
    · rw [h1.cellAt (j * 2) (by omega), cellsU_at _ _ (by omega), cellU_key hit]
    · rw [h1.cellAt (j * 2 + 1) (by omega), cellsU_at _ _ (by omega), cellU_val hit]
    · refine ⟨U, ?_, h2, fun i x hx => ?_, fun i k b hik hk => h4 i k b hik (by simpa using hk)⟩
      · rw [List.length_set, cellsU_setVal hit]
        exact h1.kept hgr (.inr fun e => (c g e.symm).2 rfl)
      · by_cases e : j = i
        · subst e
          rw [set_get hj] at hx
          injection hx with hx
          subst hx
          exact ⟨a, hown, c⟩
        · rw [set_far e] at hx
          obtain ⟨a', b', c'⟩ := h3 i x hx
          have hi : i < its.length := (List.getElem?_eq_some_iff.1 hx).1
          refine ⟨a', World.ownsRow.kept b' hgr ?_, c'⟩
          cases hU : (U i).ownBlock with
          | none => exact .inl rfl
          | some x =>
            refine .inr fun e' => ?_
            rcases Nat.lt_or_gt_of_ne e with h' | h'
            · exact h4 j i x h' hi e'.symm hU
            · exact h4 i j x h' hj hU e'.symm
end

theorem grownKey (w : World) (g i : Nat) (u : Value) : w.grownBy (w.setCell ⟨g, i, none⟩ u) (some g) :=
  ⟨rfl, rfl, rfl, by simp [World.setCell], fun b _ hne => Below.heap_setCell w ⟨g, i, none⟩ u b (fun e => hne (by rw [e]))⟩

/-- How many numbers the thing at a place has. -/
def lenAt (its : List Item) (j : Nat) : Nat := match its[j]? with
  | some it => it.val.length
  | none => 0
/-- The mark at which the j-th thing begins. -/
def kAt (its : List Item) (k : Int) : Nat → Int
  | 0 => k
  | j + 1 => kAt its k j + 1 + lenAt its j
theorem lenAt_some {its : List Item} {j : Nat} {it : Item} (h : its[j]? = some it) : lenAt its j = it.val.length := by simp [lenAt, h]
theorem kAt_congr {its its' : List Item} (h : ∀ j, lenAt its j = lenAt its' j) (k : Int) : ∀ j, kAt its k j = kAt its' k j
  | 0 => rfl
  | j + 1 => by unfold kAt; rw [kAt_congr h k j, h j]
theorem kAt_bound {its : List Item} (hs : Short its its.length) (k : Int) : ∀ j, k ≤ kAt its k j ∧ kAt its k j ≤ k + j * 1048577
  | 0 => by simp [kAt]
  | j + 1 => by
    have h := kAt_bound hs k j
    have hl : lenAt its j ≤ 1048576 := by
      unfold lenAt
      split
      · rename_i it hit
        exact (hs j it (List.getElem?_eq_some_iff.1 hit).1 hit).2
      · omega
    unfold kAt
    omega
theorem lenAt_set {its : List Item} {j : Nat} {it x : Item} (h : its[j]? = some it) (hl : x.val.length = it.val.length) (i : Nat) : lenAt (its.set j x) i = lenAt its i := by
  have hj : j < its.length := (List.getElem?_eq_some_iff.1 h).1
  by_cases e : j = i
  · subst e
    rw [lenAt_some (set_get hj), lenAt_some h, hl]
  · unfold lenAt; rw [set_far e]
/-- The first m things are marks. -/
def MarkedTo (its : List Item) (k : Int) (m : Nat) : Prop := ∀ j it, j < m → its[j]? = some it → it.key = markS (kAt its k j) ∧ Marked it.val (kAt its k j + 1) it.val.length

end Go.Proofs.Ytkamlibfcakblaa

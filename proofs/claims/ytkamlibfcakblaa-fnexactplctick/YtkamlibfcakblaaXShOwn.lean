/- Slices of the call's own, of any shape: one element looked at and turned; made; appended to. Marks, weights. Nothing of the program. -/
import Derived.Test.YtkamlibfcakblaaXSh
namespace Go.Proofs.Ytkamlibfcakblaa
open Go.RowKit

/-- What lay outside the blocks of S has not turned. -/
structure Outs (S : Nat → Prop) (w w' : World) : Prop where
  os : w'.os = w.os
  tape : w'.tape = w.tape
  output : w'.output = w.output
  size : w.heap.size ≤ w'.heap.size
  block : ∀ b, b < w.heap.size → ¬ S b → w'.heap[b]? = w.heap[b]?
section
variable {S S' : Nat → Prop} {a b c : World}
theorem Outs.refl (S : Nat → Prop) (w : World) : Outs S w w := ⟨rfl, rfl, rfl, Nat.le_refl _, fun _ _ _ => rfl⟩
theorem Outs.trans (h : Outs S a b) (k : Outs S b c) : Outs S a c :=
  ⟨k.os.trans h.os, k.tape.trans h.tape, k.output.trans h.output, Nat.le_trans h.size k.size, fun i hi ho => (k.block i (Nat.lt_of_lt_of_le hi h.size) ho).trans (h.block i hi ho)⟩
theorem Outs.mono (h : Outs S a b) (hS : ∀ i, i < a.heap.size → S i → S' i) : Outs S' a b := ⟨h.os, h.tape, h.output, h.size, fun i hi ho => h.block i hi fun hs => ho (hS i hi hs)⟩
theorem Outs.of_below (h : Below a.heap.size a b) : Outs S a b := ⟨h.os, h.tape, h.output, h.size, fun i hi _ => h.block i hi⟩
theorem Outs.below (h : Outs S a b) {B : Nat} (hB : B ≤ a.heap.size) (hS : ∀ i, S i → B ≤ i) : Below B a b := ⟨h.os, h.tape, h.output, h.size, fun i hi => h.block i (by omega) fun hs => by have := hS i hs; omega⟩
theorem Outs.of_set (w : World) (p : Addr) (u : Value) (h : S p.block) : Outs S w (w.setCell p u) := ⟨rfl, rfl, rfl, by simp [World.setCell], fun i _ ho => Below.heap_setCell w p u i (fun e => ho (by rw [e]; exact h))⟩
theorem Outs.of_grown {row : Option Nat} (h : a.grownBy b row) (hr : ∀ k, row = some k → S k) : Outs S a b := ⟨h.os, h.tape, h.output, h.size, fun i hi ho => h.block i hi (fun e => ho (hr i e.symm))⟩
theorem Outs.drew (h : Outs S a b) : Outs S a b.drew := ⟨h.os, h.tape, h.output, h.size, h.block⟩
theorem Held.outs {g : Nat} {cs : List Value} (h : Held a g cs) (k : Outs S a b) (hg : ¬ S g) : Held b g cs := by
  have hb := k.block g h.1 hg
  exact ⟨Nat.lt_of_lt_of_le h.1 k.size, fun j => (World.frozen?_of_block (a := ⟨g, j, none⟩) hb).trans (h.2.1 j), fun j u hu => (World.cell?_of_block (a := ⟨g, j, none⟩) hb).trans (h.2.2 j u hu)⟩
end

section
variable {α : Type} {A : Sh α} {e : TypeId} {w w' : World} {S S' : Nat → Prop} {v : Value} {xs : List α}

/-- One element; and what becomes of all where just that one turns, behind its cells or in one of them. -/
theorem Sh.Own.at_ (h : A.Own e w S v xs) {j : Nat} (hj : j < xs.length) : ∃ g cap x cs Sj, v = .slice (some ⟨g, 0, none⟩) xs.length cap ∧ xs[j]? = some x ∧ S g ∧ g < w.heap.size ∧ A.own w Sj cs x ∧ (∀ b, Sj b → S b ∧ b ≠ g) ∧
    (∀ i u, cs[i]? = some u → w.cell? ⟨g, j * A.wd + i, none⟩ = some u) ∧ (∀ i, w.frozen? ⟨g, i, none⟩ = false) ∧
    (∀ w' x', A.own w' Sj cs x' → Outs Sj w w' → A.Own e w' S v (xs.set j x')) ∧
    ∀ i u S' x', i < A.wd → A.own (w.setCell ⟨g, j * A.wd + i, none⟩ u) S' (cs.set i u) x' → (∀ b, S' b → Sj b ∨ ¬ S b) → A.Own e (w.setCell ⟨g, j * A.wd + i, none⟩ u) (fun b => S b ∨ S' b) v (xs.set j x') := by
  rcases h.form with ⟨rfl, rfl⟩ | ⟨g, cap, rfl, hS, hg, hc1, hc2⟩
  · simp at hj
  · obtain ⟨C, F, h1, h2, h3, h4⟩ := h
    have hC : ∀ j, j < xs.length → (C j).length = A.wd := fun j hj => A.olen (h3 j _ (List.getElem?_eq_getElem hj)).1
    have hx := List.getElem?_eq_getElem hj
    obtain ⟨a, b⟩ := h3 j _ hx
    have hne : ∀ b', F j b' → b' ≠ g := fun b' hb' he => (b b' hb').2 (by rw [he]; rfl)
    refine ⟨g, cap, _, C j, F j, rfl, hx, hS, hg, a, fun b' hb' => ⟨(b b' hb').1, hne b' hb'⟩, fun i u hu => ?_, fun i => h1.frozenAt i, fun w' x' ho hk => ?_, fun i u S' x' hi ho hS' => ?_⟩
    · have hi : i < A.wd := by rw [← hC j hj]; exact (List.getElem?_eq_some_iff.1 hu).1
      have hlt : j * A.wd + i < xs.length * A.wd := by
        have := Nat.mul_le_mul_right A.wd (show j + 1 ≤ xs.length by omega)
        rw [Nat.add_mul, Nat.one_mul] at this; omega
      rw [h1.cellAt _ hlt, flat_at hC hj hi, hu]
    · refine ⟨C, F, ?_, h2, fun i x hx' => ?_, fun i k b' hik hk' => h4 i k b' hik (by simpa using hk')⟩
      · rw [List.length_set]
        exact ownsRow_keep h1 fun b' hb' hlt => hk.block b' hlt (fun hF => hne b' hF (Option.some.inj hb').symm)
      · by_cases e1 : j = i
        · subst e1
          rw [List.getElem?_set_self hj] at hx'
          injection hx' with hx'
          subst hx'
          exact ⟨ho, b⟩
        · rw [List.getElem?_set_ne e1] at hx'
          obtain ⟨a', b'⟩ := h3 i x hx'
          have hi : i < xs.length := (List.getElem?_eq_some_iff.1 hx').1
          refine ⟨A.okeep a' fun q hq hlt => hk.block q hlt fun hF => ?_, b'⟩
          rcases Nat.lt_or_gt_of_ne e1 with h' | h'
          · exact h4 j i q h' hi hF hq
          · exact h4 i j q h' hj hq hF
    · have hg' : ∀ b', S' b' → b' ≠ g := fun b' hb' he => by
        rcases hS' b' hb' with h' | h'
        · exact hne b' h' he
        · exact h' (by rw [he]; exact hS)
      have hfar : ∀ i', i' ≠ j → i' < xs.length → ∀ b', F i' b' → ¬ S' b' := fun i' hi' hl b' hF hb' => by
        rcases hS' b' hb' with h' | h'
        · rcases Nat.lt_or_gt_of_ne hi' with h'' | h''
          · exact h4 i' j b' h'' hj hF h'
          · exact h4 j i' b' h'' hl h' hF
        · exact h' ((h3 i' _ (List.getElem?_eq_getElem hl)).2 b' hF).1
      refine ⟨updL C j ((C j).set i u), fun k => if k = j then S' else F k, ?_, fun q hq => .inl (h2 q hq), fun k x hx' => ?_, fun p k b' hpk hk' hF hF' => ?_⟩
      · rw [List.length_set, ← flat_set hC hj hi]
        exact (h1.stored _ u).1
      · by_cases e1 : j = k
        · subst e1
          rw [List.getElem?_set_self hj] at hx'
          injection hx' with hx'
          subst hx'
          simp only [updL_same, if_true]
          exact ⟨ho, fun b' hb' => ⟨.inr hb', fun e2 => hg' b' hb' (Option.some.inj e2).symm⟩⟩
        · rw [List.getElem?_set_ne e1] at hx'
          obtain ⟨a', b'⟩ := h3 k x hx'
          simp only [updL_other C _ (Ne.symm e1), if_neg (Ne.symm e1)]
          exact ⟨A.okeep a' fun q hq _ => Below.heap_setCell w _ u q (fun e2 => (b' q hq).2 (by rw [e2]; rfl)), fun q hq => ⟨.inl (b' q hq).1, (b' q hq).2⟩⟩
      · rw [List.length_set] at hk'
        by_cases e1 : p = j
        · subst e1
          rw [if_pos rfl] at hF
          rw [if_neg (by omega)] at hF'
          exact hfar k (by omega) hk' b' hF' hF
        · rw [if_neg e1] at hF
          by_cases e2 : k = j
          · subst e2
            rw [if_pos rfl] at hF'
            exact hfar p (by omega) (by omega) b' hF hF'
          · rw [if_neg e2] at hF'
            exact h4 p k b' hpk hk' hF hF'

/-- Cells written one behind the other. -/
def setAll (w : World) (g : Nat) : Nat → List Value → World
  | _, [] => w
  | o, c :: cs => setAll (w.setCell ⟨g, o, none⟩ c) g (o + 1) cs
theorem setAll_size : ∀ (cs : List Value) (w : World) (g o : Nat), (setAll w g o cs).heap.size = w.heap.size
  | [], _, _, _ => rfl
  | c :: cs, w, g, o => by unfold setAll; rw [setAll_size cs]; simp [World.setCell]
theorem setAll_far : ∀ (cs : List Value) (w : World) (g o b : Nat), b ≠ g → (setAll w g o cs).heap[b]? = w.heap[b]?
  | [], _, _, _, _, _ => rfl
  | c :: cs, w, g, o, b, h => by unfold setAll; rw [setAll_far cs _ _ _ _ h]; exact Below.heap_setCell w _ c b h
theorem setAll_row {C : Nat → List Value} {d n cap g j : Nat} (hC : ∀ j, j < n → (C j).length = d) (hj : j < n) : ∀ (l2 l1 : List Value) (w : World), l1.length + l2.length = d → w.ownsRow 0 e d (.slice (some ⟨g, 0, none⟩) n cap) n (flat (updL C j (l1 ++ (C j).drop l1.length)) n) →
    (setAll w g (j * d + l1.length) l2).ownsRow 0 e d (.slice (some ⟨g, 0, none⟩) n cap) n (flat (updL C j (l1 ++ l2)) n)
  | [], l1, w, hl, h => by
    have h0 : (C j).drop l1.length = [] := List.drop_eq_nil_of_le (by rw [hC j hj]; simp at hl; omega)
    rw [h0] at h
    exact h
  | c :: l2, l1, w, hl, h => by
    unfold setAll
    simp only [List.length_cons] at hl
    have hs := (h.stored (j * d + l1.length) c).1
    have hC' : ∀ i, i < n → (updL C j (l1 ++ (C j).drop l1.length) i).length = d := fun i hi => by
      by_cases e1 : i = j
      · subst e1; rw [updL_same, List.length_append, List.length_drop, hC i hi]; omega
      · rw [updL_other _ _ e1]; exact hC i hi
    rw [flat_set hC' hj (by omega)] at hs
    have hu : updL (updL C j (l1 ++ (C j).drop l1.length)) j ((updL C j (l1 ++ (C j).drop l1.length) j).set l1.length c) = updL C j ((l1 ++ [c]) ++ (C j).drop (l1 ++ [c]).length) := by
      funext i
      by_cases e1 : i = j
      · subst e1
        rw [updL_same, updL_same, updL_same, List.set_append_right _ _ (Nat.le_refl _), Nat.sub_self, List.length_append]
        have hd : (C i).drop l1.length = (C i)[l1.length]'(by rw [hC i hj]; omega) :: (C i).drop (l1.length + 1) := (List.getElem_cons_drop _).symm
        rw [hd, List.set_cons_zero, List.append_assoc]
        rfl
      · rw [updL_other _ _ e1, updL_other _ _ e1, updL_other _ _ e1]
    rw [hu] at hs
    have := setAll_row hC hj l2 (l1 ++ [c]) _ (by simp; omega) hs
    rw [List.length_append, List.append_assoc] at this
    exact this
/-- One element written whole, in another world where all that is there still stands. -/
theorem Sh.Own.put (h : A.Own e w S v xs) {j g cap : Nat} (hj : j < xs.length) (hv : v = .slice (some ⟨g, 0, none⟩) xs.length cap) {w1 : World} (hk : ∀ b, S b → b < w.heap.size → w1.heap[b]? = w.heap[b]?) {cs : List Value} {x : α} (ho : A.own w1 S' cs x) (hd : ∀ b, S' b → ¬ S b) :
    A.Own e (setAll w1 g (j * A.wd) cs) (fun b => S b ∨ S' b) v (xs.set j x) := by
  subst hv
  obtain ⟨C, F, h1, h2, h3, h4⟩ := h.keep hk
  have hS : S g := h2 g rfl
  have hC : ∀ j, j < xs.length → (C j).length = A.wd := fun j hj => A.olen (h3 j _ (List.getElem?_eq_getElem hj)).1
  have hfar : ∀ i, i < xs.length → ∀ b, F i b → ¬ S' b := fun i hl b hF hb => hd b hb ((h3 i _ (List.getElem?_eq_getElem hl)).2 b hF).1
  have hrow := setAll_row (e := e) (g := g) (cap := cap) hC hj cs [] w1 (by simpa using A.olen ho) (by
    have hc : updL C j ([] ++ (C j).drop ([] : List Value).length) = C := by
      funext i
      by_cases e1 : i = j
      · subst e1; rw [updL_same]; rfl
      · rw [updL_other _ _ e1]
    rw [hc]; exact h1)
  refine ⟨updL C j cs, fun k => if k = j then S' else F k, ?_, fun q hq => .inl (h2 q hq), fun k y hy => ?_, fun p k b hpk hk' hF hF' => ?_⟩
  · rw [List.length_set]; exact hrow
  · by_cases e1 : j = k
    · subst e1
      rw [List.getElem?_set_self hj] at hy
      injection hy with hy
      subst hy
      simp only [updL_same, if_true]
      exact ⟨A.okeep ho fun b hb _ => setAll_far cs w1 g _ b (fun e2 => hd b hb (e2 ▸ hS)), fun b hb => ⟨.inr hb, fun e2 => hd b hb ((Option.some.inj e2) ▸ hS)⟩⟩
    · rw [List.getElem?_set_ne e1] at hy
      obtain ⟨a', b'⟩ := h3 k y hy
      simp only [updL_other C _ (Ne.symm e1), if_neg (Ne.symm e1)]
      exact ⟨A.okeep a' fun b hb _ => setAll_far cs w1 g _ b (fun e2 => (b' b hb).2 (by rw [e2]; rfl)), fun q hq => ⟨.inl (b' q hq).1, (b' q hq).2⟩⟩
  · rw [List.length_set] at hk'
    by_cases e1 : p = j
    · subst e1
      rw [if_pos rfl] at hF
      rw [if_neg (by omega)] at hF'
      exact hfar k hk' b hF' hF
    · rw [if_neg e1] at hF
      by_cases e2 : k = j
      · subst e2
        rw [if_pos rfl] at hF'
        exact hfar p (by omega) b hF hF'
      · rw [if_neg e2] at hF'
        exact h4 p k b hpk hk' hF hF'

/-- Made of noughts. -/
theorem Sh.Own.made (A : Sh α) (e : TypeId) (w : World) (n : Nat) (hn : n ≤ maxLen) : A.Own e (w.alloc (.cells (madeCells A.zc.toArray (n * A.wd)) e)) (fun b => b = w.heap.size) (.slice (some ⟨w.heap.size, 0, none⟩) n n) (List.replicate n A.z) := by
  refine ⟨fun _ => A.zc, fun _ _ => False, ?_, fun g hg => (Option.some.inj hg).symm, fun j x hx => ?_, fun i j b _ _ h => h.elim⟩
  · have hl : (madeCells A.zc.toArray (n * A.wd)).size = n * A.wd := size_madeCells _ _
    have h := World.ownsRow_lit (base := 0) (e := e) (size := A.wd) w (madeCells A.zc.toArray (n * A.wd)) n (Nat.zero_le _) hn hl
    rw [List.length_replicate]
    have he : (madeCells A.zc.toArray (n * A.wd)).toList = flat (fun _ => A.zc) n := by
      refine flat_ext (d := A.wd) (fun _ _ => A.zlen) (by rw [Array.length_toList, hl]) fun j i hj hi => ?_
      have hlt : j * A.wd + i < n * A.wd := by
        have := Nat.mul_le_mul_right A.wd (show j + 1 ≤ n by omega)
        rw [Nat.add_mul, Nat.one_mul] at this; omega
      have hz : i < A.zc.length := by rw [A.zlen]; exact hi
      have hm : (j * A.wd + i) % A.wd = i := by rw [Nat.mul_comm, Nat.mul_add_mod]; exact Nat.mod_eq_of_lt hi
      rw [Array.getElem?_toList]
      simp only [madeCells, Array.getElem?_map, Array.getElem?_range, hlt, if_true, Option.map_some, List.size_toArray, A.zlen, hm, List.getElem?_eq_getElem hz]
      simp [hz]
    rw [← he]; exact h
  · have hx' : x = A.z := by
      have := List.mem_of_getElem? hx
      exact List.eq_of_mem_replicate this
    rw [hx']
    exact ⟨A.ozero _ _, fun _ h => h.elim⟩
theorem Sh.Own.lit0 (A : Sh α) (e : TypeId) (w : World) : A.Own e (w.alloc (.cells #[] e)) (fun b => b = w.heap.size) (.slice (some ⟨w.heap.size, 0, none⟩) 0 0) [] :=
  ⟨fun _ => [], fun _ _ => False, World.ownsRow_made w #[] 0 (Nat.zero_le _) (Nat.zero_le _) (by simp), fun g hg => (Option.some.inj hg).symm, fun j x hx => (by simp at hx), fun i j b _ _ h => h.elim⟩
/-- Made with room, and empty. -/
theorem Sh.Own.made0 (A : Sh α) (e : TypeId) (w : World) (n : Nat) (hn : n ≤ maxLen) : A.Own e (w.alloc (.cells (madeCells A.zc.toArray (n * A.wd)) e)) (fun b => b = w.heap.size) (.slice (some ⟨w.heap.size, 0, none⟩) 0 n) [] :=
  ⟨fun _ => [], fun _ _ => False, World.ownsRow_made w _ n (Nat.zero_le _) hn (size_madeCells _ _), fun g hg => (Option.some.inj hg).symm, fun j x hx => (by simp at hx), fun i j b _ _ h => h.elim⟩
end

theorem flat_app (C D : Nat → List Value) (n m : Nat) : flat (fun j => if j < n then C j else D (j - n)) (n + m) = flat C n ++ flat D m := by
  induction m with
  | zero => simp only [Nat.add_zero, flat_zero, List.append_nil]; exact flat_congr fun j hj => by simp [hj]
  | succ m ih =>
    rw [show n + (m + 1) = n + m + 1 by omega, flat_succ, ih, flat_succ, List.append_assoc]
    congr 2
    rw [if_neg (by omega)]; congr 1; omega

section
variable {P : Program} {α : Type} {A : Sh α} {e t : TypeId} {w : World} {S S' : Nat → Prop} {v : Value} {xs ys : List α}
/-- append of elements whose cells lie somewhere, and that own what they reach. -/
theorem Sh.append_run (i : TypeInfo) (z : Value) (bytes : Nat) (ht : P.underlying t = some (.slice e)) (hi : P.info? e = some i) (hz : i.zero = some z) (hsize : i.size = A.wd) (hby : i.bytes = bytes) (hzs : z.cells.size = A.wd) (hsz : 0 < A.wd)
    (hv : A.Own e w S v xs) (ad : Addr) (c : Nat) (D : Nat → List Value) (G : Nat → Nat → Prop) (hsrc : ∀ j u, (flat D ys.length)[j]? = some u → w.cell? (ad.add j) = some u)
    (hD : ∀ j x, ys[j]? = some x → A.own w (G j) (D j) x ∧ ∀ b, G j b → S' b) (hG : ∀ i j b, i < j → j < ys.length → G i b → ¬ G j b) (hdis : ∀ b, S b → ¬ S' b) (ty : TypeId)
    (hl : xs.length + ys.length ≤ 2097152) (hbl : bytes ≤ 65536) :
    ∃ v' w', (Builtin.append_ #[t, t] ty #[v, .slice (some ad) ys.length c]).run P w = .ok v' w' ∧ A.Own e w' (fun b => S b ∨ S' b ∨ b = w.heap.size) v' (xs ++ ys) ∧ w.grownBy w' v.ownBlock ∧ (v'.ownBlock = v.ownBlock ∨ v'.ownBlock = some w.heap.size) := by
  obtain ⟨C, F, h1, h2, h3, h4⟩ := hv
  have hDl : ∀ j, j < ys.length → (D j).length = A.wd := fun j hj => A.olen (hD j _ (List.getElem?_eq_getElem hj)).1
  have hone : ∀ u ∈ flat D ys.length, u.oneCell' = true := by
    intro u hu
    obtain ⟨j, hj, hu⟩ := List.mem_flatMap.1 hu
    have hj' := List.mem_range.1 hj
    exact A.oone (hD j _ (List.getElem?_eq_getElem hj')).1 u hu
  have hb2 : (xs.length + ys.length) * bytes ≤ 140737488355328 := Nat.le_trans (Nat.mul_le_mul hl hbl) (by decide)
  obtain ⟨v', w', hr, q2, hg, _, q5⟩ := run_append_own_at (P := P) w 0 t ty e i z A.wd bytes ht hi hz hsize hby hzs hsz v xs.length _ h1 ad ys.length c (flat D ys.length) (flat_len hDl) hsrc hone (by unfold maxLen; omega) hb2 (Nat.zero_le _)
  have hne' : ∀ b, b < w.heap.size → v.ownBlock ≠ some b → v'.ownBlock ≠ some b := by
    intro b hb' hvb e1
    rcases q5 with h | h
    · rw [h] at e1; exact hvb e1
    · rw [h] at e1; have := Option.some.inj e1; omega
  refine ⟨v', w', hr, ⟨fun j => if j < xs.length then C j else D (j - xs.length), fun j => fun b => (if j < xs.length then F j b else G (j - xs.length) b) ∧ b < w.heap.size, ?_, fun g hg' => ?_, fun j x hx => ?_, fun p q b hpq hq hF hF' => ?_⟩, hg, q5⟩
  · rw [List.length_append, flat_app]; exact q2
  · rcases q5 with h | h
    · exact .inl (h2 g (h ▸ hg'))
    · exact .inr (.inr (by rw [h] at hg'; exact (Option.some.inj hg').symm))
  · by_cases hj : j < xs.length
    · rw [List.getElem?_append_left hj] at hx
      obtain ⟨a, b⟩ := h3 j x hx
      simp only [hj, if_true]
      refine ⟨A.okeep (A.ocap a) fun q hq hlt => hg.block q hlt fun e1 => (b q hq.1).2 e1.symm, fun q hq => ⟨.inl (b q hq.1).1, hne' q hq.2 (b q hq.1).2⟩⟩
    · rw [List.getElem?_append_right (by omega)] at hx
      obtain ⟨a, b⟩ := hD _ x hx
      simp only [hj, if_false]
      have hnv : ∀ q, G (j - xs.length) q → v.ownBlock ≠ some q := fun q hq e1 => hdis q (h2 q e1) (b q hq)
      refine ⟨A.okeep (A.ocap a) fun q hq hlt => hg.block q hlt fun e1 => hnv q hq.1 e1.symm, fun q hq => ⟨.inr (.inl (b q hq.1)), hne' q hq.2 (hnv q hq.1)⟩⟩
  · rw [List.length_append] at hq
    have hF1 := hF.1
    have hF2 := hF'.1
    clear hF hF'
    by_cases hp : p < xs.length
    · rw [if_pos hp] at hF1
      by_cases hq' : q < xs.length
      · rw [if_pos hq'] at hF2
        exact h4 p q b hpq hq' hF1 hF2
      · rw [if_neg hq'] at hF2
        exact hdis b ((h3 p _ (List.getElem?_eq_getElem hp)).2 b hF1).1 ((hD _ _ (List.getElem?_eq_getElem (show q - xs.length < ys.length by omega))).2 b hF2)
    · rw [if_neg hp] at hF1
      rw [if_neg (by omega)] at hF2
      exact hG _ _ b (by omega) (by omega) hF1 hF2

theorem add_none (b o i : Nat) : (⟨b, o, none⟩ : Addr).add i = ⟨b, o + i, none⟩ := by
  unfold Addr.add
  by_cases h : i = 0 <;> simp [h]
/-- append of one element that lies in a block of its own. -/
theorem Sh.append_one (i : TypeInfo) (z : Value) (bytes : Nat) (ht : P.underlying t = some (.slice e)) (hi : P.info? e = some i) (hz : i.zero = some z) (hsize : i.size = A.wd) (hby : i.bytes = bytes) (hzs : z.cells.size = A.wd) (hsz : 0 < A.wd)
    (hv : A.Own e w S v xs) (B : Nat) (cs : List Value) (x : α) (hx : A.own w S' cs x) (hsrc : Held w B cs) (hdis : ∀ b, S b → ¬ S' b) (ty : TypeId)
    (hl : xs.length ≤ 1048576) (hbl : bytes ≤ 65536) :
    ∃ v' w', (Builtin.append_ #[t, t] ty #[v, .slice (some ⟨B, 0, none⟩) 1 1]).run P w = .ok v' w' ∧ A.Own e w' (fun b => S b ∨ S' b ∨ b = w.heap.size) v' (xs ++ [x]) ∧ w.grownBy w' v.ownBlock ∧ (v'.ownBlock = v.ownBlock ∨ v'.ownBlock = some w.heap.size) := by
  refine Sh.append_run (P := P) (ys := [x]) i z bytes ht hi hz hsize hby hzs hsz hv ⟨B, 0, none⟩ 1 (fun _ => cs) (fun _ => S') (fun j u hu => ?_) (fun j y hy => ?_) (fun i j b hij hj => by simp at hj; omega) hdis ty (by simp; omega) hbl
  · have : flat (fun _ => cs) [x].length = cs := by simp [flat]
    rw [this] at hu
    rw [add_none, Nat.zero_add]
    exact hsrc.2.2 j u hu
  · have : y = x := by
      have := List.mem_of_getElem? hy
      simpa using this
    rw [this]
    exact ⟨hx, fun _ h => h⟩
end

section
variable {α : Type}
theorem wtL_append (f : α → Nat) (l m : List α) : wtL f (l ++ m) = wtL f l + wtL f m := by
  induction l with
  | nil => simp [wtL]
  | cons x l ih => simp only [List.cons_append, wtL, ih]; omega
theorem cntL_append (f : α → Nat) (l m : List α) : cntL f (l ++ m) = cntL f l + cntL f m := by
  induction l with
  | nil => simp [cntL]
  | cons x l ih => simp only [List.cons_append, cntL, ih]; omega
theorem mkdL_append (f : α → Nat) (r : Int → α → Prop) : ∀ (k : Int) (l m : List α), mkdL f r k (l ++ m) ↔ mkdL f r k l ∧ mkdL f r (k + cntL f l) m
  | k, [], m => by simp [mkdL, cntL]
  | k, x :: l, m => by
    simp only [List.cons_append, mkdL, mkdL_append f r (k + f x) l m, cntL, and_assoc]
    rw [show k + (f x : Int) + (cntL f l : Int) = k + ((f x + cntL f l : Nat) : Int) by omega]
theorem take_snoc {xs : List α} {j : Nat} {x : α} (h : xs[j]? = some x) : xs.take (j + 1) = xs.take j ++ [x] := by
  rw [List.take_add_one, h]; rfl
theorem wtL_take {f : α → Nat} {xs : List α} {j : Nat} {x : α} (h : xs[j]? = some x) : wtL f (xs.take (j + 1)) = wtL f (xs.take j) + (1 + f x) := by
  rw [take_snoc h, wtL_append]; simp [wtL]
theorem cntL_take {f : α → Nat} {xs : List α} {j : Nat} {x : α} (h : xs[j]? = some x) : cntL f (xs.take (j + 1)) = cntL f (xs.take j) + f x := by
  rw [take_snoc h, cntL_append]; simp [cntL]
theorem wtL_take_le (f : α → Nat) (xs : List α) (j : Nat) : wtL f (xs.take j) ≤ wtL f xs := by
  have := wtL_append f (xs.take j) (xs.drop j)
  rw [List.take_append_drop] at this; omega
theorem wtL_at_le {f : α → Nat} {xs : List α} {j : Nat} {x : α} (h : xs[j]? = some x) : 1 + f x ≤ wtL f xs := by
  have h1 := wtL_take (f := f) h
  have h2 := wtL_take_le f xs (j + 1)
  omega
theorem wtL_len (f : α → Nat) (xs : List α) : xs.length ≤ wtL f xs := by
  induction xs with
  | nil => simp
  | cons x l ih => simp only [List.length_cons, wtL]; omega
theorem cntL_take_le (f : α → Nat) (xs : List α) (j : Nat) : cntL f (xs.take j) ≤ cntL f xs := by
  have := cntL_append f (xs.take j) (xs.drop j)
  rw [List.take_append_drop] at this; omega
/-- The first j bear marks from k on. -/
def MkTo (f : α → Nat) (r : Int → α → Prop) (k : Int) (xs : List α) (j : Nat) : Prop := mkdL f r k (xs.take j)
theorem MkTo.start (f : α → Nat) (r : Int → α → Prop) (k : Int) (xs : List α) : MkTo f r k xs 0 := by simp [MkTo, mkdL]
theorem MkTo.step {f : α → Nat} {r : Int → α → Prop} {k : Int} {xs : List α} {j : Nat} {x : α} (h : MkTo f r k xs j) (hj : j < xs.length) (hr : r (k + cntL f (xs.take j)) x) : MkTo f r k (xs.set j x) (j + 1) := by
  unfold MkTo at *
  rw [take_snoc (x := x) (by rw [List.getElem?_set_self hj]), mkdL_append, List.take_set_of_le (Nat.le_refl _)]
  exact ⟨h, hr, trivial⟩
theorem MkTo.all {f : α → Nat} {r : Int → α → Prop} {k : Int} {xs : List α} (h : MkTo f r k xs xs.length) : mkdL f r k xs := by
  unfold MkTo at h; rwa [List.take_length] at h
theorem mkdL_at {f : α → Nat} {r : Int → α → Prop} {k : Int} {xs : List α} {j : Nat} {x : α} (h : mkdL f r k xs) (hx : xs[j]? = some x) : r (k + cntL f (xs.take j)) x := by
  have h1 : mkdL f r k (xs.take (j + 1)) := by
    rw [← List.take_append_drop (j + 1) xs, mkdL_append] at h
    exact h.1
  rw [take_snoc hx, mkdL_append] at h1
  exact h1.2.1
theorem cnt_set_take {f : α → Nat} {xs : List α} {j i : Nat} {x : α} (h : i ≤ j) : cntL f ((xs.set j x).take i) = cntL f (xs.take i) := by
  rw [List.take_set_of_le h]
theorem cnt_set {f : α → Nat} {xs : List α} {j : Nat} {x y : α} (h : xs[j]? = some y) (hf : f x = f y) : cntL f (xs.set j x) = cntL f xs := by
  have hj : j < xs.length := (List.getElem?_eq_some_iff.1 h).1
  have h1 : xs.set j x = xs.take j ++ x :: xs.drop (j + 1) := List.set_eq_take_append_cons_drop.trans (by rw [if_pos hj])
  have h2 : xs = xs.take j ++ y :: xs.drop (j + 1) := by
    rw [(List.getElem?_eq_some_iff.1 h).2.symm, List.getElem_cons_drop, List.take_append_drop]
  rw [h1]
  conv => rhs; rw [h2]
  rw [cntL_append, cntL_append]
  simp only [cntL, hf]
end

end Go.Proofs.Ytkamlibfcakblaa

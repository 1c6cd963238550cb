/- Rows of wide elements: copies within memory, one more at a place, one less, one cleared. Nothing of the program. -/
import Derived.Test.YtkamlibfcakblaaXShOwn
import Derived.Laws.CopyRow
import Derived.Laws.Externs
namespace Go.Proofs.Ytkamlibfcakblaa
open Go.RowKit

section
variable {P : Program}
/-- copy of elements of some cells each. -/
theorem run_copy_wide (w : World) (dT sT ty elem : TypeId) (d g o dLen dCap : Nat) (a : Addr) (sLen sCap : Nat) (cur : Array Value) (t : TypeId) (cs : List Value)
    (hu : P.underlying dT = some (.slice elem)) (hs : (P.info? elem).map (·.size) = some d)
    (hg : w.heap[g]? = some (.cells cur t (0, 0))) (hn : cs.length = Nat.min sLen dLen * d)
    (hsrc : ∀ j v, cs[j]? = some v → w.cell? (a.add j) = some v) (hfit : o + cs.length ≤ cur.size) (h1 : ∀ v ∈ cs, v.oneCell' = true) :
    (Builtin.copy_ #[dT, sT] ty #[.slice (some ⟨g, o, none⟩) dLen dCap, .slice (some a) sLen sCap]).run P w =
      .ok (goInt (Nat.min sLen dLen)) (w.setRow g (cur.toList.take o ++ cs ++ cur.toList.drop (o + cs.length)).toArray) := by
  have hl := run_loadCells_list (P := P) w a cs hsrc
  have hst := run_storeCells_at P g o t cs 0 cur w hg (by simpa using hfit) h1
  cases hq : P.info? elem with
  | none => simp [hq] at hs
  | some i =>
    have hi : i.size = d := by simpa [hq] using hs
    simp [Builtin.copy_, run_underlying hu, Builtin.lenOf, Builtin.firstCells, sizeOf, typeInfo, hq, hi, ← hn, hl, hst]
/-- clear of some elements. -/
theorem run_clear_wide (w : World) (t e ty : TypeId) (z : Value) (g o n c : Nat) (cur : Array Value) (tt : TypeId) (ht : P.underlying t = some (.slice e)) (hv : ∀ w, (zeroValue e).run P w = .ok z w)
    (h1 : ∀ v ∈ (Builtin.zeroCells z.cells (n + 1)).toList, v.oneCell' = true) (hg : w.heap[g]? = some (.cells cur tt (0, 0))) (hfit : o + (Builtin.zeroCells z.cells (n + 1)).size ≤ cur.size) :
    (Builtin.clear_ #[t] ty #[.slice (some ⟨g, o, none⟩) (n + 1) c]).run P w =
      .ok (.tuple #[]) (w.setRow g (cur.toList.take o ++ (Builtin.zeroCells z.cells (n + 1)).toList ++ cur.toList.drop (o + (Builtin.zeroCells z.cells (n + 1)).size)).toArray) := by
  have hst := run_storeCells_at P g o tt (Builtin.zeroCells z.cells (n + 1)).toList 0 cur w hg (by simpa using hfit) h1
  simp only [Array.length_toList, Nat.add_zero] at hst
  simp [Builtin.clear_, run_underlying ht, hv, hst]
/-- append where there is room, from wherever. -/
theorem run_append_room_wide (w : World) (t ty e : TypeId) (i : TypeInfo) (d g n cap : Nat) (a : Addr) (m c : Nat) (cur : Array Value) (cs : List Value)
    (ht : P.underlying t = some (.slice e)) (hi : P.info? e = some i) (hd : i.size = d) (hg : w.heap[g]? = some (.cells cur e (0, 0))) (hroom : n + m ≤ cap) (hcap : cur.size = cap * d) (hl : cs.length = m * d)
    (hsrc : ∀ j v, cs[j]? = some v → w.cell? (a.add j) = some v) (h1 : ∀ v ∈ cs, v.oneCell' = true) :
    (Builtin.append_ #[t, t] ty #[.slice (some ⟨g, 0, none⟩) n cap, .slice (some a) m c]).run P w =
      .ok (.slice (some ⟨g, 0, none⟩) (n + m) cap) (w.setRow g (cur.toList.take (n * d) ++ cs ++ cur.toList.drop (n * d + cs.length)).toArray) := by
  have hld := run_loadCells_list (P := P) w a cs hsrc
  have hfit : n * d + m * d ≤ cap * d := by rw [← Nat.add_mul]; exact Nat.mul_le_mul_right d hroom
  have hst := run_storeCells_at P g (n * d) e cs 0 cur w hg (by rw [hcap, hl]; simpa using hfit) h1
  have hadd : (⟨g, 0, none⟩ : Addr).add (n * d) = ⟨g, n * d, none⟩ := by rw [add_none, Nat.zero_add]
  subst hd
  simp [Builtin.append_, run_underlying ht, sizeOf, typeInfo, hi, Builtin.lenOf, Builtin.firstCells, hroom, ← hl, hld, hadd, hst]
end

/-- One more at a place; one less. -/
def insF {β : Type} (C : Nat → β) (i : Nat) (c : β) (j : Nat) : β := if j < i then C j else if j = i then c else C (j - 1)
def delF {β : Type} (C : Nat → β) (i : Nat) (j : Nat) : β := if j < i then C j else C (j + 1)
def insAt {α : Type} (xs : List α) (i : Nat) (x : α) : List α := xs.take i ++ x :: xs.drop i
def delAt {α : Type} (xs : List α) (i : Nat) : List α := xs.take i ++ xs.drop (i + 1)
section
variable {α : Type}
theorem insAt_len {xs : List α} {i : Nat} (h : i ≤ xs.length) (x : α) : (insAt xs i x).length = xs.length + 1 := by
  simp only [insAt, List.length_append, List.length_take, List.length_cons, List.length_drop]; omega
theorem delAt_len {xs : List α} {i : Nat} (h : i < xs.length) : (delAt xs i).length = xs.length - 1 := by
  simp only [delAt, List.length_append, List.length_take, List.length_drop]; omega
theorem insAt_get {xs : List α} {i : Nat} (h : i ≤ xs.length) (x : α) (j : Nat) : (insAt xs i x)[j]? = if j < i then xs[j]? else if j = i then some x else xs[j - 1]? := by
  unfold insAt
  have hl : (xs.take i).length = i := by rw [List.length_take]; omega
  by_cases h1 : j < i
  · rw [List.getElem?_append_left (by omega), List.getElem?_take, if_pos h1, if_pos h1]
  · rw [List.getElem?_append_right (by omega), hl, if_neg h1]
    by_cases h2 : j = i
    · subst h2; simp
    · rw [if_neg h2, show j - i = (j - i - 1) + 1 by omega, List.getElem?_cons_succ, List.getElem?_drop]
      congr 1; omega
theorem delAt_get {xs : List α} {i : Nat} (h : i < xs.length) (j : Nat) : (delAt xs i)[j]? = if j < i then xs[j]? else xs[j + 1]? := by
  unfold delAt
  have hl : (xs.take i).length = i := by rw [List.length_take]; omega
  by_cases h1 : j < i
  · rw [List.getElem?_append_left (by omega), List.getElem?_take, if_pos h1, if_pos h1]
  · rw [List.getElem?_append_right (by omega), hl, if_neg h1, List.getElem?_drop]
    congr 1; omega
theorem flat_ins {C : Nat → List Value} {d n i : Nat} {c : List Value} (hC : ∀ j, j < n → (C j).length = d) (hc : c.length = d) (hi : i ≤ n) :
    (flat C n).take (i * d) ++ c ++ (flat C n).drop (i * d) = flat (insF C i c) (n + 1) := by
  have hl := flat_len hC
  have hid : i * d ≤ n * d := Nat.mul_le_mul_right d hi
  have htl : ((flat C n).take (i * d)).length = i * d := by rw [List.length_take]; omega
  refine flat_ext (d := d) (fun j hj => ?_) ?_ fun j m hj hm => ?_
  · unfold insF; split
    · exact hC j (by omega)
    · split
      · exact hc
      · exact hC _ (by omega)
  · simp only [List.length_append, htl, hc, List.length_drop, hl, Nat.add_mul, Nat.one_mul]; omega
  · unfold insF
    by_cases h1 : j < i
    · have := Nat.mul_le_mul_right d (show j + 1 ≤ i by omega)
      rw [Nat.add_mul, Nat.one_mul] at this
      rw [if_pos h1, List.getElem?_append_left (by rw [List.length_append]; omega), List.getElem?_append_left (by omega), List.getElem?_take, if_pos (by omega)]
      exact flat_at hC (by omega) hm
    · rw [if_neg h1]
      by_cases h2 : j = i
      · subst h2
        rw [if_pos rfl, List.getElem?_append_left (by rw [List.length_append]; omega), List.getElem?_append_right (by omega), htl]
        congr 1; omega
      · have h3 := Nat.mul_le_mul_right d (show i + 1 ≤ j by omega)
        rw [Nat.add_mul, Nat.one_mul] at h3
        rw [if_neg h2, List.getElem?_append_right (by rw [List.length_append]; omega), List.length_append, htl, hc, List.getElem?_drop]
        have h4 : i * d + (j * d + m - (i * d + d)) = (j - 1) * d + m := by
          rw [Nat.sub_mul, Nat.one_mul]; omega
        rw [h4]
        exact flat_at hC (by omega) hm
theorem flat_del {C : Nat → List Value} {d n i : Nat} (hC : ∀ j, j < n → (C j).length = d) (hi : i < n) :
    (flat C n).take (i * d) ++ (flat C n).drop ((i + 1) * d) = flat (delF C i) (n - 1) := by
  have hl := flat_len hC
  have hid : (i + 1) * d ≤ n * d := Nat.mul_le_mul_right d hi
  have hid' : (i + 1) * d = i * d + d := by rw [Nat.add_mul, Nat.one_mul]
  have htl : ((flat C n).take (i * d)).length = i * d := by rw [List.length_take]; omega
  have hn1 : (n - 1) * d = n * d - d := by rw [Nat.sub_mul, Nat.one_mul]
  refine flat_ext (d := d) (fun j hj => ?_) ?_ fun j m hj hm => ?_
  · unfold delF; split
    · exact hC j (by omega)
    · exact hC _ (by omega)
  · rw [List.length_append, htl, List.length_drop, hl, hn1]; omega
  · unfold delF
    by_cases h1 : j < i
    · have := Nat.mul_le_mul_right d (show j + 1 ≤ i by omega)
      rw [Nat.add_mul, Nat.one_mul] at this
      rw [if_pos h1, List.getElem?_append_left (by omega), List.getElem?_take, if_pos (by omega)]
      exact flat_at hC (by omega) hm
    · have h3 := Nat.mul_le_mul_right d (show i ≤ j by omega)
      rw [if_neg h1, List.getElem?_append_right (by omega), htl, List.getElem?_drop]
      have h4 : (i + 1) * d + (j * d + m - i * d) = (j + 1) * d + m := by
        rw [Nat.add_mul, Nat.one_mul, Nat.add_mul, Nat.one_mul]; omega
      rw [h4]
      exact flat_at hC (by omega) hm
end

section
variable {α : Type} {A : Sh α} {e : TypeId} {w w' : World} {S S' : Nat → Prop} {v v' : Value} {xs : List α} {C : Nat → List Value} {F : Nat → Nat → Prop}
/-- One more at place i, in another world, maybe in another block. -/
theorem Sh.Own.inserted {i : Nat} {cs : List Value} {x : α} (hi : i ≤ xs.length) (h2 : ∀ g, v.ownBlock = some g → S g) (h3 : ∀ j x, xs[j]? = some x → A.own w (F j) (C j) x ∧ ∀ b, F j b → S b ∧ v.ownBlock ≠ some b) (h4 : ∀ i j b, i < j → j < xs.length → F i b → ¬ F j b)
    (hx : A.own w S' cs x) (hdis : ∀ b, S b → ¬ S' b) (hrow : w'.ownsRow 0 e A.wd v' (xs.length + 1) (flat (insF C i cs) (xs.length + 1))) (hv' : ∀ g, v'.ownBlock = some g → v.ownBlock = some g ∨ w.heap.size ≤ g)
    (hk : ∀ b, b < w.heap.size → v.ownBlock ≠ some b → w'.heap[b]? = w.heap[b]?) : A.Own e w' (fun b => S b ∨ S' b ∨ w.heap.size ≤ b) v' (insAt xs i x) := by
  have hfar : ∀ b, b < w.heap.size → v.ownBlock ≠ some b → v'.ownBlock ≠ some b := by
    intro b hb hne e1
    rcases hv' b e1 with h | h
    · exact hne h
    · omega
  refine ⟨insF C i cs, fun j b => insF F i S' j b ∧ b < w.heap.size, ?_, fun g hg => ?_, fun j y hy => ?_, fun p q b hpq hq hF hF' => ?_⟩
  · rw [insAt_len hi]; exact hrow
  · rcases hv' g hg with h | h
    · exact .inl (h2 g h)
    · exact .inr (.inr h)
  · rw [insAt_get hi] at hy
    unfold insF
    by_cases h1 : j < i
    · rw [if_pos h1] at hy
      obtain ⟨a, b⟩ := h3 j y hy
      simp only [h1, if_true]
      exact ⟨A.okeep (A.ocap a) fun q hq hlt => hk q hlt (b q hq.1).2, fun q hq => ⟨.inl (b q hq.1).1, hfar q hq.2 (b q hq.1).2⟩⟩
    · rw [if_neg h1] at hy
      simp only [h1, if_false]
      by_cases h5 : j = i
      · rw [if_pos h5] at hy
        injection hy with hy
        subst hy
        simp only [h5, if_true]
        have hn : ∀ q, S' q → v.ownBlock ≠ some q := fun q hq e1 => hdis q (h2 q e1) hq
        exact ⟨A.okeep (A.ocap hx) fun q hq hlt => hk q hlt (hn q hq.1), fun q hq => ⟨.inr (.inl hq.1), hfar q hq.2 (hn q hq.1)⟩⟩
      · rw [if_neg h5] at hy
        obtain ⟨a, b⟩ := h3 _ y hy
        simp only [h5, if_false]
        exact ⟨A.okeep (A.ocap a) fun q hq hlt => hk q hlt (b q hq.1).2, fun q hq => ⟨.inl (b q hq.1).1, hfar q hq.2 (b q hq.1).2⟩⟩
  · rw [insAt_len hi] at hq
    have hF1 := hF.1
    have hF2 := hF'.1
    clear hF hF'
    unfold insF at hF1 hF2
    have hin : ∀ k, k < xs.length → F k b → S b := fun k hk' hf => ((h3 k _ (List.getElem?_eq_getElem hk')).2 b hf).1
    by_cases h1 : p < i
    · rw [if_pos h1] at hF1
      by_cases h5 : q < i
      · rw [if_pos h5] at hF2
        exact h4 p q b hpq (by omega) hF1 hF2
      · rw [if_neg h5] at hF2
        by_cases h6 : q = i
        · rw [if_pos h6] at hF2
          exact hdis b (hin p (by omega) hF1) hF2
        · rw [if_neg h6] at hF2
          exact h4 p (q - 1) b (by omega) (by omega) hF1 hF2
    · rw [if_neg h1] at hF1
      rw [if_neg (by omega)] at hF2
      rw [if_neg (by omega)] at hF2
      by_cases h6 : p = i
      · rw [if_pos h6] at hF1
        exact hdis b (hin (q - 1) (by omega) hF2) hF1
      · rw [if_neg h6] at hF1
        exact h4 (p - 1) (q - 1) b (by omega) (by omega) hF1 hF2
/-- One less, in place. -/
theorem Sh.Own.deleted {i : Nat} (hi : i < xs.length) (h2 : ∀ g, v.ownBlock = some g → S g) (h3 : ∀ j x, xs[j]? = some x → A.own w (F j) (C j) x ∧ ∀ b, F j b → S b ∧ v.ownBlock ≠ some b) (h4 : ∀ i j b, i < j → j < xs.length → F i b → ¬ F j b)
    (hrow : w'.ownsRow 0 e A.wd v' (xs.length - 1) (flat (delF C i) (xs.length - 1))) (hv' : v'.ownBlock = v.ownBlock)
    (hk : ∀ b, b < w.heap.size → v.ownBlock ≠ some b → w'.heap[b]? = w.heap[b]?) : A.Own e w' S v' (delAt xs i) := by
  refine ⟨delF C i, delF F i, ?_, fun g hg => h2 g (hv' ▸ hg), fun j y hy => ?_, fun p q b hpq hq hF hF' => ?_⟩
  · rw [delAt_len hi]; exact hrow
  · rw [delAt_get hi] at hy
    unfold delF
    by_cases h1 : j < i
    · rw [if_pos h1] at hy
      obtain ⟨a, b⟩ := h3 j y hy
      simp only [h1, if_true]
      exact ⟨A.okeep a fun q hq hlt => hk q hlt (b q hq).2, fun q hq => ⟨(b q hq).1, hv' ▸ (b q hq).2⟩⟩
    · rw [if_neg h1] at hy
      obtain ⟨a, b⟩ := h3 _ y hy
      simp only [h1, if_false]
      exact ⟨A.okeep a fun q hq hlt => hk q hlt (b q hq).2, fun q hq => ⟨(b q hq).1, hv' ▸ (b q hq).2⟩⟩
  · rw [delAt_len hi] at hq
    unfold delF at hF hF'
    by_cases h1 : p < i
    · rw [if_pos h1] at hF
      by_cases h5 : q < i
      · rw [if_pos h5] at hF'
        exact h4 p q b hpq (by omega) hF hF'
      · rw [if_neg h5] at hF'
        exact h4 p (q + 1) b (by omega) (by omega) hF hF'
    · rw [if_neg h1] at hF
      rw [if_neg (by omega)] at hF'
      exact h4 (p + 1) (q + 1) b (by omega) (by omega) hF hF'
end

/-- The cells of a row into which one was shifted: as they lie behind both copies. -/
theorem shift_row {cur F x : List Value} {n i d cap : Nat} (hc : cur.length = cap * d) (hF : cur.take (n * d) = F) (hx : x.length = d) (hi : i ≤ n) (hn : n + 1 ≤ cap) :
    ((cur.take ((i + 1) * d) ++ F.drop (i * d) ++ cur.drop ((i + 1) * d + (F.drop (i * d)).length)).take (i * d) ++ x ++ (cur.take ((i + 1) * d) ++ F.drop (i * d) ++ cur.drop ((i + 1) * d + (F.drop (i * d)).length)).drop (i * d + x.length)).take ((n + 1) * d) = F.take (i * d) ++ x ++ F.drop (i * d) := by
  have h1 : (i + 1) * d = i * d + d := by rw [Nat.add_mul, Nat.one_mul]
  have h2 : (n + 1) * d = n * d + d := by rw [Nat.add_mul, Nat.one_mul]
  have h3 := Nat.mul_le_mul_right d hi
  have h4 := Nat.mul_le_mul_right d hn
  have hFl : F.length = n * d := by rw [← hF, List.length_take]; omega
  have hTl : (cur.take ((i + 1) * d)).length = (i + 1) * d := by rw [List.length_take]; omega
  have e1 : (cur.take ((i + 1) * d) ++ F.drop (i * d) ++ cur.drop ((i + 1) * d + (F.drop (i * d)).length)).take (i * d) = F.take (i * d) := by
    rw [List.append_assoc, List.take_append_of_le_length (by omega), List.take_take, ← hF, List.take_take]
    congr 1; omega
  have e2 : (cur.take ((i + 1) * d) ++ F.drop (i * d) ++ cur.drop ((i + 1) * d + (F.drop (i * d)).length)).drop (i * d + x.length) = F.drop (i * d) ++ cur.drop ((i + 1) * d + (F.drop (i * d)).length) := by
    rw [hx, List.append_assoc, ← h1]
    exact List.drop_left' hTl
  rw [e1, e2, ← List.append_assoc]
  refine List.take_left' ?_
  simp only [List.length_append, List.length_take, List.length_drop, hFl, hx]; omega
theorem shift_size {cur F x : List Value} {n i d cap : Nat} (hc : cur.length = cap * d) (hFl : F.length = n * d) (hx : x.length = d) (hi : i ≤ n) (hn : n + 1 ≤ cap) :
    ((cur.take ((i + 1) * d) ++ F.drop (i * d) ++ cur.drop ((i + 1) * d + (F.drop (i * d)).length)).take (i * d) ++ x ++ (cur.take ((i + 1) * d) ++ F.drop (i * d) ++ cur.drop ((i + 1) * d + (F.drop (i * d)).length)).drop (i * d + x.length)).length = cap * d := by
  have h1 : (i + 1) * d = i * d + d := by rw [Nat.add_mul, Nat.one_mul]
  have h2 : (n + 1) * d = n * d + d := by rw [Nat.add_mul, Nat.one_mul]
  have h3 := Nat.mul_le_mul_right d hi
  have h4 := Nat.mul_le_mul_right d hn
  simp only [List.length_append, List.length_take, List.length_drop, hFl, hx, hc]; omega

end Go.Proofs.Ytkamlibfcakblaa

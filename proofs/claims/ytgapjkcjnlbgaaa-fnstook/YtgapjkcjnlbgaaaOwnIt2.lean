/- append of one thing, once more: where the new slice lies. What the model's StoDo leaves is short. -/
import Derived.Test.YtgapjkcjnlbgaaaDrawWrts
namespace Go.Proofs.Ytgapjkcjnlbgaaa
open Go.RowKit

set_option maxRecDepth 100000 in
/-- append of one thing that lies in a block of its own. -/
theorem append_item2 (w : World) (lo : Nat) (S : Nat → Prop) (v : Value) (its : List Item) (hv : OwnIt w lo S v its) (it : Item) (A : Option Addr) (n c B : Nat) (hks : it.key.size ≤ maxLen)
    (hu : IntsIn w (fun b => S b ∧ v.ownBlock ≠ some b) (.slice A n c) it.val) (hsrc : Held w B [.string it.key, .slice A n c]) (ty : TypeId) (hl : its.length ≤ 2097152) (hlo : lo ≤ w.heap.size) :
    ∃ v' w', (Builtin.append_ #[23, 23] ty #[v, .slice (some ⟨B, 0, none⟩) 1 1]).run Try.prog w = .ok v' w' ∧ OwnIt w' lo S v' (its ++ [it]) ∧ w.grownBy w' v.ownBlock ∧ (v'.ownBlock = v.ownBlock ∨ v'.ownBlock = some w.heap.size) := by
  obtain ⟨i, hi, hz, hs, hb⟩ := info_parts infoItem
  obtain ⟨U, h1, h3⟩ := hv
  obtain ⟨g, cap, w', hr, h2, hg, hwhere, hlt⟩ := run_append_lies (P := Try.prog) w 23 ty lo 37 i _ 2 40 Try.underlying23 hi hz hs hb rfl (by omega) v its.length _ h1 ⟨B, 0, none⟩ 1 1 [.string it.key, .slice A n c] rfl
    (fun j u hu => by
      have := hsrc.2.2 j u hu
      rw [← this]; congr 1
      unfold Addr.add
      by_cases h : j = 0 <;> simp [h])
    (by intro u hu; simp at hu; rcases hu with rfl | rfl <;> rfl) (by omega) (by unfold maxLen; omega) (by omega) hlo w.heap.size rfl
  have hne : ∀ b, b < w.heap.size → v.ownBlock ≠ some b → (Value.slice (some ⟨g, 0, none⟩) (its.length + 1) cap).ownBlock ≠ some b := by
    intro b hb' hvb e
    have e' : g = b := Option.some.inj e
    rcases hwhere with h | h
    · rw [h, e'] at hvb; exact hvb rfl
    · omega
  have hlen : (its ++ [it]).length = its.length + 1 := by simp
  refine ⟨_, w', hr, ⟨upd U its.length (.slice A n c), ?_, fun j x hx => ?_⟩, hg, hwhere.elim (fun h => .inl h.symm) (fun h => .inr (by show some g = _; rw [h]))⟩
  · rw [cellsU_snoc, hlen]; exact h2
  · rcases Nat.lt_or_ge j its.length with hj | hj
    · rw [List.getElem?_append_left hj] at hx
      obtain ⟨a, b⟩ := h3 j x hx
      rw [upd_other _ _ (by omega)]
      exact ⟨a, b.keep (fun k hk hS => hg.block k hk (fun e => hS.2 e.symm)) hg.size (fun k hk hS => ⟨hS.1, hne k hk hS.2⟩)⟩
    · have hjl : j = its.length := by
        have := (List.getElem?_eq_some_iff.1 hx).1
        simp at this; omega
      subst hjl
      have hx' : it = x := by simpa using hx
      subst hx'
      rw [upd_same]
      exact ⟨hks, hu.keep (fun k hk hS => hg.block k hk (fun e => hS.2 e.symm)) hg.size (fun k hk hS => ⟨hS.1, hne k hk hS.2⟩)⟩

theorem wpl_append_item2 {w : World} {ops : Array Oper} {rest : List Oper} {o : Oper} {a : Act} {Q : Exit → Act → World → Prop} (hgd : o.guard = none) (s x : Operand)
    (ho : o.op = .call { callee := .builtin .append, args := #[s, x], argTypes := #[23, 23] }) (lo : Nat) (S : Nat → Prop) (v : Value) (its : List Item) (hs : a.eval s = v) (hv : OwnIt w lo S v its)
    (it : Item) (A : Option Addr) (n c B : Nat) (hx : a.eval x = .slice (some ⟨B, 0, none⟩) 1 1) (hks : it.key.size ≤ maxLen) (hu : IntsIn w (fun b => S b ∧ v.ownBlock ≠ some b) (.slice A n c) it.val)
    (hsrc : Held w B [.string it.key, .slice A n c]) (hl : its.length ≤ 2097152) (hlo : lo ≤ w.heap.size)
    (h : ∀ v' w', OwnIt w' lo S v' (its ++ [it]) → w.grownBy w' v.ownBlock → (v'.ownBlock = v.ownBlock ∨ v'.ownBlock = some w.heap.size) → wpList Try.prog ops Q rest (a.put o.dst v') w') : wpList Try.prog ops Q (o :: rest) a w := by
  refine wpList_plain hgd fun K hK => ?_
  obtain ⟨v', w', hr, h2, h3, h4⟩ := append_item2 w lo S v its hv it A n c B hks hu hsrc o.type hl hlo
  unfold Oper.wp execOp
  simp only [ho, resolve, invoke, builtin, Sem.run_bind, Sem.run_pure, Result.andThen_ok, List.map_toArray, List.map_cons, List.map_nil, hs, hx, hr]
  exact hK _ _ (h v' w' h2 h3 h4)
/-- The same, in a region that draws. -/
theorem step_append_item2 {w : World} {ops : Array Oper} {o : Oper} {a : Act} {K : Act → World → Prop} {Q : Exit → Act → World → Prop} {E : Prop} (hgd : o.guard = none) (s x : Operand)
    (ho : o.op = .call { callee := .builtin .append, args := #[s, x], argTypes := #[23, 23] }) (lo : Nat) (S : Nat → Prop) (v : Value) (its : List Item) (hs : a.eval s = v) (hv : OwnIt w lo S v its)
    (it : Item) (A : Option Addr) (n c B : Nat) (hx : a.eval x = .slice (some ⟨B, 0, none⟩) 1 1) (hks : it.key.size ≤ maxLen) (hu : IntsIn w (fun b => S b ∧ v.ownBlock ≠ some b) (.slice A n c) it.val)
    (hsrc : Held w B [.string it.key, .slice A n c]) (hl : its.length ≤ 2097152) (hlo : lo ≤ w.heap.size)
    (h : ∀ v' w', OwnIt w' lo S v' (its ++ [it]) → w.grownBy w' v.ownBlock → (v'.ownBlock = v.ownBlock ∨ v'.ownBlock = some w.heap.size) → K (a.put o.dst v') w') : if Region.wanted o (yielded ops a.tmps) = true then Oper.wp Try.prog o a w K Q else E := by
  have hw : Region.wanted o (yielded ops a.tmps) = true := by simp [Region.wanted, hgd]
  rw [if_pos hw]
  obtain ⟨v', w', hr, h2, h3, h4⟩ := append_item2 w lo S v its hv it A n c B hks hu hsrc o.type hl hlo
  unfold Oper.wp execOp
  simp only [ho, resolve, invoke, builtin, Sem.run_bind, Sem.run_pure, Result.andThen_ok, List.map_toArray, List.map_cons, List.map_nil, hs, hx, hr]
  exact h v' w' h2 h3 h4

section
variable {w w' : World} {lo : Nat} {S S' : Nat → Prop} {v : Value} {its : List Item}
theorem OwnIt.keep2 (h : OwnIt w lo S v its) (hk : ∀ b, b < w.heap.size → S b ∨ v.ownBlock = some b → w'.heap[b]? = w.heap[b]?) (hs : w.heap.size ≤ w'.heap.size) : OwnIt w' lo S v its := by
  obtain ⟨U, h1, h3⟩ := h
  refine ⟨U, ⟨h1.1, ?_⟩, fun j it hit => ?_⟩
  · rcases h1.2 with hn | ⟨g, cap, cur, hv, hl, hgg, rest⟩
    · exact .inl hn
    · exact .inr ⟨g, cap, cur, hv, hl, by rw [hk g (Array.getElem?_eq_some_iff.1 hgg).1 (.inr (by rw [hv]; rfl))]; exact hgg, rest⟩
  · obtain ⟨a, b⟩ := h3 j it hit
    exact ⟨a, b.keep (fun k hk' hS => hk k hk' (.inl hS.1)) hs (fun _ _ h => h)⟩
theorem OwnIt.setCell2 (h : OwnIt w lo S v its) {p : Addr} (hp : ¬ S p.block) (hl : v.ownBlock ≠ some p.block) (u : Value) : OwnIt (w.setCell p u) lo S v its :=
  h.keep2 (fun b _ hb => Below.heap_setCell w p u b (fun e => by subst e; rcases hb with hb | hb; exact hp hb; exact hl hb)) (by simp [World.setCell])
end
theorem OwnWr.source {w : World} {lo : Nat} {S : Nat → Prop} {v : Value} {ws : List Wr} (h : OwnWr w lo S v ws) : ∃ (qs : List (Wr × Value)) (g cap : Nat), qs.map Prod.fst = ws ∧ v = .slice (some ⟨g, 0, none⟩) qs.length cap ∧ (∀ j u, (wcells qs)[j]? = some u → w.cell? ((⟨g, 0, none⟩ : Addr).add j) = some u) ∧
    ∀ p ∈ qs, p.1.key.size ≤ maxLen ∧ IntsIn w S p.2 p.1.val := by
  obtain ⟨g, cap, rfl, _⟩ := h.form
  obtain ⟨ps, rfl, _, h1, h3⟩ := h
  rw [List.length_map] at h1
  refine ⟨ps, g, cap, rfl, by rw [List.length_map], h1.cells rfl, fun p hp => ?_⟩
  obtain ⟨a, b⟩ := h3 p hp
  exact ⟨a, b.keep (fun _ _ _ => rfl) (Nat.le_refl _) (fun _ _ h => h.1)⟩

theorem doStep_fine {o : Option (List Item)} {x : Wr} (h : ∀ cur, o = some cur → cur.length ≤ 40 ∧ Fine cur) : ∀ cur, doStep o x = some cur → cur.length ≤ 40 ∧ Fine cur := by
  intro cur hc
  cases o with
  | none => simp [doStep] at hc
  | some its =>
    unfold doStep at hc
    simp only [Option.bind_some] at hc
    split at hc
    · next hok =>
      split at hc
      · cases hc
      · next hlen =>
        injection hc with hc
        subst hc
        exact ⟨by omega, (h its rfl).2.wAll (Wr.fine hok)⟩
    · cases hc
theorem doFold_fine (ws : List Wr) : ∀ {o : Option (List Item)}, (∀ cur, o = some cur → cur.length ≤ 40 ∧ Fine cur) → ∀ cur, ws.foldl doStep o = some cur → cur.length ≤ 40 ∧ Fine cur := by
  induction ws with
  | nil => intro o h cur hc; exact h cur hc
  | cons x ws ih => intro o h cur hc; exact ih (doStep_fine h) cur hc
theorem stoDo_fine (its : List Item) (ws : List Wr) : (stoDo its ws).length ≤ 40 ∧ Fine (stoDo its ws) := by
  unfold stoDo
  cases hd : doAll its ws with
  | none => exact ⟨by simp, fun _ h => by simp at h⟩
  | some cur =>
    unfold doAll at hd
    split at hd
    · next hs => exact doFold_fine ws (fun c hc => by injection hc with hc; rw [← hc]; exact stoB_fine hs) cur hd
    · cases hd

end Go.Proofs.Ytgapjkcjnlbgaaa

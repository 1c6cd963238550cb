/- Texts that follow each other, merged: OwnIt, Fresh, DrawKey2. -/
import Derived.Test.YtkamlibfcakblaaXTree
import Derived.Test.YtkamlibfcakblaaXGet
import Derived.Deep.AppendLies
import Derived.Test.YtkamlibfcakblaaXFrame

/- Slices of things that the call itself has made, by append; the numbers of each may lie anywhere else. -/
namespace Go.Proofs.Ytkamlibfcakblaa
open Go.RowKit

/-- A slice of integers whose block is one of S. -/
def IntsIn (w : World) (S : Nat → Prop) (v : Value) (xs : List Int) : Prop :=
  ∃ A c, v = .slice A xs.length c ∧ xs.length ≤ c ∧ c ≤ maxLen ∧ (0 < xs.length → ∃ b off, A = some ⟨b, off, none⟩ ∧ b < w.heap.size ∧ S b ∧ ∀ j, j < xs.length → w.cell? ⟨b, off + j, none⟩ = some (.int .i64 (nth xs j)))
section
variable {w w' : World} {S S' : Nat → Prop} {v : Value} {xs : List Int}
theorem IntsIn.ints (h : IntsIn w S v xs) : Ints w w.heap.size v xs := by
  obtain ⟨A, c, hv, h1, h2, hr⟩ := h
  refine ⟨A, c, hv, h1, h2, fun hn => ?_⟩
  obtain ⟨b, off, hA, hb, _, hc⟩ := hr hn
  exact ⟨b, off, hA, hb, hc⟩
theorem IntsIn.keep (h : IntsIn w S v xs) (hk : ∀ b, b < w.heap.size → S b → w'.heap[b]? = w.heap[b]?) (hs : w.heap.size ≤ w'.heap.size) (hS : ∀ b, b < w.heap.size → S b → S' b) : IntsIn w' S' v xs := by
  obtain ⟨A, c, hv, h1, h2, hr⟩ := h
  refine ⟨A, c, hv, h1, h2, fun hn => ?_⟩
  obtain ⟨b, off, hA, hb, hSb, hc⟩ := hr hn
  exact ⟨b, off, hA, Nat.lt_of_lt_of_le hb hs, hS b hb hSb, fun j hj => (World.cell?_of_block (hk b hb hSb)).trans (hc j hj)⟩
theorem Ints.toIn {B : Nat} (h : Ints w B v xs) (hB : B ≤ w.heap.size) : IntsIn w (· < B) v xs := by
  obtain ⟨A, c, hv, h1, h2, hr⟩ := h
  refine ⟨A, c, hv, h1, h2, fun hn => ?_⟩
  obtain ⟨b, off, hA, hb, hc⟩ := hr hn
  exact ⟨b, off, hA, by omega, hb, hc⟩
theorem OwnInts.toIn {lo : Nat} (h : OwnInts w lo v xs) : IntsIn w (lo ≤ ·) v xs := by
  rcases h.2 with ⟨rfl, h0⟩ | ⟨g, cap, cur, rfl, hb, hg, hn, hm, hs, ht⟩
  · exact ⟨none, 0, by rw [h0], by omega, Nat.zero_le _, fun hp => absurd hp (by omega)⟩
  · refine ⟨_, cap, rfl, hn, hm, fun _ => ⟨g, 0, rfl, (Array.getElem?_eq_some_iff.1 hg).1, hb, fun j hj => ?_⟩⟩
    have := World.ownsRow.cellAt h j (by omega)
    rw [Nat.zero_add, this, nth_map hj]
end

/-- A slice of things in a block of the call's own, from lo on; the numbers of each in some other block of S. -/
def OwnIt (w : World) (lo : Nat) (S : Nat → Prop) (v : Value) (its : List Item) : Prop :=
  ∃ U : Nat → Value, w.ownsRow lo 104 2 v its.length (cellsU its U) ∧ ∀ (j : Nat) (it : Item), its[j]? = some it → it.key.size ≤ maxLen ∧ IntsIn w (fun b => S b ∧ v.ownBlock ≠ some b) (U j) it.val
section
variable {w w' : World} {lo : Nat} {S S' : Nat → Prop} {v : Value} {its : List Item}
theorem OwnIt.form (h : OwnIt w lo S v its) : (v = .slice none 0 0 ∧ its = []) ∨ ∃ g cap, v = .slice (some ⟨g, 0, none⟩) its.length cap ∧ lo ≤ g ∧ g < w.heap.size ∧ its.length ≤ cap ∧ cap ≤ maxLen := by
  obtain ⟨U, h1, _⟩ := h
  rcases h1.2 with ⟨hv, h0⟩ | ⟨g, cap, cur, hv, hb, hg, hn, hm, _⟩
  · exact .inl ⟨hv, List.length_eq_zero_iff.1 h0⟩
  · exact .inr ⟨g, cap, hv, hb, (Array.getElem?_eq_some_iff.1 hg).1, hn, hm⟩
theorem OwnIt.items (h : OwnIt w lo S v its) : Items w w.heap.size v its := by
  rcases h.form with ⟨rfl, rfl⟩ | ⟨g, cap, rfl, hg0, hg2, hc1, hc2⟩
  · exact ⟨none, 0, rfl, Nat.zero_le _, Nat.zero_le _, fun h => absurd h (by simp)⟩
  · obtain ⟨U, h1, h3⟩ := h
    refine ⟨_, cap, rfl, hc1, hc2, fun _ => ⟨g, 0, rfl, hg2, fun j it hit => ?_⟩⟩
    have hj : j < its.length := (List.getElem?_eq_some_iff.1 hit).1
    obtain ⟨a, b⟩ := h3 j it hit
    refine ⟨a, ?_, U j, ?_, b.ints⟩
    · rw [Nat.zero_add, h1.cellAt (j * 2) (by omega), cellsU_at _ _ (by omega), cellU_key hit]
    · rw [Nat.zero_add, h1.cellAt (j * 2 + 1) (by omega), cellsU_at _ _ (by omega), cellU_val hit]
/-- Kept where its blocks are. -/
theorem OwnIt.keep (h : OwnIt w lo S v its) (hk : ∀ b, b < w.heap.size → S b ∨ lo ≤ b → w'.heap[b]? = w.heap[b]?) (hs : w.heap.size ≤ w'.heap.size) : OwnIt w' lo S v its := by
  obtain ⟨U, h1, h3⟩ := h
  refine ⟨U, ⟨h1.1, ?_⟩, fun j it hit => ?_⟩
  · rcases h1.2 with hn | ⟨g, cap, cur, hv, hl, hgg, rest⟩
    · exact .inl hn
    · exact .inr ⟨g, cap, cur, hv, hl, by rw [hk g (Array.getElem?_eq_some_iff.1 hgg).1 (.inr hl)]; exact hgg, rest⟩
  · obtain ⟨a, b⟩ := h3 j it hit
    exact ⟨a, b.keep (fun k hk' hS => hk k hk' (.inl hS.1)) hs (fun _ _ h => h)⟩
theorem OwnIt.below (h : OwnIt w lo S v its) (hb : Below w.heap.size w w') : OwnIt w' lo S v its := h.keep (fun b hlt _ => hb.block b hlt) hb.size
theorem OwnIt.alloc (h : OwnIt w lo S v its) (o : Obj) : OwnIt (w.alloc o) lo S v its := h.below (belowOne w o)
theorem OwnIt.setCell (h : OwnIt w lo S v its) {p : Addr} (hp : ¬ S p.block) (hl : p.block < lo) (u : Value) : OwnIt (w.setCell p u) lo S v its :=
  h.keep (fun b _ hb => Below.heap_setCell w p u b (fun e => by subst e; rcases hb with hb | hb; exact hp hb; omega)) (by simp [World.setCell])
theorem OwnIt.weaken {lo' : Nat} (h : OwnIt w lo S v its) (hl : lo' ≤ lo) (hS : ∀ b, S b → S' b) : OwnIt w lo' S' v its := by
  obtain ⟨U, h1, h3⟩ := h
  refine ⟨U, ⟨h1.1, h1.2.elim Or.inl fun ⟨g, cap, cur, hv, hg, r⟩ => Or.inr ⟨g, cap, cur, hv, Nat.le_trans hl hg, r⟩⟩, fun j it hit => ?_⟩
  obtain ⟨a, b⟩ := h3 j it hit
  exact ⟨a, b.keep (fun _ _ _ => rfl) (Nat.le_refl _) (fun _ _ h => ⟨hS _ h.1, h.2⟩)⟩
theorem OwnIt.nil (w : World) (lo : Nat) (S : Nat → Prop) : OwnIt w lo S (.slice none 0 0) [] := ⟨fun _ => undef, World.ownsRow_nil _ _ _ _, fun j it h => by simp at h⟩
end

theorem cellsU_snoc (its : List Item) (U : Nat → Value) (it : Item) (u : Value) : cellsU (its ++ [it]) (upd U its.length u) = cellsU its U ++ [.string it.key, u] := by
  apply List.ext_getElem?
  intro i
  have hlen : (its ++ [it]).length = its.length + 1 := by simp
  rcases Nat.lt_or_ge i (its.length * 2) with hi | hi
  · rw [List.getElem?_append_left (by rw [cellsU_len]; exact hi), cellsU_at _ _ hi, cellsU_at _ _ (by rw [hlen]; omega)]
    have hj : i / 2 < its.length := by omega
    simp only [cellU, List.getElem?_append_left hj, upd_other U u (show i / 2 ≠ its.length by omega)]
  · rw [List.getElem?_append_right (by rw [cellsU_len]; exact hi), cellsU_len]
    have hlast : (its ++ [it])[its.length]? = some it := by simp
    rcases Nat.lt_or_ge i (its.length * 2 + 2) with h2 | h2
    · rcases (by omega : i = its.length * 2 ∨ i = its.length * 2 + 1) with rfl | rfl
      · rw [cellsU_at _ _ (by rw [hlen]; omega), cellU_key hlast]; simp
      · rw [cellsU_at _ _ (by rw [hlen]; omega), cellU_val hlast, upd_same]; simp
    · rw [List.getElem?_eq_none (by rw [cellsU_len, hlen]; omega), List.getElem?_eq_none (by simp; omega)]

set_option maxRecDepth 100000 in
/-- append of one thing that lies in a block of its own. -/
theorem append_item (w : World) (lo : Nat) (S : Nat → Prop) (v : Value) (its : List Item) (hv : OwnIt w lo S v its) (it : Item) (A : Option Addr) (n c B : Nat) (hks : it.key.size ≤ maxLen)
    (hu : IntsIn w (fun b => S b ∧ v.ownBlock ≠ some b) (.slice A n c) it.val) (hsrc : Held w B [.string it.key, .slice A n c]) (ty : TypeId) (hl : its.length ≤ 2097152) (hlo : lo ≤ w.heap.size) :
    ∃ v' w', (Builtin.append_ #[52, 52] ty #[v, .slice (some ⟨B, 0, none⟩) 1 1]).run Try.prog w = .ok v' w' ∧ OwnIt w' lo S v' (its ++ [it]) ∧ w.grownBy w' v.ownBlock := by
  obtain ⟨i, hi, hz, hs, hb⟩ := info_parts infoItem
  obtain ⟨U, h1, h3⟩ := hv
  obtain ⟨g, cap, w', hr, h2, hg, hwhere, hlt⟩ := run_append_lies (P := Try.prog) w 52 ty lo 104 i _ 2 40 Try.underlying52 hi hz hs hb rfl (by omega) v its.length _ h1 ⟨B, 0, none⟩ 1 1 [.string it.key, .slice A n c] rfl
    (fun j u hu => by
      have := hsrc.2.2 j u hu
      rw [← this]; congr 1
      unfold Addr.add
      by_cases h : j = 0 <;> simp [h])
    (by intro u hu; simp at hu; rcases hu with rfl | rfl <;> rfl) (by omega) (by unfold maxLen; omega) (by omega) hlo w.heap.size rfl
  have hne : ∀ b, b < w.heap.size → v.ownBlock ≠ some b → (Value.slice (some ⟨g, 0, none⟩) (its.length + 1) cap).ownBlock ≠ some b := by
    intro b hb' hvb e
    have e' : g = b := Option.some.inj e
    rcases hwhere with h | h
    · rw [h, e'] at hvb; exact hvb rfl
    · omega
  have hlen : (its ++ [it]).length = its.length + 1 := by simp
  refine ⟨_, w', hr, ⟨upd U its.length (.slice A n c), ?_, fun j x hx => ?_⟩, hg⟩
  · rw [cellsU_snoc, hlen]; exact h2
  · rcases Nat.lt_or_ge j its.length with hj | hj
    · rw [List.getElem?_append_left hj] at hx
      obtain ⟨a, b⟩ := h3 j x hx
      rw [upd_other _ _ (by omega)]
      exact ⟨a, b.keep (fun k hk hS => hg.block k hk (fun e => hS.2 e.symm)) hg.size (fun k hk hS => ⟨hS.1, hne k hk hS.2⟩)⟩
    · have hjl : j = its.length := by
        have := (List.getElem?_eq_some_iff.1 hx).1
        simp at this; omega
      subst hjl
      have hx' : it = x := by simpa using hx
      subst hx'
      rw [upd_same]
      exact ⟨hks, hu.keep (fun k hk hS => hg.block k hk (fun e => hS.2 e.symm)) hg.size (fun k hk hS => ⟨hS.1, hne k hk hS.2⟩)⟩

/-- The same, for the walk. -/
theorem wpl_append_item {w : World} {ops : Array Oper} {rest : List Oper} {o : Oper} {a : Act} {Q : Exit → Act → World → Prop} (hgd : o.guard = none) (s x : Operand)
    (ho : o.op = .call { callee := .builtin .append, args := #[s, x], argTypes := #[52, 52] }) (lo : Nat) (S : Nat → Prop) (v : Value) (its : List Item) (hs : a.eval s = v) (hv : OwnIt w lo S v its)
    (it : Item) (A : Option Addr) (n c B : Nat) (hx : a.eval x = .slice (some ⟨B, 0, none⟩) 1 1) (hks : it.key.size ≤ maxLen) (hu : IntsIn w (fun b => S b ∧ v.ownBlock ≠ some b) (.slice A n c) it.val)
    (hsrc : Held w B [.string it.key, .slice A n c]) (hl : its.length ≤ 2097152) (hlo : lo ≤ w.heap.size)
    (h : ∀ v' w', OwnIt w' lo S v' (its ++ [it]) → w.grownBy w' v.ownBlock → wpList Try.prog ops Q rest (a.put o.dst v') w') : wpList Try.prog ops Q (o :: rest) a w := by
  refine wpList_plain hgd fun K hK => ?_
  obtain ⟨v', w', hr, h2, h3⟩ := append_item w lo S v its hv it A n c B hks hu hsrc o.type hl hlo
  unfold Oper.wp execOp
  simp only [ho, resolve, invoke, builtin, Sem.run_bind, Sem.run_pure, Result.andThen_ok, List.map_toArray, List.map_cons, List.map_nil, hs, hx, hr]
  exact hK _ _ (h v' w' h2 h3)
/-- The same, in a region that draws. -/
theorem step_append_item {w : World} {ops : Array Oper} {o : Oper} {a : Act} {K : Act → World → Prop} {Q : Exit → Act → World → Prop} {E : Prop} (hgd : o.guard = none) (s x : Operand)
    (ho : o.op = .call { callee := .builtin .append, args := #[s, x], argTypes := #[52, 52] }) (lo : Nat) (S : Nat → Prop) (v : Value) (its : List Item) (hs : a.eval s = v) (hv : OwnIt w lo S v its)
    (it : Item) (A : Option Addr) (n c B : Nat) (hx : a.eval x = .slice (some ⟨B, 0, none⟩) 1 1) (hks : it.key.size ≤ maxLen) (hu : IntsIn w (fun b => S b ∧ v.ownBlock ≠ some b) (.slice A n c) it.val)
    (hsrc : Held w B [.string it.key, .slice A n c]) (hl : its.length ≤ 2097152) (hlo : lo ≤ w.heap.size)
    (h : ∀ v' w', OwnIt w' lo S v' (its ++ [it]) → w.grownBy w' v.ownBlock → K (a.put o.dst v') w') : if Region.wanted o (yielded ops a.tmps) = true then Oper.wp Try.prog o a w K Q else E := by
  have hw : Region.wanted o (yielded ops a.tmps) = true := by simp [Region.wanted, hgd]
  rw [if_pos hw]
  obtain ⟨v', w', hr, h2, h3⟩ := append_item w lo S v its hv it A n c B hks hu hsrc o.type hl hlo
  unfold Oper.wp execOp
  simp only [ho, resolve, invoke, builtin, Sem.run_bind, Sem.run_pure, Result.andThen_ok, List.map_toArray, List.map_cons, List.map_nil, hs, hx, hr]
  exact h v' w' h2 h3
theorem step_append_ints {w : World} {ops : Array Oper} {o : Oper} {a : Act} {K : Act → World → Prop} {Q : Exit → Act → World → Prop} {E : Prop} (hgd : o.guard = none) (s x : Operand)
    (ho : o.op = .call { callee := .builtin .append, args := #[s, x], argTypes := #[39, 39] }) (lo : Nat) (v : Value) (xs : List Int) (hs : a.eval s = v) (hv : OwnInts w lo v xs)
    (B : Nat) (A : Option Addr) (c : Nat) (ys : List Int) (hx : a.eval x = .slice A ys.length c) (hy : Ints w B (.slice A ys.length c) ys) (hl : xs.length + ys.length ≤ 4194304) (hlo : lo ≤ w.heap.size)
    (h : ∀ v' w', OwnInts w' lo v' (xs ++ ys) → w.grownBy w' v.ownBlock → K (a.put o.dst v') w') : if Region.wanted o (yielded ops a.tmps) = true then Oper.wp Try.prog o a w K Q else E := by
  have hw : Region.wanted o (yielded ops a.tmps) = true := by simp [Region.wanted, hgd]
  rw [if_pos hw]
  obtain ⟨v', w', hr, h2, h3⟩ := append_ints w lo v xs hv B A c ys hy o.type hl hlo
  unfold Oper.wp execOp
  simp only [ho, resolve, invoke, builtin, Sem.run_bind, Sem.run_pure, Result.andThen_ok, List.map_toArray, List.map_cons, List.map_nil, hs, hx, hr]
  exact h v' w' h2 h3

end Go.Proofs.Ytkamlibfcakblaa

/- append onto an empty literal: a new row, and nothing that was there has turned. -/
namespace Go.Proofs.Ytkamlibfcakblaa
open Go.RowKit

set_option maxRecDepth 100000 in
theorem append_fresh (w : World) (B : Nat) (hv : OwnInts w B (.slice (some ⟨B, 0, none⟩) 0 0) []) (D : Nat) (A : Option Addr) (c : Nat) (ys : List Int) (hy : Ints w D (.slice A ys.length c) ys) (ty : TypeId)
    (hl : ys.length ≤ 4194304) (hB : B ≤ w.heap.size) :
    ∃ v' w', (Builtin.append_ #[39, 39] ty #[.slice (some ⟨B, 0, none⟩) 0 0, .slice A ys.length c]).run Try.prog w = .ok v' w' ∧ OwnInts w' B v' ys ∧ Below w.heap.size w w' := by
  obtain ⟨i, hi, hz, hs, hb⟩ := info_parts infoInt
  rcases Nat.eq_zero_or_pos ys.length with h0 | hp
  · have hn : ys = [] := List.length_eq_zero_iff.1 h0
    subst hn
    refine ⟨_, w, ?_, hv, Below.refl _ _⟩
    cases A with
    | none => simp [Builtin.append_, run_underlying Try.underlying39, sizeOf, typeInfo, hi, Builtin.lenOf, Builtin.firstCells, storeCells]
    | some ad => simp [Builtin.append_, run_underlying Try.underlying39, sizeOf, typeInfo, hi, Builtin.lenOf, Builtin.firstCells, storeCells, loadCells, loadCellsFrom]
  · obtain ⟨v', w', hr, hown, hg⟩ := append_ints w B _ [] hv D A c ys hy ty (by simpa using hl) hB
    refine ⟨v', w', hr, by simpa using hown, ?_⟩
    obtain ⟨A', c', e, hc1, hc2, hrow⟩ := hy
    injection e with eA _ ec
    subst eA ec
    obtain ⟨b, off, rfl, _, hc⟩ := hrow hp
    have hgr := run_append_grow (P := Try.prog) w 39 ty 3 i (.int .i64 0) Try.underlying39 hi hz ⟨B, 0, none⟩ 0 0 [] (by simp) (fun j v h => by simp at h) ⟨b, off, none⟩ ys.length c (ys.map (Value.int .i64)) (by simp [hs])
      (fun j u hu => by
        have hj : j < ys.length := by
          have := (List.getElem?_eq_some_iff.1 hu).1
          simpa using this
        rw [nth_map hj] at hu
        rw [← hu, ← hc j hj]
        congr 1
        unfold Addr.add
        by_cases h : j = 0 <;> simp [h]) (by omega) (by omega) (by rw [hb]; exact growslice_fits (by omega) (by omega))
    rw [hgr] at hr
    injection hr with _ hw
    rw [← hw]
    exact (Below.refl w.heap.size w).drew.alloc (Nat.le_refl _) _

theorem step_append_fresh {w : World} {ops : Array Oper} {o : Oper} {a : Act} {K : Act → World → Prop} {Q : Exit → Act → World → Prop} {E : Prop} (hgd : o.guard = none) (s x : Operand)
    (ho : o.op = .call { callee := .builtin .append, args := #[s, x], argTypes := #[39, 39] }) (B : Nat) (hs : a.eval s = .slice (some ⟨B, 0, none⟩) 0 0) (hv : OwnInts w B (.slice (some ⟨B, 0, none⟩) 0 0) [])
    (D : Nat) (A : Option Addr) (c : Nat) (ys : List Int) (hx : a.eval x = .slice A ys.length c) (hy : Ints w D (.slice A ys.length c) ys) (hl : ys.length ≤ 4194304) (hB : B ≤ w.heap.size)
    (h : ∀ v' w', OwnInts w' B v' ys → Below w.heap.size w w' → K (a.put o.dst v') w') : if Region.wanted o (yielded ops a.tmps) = true then Oper.wp Try.prog o a w K Q else E := by
  have hw : Region.wanted o (yielded ops a.tmps) = true := by simp [Region.wanted, hgd]
  rw [if_pos hw]
  obtain ⟨v', w', hr, h2, h3⟩ := append_fresh w B hv D A c ys hy o.type hl hB
  unfold Oper.wp execOp
  simp only [ho, resolve, invoke, builtin, Sem.run_bind, Sem.run_pure, Result.andThen_ok, List.map_toArray, List.map_cons, List.map_nil, hs, hx, hr]
  exact h v' w' h2 h3

end Go.Proofs.Ytkamlibfcakblaa

/- A drawn name. -/
namespace Go.Proofs.Ytkamlibfcakblaa
open Go.RowKit

/-- The slots of the region. -/
def keyFrame (g : Nat) (n : Int) (U : Nat → Value) : Array Value :=
  #[.pointer (some ⟨g, 0, none⟩), .int .i64 n, undef, undef, .string ⟨#[]⟩, U 16, U 0, U 1, U 2, U 3, U 4, U 5, U 6, U 7, U 8, U 9, U 10, U 11, U 12, U 13, U 14, U 15, undef, undef, undef, undef, undef, undef, undef, undef, undef]

def intIn (lo hi : Int) (u : Value) : Prop := ∃ m : Int, u = .int .i64 m ∧ lo ≤ m ∧ m < hi
def strTo (k : Nat) (u : Value) : Prop := ∃ s : ByteArray, u = .string s ∧ s.size ≤ k
/-- What each operation's slot is good for. -/
def keyGood (g : Nat) (i : Nat) (w : World) (u : Value) : Prop :=
  match i with
  | 0 => ∃ B, u = .slice (some ⟨B, 0, none⟩) 5 5 ∧ B ≠ g ∧ B < w.heap.size ∧ ∀ j, j < 5 → ∃ x, w.cell? ⟨B, j, none⟩ = some x ∧ strTo 1 x
  | 1 => u = .pointer (some ⟨g, 0, none⟩)
  | 2 => intIn 0 5 u
  | 3 => ∃ B j x, u = .pointer (some ⟨B, j, none⟩) ∧ B ≠ g ∧ B < w.heap.size ∧ w.cell? ⟨B, j, none⟩ = some x ∧ strTo 1 x
  | 4 => strTo 1 u
  | 5 => u = .pointer (some ⟨g, 0, none⟩)
  | 6 => intIn 0 30 u
  | 7 => u = .pointer (some ⟨g, 0, none⟩)
  | 8 => intIn 0 30 u
  | 9 => ∃ B, u = .slice (some ⟨B, 0, none⟩) 2 2 ∧ B ≠ g ∧ B < w.heap.size ∧ ∀ j, j < 2 → ∃ x, w.cell? ⟨B, j, none⟩ = some x ∧ intIn 0 30 x
  | 10 => u = .pointer (some ⟨g, 0, none⟩)
  | 11 => intIn 0 2 u
  | 12 => ∃ B j x, u = .pointer (some ⟨B, j, none⟩) ∧ B ≠ g ∧ B < w.heap.size ∧ w.cell? ⟨B, j, none⟩ = some x ∧ intIn 0 30 x
  | 13 => intIn 0 30 u
  | 14 => strTo 1000001 u
  | 15 => strTo 1000002 u
  | _ => strTo 1000002 u

theorem keyGood_stable {g i : Nat} {w w' : World} (h : w.grownBy w' (some g)) (u : Value) (hg : keyGood g i w u) : keyGood g i w' u := by
  have hc : ∀ B j, B ≠ g → B < w.heap.size → w'.cell? ⟨B, j, none⟩ = w.cell? ⟨B, j, none⟩ := fun B j hne hlt => World.cell?_of_block (h.block B hlt (fun e => hne (Option.some.inj e)))
  have hz := h.size
  match i, hg with
  | 0, ⟨B, h1, h2, h3, h4⟩ => exact ⟨B, h1, h2, by omega, fun j hj => by rw [hc B j h2 h3]; exact h4 j hj⟩
  | 1, h => exact h
  | 2, h => exact h
  | 3, ⟨B, j, x, h1, h2, h3, h4, h5⟩ => exact ⟨B, j, x, h1, h2, by omega, by rw [hc B j h2 h3]; exact h4, h5⟩
  | 4, h => exact h
  | 5, h => exact h
  | 6, h => exact h
  | 7, h => exact h
  | 8, h => exact h
  | 9, ⟨B, h1, h2, h3, h4⟩ => exact ⟨B, h1, h2, by omega, fun j hj => by rw [hc B j h2 h3]; exact h4 j hj⟩
  | 10, h => exact h
  | 11, h => exact h
  | 12, ⟨B, j, x, h1, h2, h3, h4, h5⟩ => exact ⟨B, j, x, h1, h2, by omega, by rw [hc B j h2 h3]; exact h4, h5⟩
  | 13, h => exact h
  | 14, h => exact h
  | 15, h => exact h
  | k + 16, h => exact h

/-- How many picks have come up. -/
def keyCnt (L : Nat → Bool) : Int := (if L 2 then 1 else 0) + (if L 6 then 1 else 0) + (if L 8 then 1 else 0) + (if L 11 then 1 else 0)
theorem keyCnt_same {L : Nat → Bool} {i : Nat} (h2 : i ≠ 2) (h6 : i ≠ 6) (h8 : i ≠ 8) (h11 : i ≠ 11) : keyCnt (upd L i true) = keyCnt L := by
  unfold keyCnt
  rw [upd_other _ _ (Ne.symm h2), upd_other _ _ (Ne.symm h6), upd_other _ _ (Ne.symm h8), upd_other _ _ (Ne.symm h11)]
theorem keyCnt_next {L : Nat → Bool} {i : Nat} (h : i = 2 ∨ i = 6 ∨ i = 8 ∨ i = 11) (hL : L i = false) : keyCnt (upd L i true) = keyCnt L + 1 := by
  unfold keyCnt
  rcases h with rfl | rfl | rfl | rfl <;> simp [upd, hL] <;> omega
theorem keyCnt_bound (L : Nat → Bool) : 0 ≤ keyCnt L ∧ keyCnt L ≤ 4 := by
  unfold keyCnt; split <;> split <;> split <;> split <;> omega

theorem lit5 (W : World) : ∀ j, j < 5 → ∃ x, (W.alloc (.cells #[.string ⟨#[115]⟩, .string ⟨#[99]⟩, .string ⟨#[102]⟩, .string ⟨#[117]⟩, .string ⟨#[97]⟩] 9)).cell? ⟨W.heap.size, j, none⟩ = some x ∧ strTo 1 x := by
  intro j hj
  rcases (by omega : j = 0 ∨ j = 1 ∨ j = 2 ∨ j = 3 ∨ j = 4) with rfl | rfl | rfl | rfl | rfl
  · exact ⟨_, by simp, ⟨#[115]⟩, rfl, by decide⟩
  · exact ⟨_, by simp, ⟨#[99]⟩, rfl, by decide⟩
  · exact ⟨_, by simp, ⟨#[102]⟩, rfl, by decide⟩
  · exact ⟨_, by simp, ⟨#[117]⟩, rfl, by decide⟩
  · exact ⟨_, by simp, ⟨#[97]⟩, rfl, by decide⟩
theorem lit6 (W : World) : ∀ j, j < 6 → ∃ x, (W.alloc (.cells #[.string ⟨#[]⟩, .string ⟨#[115]⟩, .string ⟨#[83, 49]⟩, .string ⟨#[115, 49, 50, 51]⟩, .string ⟨#[49, 115]⟩, .string ⟨#[115, 97]⟩] 9)).cell? ⟨W.heap.size, j, none⟩ = some x ∧ strTo 4 x := by
  intro j hj
  rcases (by omega : j = 0 ∨ j = 1 ∨ j = 2 ∨ j = 3 ∨ j = 4 ∨ j = 5) with rfl | rfl | rfl | rfl | rfl | rfl
  · exact ⟨_, by simp, ⟨#[]⟩, rfl, by decide⟩
  · exact ⟨_, by simp, ⟨#[115]⟩, rfl, by decide⟩
  · exact ⟨_, by simp, ⟨#[83, 49]⟩, rfl, by decide⟩
  · exact ⟨_, by simp, ⟨#[115, 49, 50, 51]⟩, rfl, by decide⟩
  · exact ⟨_, by simp, ⟨#[49, 115]⟩, rfl, by decide⟩
  · exact ⟨_, by simp, ⟨#[115, 97]⟩, rfl, by decide⟩

set_option maxRecDepth 100000 in
set_option maxHeartbeats 2000000 in
theorem l20Key_any (w : World) (g : Nat) (P n : Int) (hr : Rds w g P) (hP0 : 0 ≤ P) (hP : P ≤ 900000000) (hn : n ≤ 1000000) :
    Calls Try.prog 116 #[.pointer (some ⟨g, 0, none⟩), .int .i64 n] w fun e w' => ∃ s : ByteArray, e = .returned (.string s) ∧ s.size ≤ 1000002 ∧ Drew g (P + 10) w w' := by
  have HR := Lib.hid hr
  clear hr
  go_enter Try.func116, Try.ntmps116
  go_wp2
  refine wp_region_inv (by kernel_rfl) (RInv (keyFrame g n) (keyGood g) (fun L W => Rds W g (P + keyCnt L) ∧ w.grownBy W (some g))) (fun i o ho e he => (backB_at (by kernel_rfl) i o ho e he).1) (fun i o ho e he => (backB_at (by kernel_rfl) i o ho e he).2) ?h0 ?hstep ?hend
  case h0 =>
    refine ⟨fun _ => undef, rfl, fun j h => absurd h (by simp), And.intro ?_ ⟨rfl, rfl, rfl, Nat.le_refl _, fun _ _ _ => rfl⟩⟩
    exact Rds.more HR.out (by have := keyCnt_bound (fun _ => false); omega)
  case hstep =>
    rintro L a W i o ho hLi hpre ⟨U, rfl, hG, hRd, hGr⟩ K hK
    have hi : i < 17 := (Array.getElem?_eq_some_iff.1 ho).1
    have hcb := keyCnt_bound L
    have HG := Lib.hid hG
    have HRd := Lib.hid hRd
    have HGr := Lib.hid hGr
    have HK := Lib.hid hK
    clear hG hRd hGr hK
    unfold keyFrame at *
    rcases (by omega : i = 0 ∨ i = 1 ∨ i = 2 ∨ i = 3 ∨ i = 4 ∨ i = 5 ∨ i = 6 ∨ i = 7 ∨ i = 8 ∨ i = 9 ∨ i = 10 ∨ i = 11 ∨ i = 12 ∨ i = 13 ∨ i = 14 ∨ i = 15 ∨ i = 16) with rfl | rfl | rfl | rfl | rfl | rfl | rfl | rfl | rfl | rfl | rfl | rfl | rfl | rfl | rfl | rfl | rfl
    all_goals (simp at ho; subst ho; simp at hpre)
    · have hz := HRd.out.lt
      go_simp
      exact HK.out _ _ ⟨upd U 0 (.slice (some ⟨W.heap.size, 0, none⟩) 5 5), by simp [upd], RInv.next HG.out (fun _ u h => keyGood_stable (World.grownBy_alloc _ _ _) u h) (⟨W.heap.size, rfl, by omega, by simp, lit5 W⟩), (Rds.alloc HRd.out _).more (by rw [keyCnt_same (by decide) (by decide) (by decide) (by decide)]; omega), HGr.out.trans (World.grownBy_alloc _ _ _)⟩
    · go_simp
      exact HK.out _ _ ⟨upd U 1 (.pointer (some ⟨g, 0, none⟩)), by simp [upd], RInv.next HG.out (fun _ _ h => h) (rfl), HRd.out.more (by rw [keyCnt_same (by decide) (by decide) (by decide) (by decide)]; omega), HGr.out⟩
    · have e1 : U 1 = .pointer (some ⟨g, 0, none⟩) := HG.out 1 (by simp [hpre])
      have hcn := keyCnt_next (L := L) (i := 2) (by decide) hLi
      have HC := Lib.hid hcn
      clear hcn
      go_simp
      go_wp2_with (go_at_call 59; refine (pick_rds _ g _ _ HRd.out (by omega) (by omega)).mono ?_; rintro e w' ⟨m, rfl, hm0, hm1, hd⟩)
      exact HK.out _ _ ⟨upd U 2 (.int .i64 m), by simp [upd, e1], RInv.next HG.out (fun _ u h => keyGood_stable hd.2 u h) ⟨m, rfl, hm0, by have := hm1 (by omega); omega⟩, hd.1.more (by rw [HC.out]; omega), HGr.out.trans hd.2⟩
    · obtain ⟨B, e0, hB1, hB2, hB3⟩ := HG.out 0 (by simp [hpre])
      obtain ⟨m, e2, hm0, hm1⟩ := HG.out 2 (by simp [hpre])
      obtain ⟨k, rfl⟩ := Int.eq_ofNat_of_zero_le hm0
      have hk : k < 5 := by omega
      obtain ⟨x, hx, hxs⟩ := hB3 k hk
      have HB := Lib.hid hB3
      clear hB3 hm0
      go_simp
      exact HK.out _ _ ⟨upd U 3 (.pointer (some ⟨B, k, none⟩)), by simp [upd, e0, e2], RInv.next HG.out (fun _ _ h => h) (⟨B, k, x, rfl, hB1, hB2, hx, hxs⟩), HRd.out.more (by rw [keyCnt_same (by decide) (by decide) (by decide) (by decide)]; omega), HGr.out⟩
    · obtain ⟨B, j, x, e3, hB1, hB2, hx, s, rfl, hs⟩ := HG.out 3 (by simp [hpre])
      go_simp
      exact HK.out _ _ ⟨upd U 4 (.string s), by simp [upd, e3], RInv.next HG.out (fun _ _ h => h) (⟨s, rfl, hs⟩), HRd.out.more (by rw [keyCnt_same (by decide) (by decide) (by decide) (by decide)]; omega), HGr.out⟩
    · go_simp
      exact HK.out _ _ ⟨upd U 5 (.pointer (some ⟨g, 0, none⟩)), by simp [upd], RInv.next HG.out (fun _ _ h => h) (rfl), HRd.out.more (by rw [keyCnt_same (by decide) (by decide) (by decide) (by decide)]; omega), HGr.out⟩
    · have e1 : U 5 = .pointer (some ⟨g, 0, none⟩) := HG.out 5 (by simp [hpre])
      have hcn := keyCnt_next (L := L) (i := 6) (by decide) hLi
      have HC := Lib.hid hcn
      clear hcn
      go_simp
      go_wp2_with (go_at_call 59; refine (pick_rds _ g _ _ HRd.out (by omega) (by omega)).mono ?_; rintro e w' ⟨m, rfl, hm0, hm1, hd⟩)
      exact HK.out _ _ ⟨upd U 6 (.int .i64 m), by simp [upd, e1], RInv.next HG.out (fun _ u h => keyGood_stable hd.2 u h) ⟨m, rfl, hm0, by have := hm1 (by omega); omega⟩, hd.1.more (by rw [HC.out]; omega), HGr.out.trans hd.2⟩
    · go_simp
      exact HK.out _ _ ⟨upd U 7 (.pointer (some ⟨g, 0, none⟩)), by simp [upd], RInv.next HG.out (fun _ _ h => h) (rfl), HRd.out.more (by rw [keyCnt_same (by decide) (by decide) (by decide) (by decide)]; omega), HGr.out⟩
    · have e1 : U 7 = .pointer (some ⟨g, 0, none⟩) := HG.out 7 (by simp [hpre])
      have hcn := keyCnt_next (L := L) (i := 8) (by decide) hLi
      have HC := Lib.hid hcn
      clear hcn
      go_simp
      go_wp2_with (go_at_call 59; refine (pick_rds _ g _ _ HRd.out (by omega) (by omega)).mono ?_; rintro e w' ⟨m, rfl, hm0, hm1, hd⟩)
      exact HK.out _ _ ⟨upd U 8 (.int .i64 m), by simp [upd, e1], RInv.next HG.out (fun _ u h => keyGood_stable hd.2 u h) ⟨m, rfl, hm0, by have := hm1 (by omega); omega⟩, hd.1.more (by rw [HC.out]; omega), HGr.out.trans hd.2⟩
    · have hz := HRd.out.lt
      obtain ⟨m, e6, hm0, hm1⟩ := HG.out 6 (by simp [hpre])
      obtain ⟨m', e8, hm0', hm1'⟩ := HG.out 8 (by simp [hpre])
      go_simp
      exact HK.out _ _ ⟨upd U 9 (.slice (some ⟨W.heap.size, 0, none⟩) 2 2), by simp [upd, e6, e8], RInv.next HG.out (fun _ u h => keyGood_stable (World.grownBy_alloc _ _ _) u h) (⟨W.heap.size, rfl, by omega, by simp, fun j hj => by rcases (by omega : j = 0 ∨ j = 1) with rfl | rfl; exact ⟨.int .i64 m, by simp, m, rfl, hm0, hm1⟩; exact ⟨.int .i64 m', by simp, m', rfl, hm0', hm1'⟩⟩), (Rds.alloc HRd.out _).more (by rw [keyCnt_same (by decide) (by decide) (by decide) (by decide)]; omega), HGr.out.trans (World.grownBy_alloc _ _ _)⟩
    · go_simp
      exact HK.out _ _ ⟨upd U 10 (.pointer (some ⟨g, 0, none⟩)), by simp [upd], RInv.next HG.out (fun _ _ h => h) (rfl), HRd.out.more (by rw [keyCnt_same (by decide) (by decide) (by decide) (by decide)]; omega), HGr.out⟩
    · have e1 : U 10 = .pointer (some ⟨g, 0, none⟩) := HG.out 10 (by simp [hpre])
      have hcn := keyCnt_next (L := L) (i := 11) (by decide) hLi
      have HC := Lib.hid hcn
      clear hcn
      go_simp
      go_wp2_with (go_at_call 59; refine (pick_rds _ g _ _ HRd.out (by omega) (by omega)).mono ?_; rintro e w' ⟨m, rfl, hm0, hm1, hd⟩)
      exact HK.out _ _ ⟨upd U 11 (.int .i64 m), by simp [upd, e1], RInv.next HG.out (fun _ u h => keyGood_stable hd.2 u h) ⟨m, rfl, hm0, by have := hm1 (by omega); omega⟩, hd.1.more (by rw [HC.out]; omega), HGr.out.trans hd.2⟩
    · obtain ⟨B, e0, hB1, hB2, hB3⟩ := HG.out 9 (by simp [hpre])
      obtain ⟨m, e2, hm0, hm1⟩ := HG.out 11 (by simp [hpre])
      obtain ⟨k, rfl⟩ := Int.eq_ofNat_of_zero_le hm0
      have hk : k < 2 := by omega
      obtain ⟨x, hx, hxs⟩ := hB3 k hk
      have HB := Lib.hid hB3
      clear hB3 hm0
      go_simp
      exact HK.out _ _ ⟨upd U 12 (.pointer (some ⟨B, k, none⟩)), by simp [upd, e0, e2], RInv.next HG.out (fun _ _ h => h) (⟨B, k, x, rfl, hB1, hB2, hx, hxs⟩), HRd.out.more (by rw [keyCnt_same (by decide) (by decide) (by decide) (by decide)]; omega), HGr.out⟩
    · obtain ⟨B, j, x, e3, hB1, hB2, hx, m, rfl, hm0, hm1⟩ := HG.out 12 (by simp [hpre])
      go_simp
      exact HK.out _ _ ⟨upd U 13 (.int .i64 m), by simp [upd, e3], RInv.next HG.out (fun _ _ h => h) (⟨m, rfl, hm0, hm1⟩), HRd.out.more (by rw [keyCnt_same (by decide) (by decide) (by decide) (by decide)]; omega), HGr.out⟩
    · obtain ⟨m, e1, hm0, hm1⟩ := HG.out 13 (by simp [hpre])
      go_simp
      go_wp2_with (go_at_call 136; refine (l3Plain_any _ _ (by omega) (by omega)).mono ?_; rintro e w' ⟨s, rfl, hs, hb⟩)
      have hgb : W.grownBy w' (some g) := ⟨hb.os, hb.tape, hb.output, hb.size, fun i hi _ => hb.block i hi⟩
      exact HK.out _ _ ⟨upd U 14 (.string s), by simp [upd, e1], RInv.next HG.out (fun _ u h => keyGood_stable hgb u h) ⟨s, rfl, hs⟩, (HRd.out.below hb HRd.out.lt).more (by rw [keyCnt_same (by decide) (by decide) (by decide) (by decide)]; omega), HGr.out.trans hgb⟩
    · obtain ⟨s, e1, hs⟩ := HG.out 4 (by simp [hpre])
      obtain ⟨s', e2, hs'⟩ := HG.out 14 (by simp [hpre])
      go_simp
      go_wp2_with fail
      exact HK.out _ _ ⟨upd U 15 (.string (s ++ s')), by simp [upd, e1, e2], RInv.next HG.out (fun _ _ h => h) (⟨_, rfl, by rw [append_size]; omega⟩), HRd.out.more (by rw [keyCnt_same (by decide) (by decide) (by decide) (by decide)]; omega), HGr.out⟩
    · obtain ⟨s, e1, hs⟩ := HG.out 15 (by simp [hpre])
      go_simp
      exact HK.out _ _ ⟨upd U 16 (.string s), by simp [upd, e1], RInv.next HG.out (fun _ _ h => h) (⟨s, rfl, hs⟩), HRd.out.more (by rw [keyCnt_same (by decide) (by decide) (by decide) (by decide)]; omega), HGr.out⟩
  case hend =>
    rintro L a W hL ⟨U, rfl, hG, hRd, hGr⟩
    obtain ⟨s, e16, hs⟩ := hG 16 (hL 16 (by decide))
    have hcb := keyCnt_bound L
    have HD : Hid (Drew g (P + 4) w W) := ⟨hRd.more (by omega), hGr⟩
    clear hG hRd hGr
    unfold keyFrame
    go_wp2_with fail
    refine (odd_any _ g _ _ HD.out.1 (by omega) hn).mono ?_
    rintro e w1 ⟨bb, rfl, hbb, hd1⟩
    have HD1 := Lib.hid (HD.out.trans hd1)
    clear hbb hd1 HD
    cases bb
    · go_wp2
      go_ret
      exact ⟨s, rfl, by omega, HD1.out.1.more (by omega), HD1.out.2⟩
    · have hz1 := HD1.out.1.lt
      have HA := Lib.hid (HD1.out.alloc (.cells #[.string ⟨#[]⟩, .string ⟨#[115]⟩, .string ⟨#[83, 49]⟩, .string ⟨#[115, 49, 50, 51]⟩, .string ⟨#[49, 115]⟩, .string ⟨#[115, 97]⟩] 9))
      have HL := Lib.hid (lit6 w1)
      go_wp2_with fail
      refine (pick_rds _ g _ _ HA.out.1 (by omega) (by omega)).mono ?_
      rintro e w2 ⟨m, rfl, hm0, hm1, hd2⟩
      obtain ⟨k, rfl⟩ := Int.eq_ofNat_of_zero_le hm0
      have hk : k < 6 := by have := hm1 (by omega); omega
      obtain ⟨x, hx, s6, rfl, hs6⟩ := HL.out k hk
      have hx2 := hd2.2.cell hx (fun e => by have := Option.some.inj e; simp at this; omega)
      have HD2 := Lib.hid (HA.out.trans hd2)
      clear hm0 hm1 hd2 hx HA HL HD1
      go_wp2
      go_ret
      exact ⟨s6, rfl, by omega, HD2.out.1.more (by omega), HD2.out.2⟩

end Go.Proofs.Ytkamlibfcakblaa
